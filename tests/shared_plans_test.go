package tests

import (
	"math"
	"slices"
	"testing"

	"loop.example/g01103/impl"
)

// checkShared compares whether lists of Spans are a shared plan with the document, and returns it.
func checkShared(t *testing.T, jobs []impl.Job, m int, spans [][]impl.Span) bool {
	t.Helper()
	want := isSharedByHand(jobs, m, spans)
	if is, ok := impl.IsShared(jobs, m, spans); !ok || is != want {
		t.Errorf("IsShared(%v, %d, %.300v) = %v, %v", jobs, m, spans, is, ok)
	}
	return want
}

// sharedLength is the greatest To of lists of Spans.
func sharedLength(spans [][]impl.Span) int {
	length := 0
	for _, s := range slices.Concat(spans...) {
		length = max(length, s.To)
	}
	return length
}

// everySlots calls a check with the Spans for each way in which m machines may do n jobs or wait at the times from 0 on, up to a given one.
func everySlots(n, m, until int, check func(spans [][]impl.Span)) {
	slots := make([]int, 0, m*until)
	var extend func()
	extend = func() {
		if len(slots) < m*until {
			for i := -1; i < n; i++ {
				slots = append(slots, i)
				extend()
				slots = slots[:len(slots)-1]
			}
			return
		}
		spans := [][]impl.Span{}
		for machine := range m {
			spans = append(spans, spansOfSlots(slots[machine*until:(machine+1)*until]))
		}
		check(spans)
	}
	extend()
}

// TestPromise7EachSharedPlanOfFewJobs also checks that the bound is the least length.
func TestPromise7EachSharedPlanOfFewJobs(t *testing.T) {
	for _, c := range []struct {
		jobs     []impl.Job
		m, until int
	}{
		{nil, 1, 2}, {nil, 3, 0}, {timed(2), 1, 4}, {timed(2), 3, 3}, {timed(1, 2), 1, 5}, {timed(2, 2), 2, 4},
		{timed(2, 2, 2), 2, 3}, {timed(1, 1, 2), 2, 3}, {timed(1, 3, 1), 2, 4}, {timed(2, 1, 2), 3, 2}, {timed(1, 2, 2, 1), 2, 4}, {timed(1, 1, 1), 4, 2},
	} {
		plans, least := 0, math.MaxInt
		everySlots(len(c.jobs), c.m, c.until, func(spans [][]impl.Span) {
			if checkShared(t, c.jobs, c.m, spans) {
				plans++
				least = min(least, sharedLength(spans))
			}
		})
		bound, ok := impl.LengthBound(c.jobs, c.m, nil)
		if plans == 0 || !ok || bound != least {
			t.Errorf("LengthBound(%v, %d) = %d, %v, but the shortest of %d shared plans has %d", c.jobs, c.m, bound, ok, plans, least)
		}
	}
}

func TestPromise7KnownSharedPlans(t *testing.T) {
	two, three := timed(3, 2), timed(3, 3, 2)
	for _, c := range []struct {
		jobs  []impl.Job
		m     int
		spans [][]impl.Span
		want  bool
	}{
		{nil, 1, [][]impl.Span{nil}, true},
		{nil, 2, [][]impl.Span{nil, {}}, true},
		{nil, 4, make([][]impl.Span, 4), true},
		// other numbers of lists
		{nil, 1, nil, false},
		{nil, 4, make([][]impl.Span, 3), false},
		{nil, 4, make([][]impl.Span, 5), false},
		{nil, 1, make([][]impl.Span, 2), false},
		{two, 1, [][]impl.Span{{span(0, 0, 3)}, {span(1, 0, 2)}}, false},
		{two, 3, [][]impl.Span{{span(0, 0, 3)}, {span(1, 0, 2)}}, false},
		{two, 2, [][]impl.Span{{span(0, 0, 3)}, {span(1, 0, 2)}, nil}, false},
		{nil, 1, [][]impl.Span{{span(0, 0, 1)}}, false},
		// one machine without jobs, and more machines than jobs
		{two, 2, [][]impl.Span{{span(0, 0, 3), span(1, 3, 5)}, nil}, true},
		{two, 2, [][]impl.Span{nil, {span(1, 0, 2), span(0, 2, 5)}}, true},
		{two, 4, [][]impl.Span{nil, {span(1, 0, 2)}, nil, {span(0, 7, 10)}}, true},
		// Spans that touch, also of the same job, on one machine and on two
		{two, 1, [][]impl.Span{{span(0, 0, 1), span(0, 1, 3), span(1, 3, 4), span(1, 4, 5)}}, true},
		{two, 2, [][]impl.Span{{span(0, 0, 1), span(1, 1, 3)}, {span(0, 1, 3)}}, true},
		{two, 2, [][]impl.Span{{span(0, 0, 2), span(1, 2, 4)}, {span(0, 2, 3)}}, true},
		// the same job on two machines for a while: at its beginning, at its end and in between
		{two, 2, [][]impl.Span{{span(0, 0, 2), span(1, 2, 4)}, {span(0, 1, 2)}}, false},
		{two, 2, [][]impl.Span{{span(0, 1, 3), span(1, 3, 5)}, {span(0, 0, 1)}}, true},
		{two, 2, [][]impl.Span{{span(0, 1, 3), span(1, 3, 5)}, {span(0, 1, 2)}}, false},
		{timed(6, 2), 2, [][]impl.Span{{span(0, 0, 5), span(1, 5, 7)}, {span(0, 2, 3)}}, false},
		{timed(6, 2), 2, [][]impl.Span{{span(0, 2, 3), span(1, 5, 7)}, {span(0, 0, 5)}}, false},
		{timed(6, 2), 2, [][]impl.Span{{span(0, 0, 3)}, {span(1, 0, 2), span(0, 0, 3)}}, false},
		{three, 2, [][]impl.Span{{span(0, 0, 3), span(1, 3, 5)}, {span(2, 0, 2), span(1, 4, 5)}}, false},
		{three, 2, [][]impl.Span{{span(0, 0, 3), span(1, 3, 5)}, {span(2, 0, 2), span(1, 2, 3)}}, true},
		{three, 3, [][]impl.Span{{span(0, 0, 2), span(1, 2, 4)}, {span(2, 0, 2), span(0, 2, 3)}, {span(1, 4, 5)}}, true},
		{three, 3, [][]impl.Span{{span(0, 0, 2), span(1, 2, 4)}, {span(2, 0, 2), span(0, 2, 3)}, {span(1, 3, 4)}}, false},
		// two jobs on one machine at the same time, and Spans in another order
		{two, 1, [][]impl.Span{{span(0, 0, 3), span(1, 2, 4)}}, false},
		{two, 1, [][]impl.Span{{span(1, 3, 5), span(0, 0, 3)}}, false},
		// sums that are less or greater than a Time, and jobs that are not there
		{two, 1, [][]impl.Span{{span(0, 0, 3)}}, false},
		{two, 1, [][]impl.Span{{span(0, 0, 3), span(1, 3, 4)}}, false},
		{two, 1, [][]impl.Span{{span(0, 0, 3), span(1, 3, 6)}}, false},
		{two, 1, [][]impl.Span{{span(0, 0, 2), span(1, 3, 6)}}, false},
		{two, 1, [][]impl.Span{{span(0, 0, 3), span(2, 3, 5)}}, false},
		{two, 1, [][]impl.Span{{span(0, 0, 3), span(-1, 3, 5)}}, false},
		{two, 1, [][]impl.Span{{span(0, 0, 3), span(1, 3, 5), span(2, 5, 6)}}, false},
		{two, 1, [][]impl.Span{{span(0, 0, 3), span(1, 3, 5), span(1, 5, 5)}}, false},
		{two, 1, [][]impl.Span{{span(0, 0, 3), span(1, 3, 5), span(1, 7, 6), span(1, 8, 9)}}, false},
		// 0 and MaxEnd
		{two, 1, [][]impl.Span{{span(0, -1, 2), span(1, 3, 5)}}, false},
		{two, 1, [][]impl.Span{{span(0, 0, 3), span(1, 998, 1000)}}, true},
		{two, 1, [][]impl.Span{{span(0, 0, 3), span(1, 999, 1001)}}, false},
		{two, 1, [][]impl.Span{{span(0, 0, 3), span(1, math.MaxInt-2, math.MaxInt)}}, false},
		{two, 1, [][]impl.Span{{span(0, math.MinInt, math.MaxInt), span(1, 3, 5)}}, false},
		{two, 1, [][]impl.Span{{span(0, math.MaxInt, math.MinInt), span(1, 3, 5)}}, false},
		{two, 1, [][]impl.Span{{span(math.MaxInt, 0, 3), span(1, 3, 5)}}, false},
		{two, 1, [][]impl.Span{{span(math.MinInt, 0, 3), span(1, 3, 5)}}, false},
		{two, 1, [][]impl.Span{make([]impl.Span, 1000)}, false},
	} {
		if isSharedByHand(c.jobs, c.m, c.spans) != c.want {
			t.Errorf("the test is wrong about %v", c)
		}
		checkShared(t, c.jobs, c.m, c.spans)
	}
}

// checkWrapped compares the shared plan with one made by hand, and its length with the bound.
func checkWrapped(t *testing.T, jobs []impl.Job, m int) [][]impl.Span {
	t.Helper()
	spans, ok := impl.WrapAround(jobs, m)
	bound := lengthBoundByHand(jobs, m, beforeByHand(len(jobs), nil))
	want := wrappedByHand(jobs, m, bound)
	if !ok || !slices.EqualFunc(spans, want, slices.Equal[[]impl.Span]) {
		t.Errorf("WrapAround(%v, %d) = %v, %v, not %v", jobs, m, spans, ok, want)
	}
	if !checkShared(t, jobs, m, spans) {
		t.Errorf("WrapAround(%v, %d) = %v is no shared plan", jobs, m, spans)
	}
	if got, ok := impl.LengthBound(jobs, m, nil); !ok || got != bound || sharedLength(spans) != bound {
		t.Errorf("WrapAround(%v, %d) = %v has not the length %d, %v", jobs, m, spans, got, ok)
	}
	return spans
}

// TestPromise7WrappedPlans also checks Spans that differ from those of a shared plan in one number.
func TestPromise7WrappedPlans(t *testing.T) {
	valid, count := 0, 0
	for _, jobs := range append(machineJobs(), longMachineJobs()...) {
		for _, m := range machineNumbers {
			spans := checkWrapped(t, jobs, m)
			for machine, list := range spans {
				for k := range list {
					for _, change := range []impl.Span{span(1, 0, 0), span(-1, 0, 0), span(0, 1, 0), span(0, -1, 0), span(0, 0, 1), span(0, 0, -1), span(0, 1, 1), span(0, -1, -1), span(0, 400, 400), span(0, 950, 950)} {
						other := slices.Clone(spans)
						other[machine] = slices.Clone(list)
						other[machine][k].Job += change.Job
						other[machine][k].From += change.From
						other[machine][k].To += change.To
						if checkShared(t, jobs, m, other) {
							valid++
						}
						count++
					}
				}
				without := slices.Clone(spans)
				without[machine] = nil
				checkShared(t, jobs, m, without)
				checkShared(t, jobs, m, slices.Concat(without[:machine], without[machine+1:]))
			}
		}
	}
	if valid < 100 || count-valid < 100 {
		t.Error(valid, "shared plans of", count)
	}
}

func TestPromise7KnownWrappedPlans(t *testing.T) {
	for _, c := range []struct {
		jobs []impl.Job
		m    int
		want [][]impl.Span
	}{
		{nil, 1, [][]impl.Span{nil}}, {nil, 4, make([][]impl.Span, 4)},
		{timed(50), 4, [][]impl.Span{{span(0, 0, 50)}, nil, nil, nil}},
		{timed(3, 3, 2), 1, [][]impl.Span{{span(0, 0, 3), span(1, 3, 6), span(2, 6, 8)}}},
		{timed(3, 3, 2), 2, [][]impl.Span{{span(0, 0, 3), span(1, 3, 4)}, {span(1, 0, 2), span(2, 2, 4)}}},
		// jobs that just fit, as long as the bound
		{timed(3, 3, 2), 3, [][]impl.Span{{span(0, 0, 3)}, {span(1, 0, 3)}, {span(2, 0, 2)}}},
		{timed(3, 3, 2), 4, [][]impl.Span{{span(0, 0, 3)}, {span(1, 0, 3)}, {span(2, 0, 2)}, nil}},
		{timed(2, 2, 4), 2, [][]impl.Span{{span(0, 0, 2), span(1, 2, 4)}, {span(2, 0, 4)}}},
		// one that is as long as two others and goes on, and a sum that m does not divide
		{timed(2, 2, 2), 2, [][]impl.Span{{span(0, 0, 2), span(1, 2, 3)}, {span(1, 0, 1), span(2, 1, 3)}}},
		{timed(1, 1, 1, 1, 1), 2, [][]impl.Span{{span(0, 0, 1), span(1, 1, 2), span(2, 2, 3)}, {span(3, 0, 1), span(4, 1, 2)}}},
		{timed(5, 1, 4), 3, [][]impl.Span{{span(0, 0, 5)}, {span(1, 0, 1), span(2, 1, 5)}, nil}},
		{timed(2, 5, 2, 1), 3, [][]impl.Span{{span(0, 0, 2), span(1, 2, 5)}, {span(1, 0, 2), span(2, 2, 4), span(3, 4, 5)}, nil}},
	} {
		if spans := checkWrapped(t, c.jobs, c.m); !slices.EqualFunc(spans, c.want, slices.Equal[[]impl.Span]) {
			t.Errorf("WrapAround(%v, %d) = %v, not %v", c.jobs, c.m, spans, c.want)
		}
	}
}

// TestPromise7LeastLoads compares the least load with all plans, with all machines for all jobs and with the bound.
func TestPromise7LeastLoads(t *testing.T) {
	above := 0
	check := func(jobs []impl.Job, m int) {
		want := leastLoadByHand(jobs, m)
		load, ok := impl.LeastLoad(jobs, m)
		if !ok || load != want {
			t.Errorf("LeastLoad(%v, %d) = %d, %v, not %d", jobs, m, load, ok, want)
		}
		bound, ok := impl.LengthBound(jobs, m, nil)
		if !ok || load < bound {
			t.Errorf("LeastLoad(%v, %d) = %d, but LengthBound is %d, %v", jobs, m, load, bound, ok)
		}
		if load > bound {
			above++
		}
	}
	for _, jobs := range append(machineJobs(), longMachineJobs()...) {
		for _, m := range machineNumbers {
			check(jobs, m)
		}
	}
	for _, jobs := range machineJobs() {
		for _, m := range machineNumbers {
			least, _ := leastByHand(jobs, m, beforeByHand(len(jobs), nil))
			if load, ok := impl.LeastLoad(jobs, m); !ok || load != least {
				t.Errorf("LeastLoad(%v, %d) = %d, %v, but the shortest plan has %d", jobs, m, load, ok, least)
			}
		}
	}
	if above < 20 {
		t.Error("only", above, "loads are greater than the bound")
	}
	for _, c := range []struct {
		jobs []impl.Job
		want [4]int
	}{
		{nil, [4]int{}}, {timed(50), [4]int{50, 50, 50, 50}}, {timed(3, 3, 2), [4]int{8, 5, 3, 3}}, {timed(2, 2, 2), [4]int{6, 4, 2, 2}},
		{timed(5, 5, 4, 4, 3, 3, 3), [4]int{27, 14, 9, 8}}, {repeated(job(50, 50, 0, 0), 8), [4]int{400, 200, 150, 100}},
	} {
		for i, m := range machineNumbers {
			if load, ok := impl.LeastLoad(c.jobs, m); !ok || load != c.want[i] {
				t.Errorf("LeastLoad(%v, %d) = %d, %v, not %d", c.jobs, m, load, ok, c.want[i])
			}
		}
	}
}
