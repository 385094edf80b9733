package tests

import (
	"math"
	"slices"
	"testing"

	"loop.example/g01103/impl"
)

// splitBy calls the function that returns the split schedule by the rule of choice for an objective.
func splitBy(jobs []impl.Job, objective int) ([]impl.Span, bool) {
	if objective == impl.ObjSum {
		return impl.ByLeastRest(jobs)
	}
	return impl.ByEarliestDate(jobs)
}

// leastSplit returns the value of the split schedule by the rule of choice, which it compares with that by hand.
func leastSplit(t *testing.T, jobs []impl.Job, objective int) int {
	t.Helper()
	spans, ok := splitBy(jobs, objective)
	want := spansOfSlots(slotsByHand(jobs, nil, objective))
	if !ok || !slices.Equal(spans, want) {
		t.Errorf("by the rule for %d: %v gives %v, %v, not %v", objective, jobs, spans, ok, want)
	}
	if is, ok := impl.IsSplit(jobs, spans); !ok || !is {
		t.Errorf("by the rule for %d: %v gives %v, which is no split schedule", objective, jobs, spans)
	}
	value, ok := impl.SplitValue(jobs, spans, objective)
	if !ok {
		t.Errorf("by the rule for %d: %v gives %v, which has no value", objective, jobs, spans)
	}
	return value
}

// checkOrdersAbove checks that no order has a less value than the split schedule, and compares the gain with the best one.
func checkOrdersAbove(t *testing.T, jobs []impl.Job, orders [][]int, objective int) {
	t.Helper()
	value := leastSplit(t, jobs, objective)
	best, _, _ := bestByHand(jobs, orders, objective)
	if best < value {
		t.Errorf("%v: the best value of %d is %d, less than that of the split schedule, %d", jobs, objective, best, value)
	}
	if gain, ok := impl.SplitGain(jobs, objective); !ok || gain != best-value {
		t.Errorf("SplitGain(%v, %d) = %d, %v, not %d", jobs, objective, gain, ok, best-value)
	}
}

func TestPromise5RulesOfChoice(t *testing.T) {
	for _, jobs := range releasedJobs() {
		for _, objective := range splitObjectives {
			checkOrdersAbove(t, jobs, allOrders(len(jobs)), objective)
		}
	}
}

func TestPromise5RulesOfChoiceForManyJobs(t *testing.T) {
	seven, eight := allOrders(7), allOrders(8)
	for number, jobs := range longReleasedJobs() {
		for _, objective := range splitObjectives {
			orders := eight
			if len(jobs) == 7 {
				orders = seven
			}
			checkOrdersAbove(t, jobs, orders, objective)
			value := leastSplit(t, jobs, objective)
			for k := range 30 {
				checkNotBelow(t, jobs, drawnSlots(drawer(30*number+k), jobs), objective, value)
			}
		}
	}
}

// checkNotBelow checks that a split schedule has at least a value.
func checkNotBelow(t *testing.T, jobs []impl.Job, slots []int, objective, value int) {
	t.Helper()
	spans := spansOfSlots(slots)
	if got, ok := impl.SplitValue(jobs, spans, objective); !ok || got < value {
		t.Errorf("%v, %v: the value of %d is %d, %v, less than %d", jobs, spans, objective, got, ok, value)
	}
}

func TestPromise5NoDrawnSplitIsBelow(t *testing.T) {
	for number, jobs := range releasedJobs() {
		for _, objective := range splitObjectives {
			value := leastSplit(t, jobs, objective)
			for k := range 20 {
				checkNotBelow(t, jobs, drawnSlots(drawer(20*number+k), jobs), objective, value)
			}
		}
	}
}

func TestPromise5NoSplitOfFewJobsIsBelow(t *testing.T) {
	for number := range 60 {
		jobs := madeJobs(number+2000, 1+number%3, 1+number%2, 0, 3, 6)
		if number%10 == 0 {
			jobs = repeated(job(2, 0, number/10%3, 4), 3)
		}
		for _, objective := range splitObjectives {
			value, met := leastSplit(t, jobs, objective), false
			everySplit(jobs, 8, func(slots []int) {
				checkNotBelow(t, jobs, slots, objective, value)
				met = met || valueOfEndsByHand(jobs, endsOfSlots(len(jobs), slots), objective) == value
			})
			if !met {
				t.Errorf("%v: no split schedule has the value %d of %d", jobs, value, objective)
			}
		}
	}
}

func TestPromise5KnownRulesOfChoice(t *testing.T) {
	for _, c := range []struct {
		jobs []impl.Job
		rest []impl.Span
		date []impl.Span
	}{
		{nil, nil, nil},
		{[]impl.Job{job(1, 0, 0, 0)}, []impl.Span{span(0, 0, 1)}, []impl.Span{span(0, 0, 1)}},
		{[]impl.Job{job(50, 0, 500, 0)}, []impl.Span{span(0, 500, 550)}, []impl.Span{span(0, 500, 550)}},
		{
			[]impl.Job{job(3, 0, 0, 9), job(1, 0, 1, 3)},
			[]impl.Span{span(0, 0, 1), span(1, 1, 2), span(0, 2, 4)},
			[]impl.Span{span(0, 0, 1), span(1, 1, 2), span(0, 2, 4)},
		},
		// when the rest of 1 is the Time of 0, and both have the same Due date, the one with the least number goes ahead
		{
			[]impl.Job{job(2, 0, 1, 5), job(3, 0, 0, 5)},
			[]impl.Span{span(1, 0, 1), span(0, 1, 3), span(1, 3, 5)},
			[]impl.Span{span(1, 0, 1), span(0, 1, 3), span(1, 3, 5)},
		},
		{
			[]impl.Job{job(3, 0, 0, 5), job(2, 0, 1, 5)},
			[]impl.Span{span(0, 0, 3), span(1, 3, 5)},
			[]impl.Span{span(0, 0, 3), span(1, 3, 5)},
		},
		// released at the same time; and one Span although others are released meanwhile
		{
			[]impl.Job{job(4, 0, 2, 1), job(2, 0, 2, 9), job(4, 0, 3, 8)},
			[]impl.Span{span(1, 2, 4), span(0, 4, 8), span(2, 8, 12)},
			[]impl.Span{span(0, 2, 6), span(2, 6, 10), span(1, 10, 12)},
		},
		// idle time between jobs, and none where one ends as the next one is released
		{
			[]impl.Job{job(2, 0, 0, 0), job(1, 0, 2, 0), job(1, 0, 9, 0)},
			[]impl.Span{span(0, 0, 2), span(1, 2, 3), span(2, 9, 10)},
			[]impl.Span{span(0, 0, 2), span(1, 2, 3), span(2, 9, 10)},
		},
		// a rest counts, not a Time
		{
			[]impl.Job{job(3, 0, 2, 0), job(4, 0, 0, 9)},
			[]impl.Span{span(1, 0, 4), span(0, 4, 7)},
			[]impl.Span{span(1, 0, 2), span(0, 2, 5), span(1, 5, 7)},
		},
	} {
		if got, ok := impl.ByLeastRest(c.jobs); !ok || !slices.Equal(got, c.rest) {
			t.Errorf("ByLeastRest(%v) = %v, %v, not %v", c.jobs, got, ok, c.rest)
		}
		if got, ok := impl.ByEarliestDate(c.jobs); !ok || !slices.Equal(got, c.date) {
			t.Errorf("ByEarliestDate(%v) = %v, %v, not %v", c.jobs, got, ok, c.date)
		}
	}
}

func TestPromise5KnownGains(t *testing.T) {
	for _, c := range []struct {
		jobs []impl.Job
		want [2]int
	}{
		{nil, [2]int{0, 0}},
		{[]impl.Job{job(7, 0, 3, 1)}, [2]int{0, 0}},
		{[]impl.Job{job(3, 0, 0, 9), job(1, 0, 1, 3)}, [2]int{1, 0}},
		{[]impl.Job{job(50, 0, 0, 500), job(1, 0, 1, 2)}, [2]int{1, 0}},
		{[]impl.Job{job(50, 0, 0, 51), job(1, 0, 1, 2)}, [2]int{1, 1}},
		{[]impl.Job{job(9, 0, 0, 9), job(3, 0, 2, 5)}, [2]int{2, 2}},
		{[]impl.Job{job(2, 0, 0, 9), job(2, 0, 0, 5), job(1, 0, 0, 0)}, [2]int{0, 0}},
	} {
		for i, objective := range splitObjectives {
			if gain, ok := impl.SplitGain(c.jobs, objective); !ok || gain != c.want[i] {
				t.Errorf("SplitGain(%v, %d) = %d, %v, not %d", c.jobs, objective, gain, ok, c.want[i])
			}
		}
	}
}

func TestPromise5NoRulesOfChoice(t *testing.T) {
	for _, jobs := range noJobs() {
		for _, objective := range splitObjectives {
			if spans, ok := splitBy(jobs, objective); ok || len(spans) != 0 {
				t.Errorf("by the rule for %d: %.200v gives %v, %v", objective, jobs, spans, ok)
			}
			if gain, ok := impl.SplitGain(jobs, objective); ok || gain != 0 {
				t.Errorf("SplitGain(%.200v, %d) = %d, %v", jobs, objective, gain, ok)
			}
		}
	}
	for _, jobs := range [][]impl.Job{nil, {job(1, 0, 0, 0)}, {job(50, 9, 0, 51), job(1, 9, 1, 2)}} {
		for _, objective := range otherObjectives() {
			if gain, ok := impl.SplitGain(jobs, objective); ok || gain != 0 {
				t.Errorf("SplitGain(%v, %d) = %d, %v", jobs, objective, gain, ok)
			}
		}
	}
}

// latenessBoundByHand is the LatenessBound of a set, as the document defines it.
func latenessBoundByHand(jobs []impl.Job, set []int) int {
	release, sum, due := math.MaxInt, 0, math.MinInt
	for _, i := range set {
		release = min(release, jobs[i].Release)
		sum += jobs[i].Time
		due = max(due, jobs[i].Due)
	}
	return release + sum - due
}

// checkLatenessBounds compares the bounds of all sets, and the proof, with the document's definitions and with the split schedule.
func checkLatenessBounds(t *testing.T, jobs []impl.Job) {
	t.Helper()
	proof, greatest := []int{}, math.MinInt
	value := leastSplit(t, jobs, impl.ObjLateness)
	for mask := 1; mask < 1<<len(jobs); mask++ {
		set := setOf(mask)
		want := latenessBoundByHand(jobs, set)
		bound, ok := impl.LatenessBound(jobs, set)
		if !ok || bound != want || bound > value {
			t.Errorf("LatenessBound(%v, %v) = %d, %v, not %d, or greater than %d", jobs, set, bound, ok, want, value)
		}
		if want > greatest || want == greatest && slices.Compare(set, proof) < 0 {
			proof, greatest = set, want
		}
	}
	got, ok := impl.LatenessProof(jobs)
	if ok != (len(jobs) > 0) || !slices.Equal(got, proof) {
		t.Errorf("LatenessProof(%v) = %v, %v, not %v", jobs, got, ok, proof)
	}
	if len(jobs) > 0 && greatest != value {
		t.Errorf("LatenessProof(%v) = %v has the bound %d, not %d", jobs, got, greatest, value)
	}
}

func TestPromise5LatenessBoundsAreMet(t *testing.T) {
	for _, jobs := range append(releasedJobs(), longReleasedJobs()...) {
		checkLatenessBounds(t, jobs)
	}
	for number := range 300 {
		checkLatenessBounds(t, madeJobs(number+3000, number%9, 1+number%7, 0, number%19, 1+number%13))
	}
}

func TestPromise5KnownLatenessProofs(t *testing.T) {
	for _, c := range []struct {
		jobs  []impl.Job
		want  []int
		bound int
	}{
		{[]impl.Job{job(1, 0, 0, 0)}, []int{0}, 1},
		{[]impl.Job{job(1, 0, 0, 500)}, []int{0}, -499},
		{[]impl.Job{job(3, 0, 0, 9), job(1, 0, 1, 3)}, []int{1}, -1},
		{repeated(job(1, 0, 0, 0), 8), upTo(8), 8},
		// of 1, of 0 and 1, and of 0, 1 and 2 all bounds are 2: 0 1 is less than 0 1 2 and than 1
		{[]impl.Job{job(2, 0, 0, 4), job(4, 0, 2, 4), job(1, 0, 0, 5)}, []int{0, 1}, 2},
		{[]impl.Job{job(1, 0, 5, 3), job(1, 0, 0, 0), job(3, 0, 0, 0)}, []int{1, 2}, 4},
		{[]impl.Job{job(4, 0, 0, 2), job(4, 0, 9, 11)}, []int{0}, 2},
	} {
		got, ok := impl.LatenessProof(c.jobs)
		if !ok || !slices.Equal(got, c.want) {
			t.Errorf("LatenessProof(%v) = %v, %v, not %v", c.jobs, got, ok, c.want)
		}
		if bound, ok := impl.LatenessBound(c.jobs, c.want); !ok || bound != c.bound {
			t.Errorf("LatenessBound(%v, %v) = %d, %v, not %d", c.jobs, c.want, bound, ok, c.bound)
		}
	}
}

func TestPromise5NoLatenessBoundsOfOtherLists(t *testing.T) {
	for n := range 9 {
		jobs := madeJobs(n+40, n, 9, 9, 9, 9)
		lists := [][]int{nil, {}, {-1}, {n}, {0, 0}, {math.MinInt}, {math.MaxInt}, {64}, {-64}, {0, n}, {-1, 0}, append(upTo(n), n), append(upTo(n), n-1)}
		if n > 1 {
			lists = append(lists, []int{1, 0}, []int{0, 1, 1}, []int{0, 1, 0}, []int{n - 1, 0})
		}
		for _, set := range lists {
			if bound, ok := impl.LatenessBound(jobs, set); ok || bound != 0 {
				t.Errorf("LatenessBound(%v, %v) = %d, %v", jobs, set, bound, ok)
			}
		}
	}
	for _, jobs := range append(noJobs(), nil) {
		for _, set := range [][]int{nil, {0}, {1}, upTo(len(jobs))} {
			if bound, ok := impl.LatenessBound(jobs, set); ok || bound != 0 {
				t.Errorf("LatenessBound(%.200v, %.200v) = %d, %v", jobs, set, bound, ok)
			}
		}
		if proof, ok := impl.LatenessProof(jobs); ok || len(proof) != 0 {
			t.Errorf("LatenessProof(%.200v) = %v, %v", jobs, proof, ok)
		}
	}
}
