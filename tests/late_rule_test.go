package tests

import (
	"math"
	"slices"
	"testing"

	"loop.example/g01103/impl"
)

// checkLateRule compares what the late rule does with the document's definition, and the jobs left with all sets that can be on time.
func checkLateRule(t *testing.T, jobs []impl.Job, onTime []bool) {
	t.Helper()
	left, steps := lateByHand(jobs, len(jobs))
	rule, one := impl.LateRule(jobs)
	got, two := impl.LateSteps(jobs)
	fewest, three := impl.FewestLate(jobs)
	if !one || !two || !three || !slices.Equal(got, steps) || fewest != len(jobs)-len(left) {
		t.Errorf("%v: steps %v, not %v; fewest %d", jobs, got, steps, fewest)
	}
	want := slices.Clone(left)
	for i := range jobs {
		if !slices.Contains(left, i) {
			want = append(want, i)
		}
	}
	if !slices.Equal(rule, want) {
		t.Errorf("LateRule(%v) = %v, not %v", jobs, rule, want)
	}
	for i, end := range endsByHand(jobs, rule) {
		if slices.Contains(left, i) && end > jobs[i].Due {
			t.Errorf("LateRule(%v) = %v, but the job %d is late", jobs, rule, i)
		}
	}
	taken := 0
	checkLeft(t, jobs, 0, taken, onTime)
	for k, step := range steps {
		taken |= 1 << step[0]
		checkLeft(t, jobs, k+1, taken, onTime)
	}
}

// checkLeft compares the jobs that are left of k jobs, whose mask is given, with all sets of them that can be on time.
func checkLeft(t *testing.T, jobs []impl.Job, k int, taken int, onTime []bool) {
	t.Helper()
	left, ok := impl.LeftAfter(jobs, k)
	want, _ := lateByHand(jobs, k)
	slices.Sort(want)
	if !ok || !slices.Equal(left, want) {
		t.Errorf("LeftAfter(%v, %d) = %v, %v, not %v", jobs, k, left, ok, want)
		return
	}
	if mask := maskOf(left); mask&^taken != 0 || !onTime[mask] {
		t.Errorf("LeftAfter(%v, %d) = %v, which are not some of %v on time", jobs, k, left, setOf(taken))
	}
	for mask := range onTime {
		other := setOf(mask)
		if mask&^taken != 0 || !onTime[mask] || len(other) < len(left) {
			continue
		}
		if len(other) > len(left) || timeOf(jobs, other) < timeOf(jobs, left) {
			t.Errorf("LeftAfter(%v, %d) = %v, but there are %v", jobs, k, left, other)
		}
	}
}

// timeOf is the sum of the Times of a set of jobs.
func timeOf(jobs []impl.Job, set []int) int {
	sum := 0
	for _, i := range set {
		sum += jobs[i].Time
	}
	return sum
}

// checkFewest compares the number of jobs that the late rule drops with all orders.
func checkFewest(t *testing.T, jobs []impl.Job, orders [][]int) {
	t.Helper()
	least, _, _ := bestByHand(jobs, orders, impl.ObjLate)
	if got, ok := impl.FewestLate(jobs); !ok || got != least {
		t.Errorf("FewestLate(%v) = %d, %v, not %d", jobs, got, ok, least)
	}
	rule, ok := impl.LateRule(jobs)
	if !ok || len(rule) != len(jobs) || valueByHand(jobs, rule, impl.ObjLate) != least {
		t.Errorf("LateRule(%v) = %v, %v, but %d jobs need be late", jobs, rule, ok, least)
	}
}

// checkOnTime compares OnTime for all sets of jobs with what all orders tell.
func checkOnTime(t *testing.T, jobs []impl.Job, onTime []bool) {
	t.Helper()
	for mask, want := range onTime {
		if got, ok := impl.OnTime(jobs, setOf(mask)); !ok || got != want {
			t.Errorf("OnTime(%v, %v) = %v, %v", jobs, setOf(mask), got, ok)
		}
	}
}

func TestPromise3LateRule(t *testing.T) {
	for _, jobs := range slices.Concat(plainJobs(), longPlainJobs()) {
		orders := allOrders(len(jobs))
		onTime := onTimeByHand(jobs, orders)
		checkLateRule(t, jobs, onTime)
		checkFewest(t, jobs, orders)
		checkOnTime(t, jobs, onTime)
	}
}

func TestPromise3KnownLateRules(t *testing.T) {
	for _, c := range []struct {
		jobs   []impl.Job
		steps  [][2]int
		rule   []int
		fewest int
	}{
		{nil, nil, nil, 0},
		{[]impl.Job{job(5, 0, 0, 5)}, [][2]int{{0, -1}}, []int{0}, 0},
		{[]impl.Job{job(5, 0, 0, 4)}, [][2]int{{0, 0}}, []int{0}, 1},
		{[]impl.Job{job(4, 0, 0, 4), job(2, 0, 0, 5), job(3, 0, 0, 6)}, [][2]int{{0, -1}, {1, 0}, {2, -1}}, []int{1, 2, 0}, 1},
		// of jobs with the same Time, the one that was taken first is dropped
		{repeated(job(2, 0, 0, 3), 2), [][2]int{{0, -1}, {1, 0}}, []int{1, 0}, 1},
		{repeated(job(2, 0, 0, 4), 4), [][2]int{{0, -1}, {1, -1}, {2, 0}, {3, 1}}, []int{2, 3, 0, 1}, 2},
		{[]impl.Job{job(3, 9, 0, 7), job(3, 0, 0, 4), job(1, 0, 0, 3)}, [][2]int{{2, -1}, {1, -1}, {0, -1}}, []int{2, 1, 0}, 0},
		{[]impl.Job{job(3, 9, 0, 6), job(3, 0, 0, 4), job(1, 0, 0, 3)}, [][2]int{{2, -1}, {1, -1}, {0, 1}}, []int{2, 0, 1}, 1},
		// the job that has been taken may be the one that is dropped
		{[]impl.Job{job(1, 0, 0, 1), job(9, 0, 0, 9), job(2, 0, 0, 9)}, [][2]int{{0, -1}, {1, 1}, {2, -1}}, []int{0, 2, 1}, 1},
		{repeated(job(1, 0, 0, 0), 8), [][2]int{{0, 0}, {1, 1}, {2, 2}, {3, 3}, {4, 4}, {5, 5}, {6, 6}, {7, 7}}, upTo(8), 8},
		{longPlainJobs()[2], [][2]int{{4, -1}, {3, -1}, {7, 7}, {2, -1}, {1, -1}, {5, -1}, {6, 5}, {0, -1}}, []int{4, 3, 2, 1, 6, 0, 5, 7}, 2},
	} {
		steps, one := impl.LateSteps(c.jobs)
		rule, two := impl.LateRule(c.jobs)
		fewest, three := impl.FewestLate(c.jobs)
		if !one || !two || !three || !slices.Equal(steps, c.steps) || !slices.Equal(rule, c.rule) || fewest != c.fewest {
			t.Errorf("%v: %v, %v, %d", c.jobs, steps, rule, fewest)
		}
	}
}

func TestPromise3KnownLeftAfter(t *testing.T) {
	long := longPlainJobs()[2]
	for _, c := range []struct {
		jobs []impl.Job
		k    int
		want []int
	}{
		{nil, 0, nil}, {long, 0, nil}, {long, 1, []int{4}}, {long, 2, []int{3, 4}}, {long, 3, []int{3, 4}}, {long, 4, []int{2, 3, 4}},
		{long, 5, []int{1, 2, 3, 4}}, {long, 6, []int{1, 2, 3, 4, 5}}, {long, 7, []int{1, 2, 3, 4, 6}}, {long, 8, []int{0, 1, 2, 3, 4, 6}},
		{repeated(job(2, 0, 0, 4), 4), 3, []int{1, 2}}, {repeated(job(1, 0, 0, 0), 3), 3, nil},
	} {
		if got, ok := impl.LeftAfter(c.jobs, c.k); !ok || !slices.Equal(got, c.want) {
			t.Errorf("LeftAfter(%v, %d) = %v, %v, not %v", c.jobs, c.k, got, ok, c.want)
		}
	}
	for _, jobs := range [][]impl.Job{nil, {job(1, 0, 0, 0)}, repeated(job(2, 0, 0, 4), 4), long} {
		for _, k := range []int{-1, len(jobs) + 1, len(jobs) + 2, math.MinInt, math.MaxInt} {
			if got, ok := impl.LeftAfter(jobs, k); ok || len(got) != 0 {
				t.Errorf("LeftAfter(%v, %d) = %v, %v", jobs, k, got, ok)
			}
		}
	}
}

func TestPromise3KnownSetsOnTime(t *testing.T) {
	three := []impl.Job{job(4, 0, 0, 4), job(2, 0, 0, 5), job(3, 0, 0, 6)}
	for _, c := range []struct {
		jobs []impl.Job
		set  []int
		want bool
	}{
		{nil, nil, true}, {three, nil, true}, {three, []int{}, true}, {three, []int{0}, true}, {three, []int{2}, true},
		{three, []int{0, 1}, false}, {three, []int{0, 2}, false}, {three, []int{1, 2}, true}, {three, []int{0, 1, 2}, false},
		{[]impl.Job{job(1, 0, 0, 0)}, nil, true}, {[]impl.Job{job(1, 0, 0, 0)}, []int{0}, false},
		{[]impl.Job{job(3, 0, 0, 6), job(3, 0, 0, 3)}, []int{0, 1}, true},
		{repeated(job(50, 0, 0, 400), 8), upTo(8), true}, {repeated(job(50, 0, 0, 399), 8), upTo(8), false}, {repeated(job(50, 0, 0, 399), 8), []int{0, 1, 2, 4, 5, 6, 7}, true},
	} {
		if got, ok := impl.OnTime(c.jobs, c.set); !ok || got != c.want {
			t.Errorf("OnTime(%v, %v) = %v, %v", c.jobs, c.set, got, ok)
		}
	}
}

// TestPromise3OnTimeOfAllLists tries all lists of up to three numbers in -1..4.
func TestPromise3OnTimeOfAllLists(t *testing.T) {
	lists := [][]int{{}}
	for from := 0; len(lists[from]) < 3; from++ {
		for i := -1; i <= 4; i++ {
			lists = append(lists, append(slices.Clone(lists[from]), i))
		}
	}
	lists = append(lists, []int{math.MinInt}, []int{math.MaxInt}, []int{0, math.MaxInt}, []int{math.MinInt, 0}, upTo(9), upTo(1000))
	for n := range 4 {
		jobs := repeated(job(1, 0, 0, 8), n)
		for _, list := range lists {
			valid := true
			for place, i := range list {
				valid = valid && i >= 0 && i < n && (place == 0 || i > list[place-1])
			}
			if got, ok := impl.OnTime(jobs, list); ok != valid || got != valid {
				t.Errorf("OnTime of %d jobs, %.200v = %v, %v", n, list, got, ok)
			}
		}
	}
}

func TestPromise3NoLateRulesOfInvalidLists(t *testing.T) {
	for _, jobs := range slices.Concat(noJobs(), notPlainJobs(), [][]impl.Job{repeated(job(1, 1, 0, 1), 9)}) {
		rule, one := impl.LateRule(jobs)
		steps, two := impl.LateSteps(jobs)
		fewest, three := impl.FewestLate(jobs)
		if one || two || three || len(rule) != 0 || len(steps) != 0 || fewest != 0 {
			t.Errorf("%.200v: %v, %v, %d", jobs, rule, steps, fewest)
		}
		for k := range 3 {
			if left, ok := impl.LeftAfter(jobs, k); ok || len(left) != 0 {
				t.Errorf("LeftAfter(%.200v, %d) = %v, %v", jobs, k, left, ok)
			}
		}
		for _, set := range [][]int{nil, {0}} {
			if on, ok := impl.OnTime(jobs, set); ok || on {
				t.Errorf("OnTime(%.200v, %v) = %v, %v", jobs, set, on, ok)
			}
		}
	}
}
