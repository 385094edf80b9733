package tests

import (
	"math"
	"slices"
	"testing"

	"loop.example/g01103/impl"
)

// checkTimelySets compares which sets are timely, and their orders, with all orders of each set.
func checkTimelySets(t *testing.T, jobs []impl.Job, timely []bool) {
	t.Helper()
	want := [][]int{}
	for mask, is := range timely {
		set := setOf(mask)
		if got, ok := impl.IsTimely(jobs, set); !ok || got != is {
			t.Errorf("IsTimely(%v, %v) = %v, %v", jobs, set, got, ok)
		}
		checkTimelyOrder(t, jobs, set, is)
		if is {
			want = append(want, set)
		}
	}
	slices.SortFunc(want, func(a, b []int) int {
		return slices.Compare(append([]int{len(a)}, a...), append([]int{len(b)}, b...))
	})
	sets, ok := impl.TimelySets(jobs)
	if !ok || !slices.EqualFunc(sets, want, slices.Equal[[]int]) {
		t.Errorf("TimelySets(%v) = %v, %v, not %v", jobs, sets, ok, want)
	}
}

// checkTimelyOrder checks the order of a set, which must be one just if the set is timely.
func checkTimelyOrder(t *testing.T, jobs []impl.Job, set []int, timely bool) {
	t.Helper()
	order, ok := impl.TimelyOrder(jobs, set)
	if !timely {
		if ok || len(order) != 0 {
			t.Errorf("TimelyOrder(%v, %v) = %v, %v", jobs, set, order, ok)
		}
		return
	}
	want := append(dueOrderByHand(jobs, set), othersOf(len(jobs), set)...)
	if !ok || !slices.Equal(order, want) {
		t.Errorf("TimelyOrder(%v, %v) = %v, %v, not %v", jobs, set, order, ok, want)
		return
	}
	for i, end := range endsByHand(jobs, order) {
		if slices.Contains(set, i) && end > jobs[i].Due {
			t.Errorf("TimelyOrder(%v, %v) = %v, but the job %d is late", jobs, set, order, i)
		}
	}
}

// checkWeightTable compares the table over times with all timely sets, and returns how often no timely set has a sum.
func checkWeightTable(t *testing.T, jobs []impl.Job, timely []bool) int {
	t.Helper()
	total, ok := impl.TotalTime(jobs)
	if !ok || total != timeOf(jobs, upTo(len(jobs))) {
		t.Errorf("TotalTime(%v) = %d, %v", jobs, total, ok)
	}
	want := slices.Repeat([]int{-1}, total+1)
	for mask, is := range timely {
		if set := setOf(mask); is {
			k := timeOf(jobs, set)
			want[k] = max(want[k], weightOf(jobs, set))
		}
	}
	table, ok := impl.WeightTable(jobs)
	if !ok || !slices.Equal(table, want) {
		t.Errorf("WeightTable(%v) = %v, %v, not %v", jobs, table, ok, want)
	}
	missing := 0
	for _, weight := range want {
		if weight < 0 {
			missing++
		}
	}
	return missing
}

// checkLateWeight compares the least late weight with all orders and with all timely sets.
func checkLateWeight(t *testing.T, jobs []impl.Job, orders [][]int, timely []bool) {
	t.Helper()
	least, _, _ := bestByHand(jobs, orders, impl.ObjLateWeight)
	got, ok := impl.LeastLateWeight(jobs)
	if !ok || got != least {
		t.Errorf("LeastLateWeight(%v) = %d, %v, not %d", jobs, got, ok, least)
	}
	met := false
	for mask, is := range timely {
		if late := weightOf(jobs, othersOf(len(jobs), setOf(mask))); is {
			met = met || late == got
			if late < got {
				t.Errorf("LeastLateWeight(%v) = %d, but without %v the weight is %d", jobs, got, setOf(mask), late)
			}
		}
	}
	if !met {
		t.Errorf("LeastLateWeight(%v) = %d, which no timely set leaves", jobs, got)
	}
}

func TestPromise6TimelySets(t *testing.T) {
	missing := 0
	for _, jobs := range datedJobs() {
		timely := timelyByHand(jobs)
		checkTimelySets(t, jobs, timely)
		missing += checkWeightTable(t, jobs, timely)
		checkLateWeight(t, jobs, allOrders(len(jobs)), timely)
	}
	if missing == 0 {
		t.Error("timely sets had all sums")
	}
}

func TestPromise6TimelySetsOfManyJobs(t *testing.T) {
	seven, eight := allOrders(7), allOrders(8)
	for _, jobs := range longDatedJobs() {
		timely := timelyByHand(jobs)
		checkTimelySets(t, jobs, timely)
		checkWeightTable(t, jobs, timely)
		orders := eight
		if len(jobs) == 7 {
			orders = seven
		}
		checkLateWeight(t, jobs, orders, timely)
	}
}

func TestPromise6DueOrders(t *testing.T) {
	for _, jobs := range slices.Concat(datedJobs(), longDatedJobs()) {
		want := dueOrderByHand(jobs, upTo(len(jobs)))
		if order, ok := impl.DueOrder(jobs); !ok || !slices.Equal(order, want) {
			t.Errorf("DueOrder(%v) = %v, %v, not %v", jobs, order, ok, want)
		}
	}
	for _, c := range []struct {
		jobs []impl.Job
		want []int
	}{
		{nil, nil}, {[]impl.Job{job(1, 0, 0, 0)}, []int{0}},
		{[]impl.Job{job(3, 2, 0, 4), job(2, 1, 0, 3), job(1, 3, 0, 6)}, []int{1, 0, 2}},
		// the same Due date, and the same Time too
		{[]impl.Job{job(3, 2, 0, 4), job(2, 1, 0, 4), job(1, 3, 0, 4), job(2, 0, 0, 4)}, []int{2, 1, 3, 0}},
		{[]impl.Job{job(9, 0, 0, 0), job(9, 5, 0, 1), job(1, 0, 0, 1), job(9, 9, 0, 0)}, []int{0, 3, 2, 1}},
		{repeated(job(50, 50, 0, 500), 8), upTo(8)},
	} {
		if order, ok := impl.DueOrder(c.jobs); !ok || !slices.Equal(order, c.want) {
			t.Errorf("DueOrder(%v) = %v, %v, not %v", c.jobs, order, ok, c.want)
		}
	}
}

func TestPromise6KnownTimelySets(t *testing.T) {
	given := []impl.Job{job(3, 2, 0, 4), job(2, 1, 0, 3), job(1, 3, 0, 6)}
	for _, c := range []struct {
		jobs  []impl.Job
		total int
		sets  [][]int
		table []int
		late  int
	}{
		{nil, 0, [][]int{{}}, []int{0}, 0},
		{[]impl.Job{job(1, 7, 0, 0)}, 1, [][]int{{}}, []int{0, -1}, 7},
		{[]impl.Job{job(1, 7, 0, 1)}, 1, [][]int{{}, {0}}, []int{0, 7}, 0},
		{[]impl.Job{job(2, 0, 0, 2)}, 2, [][]int{{}, {0}}, []int{0, -1, 0}, 0},
		{given, 6, [][]int{{}, {0}, {1}, {2}, {0, 2}, {1, 2}}, []int{0, 3, 1, 4, 5, -1, -1}, 1},
		// the total is the Due date of all, and one greater
		{repeated(job(1, 2, 0, 3), 3), 3, [][]int{{}, {0}, {1}, {2}, {0, 1}, {0, 2}, {1, 2}, {0, 1, 2}}, []int{0, 2, 4, 6}, 0},
		{repeated(job(1, 2, 0, 2), 3), 3, [][]int{{}, {0}, {1}, {2}, {0, 1}, {0, 2}, {1, 2}}, []int{0, 2, 4, -1}, 2},
		// below all Due dates
		{[]impl.Job{job(2, 1, 0, 9), job(3, 4, 0, 6)}, 5, [][]int{{}, {0}, {1}, {0, 1}}, []int{0, -1, 1, 4, -1, 5}, 0},
		// timely with the greater number first only
		{[]impl.Job{job(3, 1, 0, 6), job(3, 1, 0, 3)}, 6, [][]int{{}, {0}, {1}, {0, 1}}, []int{0, -1, -1, 1, -1, -1, 2}, 0},
		// a set with a less Weight has the sum too, and one that is not timely has a greater one
		{[]impl.Job{job(2, 1, 0, 5), job(2, 6, 0, 5), job(2, 9, 0, 1)}, 6, [][]int{{}, {0}, {1}, {0, 1}}, []int{0, -1, 6, -1, 7, -1, -1}, 9},
		{repeated(job(3, 5, 0, 0), 3), 9, [][]int{{}}, []int{0, -1, -1, -1, -1, -1, -1, -1, -1, -1}, 15},
	} {
		total, one := impl.TotalTime(c.jobs)
		sets, two := impl.TimelySets(c.jobs)
		table, three := impl.WeightTable(c.jobs)
		late, four := impl.LeastLateWeight(c.jobs)
		if !one || !two || !three || !four || total != c.total || !slices.EqualFunc(sets, c.sets, slices.Equal[[]int]) || !slices.Equal(table, c.table) || late != c.late {
			t.Errorf("%v: %d, %v, %v, %d", c.jobs, total, sets, table, late)
		}
	}
	long := repeated(job(50, 3, 0, 400), 8)
	total, one := impl.TotalTime(long)
	table, two := impl.WeightTable(long)
	sets, three := impl.TimelySets(long)
	if !one || !two || !three || total != impl.MaxTotal || len(table) != 401 || table[400] != 24 || table[399] != -1 || len(sets) != 256 || !slices.Equal(sets[255], upTo(8)) {
		t.Errorf("the longest jobs have %d, %v, %v", total, table, sets)
	}
}

func TestPromise6KnownTimelyOrders(t *testing.T) {
	four := []impl.Job{job(3, 1, 0, 8), job(2, 1, 0, 3), job(1, 1, 0, 1), job(2, 1, 0, 8)}
	for _, c := range []struct {
		jobs []impl.Job
		set  []int
		want []int
	}{
		{nil, nil, nil}, {four, nil, upTo(4)}, {four, []int{}, upTo(4)}, {four, []int{3}, []int{3, 0, 1, 2}},
		{four, []int{0, 1}, []int{1, 0, 2, 3}}, {four, []int{0, 3}, []int{3, 0, 1, 2}}, {four, upTo(4), []int{2, 1, 3, 0}},
		{repeated(job(2, 0, 0, 4), 4), []int{1, 3}, []int{1, 3, 0, 2}},
	} {
		if order, ok := impl.TimelyOrder(c.jobs, c.set); !ok || !slices.Equal(order, c.want) {
			t.Errorf("TimelyOrder(%v, %v) = %v, %v, not %v", c.jobs, c.set, order, ok, c.want)
		}
	}
}

// TestPromise6SetsOfAllLists tries all lists of up to three numbers in -1..4, for jobs that are all timely and for ones none of which is.
func TestPromise6SetsOfAllLists(t *testing.T) {
	lists := [][]int{{}}
	for from := 0; len(lists[from]) < 3; from++ {
		for i := -1; i <= 4; i++ {
			lists = append(lists, append(slices.Clone(lists[from]), i))
		}
	}
	lists = append(lists, []int{math.MinInt}, []int{math.MaxInt}, []int{0, math.MaxInt}, []int{math.MinInt, 0}, upTo(9), upTo(1000))
	for n := range 4 {
		timely, late := repeated(job(1, 0, 0, 8), n), repeated(job(1, 0, 0, 0), n)
		for _, list := range lists {
			valid := true
			for place, i := range list {
				valid = valid && i >= 0 && i < n && (place == 0 || i > list[place-1])
			}
			if is, ok := impl.IsTimely(timely, list); ok != valid || is != valid {
				t.Errorf("IsTimely of %d jobs, %.200v = %v, %v", n, list, is, ok)
			}
			if is, ok := impl.IsTimely(late, list); ok != valid || is != (len(list) == 0) {
				t.Errorf("IsTimely of %d late jobs, %.200v = %v, %v", n, list, is, ok)
			}
			if order, ok := impl.TimelyOrder(timely, list); ok != valid || !valid && len(order) != 0 {
				t.Errorf("TimelyOrder of %d jobs, %.200v = %v, %v", n, list, order, ok)
			}
			if order, ok := impl.TimelyOrder(late, list); ok != (len(list) == 0) || !ok && len(order) != 0 {
				t.Errorf("TimelyOrder of %d late jobs, %.200v = %v, %v", n, list, order, ok)
			}
		}
	}
}

func TestPromise6NoTimelySetsOfInvalidLists(t *testing.T) {
	for _, jobs := range notPlain() {
		total, one := impl.TotalTime(jobs)
		order, two := impl.DueOrder(jobs)
		sets, three := impl.TimelySets(jobs)
		table, four := impl.WeightTable(jobs)
		late, five := impl.LeastLateWeight(jobs)
		if one || two || three || four || five || total != 0 || len(order) != 0 || len(sets) != 0 || len(table) != 0 || late != 0 {
			t.Errorf("%.200v: %d, %v, %v, %v, %d", jobs, total, order, sets, table, late)
		}
		for _, set := range [][]int{nil, {0}} {
			is, one := impl.IsTimely(jobs, set)
			order, two := impl.TimelyOrder(jobs, set)
			if one || two || is || len(order) != 0 {
				t.Errorf("%.200v, %v: %v, %v", jobs, set, is, order)
			}
		}
	}
}
