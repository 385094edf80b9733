package tests

import (
	"math"
	"slices"
	"testing"

	"loop.example/g01103/impl"
)

// agreeableByHand tells whether no job with a less Time than another one has a greater Due date than this.
func agreeableByHand(jobs []impl.Job) bool {
	byTime := slices.Clone(jobs)
	slices.SortFunc(byTime, func(a, b impl.Job) int { return slices.Compare([]int{a.Time, a.Due}, []int{b.Time, b.Due}) })
	return slices.IsSortedFunc(byTime, func(a, b impl.Job) int { return a.Due - b.Due })
}

// bestTardy are all best orders for ObjTardiness, of all orders.
func bestTardy(jobs []impl.Job, orders [][]int) [][]int {
	least, _, _ := bestByHand(jobs, orders, impl.ObjTardiness)
	return slices.DeleteFunc(slices.Clone(orders), func(order []int) bool {
		return valueByHand(jobs, order, impl.ObjTardiness) != least
	})
}

// checkLeastTardiness compares the least tardiness, its bound and the due order of agreeable jobs with best orders.
func checkLeastTardiness(t *testing.T, jobs []impl.Job, best [][]int) (agreeable bool) {
	t.Helper()
	least := valueByHand(jobs, best[0], impl.ObjTardiness)
	if got, ok := impl.LeastTardiness(jobs); !ok || got != least {
		t.Errorf("LeastTardiness(%v) = %d, %v, not %d", jobs, got, ok, least)
	}
	times, dates := []int{}, []int{}
	for _, j := range jobs {
		times, dates = append(times, j.Time), append(dates, j.Due)
	}
	slices.Sort(times)
	slices.Sort(dates)
	want := 0
	for k := range times {
		sum := 0
		for _, time := range times[:k+1] {
			sum += time
		}
		if sum > dates[k] {
			want += sum - dates[k]
		}
	}
	if got, ok := impl.TardinessBound(jobs); !ok || got != want || got > least {
		t.Errorf("TardinessBound(%v) = %d, %v, not %d; the least tardiness is %d", jobs, got, ok, want, least)
	}
	agreeable = agreeableByHand(jobs)
	if got, ok := impl.AreAgreeable(jobs); !ok || got != agreeable {
		t.Errorf("AreAgreeable(%v) = %v, %v", jobs, got, ok)
	}
	if due := dueOrderByHand(jobs, upTo(len(jobs))); agreeable && valueByHand(jobs, due, impl.ObjTardiness) != least {
		t.Errorf("%v are agreeable, but the due order %v is not best", jobs, due)
	}
	return agreeable
}

// checkComesBefore compares which job comes before another one with best orders, and returns how often a Time that is greater than the Due date decides.
func checkComesBefore(t *testing.T, jobs []impl.Job, best [][]int) int {
	t.Helper()
	decided := 0
	for i, a := range jobs {
		for j, b := range jobs {
			got, ok := impl.ComesBefore(jobs, i, j)
			if i == j {
				if ok || got {
					t.Errorf("ComesBefore(%v, %d, %d) = %v, %v", jobs, i, j, got, ok)
				}
				continue
			}
			want := a.Time <= b.Time && (a.Due <= b.Due || a.Due <= b.Time)
			if !ok || got != want {
				t.Errorf("ComesBefore(%v, %d, %d) = %v, %v", jobs, i, j, got, ok)
			}
			if want && a.Due > b.Due {
				decided++
			}
			if want && !slices.ContainsFunc(best, func(order []int) bool { return slices.Index(order, i) < slices.Index(order, j) }) {
				t.Errorf("ComesBefore(%v, %d, %d), but in no best order it does", jobs, i, j)
			}
		}
	}
	return decided
}

// splitByHand is the longest job of at least one, and how many others come before it in best orders, being first ones in due order.
func splitByHand(jobs []impl.Job, best [][]int) (int, []int) {
	due := dueOrderByHand(jobs, upTo(len(jobs)))
	longest := due[0]
	for _, i := range due {
		if jobs[i].Time >= jobs[longest].Time {
			longest = i
		}
	}
	others := slices.DeleteFunc(due, func(i int) bool { return i == longest })
	places := []int{}
	for k := range jobs {
		if slices.ContainsFunc(best, func(order []int) bool { return order[k] == longest && maskOf(order[:k]) == maskOf(others[:k]) }) {
			places = append(places, k)
		}
	}
	return longest, places
}

// checkSplitPlaces compares the split places with best orders, and returns them.
func checkSplitPlaces(t *testing.T, jobs []impl.Job, best [][]int) []int {
	t.Helper()
	longest, places, ok := impl.SplitPlaces(jobs)
	if len(jobs) == 0 {
		if ok || longest != 0 || len(places) != 0 {
			t.Errorf("of no jobs the split places are %d, %v, %v", longest, places, ok)
		}
		return nil
	}
	job, want := splitByHand(jobs, best)
	if !ok || longest != job || !slices.Equal(places, want) || len(places) == 0 {
		t.Errorf("SplitPlaces(%v) = %d, %v, %v, not %d, %v", jobs, longest, places, ok, job, want)
	}
	return places
}

// checkEarliest compares the greatest lateness in due order with all orders, and the delays after which all are timely.
func checkEarliest(t *testing.T, jobs []impl.Job, orders [][]int) {
	t.Helper()
	least, _, _ := bestByHand(jobs, orders, impl.ObjLateness)
	if got, ok := impl.EarliestLatest(jobs); !ok || got != least {
		t.Errorf("EarliestLatest(%v) = %d, %v, not %d", jobs, got, ok, least)
	}
	for delay := range impl.MaxTotal + 1 {
		if got, ok := impl.TimelyAfter(jobs, delay); !ok || got != (delay >= least) {
			t.Errorf("TimelyAfter(%v, %d) = %v, %v, the greatest lateness being %d", jobs, delay, got, ok, least)
		}
	}
	for _, delay := range []int{0, least - 1, least, least + 1, impl.MaxTotal} {
		if delay < 0 || delay > impl.MaxTotal {
			continue
		}
		later := slices.Clone(jobs)
		for i := range later {
			later[i].Due += delay
		}
		late, _, _ := bestByHand(later, orders, impl.ObjLate)
		if got, ok := impl.TimelyAfter(jobs, delay); !ok || got != (late == 0) {
			t.Errorf("TimelyAfter(%v, %d) = %v, %v, but %d jobs must be late", jobs, delay, got, ok, late)
		}
	}
}

func TestPromise6Tardiness(t *testing.T) {
	agreeable, decided, several, between := 0, 0, 0, 0
	none, all := 0, 0
	lists := datedJobs()
	for number := range 300 {
		n := 1 + number%5
		lists = append(lists, madeJobs(number+5000, n, 1+number%9, 0, 0, 1+number%27))
	}
	for _, jobs := range lists {
		orders := allOrders(len(jobs))
		best := bestTardy(jobs, orders)
		if checkLeastTardiness(t, jobs, best) {
			agreeable++
		}
		decided += checkComesBefore(t, jobs, best)
		places := checkSplitPlaces(t, jobs, best)
		checkEarliest(t, jobs, orders)
		switch {
		case len(places) > 1:
			several++
		case len(places) == 0 || len(jobs) < 3:
		case places[0] == 0:
			none++
		case places[0] == len(jobs)-1:
			all++
		default:
			between++
		}
	}
	if agreeable < 50 || len(lists)-agreeable < 50 || decided < 50 || several < 50 || none < 5 || all < 50 || between < 5 {
		t.Error(agreeable, "agreeable lists of", len(lists), "and", decided, "pairs where a Time decides; split places:", several, none, all, between)
	}
}

func TestPromise6TardinessOfManyJobs(t *testing.T) {
	seven, eight := allOrders(7), allOrders(8)
	for _, jobs := range longDatedJobs() {
		orders := eight
		if len(jobs) == 7 {
			orders = seven
		}
		best := bestTardy(jobs, orders)
		checkLeastTardiness(t, jobs, best)
		checkComesBefore(t, jobs, best)
		checkSplitPlaces(t, jobs, best)
		checkEarliest(t, jobs, orders)
	}
}

func TestPromise6KnownTardiness(t *testing.T) {
	for _, c := range []struct {
		jobs                 []impl.Job
		agreeable            bool
		least, bound, latest int
	}{
		{nil, true, 0, 0, 0},
		{[]impl.Job{job(50, 9, 0, 500)}, true, 0, 0, -450},
		{[]impl.Job{job(50, 9, 0, 50)}, true, 0, 0, 0},
		{[]impl.Job{job(50, 9, 0, 49)}, true, 1, 1, 1},
		{[]impl.Job{job(50, 9, 0, 0)}, true, 50, 50, 50},
		{[]impl.Job{job(3, 2, 0, 4), job(2, 1, 0, 3), job(1, 3, 0, 6)}, false, 1, 0, 1},
		// the same Due date: 0, the total, one less
		{[]impl.Job{job(3, 1, 0, 0), job(1, 1, 0, 0), job(2, 1, 0, 0)}, true, 10, 10, 6},
		{[]impl.Job{job(3, 1, 0, 6), job(1, 1, 0, 6), job(2, 1, 0, 6)}, true, 0, 0, 0},
		{[]impl.Job{job(3, 1, 0, 5), job(1, 1, 0, 5), job(2, 1, 0, 5)}, true, 1, 1, 1},
		// below all Due dates
		{[]impl.Job{job(4, 1, 0, 20), job(2, 2, 0, 11), job(3, 3, 0, 15)}, true, 0, 0, -9},
		{[]impl.Job{job(4, 1, 0, 15), job(2, 2, 0, 11), job(3, 3, 0, 16)}, false, 0, 0, -7},
		// the same Time with other Due dates
		{[]impl.Job{job(3, 1, 0, 9), job(3, 1, 0, 2), job(3, 1, 0, 5)}, true, 2, 2, 1},
		// the bound is not met
		{[]impl.Job{job(9, 1, 0, 2), job(1, 1, 0, 9)}, false, 8, 1, 7},
		{repeated(job(50, 50, 0, 0), 8), true, 1800, 1800, 400},
		{repeated(job(50, 50, 0, 400), 8), true, 0, 0, 0},
		{repeated(job(50, 50, 0, 399), 8), true, 1, 1, 1},
	} {
		agreeable, one := impl.AreAgreeable(c.jobs)
		least, two := impl.LeastTardiness(c.jobs)
		bound, three := impl.TardinessBound(c.jobs)
		latest, four := impl.EarliestLatest(c.jobs)
		if !one || !two || !three || !four || agreeable != c.agreeable || least != c.least || bound != c.bound || latest != c.latest {
			t.Errorf("%v: %v, %d, %d, %d", c.jobs, agreeable, least, bound, latest)
		}
	}
}

func TestPromise6KnownSplitPlaces(t *testing.T) {
	for _, c := range []struct {
		jobs    []impl.Job
		longest int
		places  []int
	}{
		{[]impl.Job{job(1, 0, 0, 0)}, 0, []int{0}},
		{[]impl.Job{job(3, 2, 0, 4), job(2, 1, 0, 3), job(1, 3, 0, 6)}, 0, []int{1}},
		// of several longest jobs the last one in due order: by its Due date, and by its number
		{[]impl.Job{job(4, 1, 0, 9), job(4, 1, 0, 3), job(2, 1, 0, 5)}, 0, []int{2}},
		{[]impl.Job{job(4, 1, 0, 3), job(4, 1, 0, 3), job(2, 1, 0, 3)}, 1, []int{1, 2}},
		{repeated(job(1, 0, 0, 500), 4), 3, []int{0, 1, 2, 3}},
		{repeated(job(1, 0, 0, 0), 4), 3, []int{0, 1, 2, 3}},
		// no other job before the longest one, and all of them
		{[]impl.Job{job(2, 1, 0, 9), job(5, 1, 0, 1), job(1, 1, 0, 9), job(2, 1, 0, 10)}, 1, []int{0}},
		{[]impl.Job{job(2, 1, 0, 4), job(5, 1, 0, 9), job(1, 1, 0, 2), job(2, 1, 0, 7)}, 1, []int{3}},
		// the first one of the others in due order, not in that of their numbers
		{[]impl.Job{job(1, 1, 0, 9), job(5, 1, 0, 6), job(1, 1, 0, 1)}, 1, []int{1}},
	} {
		longest, places, ok := impl.SplitPlaces(c.jobs)
		if !ok || longest != c.longest || !slices.Equal(places, c.places) {
			t.Errorf("SplitPlaces(%v) = %d, %v, %v, not %d, %v", c.jobs, longest, places, ok, c.longest, c.places)
		}
	}
}

func TestPromise6KnownComesBefore(t *testing.T) {
	jobs := []impl.Job{job(3, 1, 0, 4), job(3, 1, 0, 4), job(2, 1, 0, 5), job(6, 1, 0, 5), job(7, 1, 0, 0), job(4, 1, 0, 7)}
	for _, c := range []struct {
		i, j int
		want bool
	}{
		// the same Time and Due date
		{0, 1, true}, {1, 0, true},
		// a less Time and a greater Due date, and the other way round
		{2, 0, false}, {0, 2, false},
		// the same Due date
		{2, 3, true}, {3, 2, false},
		// a Due date that is less than the Time of the other job, the same and one greater
		{3, 4, true}, {5, 4, true}, {5, 3, false}, {4, 5, false},
	} {
		if got, ok := impl.ComesBefore(jobs, c.i, c.j); !ok || got != c.want {
			t.Errorf("ComesBefore(%v, %d, %d) = %v, %v", jobs, c.i, c.j, got, ok)
		}
	}
	for _, jobs := range [][]impl.Job{nil, {job(1, 0, 0, 0)}, jobs, repeated(job(1, 0, 0, 0), 8)} {
		n := len(jobs)
		for _, wrong := range []int{-1, -2, n, n + 1, 64, math.MinInt, math.MaxInt} {
			for _, pair := range [][2]int{{wrong, 0}, {0, wrong}, {n - 1, wrong}, {wrong, n - 1}, {wrong, wrong}} {
				if got, ok := impl.ComesBefore(jobs, pair[0], pair[1]); ok || got {
					t.Errorf("ComesBefore(%v, %v) = %v, %v", jobs, pair, got, ok)
				}
			}
		}
	}
}

func TestPromise6TimelyAfterKnownDelays(t *testing.T) {
	for _, c := range []struct {
		jobs  []impl.Job
		delay int
		want  bool
	}{
		{nil, 0, true}, {nil, 400, true},
		{[]impl.Job{job(50, 0, 0, 0)}, 0, false}, {[]impl.Job{job(50, 0, 0, 0)}, 49, false}, {[]impl.Job{job(50, 0, 0, 0)}, 50, true},
		{[]impl.Job{job(50, 0, 0, 500)}, 0, true}, {[]impl.Job{job(50, 0, 0, 500)}, 400, true},
		{repeated(job(50, 0, 0, 0), 8), 399, false}, {repeated(job(50, 0, 0, 0), 8), 400, true},
		{[]impl.Job{job(3, 1, 0, 6), job(3, 1, 0, 3)}, 0, true}, {[]impl.Job{job(3, 1, 0, 6), job(3, 1, 0, 2)}, 0, false}, {[]impl.Job{job(3, 1, 0, 6), job(3, 1, 0, 2)}, 1, true},
	} {
		if got, ok := impl.TimelyAfter(c.jobs, c.delay); !ok || got != c.want {
			t.Errorf("TimelyAfter(%v, %d) = %v, %v", c.jobs, c.delay, got, ok)
		}
		for _, delay := range []int{-1, -400, 401, 500, math.MinInt, math.MaxInt} {
			if got, ok := impl.TimelyAfter(c.jobs, delay); ok || got {
				t.Errorf("TimelyAfter(%v, %d) = %v, %v", c.jobs, delay, got, ok)
			}
		}
	}
}

func TestPromise6NoTardinessOfInvalidLists(t *testing.T) {
	for _, jobs := range notPlain() {
		agreeable, one := impl.AreAgreeable(jobs)
		before, two := impl.ComesBefore(jobs, 0, 1)
		longest, places, three := impl.SplitPlaces(jobs)
		least, four := impl.LeastTardiness(jobs)
		bound, five := impl.TardinessBound(jobs)
		latest, six := impl.EarliestLatest(jobs)
		after, seven := impl.TimelyAfter(jobs, 400)
		if one || two || three || four || five || six || seven {
			t.Errorf("%.200v: a function did not fail", jobs)
		}
		if agreeable || before || longest != 0 || len(places) != 0 || least != 0 || bound != 0 || latest != 0 || after {
			t.Errorf("%.200v: %v, %v, %d, %v, %d, %d, %d, %v", jobs, agreeable, before, longest, places, least, bound, latest, after)
		}
	}
}
