package tests

import (
	"math"
	"slices"
	"testing"

	"loop.example/g01103/impl"
)

// manyCases are jobs for which FindCases looks for many cases: so many for ObjSum or ObjLateness.
var manyCases = []struct {
	jobs      []impl.Job
	objective int
	count     int
}{
	{[]impl.Job{job(12, 0, 17, 34), job(1, 0, 2, 11), job(3, 0, 1, 18), job(3, 0, 1, 59), job(1, 0, 2, 28), job(3, 0, 19, 19), job(1, 0, 28, 55), job(2, 0, 3, 50)}, impl.ObjSum, 800},
	{[]impl.Job{job(12, 0, 18, 21), job(2, 0, 9, 30), job(2, 0, 6, 48), job(3, 0, 6, 35), job(1, 0, 28, 6), job(2, 0, 7, 22), job(1, 0, 21, 17), job(2, 0, 6, 41)}, impl.ObjSum, 801},
	{[]impl.Job{job(1, 0, 1, 42), job(1, 0, 2, 24), job(7, 0, 27, 23), job(2, 0, 10, 26), job(8, 0, 1, 17), job(7, 0, 2, 25), job(1, 0, 28, 20), job(9, 0, 3, 18)}, impl.ObjLateness, 800},
	{[]impl.Job{job(2, 0, 17, 1), job(2, 0, 5, 22), job(4, 0, 4, 35), job(1, 0, 9, 39), job(8, 0, 24, 25), job(1, 0, 10, 9), job(12, 0, 26, 21), job(12, 0, 17, 51)}, impl.ObjLateness, 801},
}

// checkBounds compares the bound of each prefix with the document's definition and with the values of all orders.
func checkBounds(t *testing.T, jobs []impl.Job, objective int) {
	t.Helper()
	for _, order := range allOrders(len(jobs)) {
		value := valueByHand(jobs, order, objective)
		last := math.MinInt
		for size := range len(order) + 1 {
			prefix := order[:size]
			want := boundByHand(jobs, prefix, objective)
			bound, ok := impl.PrefixBound(jobs, prefix, objective)
			if !ok || bound != want || bound > value || bound < last {
				t.Errorf("PrefixBound(%v, %v, %d) = %d, %v, not %d in %d..%d", jobs, prefix, objective, bound, ok, want, last, value)
			}
			last = bound
		}
		if last != value {
			t.Errorf("PrefixBound(%v, %v, %d) = %d, not %d", jobs, order, objective, last, value)
		}
	}
}

func TestPromise5PrefixBounds(t *testing.T) {
	for number, jobs := range releasedJobs() {
		if len(jobs) < 5 || number%4 == 0 {
			checkBounds(t, jobs, impl.ObjSum)
			checkBounds(t, jobs, impl.ObjLateness)
		}
	}
}

func TestPromise5PrefixBoundsOfManyJobs(t *testing.T) {
	for number, jobs := range longReleasedJobs() {
		for k := range 20 {
			order := madeOrder(drawer(20*number+k), len(jobs))
			for size := range len(jobs) + 1 {
				for _, objective := range splitObjectives {
					want := boundByHand(jobs, order[:size], objective)
					bound, ok := impl.PrefixBound(jobs, order[:size], objective)
					if !ok || bound != want || bound > valueByHand(jobs, order, objective) {
						t.Errorf("PrefixBound(%v, %v, %d) = %d, %v, not %d", jobs, order[:size], objective, bound, ok, want)
					}
				}
			}
		}
	}
}

func TestPromise5KnownPrefixBounds(t *testing.T) {
	two := []impl.Job{job(3, 0, 0, 9), job(1, 0, 1, 3)}
	late := repeated(job(50, 0, 500, 0), 8)
	for _, c := range []struct {
		jobs      []impl.Job
		prefix    []int
		objective int
		want      int
	}{
		{nil, nil, impl.ObjSum, 0},
		{nil, nil, impl.ObjLateness, 0},
		{[]impl.Job{job(1, 0, 0, 500)}, nil, impl.ObjLateness, -499},
		{[]impl.Job{job(1, 0, 0, 500)}, []int{0}, impl.ObjLateness, -499},
		{[]impl.Job{job(2, 0, 7, 0)}, []int{}, impl.ObjSum, 9},
		{two, nil, impl.ObjSum, 6},
		{two, []int{0}, impl.ObjSum, 7},
		{two, []int{1}, impl.ObjSum, 7},
		{two, []int{0}, impl.ObjLateness, 1},
		{two, []int{1}, impl.ObjLateness, -1},
		{two, []int{1, 0}, impl.ObjLateness, -1},
		// ends far beyond MaxDate
		{late, []int{7, 6, 5, 4, 3, 2, 1}, impl.ObjLateness, 900},
		{late, []int{7}, impl.ObjSum, 550 + 600 + 650 + 700 + 750 + 800 + 850 + 900},
	} {
		if got, ok := impl.PrefixBound(c.jobs, c.prefix, c.objective); !ok || got != c.want {
			t.Errorf("PrefixBound(%v, %v, %d) = %d, %v, not %d", c.jobs, c.prefix, c.objective, got, ok, c.want)
		}
	}
}

// noPrefixes are lists that are no prefixes of n jobs.
func noPrefixes(n int) [][]int {
	lists := [][]int{{-1}, {n}, {64}, {-64}, {math.MinInt}, {math.MaxInt}, append(upTo(n), n), append(upTo(n), -1), make([]int, n+2), make([]int, 1000)}
	for i := range n {
		lists = append(lists, []int{i, i}, []int{i, n}, []int{-1, i}, append(upTo(n), i), append([]int{i}, upTo(n)...))
	}
	return lists
}

func TestPromise5NoPrefixBounds(t *testing.T) {
	reject := func(jobs []impl.Job, prefix []int, objective int) {
		t.Helper()
		if bound, ok := impl.PrefixBound(jobs, prefix, objective); ok || bound != 0 {
			t.Errorf("PrefixBound(%.200v, %.200v, %d) = %d, %v", jobs, prefix, objective, bound, ok)
		}
	}
	for n := range 9 {
		jobs := madeJobs(n+50, n, 9, 9, 9, 9)
		for _, prefix := range noPrefixes(n) {
			reject(jobs, prefix, impl.ObjSum)
			reject(jobs, prefix, impl.ObjLateness)
		}
		for _, objective := range otherObjectives() {
			reject(jobs, nil, objective)
			reject(jobs, upTo(n), objective)
		}
	}
	for _, jobs := range noJobs() {
		for _, prefix := range [][]int{nil, {0}, upTo(len(jobs))} {
			reject(jobs, prefix, impl.ObjSum)
			reject(jobs, prefix, impl.ObjLateness)
		}
	}
}

// checkIsCases compares IsCases with a result.
func checkIsCases(t *testing.T, jobs []impl.Job, objective, value int, cases [][]int, want bool) {
	t.Helper()
	if is, ok := impl.IsCases(jobs, objective, value, cases); !ok || is != want {
		t.Errorf("IsCases(%v, %d, %d, %.300v) = %v, %v, not %v", jobs, objective, value, cases, is, ok, want)
	}
}

func TestPromise5EachListOfPrefixesOfFewJobs(t *testing.T) {
	for n := range 4 {
		jobs, orders, prefixes := madeJobs(n+60, n, 4, 0, 5, 9), allOrders(n), allPrefixes(n)
		if count := []int{1, 2, 5, 16}[n]; len(prefixes) != count {
			t.Fatal("the test has", len(prefixes), "prefixes")
		}
		found := 0
		for mask := range 1 << len(prefixes) {
			cases := [][]int{}
			for _, k := range setOf(mask) {
				cases = append(cases, prefixes[k])
			}
			want := isCasesByHand(jobs, orders, impl.ObjSum, math.MinInt, cases)
			checkIsCases(t, jobs, impl.ObjSum, math.MinInt, cases, want)
			checkIsCases(t, jobs, impl.ObjLateness, -1000, cases, want)
			if want {
				found++
			}
		}
		if count := []int{1, 2, 5, 126}[n]; found != count {
			t.Errorf("%d jobs have %d cases, not %d", n, found, count)
		}
	}
}

func TestPromise5BoundsOfCases(t *testing.T) {
	for number := range 40 {
		n := 1 + number%3
		jobs, orders := madeJobs(number+70, n, 4, 0, 5, 9), allOrders(n)
		for most := 1; most <= len(orders); most++ {
			cases := madeCases(n, most)
			for _, objective := range splitObjectives {
				least := math.MaxInt
				for _, c := range cases {
					least = min(least, boundByHand(jobs, c, objective))
				}
				for value := least - 2; value <= least+2; value++ {
					want := isCasesByHand(jobs, orders, objective, value, cases)
					if want != (value <= least) {
						t.Fatal("the test is wrong about", jobs, cases)
					}
					checkIsCases(t, jobs, objective, value, cases, want)
				}
				checkIsCases(t, jobs, objective, math.MinInt, cases, true)
				checkIsCases(t, jobs, objective, math.MaxInt, cases, false)
			}
		}
	}
}

// checkChangedCases compares IsCases with the document's definition for lists that differ little from cases.
func checkChangedCases(t *testing.T, jobs []impl.Job, orders [][]int, objective, value int, cases [][]int) {
	t.Helper()
	n := len(jobs)
	check := func(changed [][]int) {
		t.Helper()
		checkIsCases(t, jobs, objective, value, changed, isCasesByHand(jobs, orders, objective, value, changed))
	}
	check(append(slices.Clone(cases), []int{}))
	check(append(slices.Clone(cases), upTo(n)))
	check(append(slices.Clone(cases), []int{n - 1, n}))
	for k, c := range cases {
		check(slices.Delete(slices.Clone(cases), k, k+1))
		check(slices.Insert(slices.Clone(cases), k, c))
		check(expanded(n, cases, k))
		check(slices.Insert(slices.Clone(cases), k, c[:len(c)/2]))
		if k > 0 {
			exchanged := slices.Clone(cases)
			exchanged[k-1], exchanged[k] = c, cases[k-1]
			check(exchanged)
		}
		for place := range c {
			for _, wrong := range []int{-1, n, c[0], (c[place] + 1) % n} {
				changed := slices.Clone(cases)
				changed[k] = slices.Clone(c)
				changed[k][place] = wrong
				check(changed)
			}
		}
	}
}

// checkFound compares FindCases with the document's definition, and IsCases of them for values about that of best orders.
func checkFound(t *testing.T, jobs []impl.Job, orders [][]int, objective int) [][]int {
	t.Helper()
	best, _, _ := bestByHand(jobs, orders, objective)
	want := casesByHand(jobs, nil, objective, best)
	if len(want) > 800 {
		want = nil
	}
	cases, ok := impl.FindCases(jobs, objective)
	if ok != (want != nil) || !slices.EqualFunc(cases, want, slices.Equal[[]int]) {
		t.Errorf("FindCases(%v, %d) = %.300v, %v, not %.300v", jobs, objective, cases, ok, want)
	}
	if want == nil {
		return nil
	}
	checkIsCases(t, jobs, objective, best-1, cases, true)
	checkIsCases(t, jobs, objective, best, cases, true)
	checkIsCases(t, jobs, objective, best+1, cases, false)
	return cases
}

func TestPromise5FoundCases(t *testing.T) {
	many := 0
	for number, jobs := range releasedJobs() {
		orders := allOrders(len(jobs))
		for _, objective := range splitObjectives {
			cases := checkFound(t, jobs, orders, objective)
			if len(cases) > 1 {
				many++
			}
			if len(jobs) < 5 || number%5 == 0 {
				best, _, _ := bestByHand(jobs, orders, objective)
				checkChangedCases(t, jobs, orders, objective, best, cases)
			}
		}
	}
	if many < 50 {
		t.Error("only", many, "lists of several cases")
	}
}

func TestPromise5NoCasesForGreaterValues(t *testing.T) {
	for number := range 30 {
		n := 1 + number%3
		jobs, orders, prefixes := madeJobs(number+90, n, 5, 0, 6, 9), allOrders(n), allPrefixes(n)
		for _, objective := range splitObjectives {
			best, _, _ := bestByHand(jobs, orders, objective)
			for most := 1; most <= len(orders); most++ {
				checkIsCases(t, jobs, objective, best+1, madeCases(n, most), false)
			}
			checkIsCases(t, jobs, objective, best, orders, true)
			checkIsCases(t, jobs, objective, best+1, orders, false)
			checkIsCases(t, jobs, objective, best, prefixes, false)
		}
	}
}

func TestPromise5FoundCasesOfManyJobs(t *testing.T) {
	seven, eight := allOrders(7), allOrders(8)
	for _, jobs := range longReleasedJobs() {
		for _, objective := range splitObjectives {
			if len(jobs) == 7 {
				checkFound(t, jobs, seven, objective)
			} else {
				checkFound(t, jobs, eight, objective)
			}
		}
	}
	for _, c := range manyCases {
		best, _, _ := bestByHand(c.jobs, eight, c.objective)
		if count := len(casesByHand(c.jobs, nil, c.objective, best)); count != c.count {
			t.Errorf("the test has %d cases for %v, not %d", count, c.jobs, c.count)
		}
		if cases := checkFound(t, c.jobs, eight, c.objective); (len(cases) == c.count) != (c.count <= 800) {
			t.Errorf("FindCases(%v, %d) has %d cases", c.jobs, c.objective, len(cases))
		}
	}
}

func TestPromise5MaxCases(t *testing.T) {
	for _, jobs := range [][]impl.Job{manyCases[0].jobs, manyCases[2].jobs, repeated(job(50, 50, 500, 0), 8)} {
		for _, objective := range splitObjectives {
			for _, count := range []int{1, 8, 336, 799, 800, 801, 1000, 1680} {
				cases := madeCases(8, count)
				if len(cases) != count {
					t.Fatal("the test has", len(cases), "cases, not", count)
				}
				checkIsCases(t, jobs, objective, -500, cases, count <= 800)
			}
			checkIsCases(t, jobs, objective, -500, allOrders(8), false)
			checkIsCases(t, jobs, objective, -500, make([][]int, 100000), false)
		}
	}
}

func TestPromise5KnownCases(t *testing.T) {
	two := []impl.Job{job(3, 0, 0, 9), job(1, 0, 1, 3)}
	for _, c := range []struct {
		jobs      []impl.Job
		objective int
		want      [][]int
	}{
		{nil, impl.ObjSum, [][]int{{}}},
		{nil, impl.ObjLateness, [][]int{{}}},
		{[]impl.Job{job(1, 0, 9, 0)}, impl.ObjSum, [][]int{{}}},
		{two, impl.ObjSum, [][]int{{0}, {1}}},
		{two, impl.ObjLateness, [][]int{{}}},
		{repeated(job(9, 0, 4, 7), 8), impl.ObjSum, [][]int{{}}},
		{[]impl.Job{job(9, 0, 0, 9), job(3, 0, 2, 5), job(1, 0, 40, 41)}, impl.ObjLateness, [][]int{{0}, {1}, {2}}},
	} {
		got, ok := impl.FindCases(c.jobs, c.objective)
		if !ok || !slices.EqualFunc(got, c.want, slices.Equal[[]int]) {
			t.Errorf("FindCases(%v, %d) = %v, %v, not %v", c.jobs, c.objective, got, ok, c.want)
		}
	}
	checkIsCases(t, nil, impl.ObjSum, 0, [][]int{{}}, true)
	checkIsCases(t, nil, impl.ObjSum, 0, [][]int{nil}, true)
	checkIsCases(t, nil, impl.ObjSum, 1, [][]int{{}}, false)
	checkIsCases(t, nil, impl.ObjLateness, -1, [][]int{{}}, true)
	checkIsCases(t, nil, impl.ObjSum, -1, nil, false)
	checkIsCases(t, nil, impl.ObjSum, -1, [][]int{{}, {}}, false)
	checkIsCases(t, nil, impl.ObjSum, -1, [][]int{{0}}, false)
	// the last job of an order may be told or not
	checkIsCases(t, two, impl.ObjSum, 7, [][]int{{0, 1}, {1}}, true)
	checkIsCases(t, two, impl.ObjSum, 7, [][]int{{0, 1}, {1, 0}}, true)
	checkIsCases(t, two, impl.ObjSum, 8, [][]int{{0, 1}, {1, 0}}, false)
	checkIsCases(t, two, impl.ObjSum, 6, [][]int{{}}, true)
	checkIsCases(t, two, impl.ObjSum, 7, [][]int{{}}, false)
	checkIsCases(t, two, impl.ObjSum, 6, [][]int{{}, {0}}, false)
	checkIsCases(t, two, impl.ObjSum, 6, [][]int{{}, {}}, false)
	checkIsCases(t, two, impl.ObjSum, 6, [][]int{{0}, {0}, {1}}, false)
	checkIsCases(t, two, impl.ObjSum, 6, [][]int{{0}, {0, 0}, {1}}, false)
	checkIsCases(t, two, impl.ObjSum, 6, [][]int{{0}, {1, 0, 1}}, false)
	checkIsCases(t, two, impl.ObjSum, 6, [][]int{{0}, {2}}, false)
	checkIsCases(t, two, impl.ObjSum, 6, [][]int{{-1}, {0}, {1}}, false)
}

func TestPromise5NoCases(t *testing.T) {
	reject := func(jobs []impl.Job, objective int, cases [][]int) {
		t.Helper()
		for _, value := range []int{math.MinInt, 0} {
			if is, ok := impl.IsCases(jobs, objective, value, cases); ok || is {
				t.Errorf("IsCases(%.200v, %d, %d, %.200v) = %v, %v", jobs, objective, value, cases, is, ok)
			}
		}
		if found, ok := impl.FindCases(jobs, objective); ok || len(found) != 0 {
			t.Errorf("FindCases(%.200v, %d) = %v, %v", jobs, objective, found, ok)
		}
	}
	for _, jobs := range noJobs() {
		for _, cases := range [][][]int{nil, {{}}, {upTo(len(jobs))}, make([][]int, 801)} {
			reject(jobs, impl.ObjSum, cases)
			reject(jobs, impl.ObjLateness, cases)
		}
	}
	for _, jobs := range [][]impl.Job{nil, {job(1, 0, 0, 0)}, madeJobs(99, 3, 9, 9, 9, 9)} {
		for _, objective := range otherObjectives() {
			reject(jobs, objective, [][]int{{}})
			reject(jobs, objective, allOrders(len(jobs)))
			reject(jobs, objective, make([][]int, 801))
		}
	}
}
