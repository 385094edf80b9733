package tests

import (
	"slices"
	"testing"

	"loop.example/g01103/impl"
)

// seriesEdges are series-parallel precedences of n jobs that follow from numbers.
func seriesEdges(n int) [][][2]int {
	lists := [][][2]int{nil, chainOf(upTo(n)), totalOf(upTo(n))}
	for number := range 24 {
		next := drawer(number + 20*n)
		sets := [][]int{}
		for _, i := range madeOrder(next, n) {
			sets = append(sets, []int{i})
		}
		edges := [][2]int{}
		for len(sets) > 1 {
			i := next(len(sets) - 1)
			if next(2) == 1 {
				for _, a := range sets[i] {
					for _, b := range sets[i+1] {
						edges = append(edges, [2]int{a, b})
					}
				}
			}
			joined := slices.Concat(sets[i], sets[i+1])
			sets = slices.Concat(sets[:i], [][]int{joined}, sets[i+2:])
		}
		slices.SortFunc(edges, comparePairs)
		lists = append(lists, edges)
	}
	return lists
}

func TestPromise4IsSeriesParallel(t *testing.T) {
	check := func(n int, edges [][2]int, want bool) {
		if got, ok := impl.IsSeriesParallel(n, edges); !ok || got != want {
			t.Errorf("IsSeriesParallel(%d, %v) = %v, %v, not %v", n, edges, got, ok, want)
		}
	}
	for n := range 5 {
		for _, edges := range everyPrecedence(n) {
			check(n, edges, isSeriesByHand(beforeByHand(n, edges)))
		}
	}
	for n := 5; n <= impl.MaxJobs; n++ {
		for _, edges := range knownEdges(n) {
			check(n, edges, isSeriesByHand(beforeByHand(n, edges)))
		}
		for _, edges := range seriesEdges(n) {
			check(n, edges, true)
		}
	}
}

func TestPromise4KnownSeriesParallelPrecedences(t *testing.T) {
	for _, c := range []struct {
		n     int
		edges [][2]int
		want  bool
	}{
		{0, nil, true},
		{1, nil, true},
		{8, nil, true},
		{8, totalOf(upTo(8)), true},
		{8, chainOf(upTo(8)), true},
		{4, [][2]int{{0, 2}, {1, 2}, {1, 3}}, false},
		{4, [][2]int{{2, 0}, {3, 0}, {3, 1}}, false},
		{4, [][2]int{{0, 2}, {0, 3}, {1, 2}, {1, 3}}, true},
		{4, [][2]int{{0, 2}, {1, 3}}, true},
		{4, [][2]int{{0, 1}, {0, 2}, {1, 3}, {2, 3}}, true},
		{4, [][2]int{{0, 1}, {0, 2}, {0, 3}, {1, 2}, {1, 3}}, true},
		{4, [][2]int{{0, 1}, {0, 2}, {0, 3}}, true},
		// the corners are there only by what pairs lead to
		{5, [][2]int{{0, 4}, {1, 3}, {1, 4}, {4, 2}}, false},
		{6, [][2]int{{0, 2}, {1, 4}, {3, 5}, {4, 2}, {4, 3}}, false},
		{8, [][2]int{{4, 6}, {5, 6}, {5, 7}}, false},
	} {
		if got, ok := impl.IsSeriesParallel(c.n, c.edges); !ok || got != c.want {
			t.Errorf("IsSeriesParallel(%d, %v) = %v, %v, not %v", c.n, c.edges, got, ok, c.want)
		}
	}
}

// checkSeries compares the order with that of strings made by hand, and its value with those of all linear extensions.
func checkSeries(t *testing.T, jobs []impl.Job, edges [][2]int, orders [][]int) {
	t.Helper()
	before := beforeByHand(len(jobs), edges)
	got, ok := impl.SeriesOrder(jobs, edges)
	if !isSeriesByHand(before) {
		if ok || len(got) > 0 {
			t.Errorf("SeriesOrder(%v, %v) = %v, %v", jobs, edges, got, ok)
		}
		return
	}
	want := slices.Concat(stringsByHand(jobs, before, upTo(len(jobs)))...)
	if !ok || !slices.Equal(got, want) {
		t.Errorf("SeriesOrder(%v, %v) = %v, %v, not %v", jobs, edges, got, ok, want)
		return
	}
	extensions := extensionsByHand(before, orders)
	if len(extensions) == 0 {
		return
	}
	least, _, _ := bestByHand(jobs, extensions, impl.ObjWeighted)
	if value := valueByHand(jobs, got, impl.ObjWeighted); !isExtensionByHand(before, got) || value != least {
		t.Errorf("SeriesOrder(%v, %v) = %v has the value %d, not %d", jobs, edges, got, value, least)
	}
}

func TestPromise4SeriesOrders(t *testing.T) {
	for i, jobs := range append(plainJobs(), weightlessJobs()...) {
		orders := allOrders(len(jobs))
		for k, edges := range slices.Concat(knownEdges(len(jobs)), seriesEdges(len(jobs))) {
			if (i+k)%2 == 0 {
				checkSeries(t, jobs, edges, orders)
			}
		}
	}
	for n := range 5 {
		for i, edges := range everyPrecedence(n) {
			for number := range 3 {
				// Few different ratios make many of them equal.
				checkSeries(t, madeJobs(3*i+number, n, 2, 2, 0, 0), edges, allOrders(n))
			}
		}
	}
}

func TestPromise4SeriesOrdersOfManyJobs(t *testing.T) {
	for n := 6; n <= impl.MaxJobs; n++ {
		for i, edges := range append(seriesEdges(n), knownEdges(n)...) {
			for number := range 12 {
				checkSeries(t, madeJobs(12*i+number, n, 1+number%4, 1+number%5, 0, 0), edges, nil)
			}
		}
	}
	eight := allOrders(8)
	for i, edges := range seriesEdges(8)[:12] {
		checkSeries(t, madeJobs(i+5, 8, 9, 9, 0, 0), edges, eight)
	}
}

func TestPromise4KnownSeriesOrders(t *testing.T) {
	known := []impl.Job{job(4, 0, 0, 10), job(1, 9, 0, 3), job(2, 3, 0, 5)}
	equal := repeated(job(2, 1, 0, 0), 4)
	falling := []impl.Job{job(1, 1, 0, 0), job(1, 2, 0, 0), job(1, 3, 0, 0), job(1, 2, 0, 0)}
	for _, c := range []struct {
		jobs  []impl.Job
		edges [][2]int
		want  []int
	}{
		{nil, nil, []int{}},
		{[]impl.Job{job(1, 0, 0, 0)}, nil, []int{0}},
		{known, [][2]int{{0, 1}}, []int{0, 1, 2}},
		{known, nil, []int{1, 2, 0}},
		{known, [][2]int{{0, 1}, {2, 0}}, []int{2, 0, 1}},
		{equal, nil, []int{0, 1, 2, 3}},
		{equal, [][2]int{{0, 2}, {1, 3}}, []int{0, 2, 1, 3}},
		{equal, [][2]int{{3, 0}}, []int{3, 0, 1, 2}},
		{equal, [][2]int{{2, 1}, {3, 0}}, []int{3, 0, 2, 1}},
		// all three jobs of the chain become one string, whose ratio is that of job 3, and which comes first
		{falling, [][2]int{{0, 1}, {1, 2}}, []int{0, 1, 2, 3}},
		{falling, [][2]int{{1, 2}, {2, 3}}, []int{1, 2, 3, 0}},
		{falling, [][2]int{{0, 3}, {1, 2}}, []int{1, 2, 0, 3}},
		{repeated(job(3, 0, 0, 0), 5), [][2]int{{4, 0}}, []int{4, 0, 1, 2, 3}},
	} {
		if got, ok := impl.SeriesOrder(c.jobs, c.edges); !ok || !slices.Equal(got, c.want) {
			t.Errorf("SeriesOrder(%v, %v) = %v, %v, not %v", c.jobs, c.edges, got, ok, c.want)
		}
	}
}
