package tests

import (
	"math"
	"slices"
	"testing"

	"loop.example/g01103/impl"
)

// jobsWithEdges calls a check for lists of jobs of all kinds with precedences of all kinds of as many jobs.
func jobsWithEdges(lists [][]impl.Job, check func(jobs []impl.Job, edges [][2]int)) {
	for number, jobs := range lists {
		known := knownEdges(len(jobs))
		for i, edges := range known {
			// All precedences with each list of jobs would take too long.
			if (i+number)%4 == 0 || len(jobs) < 3 {
				check(jobs, edges)
			}
		}
	}
}

// checkBestExtension compares the best linear extension for each objective with all linear extensions.
func checkBestExtension(t *testing.T, jobs []impl.Job, edges [][2]int, extensions [][]int) {
	t.Helper()
	for _, objective := range objectives {
		_, want, _ := bestByHand(jobs, extensions, objective)
		if got, ok := impl.BestExtension(jobs, edges, objective); !ok || !slices.Equal(got, want) {
			t.Errorf("BestExtension(%v, %v, %d) = %v, %v, not %v", jobs, edges, objective, got, ok, want)
		}
	}
}

func TestPromise4BestExtensions(t *testing.T) {
	jobsWithEdges(append(knownJobs(), plainJobs()...), func(jobs []impl.Job, edges [][2]int) {
		extensions := extensionsByHand(beforeByHand(len(jobs), edges), allOrders(len(jobs)))
		checkBestExtension(t, jobs, edges, extensions)
	})
}

func TestPromise4BestExtensionsOfEachPrecedenceOfFewJobs(t *testing.T) {
	for n := range 4 {
		for _, edges := range everyPrecedence(n) {
			for number := range 4 {
				jobs := madeJobs(number+800, n, 4, 3, 6*(number%2), 9)
				checkBestExtension(t, jobs, edges, extensionsByHand(beforeByHand(n, edges), allOrders(n)))
			}
		}
	}
}

func TestPromise4BestExtensionsOfManyJobs(t *testing.T) {
	orders := allOrders(8)
	for i, jobs := range [][]impl.Job{madeJobs(1, 8, 9, 5, 0, 30), madeJobs(2, 8, 9, 5, 20, 40), repeated(job(1, 0, 0, 0), 8)} {
		for _, edges := range [][][2]int{nil, madeEdges(i, 8, 2), madeEdges(i+10, 8, 4), totalOf([]int{3, 1, 4, 0, 5, 2, 6, 7})} {
			checkBestExtension(t, jobs, edges, extensionsByHand(beforeByHand(8, edges), orders))
		}
	}
}

func TestPromise4BestExtensionsWithoutPairsAreBestOrders(t *testing.T) {
	for _, jobs := range append(knownJobs(), longJobs()...) {
		for _, objective := range objectives {
			extension, one := impl.BestExtension(jobs, nil, objective)
			order, two := impl.BestOrder(jobs, objective)
			if !one || !two || !slices.Equal(extension, order) {
				t.Errorf("BestExtension(%v, no pairs, %d) = %v, %v, not %v", jobs, objective, extension, one, order)
			}
		}
	}
}

func TestPromise4BestExtensionsOfNoObjectives(t *testing.T) {
	for _, jobs := range [][]impl.Job{nil, {job(1, 0, 0, 0)}, madeJobs(1, 3, 9, 9, 9, 9), repeated(job(2, 2, 0, 2), 8)} {
		for _, objective := range noObjectives() {
			for _, edges := range [][][2]int{nil, chainOf(upTo(len(jobs)))} {
				if got, ok := impl.BestExtension(jobs, edges, objective); ok || len(got) > 0 {
					t.Errorf("BestExtension(%v, %v, %d) = %v, %v", jobs, edges, objective, got, ok)
				}
			}
		}
	}
}

// lastByHand finds a linear extension from its end, as the document describes it.
func lastByHand(jobs []impl.Job, before [][]bool) []int {
	order, left := []int{}, upTo(len(jobs))
	for len(left) > 0 {
		last := -1
		for _, i := range left {
			if slices.ContainsFunc(left, func(j int) bool { return before[i][j] }) {
				continue
			}
			if last < 0 || jobs[i].Due > jobs[last].Due || jobs[i].Due == jobs[last].Due && i > last {
				last = i
			}
		}
		order = append([]int{last}, order...)
		left = slices.DeleteFunc(left, func(i int) bool { return i == last })
	}
	return order
}

// checkLastCost compares LastCostOrder with the document's description, and its value with those of all linear extensions.
func checkLastCost(t *testing.T, jobs []impl.Job, edges [][2]int, orders [][]int) {
	t.Helper()
	before := beforeByHand(len(jobs), edges)
	got, ok := impl.LastCostOrder(jobs, edges)
	if !ok || !slices.Equal(got, lastByHand(jobs, before)) {
		t.Errorf("LastCostOrder(%v, %v) = %v, %v, not %v", jobs, edges, got, ok, lastByHand(jobs, before))
		return
	}
	least, _, _ := bestByHand(jobs, extensionsByHand(before, orders), impl.ObjLateness)
	if value := valueByHand(jobs, got, impl.ObjLateness); !isExtensionByHand(before, got) || value != least {
		t.Errorf("LastCostOrder(%v, %v) = %v has the value %d, not %d", jobs, edges, got, value, least)
	}
}

func TestPromise4LastCostOrders(t *testing.T) {
	for _, jobs := range plainJobs() {
		orders := allOrders(len(jobs))
		for _, edges := range knownEdges(len(jobs)) {
			checkLastCost(t, jobs, edges, orders)
		}
	}
	for n := range 4 {
		for _, edges := range everyPrecedence(n) {
			for number := range 4 {
				checkLastCost(t, madeJobs(number+830, n, 4, 3, 0, 7), edges, allOrders(n))
			}
		}
	}
}

func TestPromise4LastCostOrdersOfManyJobs(t *testing.T) {
	eight, seven := allOrders(8), allOrders(7)
	for i, jobs := range longPlainJobs() {
		orders := eight
		if len(jobs) == 7 {
			orders = seven
		}
		for tenths := range 4 {
			checkLastCost(t, jobs, madeEdges(i+20, len(jobs), 2*tenths), orders)
		}
	}
}

func TestPromise4KnownLastCostOrders(t *testing.T) {
	jobs := []impl.Job{job(4, 0, 0, 10), job(1, 9, 0, 3), job(2, 3, 0, 5), job(2, 3, 0, 10)}
	for _, c := range []struct {
		edges [][2]int
		want  []int
	}{
		{nil, []int{1, 2, 0, 3}},
		{[][2]int{{0, 1}}, []int{0, 1, 2, 3}},
		{[][2]int{{3, 2}}, []int{1, 3, 2, 0}},
		{[][2]int{{0, 1}, {3, 0}}, []int{3, 0, 1, 2}},
	} {
		if got, ok := impl.LastCostOrder(jobs, c.edges); !ok || !slices.Equal(got, c.want) {
			t.Errorf("LastCostOrder(%v, %v) = %v, %v, not %v", jobs, c.edges, got, ok, c.want)
		}
	}
}

func TestPromise4OrdersOfListsThatAreNotPlain(t *testing.T) {
	for _, jobs := range notPlainJobs() {
		for _, edges := range [][][2]int{nil, chainOf(upTo(len(jobs)))} {
			if got, ok := impl.LastCostOrder(jobs, edges); ok || len(got) > 0 {
				t.Errorf("LastCostOrder(%v, %v) = %v, %v", jobs, edges, got, ok)
			}
			if got, ok := impl.SeriesOrder(jobs, edges); ok || len(got) > 0 {
				t.Errorf("SeriesOrder(%v, %v) = %v, %v", jobs, edges, got, ok)
			}
		}
	}
}

// adjustedByHand are the adjusted dates: they become less as long as one of them is too late for one behind it.
func adjustedByHand(jobs []impl.Job, before [][]bool) []int {
	dates := make([]int, len(jobs))
	for i := range jobs {
		dates[i] = jobs[i].Due
	}
	for changed := true; changed; {
		changed = false
		for i := range jobs {
			for j := range jobs {
				if limit := dates[j] - jobs[j].Time; before[i][j] && dates[i] > limit {
					dates[i], changed = limit, true
				}
			}
		}
	}
	return dates
}

// checkAdjusted compares adjusted dates with the document's definition; they leave the greatest lateness as it is.
func checkAdjusted(t *testing.T, jobs []impl.Job, edges [][2]int, orders [][]int) {
	t.Helper()
	before := beforeByHand(len(jobs), edges)
	dates, ok := impl.AdjustedDates(jobs, edges)
	if want := adjustedByHand(jobs, before); !ok || !slices.Equal(dates, want) {
		t.Errorf("AdjustedDates(%v, %v) = %v, %v, not %v", jobs, edges, dates, ok, want)
		return
	}
	adjusted := slices.Clone(jobs)
	for i := range adjusted {
		adjusted[i].Due = dates[i]
	}
	for _, order := range extensionsByHand(before, orders) {
		if one, two := valueByHand(jobs, order, impl.ObjLateness), valueByHand(adjusted, order, impl.ObjLateness); one != two {
			t.Errorf("%v, %v: the greatest lateness of %v is %d, and %d with adjusted dates %v", jobs, edges, order, one, two, dates)
		}
	}
}

func TestPromise4AdjustedDates(t *testing.T) {
	jobsWithEdges(slices.Concat(knownJobs(), plainJobs(), notPlainJobs()[:4]), func(jobs []impl.Job, edges [][2]int) {
		checkAdjusted(t, jobs, edges, allOrders(len(jobs)))
	})
	jobsWithEdges(append(longJobs(), longPlainJobs()...), func(jobs []impl.Job, edges [][2]int) {
		checkAdjusted(t, jobs, edges, nil)
	})
}

func TestPromise4KnownAdjustedDates(t *testing.T) {
	jobs := []impl.Job{job(4, 0, 0, 10), job(1, 9, 7, 3), job(2, 3, 0, 5), job(50, 3, 500, 0)}
	for _, c := range []struct {
		edges [][2]int
		want  []int
	}{
		{nil, []int{10, 3, 5, 0}},
		{[][2]int{{0, 1}}, []int{2, 3, 5, 0}},
		{[][2]int{{0, 1}, {1, 2}}, []int{2, 3, 5, 0}},
		{[][2]int{{0, 1}, {1, 2}, {2, 3}}, []int{-53, -52, -50, 0}},
		{[][2]int{{0, 3}, {1, 3}, {2, 3}}, []int{-50, -50, -50, 0}},
		{[][2]int{{1, 0}, {2, 0}}, []int{10, 3, 5, 0}},
	} {
		if got, ok := impl.AdjustedDates(jobs, c.edges); !ok || !slices.Equal(got, c.want) {
			t.Errorf("AdjustedDates(%v, %v) = %v, %v, not %v", jobs, c.edges, got, ok, c.want)
		}
	}
	// the least date that there is
	late := repeated(job(50, 0, 0, 0), 8)
	want := []int{-350, -300, -250, -200, -150, -100, -50, 0}
	if got, ok := impl.AdjustedDates(late, chainOf(upTo(8))); !ok || !slices.Equal(got, want) {
		t.Errorf("AdjustedDates(%v, a chain) = %v, %v", late, got, ok)
	}
}

// checkNoJobsWithEdges checks that all functions of jobs and pairs fail.
func checkNoJobsWithEdges(t *testing.T, jobs []impl.Job, edges [][2]int) {
	t.Helper()
	for _, objective := range append([]int{0, 9, math.MaxInt}, objectives...) {
		if got, ok := impl.BestExtension(jobs, edges, objective); ok || len(got) > 0 {
			t.Errorf("BestExtension(%.200v, %.200v, %d) = %v, %v", jobs, edges, objective, got, ok)
		}
	}
	if got, ok := impl.LastCostOrder(jobs, edges); ok || len(got) > 0 {
		t.Errorf("LastCostOrder(%.200v, %.200v) = %v, %v", jobs, edges, got, ok)
	}
	if got, ok := impl.AdjustedDates(jobs, edges); ok || len(got) > 0 {
		t.Errorf("AdjustedDates(%.200v, %.200v) = %v, %v", jobs, edges, got, ok)
	}
	if got, ok := impl.SidneyBlocks(jobs, edges); ok || len(got) > 0 {
		t.Errorf("SidneyBlocks(%.200v, %.200v) = %v, %v", jobs, edges, got, ok)
	}
	if got, ok := impl.IsBlockOrder(jobs, edges, upTo(len(jobs))); ok || got {
		t.Errorf("IsBlockOrder(%.200v, %.200v, ascending) = %v, %v", jobs, edges, got, ok)
	}
	if got, ok := impl.SeriesOrder(jobs, edges); ok || len(got) > 0 {
		t.Errorf("SeriesOrder(%.200v, %.200v) = %v, %v", jobs, edges, got, ok)
	}
}

func TestPromise4NoJobsOrNoPrecedences(t *testing.T) {
	for _, jobs := range noJobs() {
		checkNoJobsWithEdges(t, jobs, nil)
		if len(jobs) > 1 {
			checkNoJobsWithEdges(t, jobs, [][2]int{{0, 1}})
		}
	}
	for n := range impl.MaxJobs + 1 {
		for _, jobs := range [][]impl.Job{madeJobs(n, n, 9, 9, 0, 20), repeated(job(1, 1, 0, 1), n)} {
			for _, edges := range noEdges(n) {
				checkNoJobsWithEdges(t, jobs, edges)
			}
		}
	}
}
