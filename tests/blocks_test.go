package tests

import (
	"math"
	"slices"
	"testing"

	"loop.example/g01103/impl"
)

// weightlessJobs are plain lists of jobs with Weights of 0, and with sets whose ratios are equal.
func weightlessJobs() [][]impl.Job {
	return [][]impl.Job{
		repeated(job(3, 0, 0, 9), 4),
		{job(3, 0, 0, 0), job(1, 0, 0, 0), job(2, 5, 0, 0), job(4, 0, 0, 0)},
		{job(2, 4, 0, 0), job(1, 2, 0, 0), job(3, 6, 0, 0), job(5, 10, 0, 0), job(1, 0, 0, 0)},
		{job(4, 2, 0, 0), job(2, 1, 0, 0), job(1, 0, 0, 0), job(3, 3, 0, 0), job(2, 2, 0, 0)},
		{job(1, 1, 0, 0), job(1, 3, 0, 0), job(1, 2, 0, 0), job(1, 2, 0, 0)},
		{job(50, 50, 0, 0), job(1, 50, 0, 0), job(50, 0, 0, 0), job(1, 0, 0, 0), job(1, 1, 0, 0)},
	}
}

func TestPromise4RatiosOfSets(t *testing.T) {
	for _, jobs := range slices.Concat(knownJobs(), plainJobs(), weightlessJobs(), longJobs()) {
		for mask := 1; mask < 1<<len(jobs); mask++ {
			weight, time := ratioByHand(jobs, setOf(mask))
			if got, ok := impl.RatioOfSet(jobs, setOf(mask)); !ok || got != [2]int{weight, time} {
				t.Errorf("RatioOfSet(%v, %v) = %v, %v, not %d and %d", jobs, setOf(mask), got, ok, weight, time)
			}
		}
	}
	// The sums are not divided by what both of them can be divided by.
	jobs := []impl.Job{job(2, 4, 0, 0), job(4, 0, 0, 0), job(50, 50, 500, 500)}
	for _, c := range []struct {
		set  []int
		want [2]int
	}{{[]int{0}, [2]int{4, 2}}, {[]int{0, 1}, [2]int{4, 6}}, {[]int{1}, [2]int{0, 4}}, {[]int{2}, [2]int{50, 50}}, {[]int{0, 1, 2}, [2]int{54, 56}}} {
		if got, ok := impl.RatioOfSet(jobs, c.set); !ok || got != c.want {
			t.Errorf("RatioOfSet(%v, %v) = %v, %v, not %v", jobs, c.set, got, ok, c.want)
		}
	}
}

func TestPromise4NoRatiosOfOtherLists(t *testing.T) {
	for _, jobs := range [][]impl.Job{{}, {job(1, 1, 0, 0)}, madeJobs(3, 3, 9, 9, 9, 9), repeated(job(2, 2, 0, 2), 8)} {
		n := len(jobs)
		for _, set := range [][]int{nil, {}, {n}, {-1}, {0, 0}, {1, 0}, {0, 2, 1}, {0, 1, 1}, {0, n}, {-1, 0}, upTo(n + 1), upTo(100), {math.MinInt}, {math.MaxInt}, {0, math.MaxInt}, {64}} {
			if got, ok := impl.RatioOfSet(jobs, set); ok || got != [2]int{} {
				t.Errorf("RatioOfSet(%v, %.200v) = %v, %v", jobs, set, got, ok)
			}
		}
	}
	for _, jobs := range noJobs() {
		if got, ok := impl.RatioOfSet(jobs, []int{0}); ok || got != [2]int{} {
			t.Errorf("RatioOfSet(%.200v, [0]) = %v, %v", jobs, got, ok)
		}
	}
}

// checkSidney compares Sidney blocks and block orders with the document's definitions.
func checkSidney(t *testing.T, jobs []impl.Job, edges [][2]int, orders [][]int) {
	t.Helper()
	before := beforeByHand(len(jobs), edges)
	blocks := blocksByHand(jobs, before)
	if got, ok := impl.SidneyBlocks(jobs, edges); !ok || !slices.EqualFunc(got, blocks, slices.Equal) {
		t.Errorf("SidneyBlocks(%v, %v) = %v, %v, not %v", jobs, edges, got, ok, blocks)
	}
	for _, order := range orders {
		want := isExtensionByHand(before, order) && isBlockOrderByHand(blocks, order)
		if got, ok := impl.IsBlockOrder(jobs, edges, order); !ok || got != want {
			t.Errorf("IsBlockOrder(%v, %v, %v) = %v, %v, not %v", jobs, edges, order, got, ok, want)
		}
	}
}

// checkGuarantee checks that blocks come first in some best linear extension, and that no block order is too bad.
func checkGuarantee(t *testing.T, jobs []impl.Job, edges [][2]int, orders [][]int) {
	t.Helper()
	extensions := extensionsByHand(beforeByHand(len(jobs), edges), orders)
	least, _, _ := bestByHand(jobs, extensions, impl.ObjWeighted)
	best := 0
	for _, order := range extensions {
		is, ok := impl.IsBlockOrder(jobs, edges, order)
		if !ok || !is {
			continue
		}
		value := valueByHand(jobs, order, impl.ObjWeighted)
		if value == least {
			best++
		}
		if value > 2*least {
			t.Errorf("%v, %v: the block order %v has the value %d, and the best one %d", jobs, edges, order, value, least)
		}
	}
	if best == 0 {
		t.Errorf("%v, %v: no block order has the least value %d", jobs, edges, least)
	}
}

func TestPromise4SidneyBlocks(t *testing.T) {
	check := func(jobs []impl.Job, edges [][2]int) {
		orders := allOrders(len(jobs))
		checkSidney(t, jobs, edges, orders)
		if isPlainByHand(jobs) {
			checkGuarantee(t, jobs, edges, orders)
		}
	}
	jobsWithEdges(slices.Concat(plainJobs(), weightlessJobs(), knownJobs()[:40]), check)
	for n := range 4 {
		for _, edges := range everyPrecedence(n) {
			for number := range 4 {
				check(madeJobs(number+860, n, 3, 3, 0, 0), edges)
			}
		}
	}
}

func TestPromise4SidneyBlocksOfManyJobs(t *testing.T) {
	eight := allOrders(8)
	some := [][]int{}
	for i := 0; i < len(eight); i += 101 {
		some = append(some, eight[i])
	}
	for i, jobs := range append(longPlainJobs(), longJobs()...) {
		for number := range 5 {
			edges := madeEdges(i+30*number, len(jobs), 1+number)
			if len(jobs) < 8 {
				checkSidney(t, jobs, edges, nil)
				continue
			}
			extensions := extensionsByHand(beforeByHand(8, edges), eight)
			checkSidney(t, jobs, edges, append(some, extensions[:min(200, len(extensions))]...))
			if isPlainByHand(jobs) && number > 0 {
				checkGuarantee(t, jobs, edges, extensions)
			}
		}
	}
}

func TestPromise4KnownSidneyBlocks(t *testing.T) {
	known := []impl.Job{job(4, 0, 0, 10), job(1, 9, 0, 3), job(2, 3, 0, 5)}
	equal := repeated(job(2, 1, 0, 0), 3)
	weightless := []impl.Job{job(3, 0, 0, 0), job(1, 2, 0, 0), job(5, 0, 0, 0), job(1, 0, 0, 0)}
	for _, c := range []struct {
		jobs  []impl.Job
		edges [][2]int
		want  [][]int
	}{
		{nil, nil, [][]int{}},
		{[]impl.Job{job(1, 0, 0, 0)}, nil, [][]int{{0}}},
		{known, [][2]int{{0, 1}}, [][]int{{0, 1}, {2}}},
		{known, nil, [][]int{{1}, {2}, {0}}},
		{known, [][2]int{{0, 1}, {2, 0}}, [][]int{{0, 1, 2}}},
		{known, [][2]int{{2, 0}}, [][]int{{1}, {2}, {0}}},
		{equal, nil, [][]int{{0, 1, 2}}},
		{equal, [][2]int{{2, 1}}, [][]int{{0, 1, 2}}},
		{weightless, nil, [][]int{{1}, {0, 2, 3}}},
		{weightless, [][2]int{{0, 3}, {3, 1}}, [][]int{{0, 1, 3}, {2}}},
		{repeated(job(3, 0, 7, 0), 8), nil, [][]int{upTo(8)}},
		{[]impl.Job{job(1, 1, 9, 0), job(1, 2, 0, 0)}, nil, [][]int{{1}, {0}}},
	} {
		if got, ok := impl.SidneyBlocks(c.jobs, c.edges); !ok || !slices.EqualFunc(got, c.want, slices.Equal) {
			t.Errorf("SidneyBlocks(%v, %v) = %v, %v, not %v", c.jobs, c.edges, got, ok, c.want)
		}
	}
}

func TestPromise4BlockOrdersOfNoOrders(t *testing.T) {
	for n := range impl.MaxJobs + 1 {
		jobs := madeJobs(n+890, n, 9, 9, 0, 9)
		for _, edges := range [][][2]int{nil, chainOf(upTo(n))} {
			for _, order := range noOrders(n) {
				if is, ok := impl.IsBlockOrder(jobs, edges, order); is || ok {
					t.Errorf("IsBlockOrder(%v, %v, %.200v) = %v, %v", jobs, edges, order, is, ok)
				}
			}
		}
	}
}
