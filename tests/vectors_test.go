package tests

import (
	"math"
	"slices"
	"testing"

	"loop.example/g01103/impl"
)

// checkDemands compares the demands of all sets with those by hand.
func checkDemands(t *testing.T, jobs []impl.Job) {
	t.Helper()
	for mask := range 1 << len(jobs) {
		set := setOf(mask)
		if got, ok := impl.DemandOf(jobs, set); !ok || got != demandByHand(jobs, set) {
			t.Errorf("DemandOf(%v, %v) = %d, %v, not %d", jobs, set, got, ok, demandByHand(jobs, set))
		}
	}
}

// checkVector compares what is told of an end vector with all sets, and with the ends of all orders; it returns its short sets and whether it is balanced.
func checkVector(t *testing.T, jobs []impl.Job, vectors map[[8]int]bool, ends []int) ([]int, bool) {
	t.Helper()
	all := upTo(len(jobs))
	short, first := shortByHand(jobs, ends), firstShortByHand(jobs, ends)
	set, ok := impl.ShortSet(jobs, ends)
	// If no set of first jobs is short, none of all sets is.
	if ok != (len(short) > 0) || !slices.Equal(set, first) || ok && !slices.Contains(short, maskOf(set)) {
		t.Errorf("ShortSet(%v, %v) = %v, %v, not %v; short are %v", jobs, ends, set, ok, first, short)
	}
	want := len(short) == 0 && supplyByHand(jobs, ends, all) == demandByHand(jobs, all)
	if got, ok := impl.IsBalanced(jobs, ends); !ok || got != want {
		t.Errorf("IsBalanced(%v, %v) = %v, %v", jobs, ends, got, ok)
	}
	is := vectors[vectorOf(ends)]
	if got, ok := impl.IsOrderVector(jobs, ends); !ok || got != is {
		t.Errorf("IsOrderVector(%v, %v) = %v, %v", jobs, ends, got, ok)
	}
	if is && !want {
		t.Errorf("%v: the ends %v of an order are not balanced", jobs, ends)
	}
	return short, want
}

// checkSupplies compares the supplies of all sets with those by hand.
func checkSupplies(t *testing.T, jobs []impl.Job, ends []int) {
	t.Helper()
	for mask := range 1 << len(jobs) {
		set := setOf(mask)
		if got, ok := impl.SupplyOf(jobs, ends, set); !ok || got != supplyByHand(jobs, ends, set) {
			t.Errorf("SupplyOf(%v, %v, %v) = %d, %v, not %d", jobs, ends, set, got, ok, supplyByHand(jobs, ends, set))
		}
	}
}

func TestPromise10EndVectors(t *testing.T) {
	several, last, balanced, single := 0, 0, 0, 0
	for number, jobs := range boundJobs() {
		vectors := orderVectors(jobs, allOrders(len(jobs)))
		checkDemands(t, jobs)
		for _, ends := range someVectors(number, jobs) {
			checkSupplies(t, jobs, ends)
			short, is := checkVector(t, jobs, vectors, ends)
			switch {
			case len(short) > 1:
				several++
			case len(short) == 1 && short[0] == 1<<len(jobs)-1:
				last++
			case len(short) == 1:
				single++
			case is && !vectors[vectorOf(ends)]:
				balanced++
			}
		}
	}
	if several == 0 || last == 0 || single == 0 || balanced == 0 {
		t.Errorf("end vectors of a kind were not there: %d, %d, %d, %d", several, last, single, balanced)
	}
}

func TestPromise10EndVectorsOfManyJobs(t *testing.T) {
	seven, eight := allOrders(7), allOrders(8)
	for number, jobs := range longBoundJobs() {
		orders := eight
		if len(jobs) == 7 {
			orders = seven
		}
		vectors := orderVectors(jobs, orders)
		checkDemands(t, jobs)
		for k, ends := range someVectors(number+50, jobs) {
			if k%8 == 0 {
				checkSupplies(t, jobs, ends)
			}
			checkVector(t, jobs, vectors, ends)
		}
	}
}

// TestPromise10AllEndVectors tries all end vectors with small numbers for all lists of up to three short jobs.
func TestPromise10AllEndVectors(t *testing.T) {
	for n := range 4 {
		everyNumbers(n, []int{1, 2, 3}, func(times []int) {
			jobs := timed(times...)
			vectors := orderVectors(jobs, allOrders(n))
			everyNumbers(n, upTo(added(times)+2), func(ends []int) { checkVector(t, jobs, vectors, ends) })
		})
	}
}

func TestPromise10KnownEndVectors(t *testing.T) {
	two := weighed([2]int{2, 3}, [2]int{1, 1})
	three := timed(2, 1, 3)
	longest := repeated(job(50, 50, 0, 0), 8)
	for _, c := range []struct {
		jobs                  []impl.Job
		ends                  []int
		demand, supply        int
		short                 []int
		is, balanced, ordered bool
	}{
		{nil, nil, 0, 0, nil, false, true, true},
		{timed(1), []int{0}, 1, 0, []int{0}, true, false, false},
		{timed(1), []int{1}, 1, 1, nil, false, true, true},
		{timed(1), []int{2}, 1, 2, nil, false, false, false},
		{timed(50), []int{50}, 2500, 2500, nil, false, true, true},
		{timed(50), []int{49}, 2500, 2450, []int{0}, true, false, false},
		{timed(50), []int{2000}, 2500, 100000, nil, false, false, false},
		{two, []int{2, 3}, 7, 7, nil, false, true, true},
		{two, []int{3, 1}, 7, 7, nil, false, true, true},
		{two, []int{1, 3}, 7, 5, []int{0}, true, false, false},
		// the mean of both orders, which is no order's
		{timed(2, 2), []int{3, 3}, 12, 12, nil, false, true, false},
		// just the set of all jobs is short, and the supply is greater though none is short
		{two, []int{2, 2}, 7, 6, []int{0, 1}, true, false, false},
		{two, []int{3, 3}, 7, 9, nil, false, false, false},
		// the supply of all jobs is right, but a set is short
		{two, []int{1, 5}, 7, 7, []int{0}, true, false, false},
		// several short sets: the first one has the job that ends first
		{three, []int{1, 0, 0}, 25, 2, []int{1}, true, false, false},
		{three, []int{0, 0, 0}, 25, 0, []int{0}, true, false, false},
		// the job that ends first is not short alone, but it is with the next one, which has a less number
		{three, []int{2, 1, 9}, 25, 32, []int{0, 1}, true, false, false},
		{three, []int{5, 1, 4}, 25, 23, []int{0, 1, 2}, true, false, false},
		{three, []int{3, 1, 6}, 25, 25, nil, false, true, true},
		{repeated(job(1, 0, 0, 0), 3), []int{2, 2, 2}, 6, 6, nil, false, true, false},
		{repeated(job(1, 0, 0, 0), 3), []int{1, 1, 4}, 6, 6, []int{0, 1}, true, false, false},
		{longest, []int{50, 100, 150, 200, 250, 300, 350, 400}, 90000, 90000, nil, false, true, true},
		{longest, []int{400, 350, 300, 250, 200, 150, 100, 50}, 90000, 90000, nil, false, true, true},
		{longest, slices.Repeat([]int{225}, 8), 90000, 90000, nil, false, true, false},
		{longest, []int{400, 350, 300, 250, 200, 150, 100, 49}, 90000, 89950, []int{7}, true, false, false},
		{longest, slices.Repeat([]int{2000}, 8), 90000, 800000, nil, false, false, false},
	} {
		all := upTo(len(c.jobs))
		demand, one := impl.DemandOf(c.jobs, all)
		supply, two := impl.SupplyOf(c.jobs, c.ends, all)
		short, is := impl.ShortSet(c.jobs, c.ends)
		balanced, three := impl.IsBalanced(c.jobs, c.ends)
		ordered, four := impl.IsOrderVector(c.jobs, c.ends)
		if !one || !two || !three || !four || demand != c.demand || supply != c.supply || is != c.is || !slices.Equal(short, c.short) || balanced != c.balanced || ordered != c.ordered {
			t.Errorf("%v, %v: %d, %d, %v, %v, %v, %v", c.jobs, c.ends, demand, supply, short, is, balanced, ordered)
		}
		checkVector(t, c.jobs, orderVectors(c.jobs, allOrders(len(c.jobs))), c.ends)
	}
}

// checkMixture compares a mixture with the one by hand, for all factors in -1..10.
func checkMixture(t *testing.T, jobs []impl.Job, a, b []int) int {
	t.Helper()
	missing := 0
	for x := -1; x <= 10; x++ {
		for y := -1; y <= 10; y++ {
			var want []int
			if min(x, y) >= 0 && max(x, y) <= 9 && x+y > 0 {
				want = mixedByHand(a, b, x, y)
				if want == nil {
					missing++
				}
			}
			got, ok := impl.MixVectors(jobs, a, b, x, y)
			if ok != (want != nil) || !slices.Equal(got, want) {
				t.Errorf("MixVectors(%v, %v, %v, %d, %d) = %v, %v, not %v", jobs, a, b, x, y, got, ok, want)
			}
		}
	}
	return missing
}

func TestPromise10Mixtures(t *testing.T) {
	missing := 0
	for number, jobs := range append(boundJobs()[:60], longBoundJobs()...) {
		if number%3 > 0 {
			continue
		}
		vectors, next := someVectors(number+300, jobs), drawer(number)
		for range 4 {
			missing += checkMixture(t, jobs, vectors[next(len(vectors))], vectors[next(len(vectors))])
		}
	}
	if missing == 0 {
		t.Error("all quotients were integers")
	}
}

// TestPromise10MixturesAreBalanced mixes balanced end vectors, and what becomes of them.
func TestPromise10MixturesAreBalanced(t *testing.T) {
	others := 0
	for number, jobs := range append(boundJobs(), longBoundJobs()...) {
		next := drawer(number + 77)
		known := [][]int{}
		for range 4 {
			known = append(known, endsByHand(jobs, madeOrder(next, len(jobs))))
		}
		for range 60 {
			a, b, x, y := known[next(len(known))], known[next(len(known))], next(10), next(10)
			mixed, ok := impl.MixVectors(jobs, a, b, x, y)
			if !ok {
				continue
			}
			if balanced, fine := impl.IsBalanced(jobs, mixed); !fine || !balanced {
				t.Errorf("MixVectors(%v, %v, %v, %d, %d) = %v, which is not balanced", jobs, a, b, x, y, mixed)
			}
			if is, _ := impl.IsOrderVector(jobs, mixed); !is {
				others++
			}
			known = append(known, mixed)
		}
	}
	if others == 0 {
		t.Error("no mixture was another one than those of orders")
	}
}

func TestPromise10KnownMixtures(t *testing.T) {
	two := timed(2, 1)
	for _, c := range []struct {
		jobs []impl.Job
		a, b []int
		x, y int
		want []int
		ok   bool
	}{
		{nil, nil, nil, 1, 0, nil, true}, {nil, nil, nil, 0, 0, nil, false},
		{two, []int{3, 1}, []int{1, 3}, 1, 1, []int{2, 2}, true},
		// the quotient is an integer for one job alone: the first one, or the last one
		{two, []int{3, 1}, []int{1, 2}, 1, 1, nil, false}, {two, []int{2, 1}, []int{1, 3}, 1, 1, nil, false},
		{two, []int{3, 1}, []int{7, 8}, 1, 0, []int{3, 1}, true}, {two, []int{3, 1}, []int{7, 8}, 0, 1, []int{7, 8}, true},
		{two, []int{3, 1}, []int{7, 8}, 9, 0, []int{3, 1}, true}, {two, []int{3, 1}, []int{7, 8}, 0, 9, []int{7, 8}, true},
		{two, []int{0, 2000}, []int{2000, 0}, 9, 9, []int{1000, 1000}, true}, {two, []int{2000, 2000}, []int{2000, 2000}, 9, 8, []int{2000, 2000}, true},
		{two, []int{0, 0}, []int{0, 0}, 4, 7, []int{0, 0}, true}, {two, []int{4, 0}, []int{0, 4}, 3, 1, []int{3, 1}, true},
		{two, []int{1, 1}, []int{1, 1}, 0, 0, nil, false}, {two, []int{1, 1}, []int{1, 1}, 10, 1, nil, false}, {two, []int{1, 1}, []int{1, 1}, 1, 10, nil, false},
		{two, []int{1, 1}, []int{1, 1}, -1, 2, nil, false}, {two, []int{1, 1}, []int{1, 1}, 2, -1, nil, false}, {two, []int{1, 1}, []int{1, 1}, 1, -1, nil, false}, {two, []int{1, 1}, []int{1, 1}, -1, -1, nil, false},
		{two, []int{1, 1}, []int{1, 1}, math.MaxInt, 1, nil, false}, {two, []int{1, 1}, []int{1, 1}, 1, math.MaxInt, nil, false},
		{two, []int{1, 1}, []int{1, 1}, math.MinInt, math.MinInt, nil, false}, {two, []int{1, 1}, []int{1, 1}, math.MinInt, 1, nil, false},
	} {
		if got, ok := impl.MixVectors(c.jobs, c.a, c.b, c.x, c.y); ok != c.ok || !slices.Equal(got, c.want) {
			t.Errorf("MixVectors(%v, %v, %v, %d, %d) = %v, %v", c.jobs, c.a, c.b, c.x, c.y, got, ok)
		}
	}
}

// TestPromise10SetsOfAllLists tries all lists of up to three numbers in -1..4.
func TestPromise10SetsOfAllLists(t *testing.T) {
	lists := [][]int{{math.MinInt}, {math.MaxInt}, {0, math.MaxInt}, {math.MinInt, 0}, {64}, upTo(9), upTo(1000)}
	for size := range 4 {
		everyNumbers(size, []int{-1, 0, 1, 2, 3, 4}, func(list []int) { lists = append(lists, slices.Clone(list)) })
	}
	for n := range 4 {
		jobs := timed([]int{3, 1, 2}[:n]...)
		for _, list := range lists {
			valid := slices.Equal(list, setOf(maskOf(slices.DeleteFunc(slices.Clone(list), func(i int) bool { return i < 0 || i >= n }))))
			demand, one := impl.DemandOf(jobs, list)
			supply, two := impl.SupplyOf(jobs, timesOf(jobs), list)
			if one != valid || two != valid || !valid && (demand != 0 || supply != 0) {
				t.Errorf("%v, %.200v: %d, %v, %d, %v", jobs, list, demand, one, supply, two)
			}
			if valid && (demand != demandByHand(jobs, list) || supply != supplyByHand(jobs, timesOf(jobs), list)) {
				t.Errorf("%v, %v: %d, %d", jobs, list, demand, supply)
			}
		}
	}
}

// checkNoVector checks that all functions of end vectors fail.
func checkNoVector(t *testing.T, jobs []impl.Job, ends []int) {
	t.Helper()
	supply, one := impl.SupplyOf(jobs, ends, nil)
	short, two := impl.ShortSet(jobs, ends)
	balanced, three := impl.IsBalanced(jobs, ends)
	ordered, four := impl.IsOrderVector(jobs, ends)
	if one || two || three || four || supply != 0 || len(short) != 0 || balanced || ordered {
		t.Errorf("%.200v, %.200v: %d, %v, %v, %v", jobs, ends, supply, short, balanced, ordered)
	}
	good := make([]int, len(jobs))
	for _, pair := range [][2][]int{{ends, good}, {good, ends}, {ends, ends}} {
		for _, factors := range [][2]int{{1, 1}, {1, 0}, {0, 1}} {
			if mixed, ok := impl.MixVectors(jobs, pair[0], pair[1], factors[0], factors[1]); ok || len(mixed) != 0 {
				t.Errorf("MixVectors(%.200v, %.200v, %v) = %v, %v", jobs, pair, factors, mixed, ok)
			}
		}
	}
}

func TestPromise10NoEndVectors(t *testing.T) {
	for n := range impl.MaxJobs + 1 {
		for _, ends := range noVectors(n) {
			checkNoVector(t, madeJobs(n+60, n, 5, 5, 0, 9), ends)
		}
	}
	for _, jobs := range notPlain() {
		checkNoVector(t, jobs, make([]int, len(jobs)))
		checkNoVector(t, jobs, nil)
		for _, set := range [][]int{nil, {0}} {
			if demand, ok := impl.DemandOf(jobs, set); ok || demand != 0 {
				t.Errorf("DemandOf(%.200v, %v) = %d, %v", jobs, set, demand, ok)
			}
		}
	}
}
