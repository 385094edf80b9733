package tests

import (
	"math"
	"slices"
	"testing"

	"loop.example/g01103/impl"
)

// checkMachineBound compares the bound of a Machine with the document, and returns it.
func checkMachineBound(t *testing.T, s impl.JobShop, machine int) int {
	t.Helper()
	want := machineBoundByHand(s, machine)
	if bound, ok := impl.OneMachineBound(s, machine); !ok || bound != want {
		t.Errorf("OneMachineBound(%v, %d) = %d, %v, not %d", s, machine, bound, ok, want)
	}
	return want
}

// TestPromise9OneMachineBounds also counts the Machines whose bound is the length of the best selection.
func TestPromise9OneMachineBounds(t *testing.T) {
	met, less := 0, 0
	check := func(s impl.JobShop) {
		best, ok := impl.BestSelection(s)
		length, fine := impl.ShopLength(s, best)
		for machine := range s.Machines {
			bound := checkMachineBound(t, s, machine)
			if !ok || !fine || bound > length {
				t.Errorf("OneMachineBound(%v, %d) = %d, but %v has the length %d", s, machine, bound, best, length)
			}
			if bound == length {
				met++
			} else {
				less++
			}
		}
	}
	for _, s := range allJobShops() {
		check(s)
	}
	everyJobShop(1, 4, []int{1, 2, 3}, check)
	everyJobShop(2, 3, []int{1, 3}, check)
	everyJobShop(3, 2, []int{1, 4}, check)
	for number := range 200 {
		check(madeJobShop(number+12000, 3+number%2, 4, 3, 20))
	}
	if met < 1000 || less < 1000 {
		t.Errorf("%d bounds are met, %d are less", met, less)
	}
}

// TestPromise9BoundsOfAllSplits compares bounds with all split schedules of the Ops of a Machine.
func TestPromise9BoundsOfAllSplits(t *testing.T) {
	check := func(s impl.JobShop) {
		for machine := range s.Machines {
			list, times := opsOnByHand(s, machine), opTimes(s)
			jobs, behind, until := []impl.Job{}, []int{}, 0
			for _, i := range list {
				ahead, rest := around(s, i)
				jobs, behind = append(jobs, job(times[i], 0, ahead, 0)), append(behind, rest)
				until = max(until, ahead)
			}
			until += added(timesOf(jobs))
			least := math.MaxInt
			everySplit(jobs, until, func(slots []int) {
				value := 0
				for k, end := range endsOfSlots(len(jobs), slots) {
					value = max(value, end+behind[k])
				}
				least = min(least, value)
			})
			if bound, ok := impl.OneMachineBound(s, machine); !ok || bound != least {
				t.Errorf("OneMachineBound(%v, %d) = %d, %v, but a split schedule has %d", s, machine, bound, ok, least)
			}
		}
	}
	everyJobShop(1, 3, []int{1, 2}, check)
	everyJobShop(2, 2, []int{1, 2, 4}, check)
	everyJobShop(3, 2, []int{1, 2}, check)
	// The one with the long Op is interrupted again and again.
	check(jobShop(3, []impl.Op{op(0, 5)}, []impl.Op{op(1, 1), op(0, 1), op(2, 9)}, []impl.Op{op(2, 3), op(0, 1), op(1, 7)}))
	check(jobShop(3, []impl.Op{op(0, 3), op(1, 4)}, []impl.Op{op(1, 2), op(0, 2)}, []impl.Op{op(2, 1), op(0, 2), op(1, 6)}))
}

func TestPromise9KnownMachineBounds(t *testing.T) {
	two := jobShop(3, []impl.Op{op(0, 3), op(1, 2)}, []impl.Op{op(1, 2), op(0, 4)})
	split := jobShop(2, []impl.Op{op(0, 5)}, []impl.Op{op(1, 1), op(0, 1)}, []impl.Op{op(0, 2), op(1, 20)})
	for _, c := range []struct {
		s             impl.JobShop
		machine, want int
		ok            bool
	}{
		{impl.JobShop{Machines: 1}, 0, 0, true}, {jobShop(4, nil, nil), 3, 0, true}, {two, 2, 0, true},
		{two, 0, 7, true}, {two, 1, 6, true}, {split, 0, 22, true}, {split, 1, 22, true},
		// one Op: all of its Route
		{jobShop(3, []impl.Op{op(2, 20), op(0, 1), op(1, 20)}), 0, 41, true}, {jobShop(1, []impl.Op{op(0, 1)}), 0, 1, true},
		// the first one has to be interrupted
		{jobShop(2, []impl.Op{op(0, 4)}, []impl.Op{op(1, 1), op(0, 1)}, nil), 0, 5, true}, {jobShop(3, []impl.Op{op(0, 4), op(2, 1)}, []impl.Op{op(1, 1), op(0, 1), op(2, 9)}), 0, 11, true},
		{lineShop(4, 3, 20), 0, 120, true}, {lineShop(4, 3, 20), 3, 120, true}, {lineShop(1, 4, 20), 0, 80, true},
		{two, -1, 0, false}, {two, 3, 0, false}, {two, 4, 0, false}, {two, math.MinInt, 0, false}, {two, math.MaxInt, 0, false}, {impl.JobShop{Machines: 1}, 1, 0, false}, {impl.JobShop{}, 0, 0, false},
	} {
		if bound, ok := impl.OneMachineBound(c.s, c.machine); ok != c.ok || bound != c.want {
			t.Errorf("OneMachineBound(%v, %d) = %d, %v, not %d", c.s, c.machine, bound, ok, c.want)
		}
	}
}

// checkArcs compares the bound of pairs with the document, and returns it and whether there is one.
func checkArcs(t *testing.T, s impl.JobShop, arcs [][2]int) (int, bool) {
	t.Helper()
	want, ok := 0, areArcsByHand(s, arcs)
	if ok {
		if want, ok = lengthOfArcs(s, arcs); !ok {
			want = 0
		}
	}
	if bound, fine := impl.ArcsBound(s, arcs); fine != ok || bound != want {
		t.Errorf("ArcsBound(%v, %.200v) = %d, %v, not %d, %v", s, arcs, bound, fine, want, ok)
	}
	return want, ok
}

// checkArcsOfTrails compares the bound of arcs with all lists of Ops that lead to each other, and with all selections with these arcs.
func checkArcsOfTrails(t *testing.T, s impl.JobShop, arcs [][2]int, selections [][][]int) {
	t.Helper()
	longest, times := 0, opTimes(s)
	acyclic := everyTrail(leadsOfArcs(s, arcs), func(list []int) { longest = max(longest, added(pickedNumbers(times, list))) })
	bound, ok := impl.ArcsBound(s, arcs)
	if ok != acyclic || ok && bound != longest {
		t.Errorf("ArcsBound(%v, %v) = %d, %v, but Ops last for %d, %v", s, arcs, bound, ok, longest, acyclic)
	}
	has := func(orders [][]int, pair [2]int) bool {
		order := orders[opsByHand(s)[pair[0]].machine]
		return slices.Index(order, pair[0]) < slices.Index(order, pair[1])
	}
	least, found := math.MaxInt, false
	for _, orders := range selections {
		length, fine := impl.ShopLength(s, orders)
		if fine && !slices.ContainsFunc(arcs, func(pair [2]int) bool { return !has(orders, pair) }) {
			least, found = min(least, length), true
		}
	}
	if found != ok || bound > least {
		t.Errorf("ArcsBound(%v, %v) = %d, %v, but a selection has %d, %v", s, arcs, bound, ok, least, found)
	}
}

// TestPromise9ArcsOfSmallJobShops takes all lists of at most three arcs.
func TestPromise9ArcsOfSmallJobShops(t *testing.T) {
	for _, s := range []impl.JobShop{
		{Machines: 1}, jobShop(2, []impl.Op{op(1, 4)}), lineShop(1, 2, 3), lineShop(1, 3, 1), lineShop(1, 4, 2), meetingShop(2, 2, 3), turningShop(2, 3, 1), lineShop(2, 2, 5),
		jobShop(2, []impl.Op{op(0, 3), op(1, 2)}, []impl.Op{op(1, 2), op(0, 4)}), jobShop(3, []impl.Op{op(0, 2), op(1, 9), op(2, 4)}, []impl.Op{op(2, 3), op(0, 1)}, []impl.Op{op(1, 5)}),
	} {
		selections := selectionsByHand(s)
		pairs := shopPairs(s)
		for _, pair := range shopPairs(s) {
			pairs = append(pairs, turned(pair))
		}
		for size := range 4 {
			everyNumbers(size, upTo(len(pairs)), func(list []int) {
				arcs := [][2]int{}
				for _, k := range list {
					arcs = append(arcs, pairs[k])
				}
				checkArcs(t, s, arcs)
				checkArcsOfTrails(t, s, arcs, selections)
			})
		}
	}
}

// TestPromise9PairsThatAreNoArcs takes all pairs of small numbers.
func TestPromise9PairsThatAreNoArcs(t *testing.T) {
	for _, s := range append(knownJobShops(), longJobShops()[:4]...) {
		n, arcs := len(opsByHand(s)), 0
		for a := -2; a <= n+1; a++ {
			for b := -2; b <= n+1; b++ {
				if _, ok := checkArcs(t, s, [][2]int{{a, b}}); ok {
					arcs++
				}
			}
		}
		if want := 2 * len(shopPairs(s)); arcs != want {
			t.Errorf("%d pairs of %v are arcs with a bound, not %d", arcs, s, want)
		}
		for _, wrong := range []int{math.MinInt, math.MaxInt, 64, -64, 12} {
			checkArcs(t, s, [][2]int{{wrong, 0}})
			checkArcs(t, s, [][2]int{{0, wrong}})
			checkArcs(t, s, [][2]int{{wrong, wrong}})
		}
		for _, pair := range shopPairs(s) {
			checkArcs(t, s, [][2]int{pair, {0, 0}})
			checkArcs(t, s, [][2]int{{n, pair[0]}, pair})
			checkArcs(t, s, [][2]int{pair, turned(pair)})
			checkArcs(t, s, [][2]int{pair, pair, pair})
		}
	}
}

// TestPromise9ArcsOfSelections takes the arcs of selections: those from each Op to the next one, and those from each Op to all behind it.
func TestPromise9ArcsOfSelections(t *testing.T) {
	bounds, none := 0, 0
	for number, s := range allJobShops() {
		next := drawer(number + 300)
		for _, orders := range someSelections(number+300, s, 40) {
			chain, total := [][2]int{}, [][2]int{}
			for _, order := range orders {
				chain, total = append(chain, chainOf(order)...), append(total, totalOf(order)...)
			}
			length, ok := impl.ShopLength(s, orders)
			for _, arcs := range [][][2]int{chain, total, slices.Concat(total, chain)} {
				if bound, fine := checkArcs(t, s, arcs); fine != ok || bound != length {
					t.Errorf("the arcs %v of %v have the bound %d, %v, but the length is %d", arcs, s, bound, fine, length)
				}
			}
			// Fewer arcs have no greater bound.
			some := slices.DeleteFunc(slices.Clone(total), func([2]int) bool { return next(2) == 0 })
			if bound, fine := checkArcs(t, s, some); ok && (!fine || bound > length) {
				t.Errorf("the arcs %v of %v have the bound %d, %v, but the length is %d", some, s, bound, fine, length)
			}
			if ok {
				bounds++
			} else {
				none++
			}
		}
	}
	if bounds < 1000 || none < 300 {
		t.Errorf("%d bounds, %d lists of arcs lead back", bounds, none)
	}
}

func TestPromise9KnownArcs(t *testing.T) {
	s := jobShop(2, []impl.Op{op(0, 3), op(1, 2)}, []impl.Op{op(1, 2), op(0, 4)})
	many := slices.Repeat([][2]int{{0, 3}, {2, 1}}, 5000)
	for _, c := range []struct {
		s    impl.JobShop
		arcs [][2]int
		want int
		ok   bool
	}{
		{impl.JobShop{Machines: 1}, nil, 0, true}, {jobShop(2, nil, nil), [][2]int{}, 0, true}, {impl.JobShop{}, nil, 0, false},
		{s, nil, 6, true}, {s, [][2]int{{0, 3}}, 7, true}, {s, [][2]int{{3, 0}}, 11, true}, {s, [][2]int{{1, 2}}, 11, true}, {s, [][2]int{{2, 1}}, 6, true}, {s, [][2]int{{0, 3}, {2, 1}}, 7, true},
		{s, [][2]int{{3, 0}, {3, 0}}, 11, true}, {s, many, 7, true}, {s, append(slices.Clone(many), [2]int{3, 0}), 0, false}, {s, append(slices.Clone(many), [2]int{0, 1}), 0, false},
		// arcs that lead back alone, and with Routes
		{s, [][2]int{{0, 3}, {3, 0}}, 0, false}, {s, [][2]int{{3, 0}, {1, 2}}, 0, false}, {lineShop(1, 3, 2), [][2]int{{0, 1}, {1, 2}, {2, 0}}, 0, false}, {lineShop(1, 3, 2), [][2]int{{0, 1}, {0, 2}}, 4, true},
		// no arcs
		{s, [][2]int{{0, 1}}, 0, false}, {s, [][2]int{{0, 0}}, 0, false}, {s, [][2]int{{0, 4}}, 0, false}, {s, [][2]int{{-1, 0}}, 0, false}, {s, [][2]int{{0, 3}, {-1, -1}}, 0, false},
		// the Times are those of all Ops of a Machine, one behind the other
		{lineShop(1, 4, 20), [][2]int{{3, 2}, {1, 0}, {2, 1}}, 80, true},
	} {
		if bound, ok := impl.ArcsBound(c.s, c.arcs); ok != c.ok || bound != c.want {
			t.Errorf("ArcsBound(%v, %.200v) = %d, %v, not %d, %v", c.s, c.arcs, bound, ok, c.want, c.ok)
		}
	}
}
