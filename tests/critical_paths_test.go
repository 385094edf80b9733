package tests

import (
	"math"
	"slices"
	"testing"

	"loop.example/g01103/impl"
)

// checkSelection compares what the functions tell of a selection with all lists of Ops each of which leads to the next one, and returns what the document tells.
func checkSelection(t *testing.T, s impl.JobShop, orders [][]int) handPlan {
	t.Helper()
	want := planByHand(s, orders)
	heads, one := impl.HeadsOf(s, orders)
	tails, two := impl.OpTails(s, orders)
	length, three := impl.ShopLength(s, orders)
	path, four := impl.CriticalPath(s, orders)
	blocks, five := impl.CriticalBlocks(s, orders)
	swaps, six := impl.CriticalSwaps(s, orders)
	if one != want.acyclic || two != one || three != one || four != one || five != one || six != one {
		t.Errorf("%v, %v: %v, %v, %v, %v, %v, %v, but acyclic is %v", s, orders, one, two, three, four, five, six, want.acyclic)
	}
	if !want.acyclic {
		if len(heads)+len(tails)+length+len(path)+len(blocks)+len(swaps) > 0 {
			t.Errorf("%v, %v failed with %v, %v, %d, %v, %v, %v", s, orders, heads, tails, length, path, blocks, swaps)
		}
		return want
	}
	if !slices.Equal(heads, want.heads) || !slices.Equal(tails, want.tails) || length != want.length {
		t.Errorf("heads, tails and length of %v, %v: %v, %v, %d, not %v, %v, %d", s, orders, heads, tails, length, want.heads, want.tails, want.length)
	}
	if first := want.firstPath(); !slices.Equal(path, first) || !equalLists(blocks, blocksOfPath(s, first)) {
		t.Errorf("critical path and blocks of %v, %v: %v, %v, not %v", s, orders, path, blocks, first)
	}
	if list := swapsByHand(want, orders); !slices.Equal(swaps, list) {
		t.Errorf("CriticalSwaps(%v, %v) = %v, not %v", s, orders, swaps, list)
	}
	checkSums(t, s, orders, want)
	return want
}

// checkSums checks that heads and tails add up to the length on critical paths alone, and to less elsewhere.
func checkSums(t *testing.T, s impl.JobShop, orders [][]int, p handPlan) {
	t.Helper()
	onPath := map[int]bool{}
	for _, i := range slices.Concat(p.critical...) {
		onPath[i] = true
	}
	heads, one := impl.HeadsOf(s, orders)
	tails, two := impl.OpTails(s, orders)
	length, three := impl.ShopLength(s, orders)
	if !one || !two || !three || len(heads) != len(tails) {
		t.Fatalf("heads and tails of %v, %v: %v, %v", s, orders, heads, tails)
	}
	for i := range heads {
		if sum := heads[i] + tails[i]; sum > length || onPath[i] != (sum == length) {
			t.Errorf("%v, %v: the Op %d has the head %d and the tail %d, the length is %d", s, orders, i, heads[i], tails[i], length)
		}
	}
}

// checkSwaps compares SwapOps for all Machines and places with the document, and checks that critical ones never fail.
func checkSwaps(t *testing.T, s impl.JobShop, orders [][]int) (swaps, cyclic int) {
	t.Helper()
	p := planByHand(s, orders)
	critical := swapsByHand(p, orders)
	for machine := -1; machine <= s.Machines; machine++ {
		for place := -1; place <= 4; place++ {
			there := p.acyclic && machine >= 0 && machine < s.Machines && place >= 0 && place+1 < len(orders[machine])
			want, ok := [][]int{}, false
			if there {
				want = swappedOps(orders, machine, place)
				if ok = planByHand(s, want).acyclic; !ok {
					want = nil
					cyclic++
				}
				swaps++
			}
			other, fine := impl.SwapOps(s, orders, machine, place)
			if fine != ok || !equalLists(other, want) {
				t.Errorf("SwapOps(%v, %v, %d, %d) = %v, %v, not %v", s, orders, machine, place, other, fine, want)
			}
			if there && !ok && slices.Contains(critical, [2]int{machine, place}) {
				t.Errorf("%v, %v: the critical swap at %d, %d makes it cyclic", s, orders, machine, place)
			}
		}
	}
	return swaps, cyclic
}

// TestPromise9SelectionsOfSmallJobShops also counts how often there are several critical paths, some of one Op, and blocks of one Op and of all Ops of a Machine.
func TestPromise9SelectionsOfSmallJobShops(t *testing.T) {
	several, single, whole, cyclic := 0, 0, 0, 0
	check := func(s impl.JobShop) {
		for _, orders := range selectionsByHand(s) {
			p := checkSelection(t, s, orders)
			if !p.acyclic {
				cyclic++
			}
			if len(p.critical) > 1 {
				several++
			}
			if len(p.firstPath()) == 1 {
				single++
			}
			for _, block := range blocksOfPath(s, p.firstPath()) {
				if len(block) > 1 && len(block) == len(opsOnByHand(s, opsByHand(s)[block[0]].machine)) {
					whole++
				}
			}
			checkSwaps(t, s, orders)
		}
	}
	everyJobShop(1, 4, []int{1, 3}, check)
	everyJobShop(2, 2, []int{1, 2}, check)
	everyJobShop(2, 3, []int{2}, check)
	everyJobShop(3, 2, []int{1}, check)
	if several < 500 || single < 40 || whole < 1000 || cyclic < 200 {
		t.Errorf("%d selections with several critical paths, %d with one Op, %d with whole blocks, %d not acyclic", several, single, whole, cyclic)
	}
}

func TestPromise9SelectionsOfAllJobShops(t *testing.T) {
	swaps, cyclic, critical := 0, 0, 0
	for number, s := range allJobShops() {
		for _, orders := range someSelections(number+100, s, 40) {
			p := checkSelection(t, s, orders)
			critical += len(swapsByHand(p, orders))
			more, cycles := checkSwaps(t, s, orders)
			swaps, cyclic = swaps+more, cyclic+cycles
		}
	}
	if swaps < 1000 || cyclic < 100 || critical < 1000 {
		t.Errorf("%d swaps, of which %d make cycles and %d are critical", swaps, cyclic, critical)
	}
}

// TestPromise9HeadsAreTheLeastStarts compares heads and lengths with all starts.
func TestPromise9HeadsAreTheLeastStarts(t *testing.T) {
	check := func(s impl.JobShop) {
		below := added(opTimes(s)) + 1
		for _, orders := range selectionsByHand(s) {
			length, ok := impl.ShopLength(s, orders)
			heads, fine := impl.HeadsOf(s, orders)
			if !ok || !fine {
				continue
			}
			least, starts := math.MaxInt, slices.Repeat([]int{math.MaxInt}, len(heads))
			everyStart(s, leadsByHand(s, orders), below, func(list []int) {
				least = min(least, lastEnd(s, list))
				for i, start := range list {
					starts[i] = min(starts[i], start)
				}
			})
			if !slices.Equal(heads, starts) || length != least {
				t.Errorf("heads and length of %v, %v: %v, %d, but starts are %v and the end is %d", s, orders, heads, length, starts, least)
			}
		}
	}
	everyJobShop(1, 3, []int{1, 2}, check)
	everyJobShop(2, 2, []int{1, 2}, check)
	everyJobShop(3, 1, []int{1, 2}, check)
}

// TestPromise9TailsAreWhatWaits compares tails with all starts: the latest one of an Op, if all has to end at some time, is earlier than that by its tail.
func TestPromise9TailsAreWhatWaits(t *testing.T) {
	check := func(s impl.JobShop) {
		below := added(opTimes(s)) + 1
		for _, orders := range selectionsByHand(s) {
			tails, ok := impl.OpTails(s, orders)
			if !ok {
				continue
			}
			latest := slices.Repeat([]int{0}, len(tails))
			everyStart(s, leadsByHand(s, orders), below, func(list []int) {
				if lastEnd(s, list) > below {
					return
				}
				for i, start := range list {
					latest[i] = max(latest[i], start)
				}
			})
			for i, tail := range tails {
				if latest[i] != below-tail {
					t.Errorf("OpTails(%v, %v) = %v, but the Op %d may start at %d to end at %d", s, orders, tails, i, latest[i], below)
				}
			}
		}
	}
	everyJobShop(2, 2, []int{1, 2}, check)
	everyJobShop(1, 3, []int{1, 2}, check)
}

func TestPromise9KnownPlans(t *testing.T) {
	two := jobShop(2, []impl.Op{op(0, 3), op(1, 2)}, []impl.Op{op(1, 2), op(0, 4)})
	for _, c := range []struct {
		s            impl.JobShop
		orders       [][]int
		heads, tails []int
		length       int
		path         []int
		blocks       [][]int
		swaps        [][2]int
	}{
		// no Routes, no Ops, one Op
		{impl.JobShop{Machines: 1}, [][]int{{}}, nil, nil, 0, nil, nil, nil},
		{jobShop(2, nil, nil), [][]int{nil, nil}, nil, nil, 0, nil, nil, nil},
		{jobShop(2, nil, []impl.Op{op(1, 20)}), [][]int{nil, {0}}, []int{0}, []int{20}, 20, []int{0}, [][]int{{0}}, nil},
		{two, [][]int{{0, 3}, {2, 1}}, []int{0, 3, 0, 3}, []int{7, 2, 6, 4}, 7, []int{0, 3}, [][]int{{0, 3}}, [][2]int{{0, 0}}},
		{two, [][]int{{3, 0}, {2, 1}}, []int{6, 9, 0, 2}, []int{5, 2, 11, 9}, 11, []int{2, 3, 0, 1}, [][]int{{2}, {3, 0}, {1}}, [][2]int{{0, 0}}},
		{two, [][]int{{0, 3}, {1, 2}}, []int{0, 3, 5, 7}, []int{11, 8, 6, 4}, 11, []int{0, 1, 2, 3}, [][]int{{0}, {1, 2}, {3}}, [][2]int{{1, 0}}},
		// one Machine: one block of all of its Ops
		{lineShop(1, 4, 20), [][]int{{2, 0, 3, 1}}, []int{20, 60, 0, 40}, []int{60, 20, 80, 40}, 80, []int{2, 0, 3, 1}, [][]int{{2, 0, 3, 1}}, [][2]int{{0, 0}, {0, 1}, {0, 2}}},
		// nothing waits for a Machine: all Routes are critical, the first one first
		{jobShop(4, []impl.Op{op(2, 1), op(3, 2)}, []impl.Op{op(0, 2), op(1, 1)}), [][]int{{2}, {3}, {0}, {1}}, []int{0, 1, 0, 2}, []int{3, 2, 3, 1}, 3, []int{0, 1}, [][]int{{0}, {1}}, nil},
		// one critical path of one Op, behind others that are not critical
		{jobShop(3, []impl.Op{op(0, 1), op(1, 2)}, []impl.Op{op(2, 20)}), [][]int{{0}, {1}, {2}}, []int{0, 1, 0}, []int{3, 2, 20}, 20, []int{2}, [][]int{{2}}, nil},
		// two critical paths, the second one of which has the only two Ops of one Machine next to each other
		{jobShop(2, []impl.Op{op(0, 2), op(1, 2)}, []impl.Op{op(0, 2)}), [][]int{{0, 2}, {1}}, []int{0, 2, 2}, []int{4, 2, 2}, 4, []int{0, 1}, [][]int{{0}, {1}}, [][2]int{{0, 0}}},
		// two Ops of a Machine are both critical, but a longer way than that of the Machine leads from one to the other
		{jobShop(2, []impl.Op{op(0, 1), op(1, 5)}, []impl.Op{op(1, 1), op(0, 1)}), [][]int{{0, 3}, {1, 2}}, []int{0, 1, 6, 7}, []int{8, 7, 2, 1}, 8, []int{0, 1, 2, 3}, [][]int{{0}, {1, 2}, {3}}, [][2]int{{1, 0}}},
	} {
		heads, _ := impl.HeadsOf(c.s, c.orders)
		tails, _ := impl.OpTails(c.s, c.orders)
		length, _ := impl.ShopLength(c.s, c.orders)
		path, _ := impl.CriticalPath(c.s, c.orders)
		blocks, _ := impl.CriticalBlocks(c.s, c.orders)
		swaps, ok := impl.CriticalSwaps(c.s, c.orders)
		if !ok || !slices.Equal(heads, c.heads) || !slices.Equal(tails, c.tails) || length != c.length || !slices.Equal(path, c.path) || !equalLists(blocks, c.blocks) || !slices.Equal(swaps, c.swaps) {
			t.Errorf("%v, %v: %v, %v, %d, %v, %v, %v", c.s, c.orders, heads, tails, length, path, blocks, swaps)
		}
	}
}

func TestPromise9KnownSwaps(t *testing.T) {
	s := jobShop(2, []impl.Op{op(0, 3), op(1, 2)}, []impl.Op{op(1, 2), op(0, 4)}, []impl.Op{op(0, 1)})
	orders := [][]int{{0, 3, 4}, {2, 1}}
	for _, c := range []struct {
		machine, place int
		want           [][]int
	}{
		// the first place and the last but one
		{0, 0, [][]int{{3, 0, 4}, {2, 1}}}, {0, 1, [][]int{{0, 4, 3}, {2, 1}}}, {1, 0, [][]int{{0, 3, 4}, {1, 2}}},
		// behind the last place, and places and Machines that do not exist
		{0, 2, nil}, {1, 1, nil}, {0, -1, nil}, {0, 3, nil}, {2, 0, nil}, {-1, 0, nil}, {math.MaxInt, 0, nil}, {math.MinInt, 0, nil}, {0, math.MaxInt, nil}, {0, math.MinInt, nil},
	} {
		other, ok := impl.SwapOps(s, orders, c.machine, c.place)
		if ok != (c.want != nil) || !equalLists(other, c.want) {
			t.Errorf("SwapOps at %d, %d = %v, %v, not %v", c.machine, c.place, other, ok, c.want)
		}
	}
	// The Ops 3, 0, 1 and 2 lead back to 3 if 1 and 2 change places, too.
	if other, ok := impl.SwapOps(s, [][]int{{3, 0, 4}, {2, 1}}, 1, 0); ok || len(other) > 0 {
		t.Error("a cycle", other, ok)
	}
	// A selection that is not acyclic may not even be mended.
	if other, ok := impl.SwapOps(s, [][]int{{3, 0, 4}, {1, 2}}, 0, 0); ok || len(other) > 0 {
		t.Error("a cycle before", other, ok)
	}
}

// checkLeaves compares LeavesBlocks of two selections with the document, and returns what it tells.
func checkLeaves(t *testing.T, s impl.JobShop, orders, others [][]int, one, two handPlan) bool {
	t.Helper()
	want := one.acyclic && two.acyclic && leavesByHand(s, blocksOfPath(s, one.firstPath()), others)
	leaves, ok := impl.LeavesBlocks(s, orders, others)
	if ok != (one.acyclic && two.acyclic) || leaves != want {
		t.Errorf("LeavesBlocks(%v, %v, %v) = %v, %v, not %v", s, orders, others, leaves, ok, want)
	}
	if ok && two.length < one.length && !leaves {
		t.Errorf("%v is shorter than %v of %v, but leaves no block", others, orders, s)
	}
	return want
}

func TestPromise9LeftBlocksOfSmallJobShops(t *testing.T) {
	count, leaves := 0, 0
	check := func(s impl.JobShop) {
		all := selectionsByHand(s)
		plans := []handPlan{}
		for _, orders := range all {
			plans = append(plans, planByHand(s, orders))
		}
		for i, orders := range all {
			for j, others := range all {
				count++
				if checkLeaves(t, s, orders, others, plans[i], plans[j]) {
					leaves++
				}
			}
		}
	}
	everyJobShop(1, 4, []int{2}, check)
	everyJobShop(2, 2, []int{1, 3}, check)
	everyJobShop(2, 3, []int{1}, check)
	everyJobShop(3, 2, []int{1}, check)
	check(jobShop(2, []impl.Op{op(0, 3), op(1, 9)}, []impl.Op{op(0, 4), op(1, 1)}, []impl.Op{op(0, 2), op(1, 5)}))
	if leaves < 1000 || count-leaves < 1000 {
		t.Errorf("%d of %d leave blocks", leaves, count)
	}
}

func TestPromise9LeftBlocks(t *testing.T) {
	count, leaves, shorter := 0, 0, 0
	for number, s := range allJobShops() {
		all := someSelections(number+200, s, 30)
		plans := []handPlan{}
		for _, orders := range all {
			plans = append(plans, planByHand(s, orders))
		}
		for i, orders := range all {
			for j, others := range all {
				if (i+j)%3 > 0 && i != j {
					continue
				}
				count++
				if checkLeaves(t, s, orders, others, plans[i], plans[j]) {
					leaves++
				}
				if plans[i].acyclic && plans[j].acyclic && plans[j].length < plans[i].length {
					shorter++
				}
			}
		}
	}
	if leaves < 1000 || count-leaves < 1000 || shorter < 500 {
		t.Errorf("%d of %d leave blocks, %d are shorter", leaves, count, shorter)
	}
}

func TestPromise9KnownLeftBlocks(t *testing.T) {
	// The Ops 0, 1, 2 and 3 are one block.
	s := lineShop(1, 4, 5)
	for _, c := range []struct {
		orders, others []int
		leaves         bool
	}{
		{[]int{0, 1, 2, 3}, []int{0, 1, 2, 3}, false}, {[]int{0, 1, 2, 3}, []int{0, 2, 1, 3}, false},
		{[]int{0, 1, 2, 3}, []int{1, 0, 2, 3}, true}, {[]int{0, 1, 2, 3}, []int{0, 1, 3, 2}, true}, {[]int{0, 1, 2, 3}, []int{3, 1, 2, 0}, true}, {[]int{2, 0, 3, 1}, []int{2, 3, 0, 1}, false}, {[]int{2, 0, 3, 1}, []int{2, 0, 1, 3}, true},
	} {
		if leaves, ok := impl.LeavesBlocks(s, [][]int{c.orders}, [][]int{c.others}); !ok || leaves != c.leaves {
			t.Errorf("LeavesBlocks of %v, %v = %v, %v", c.orders, c.others, leaves, ok)
		}
	}
	// The Ops 0 and 1 are the one block: the order of the Ops 2 and 3 is of no matter.
	three := jobShop(2, []impl.Op{op(0, 9)}, []impl.Op{op(0, 9)}, []impl.Op{op(1, 1)}, []impl.Op{op(1, 2)})
	for _, c := range []struct {
		orders, others [][]int
		leaves         bool
	}{
		{[][]int{{0, 1}, {2, 3}}, [][]int{{0, 1}, {3, 2}}, false}, {[][]int{{0, 1}, {2, 3}}, [][]int{{1, 0}, {2, 3}}, true}, {[][]int{{1, 0}, {2, 3}}, [][]int{{0, 1}, {3, 2}}, true},
	} {
		if leaves, ok := impl.LeavesBlocks(three, c.orders, c.others); !ok || leaves != c.leaves {
			t.Errorf("LeavesBlocks of %v, %v = %v, %v", c.orders, c.others, leaves, ok)
		}
	}
}
