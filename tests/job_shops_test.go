package tests

import (
	"math"
	"slices"
	"testing"

	"loop.example/g01103/impl"
)

// checkOps compares the Ops of a JobShop, and those of each Machine, with the document.
func checkOps(t *testing.T, s impl.JobShop) {
	t.Helper()
	if !impl.IsJobShop(s) {
		t.Errorf("%v is no JobShop", s)
	}
	want := [][2]int{}
	for _, o := range opsByHand(s) {
		want = append(want, [2]int{o.route, o.index})
	}
	if ops, ok := impl.OpsOf(s); !ok || !slices.Equal(ops, want) {
		t.Errorf("OpsOf(%v) = %v, %v, not %v", s, ops, ok, want)
	}
	for machine := range s.Machines {
		list := opsOnByHand(s, machine)
		if ops, ok := impl.OpsOn(s, machine); !ok || !slices.Equal(ops, list) {
			t.Errorf("OpsOn(%v, %d) = %v, %v, not %v", s, machine, ops, ok, list)
		}
	}
	for _, machine := range []int{-1, s.Machines, s.Machines + 1, -s.Machines, 4, math.MinInt, math.MaxInt} {
		if ops, ok := impl.OpsOn(s, machine); ok || len(ops) > 0 {
			t.Errorf("OpsOn(%v, %d) = %v, %v", s, machine, ops, ok)
		}
	}
}

func TestPromise9OpsOfJobShops(t *testing.T) {
	for _, s := range allJobShops() {
		checkOps(t, s)
	}
	everyJobShop(2, 2, []int{1, 20}, func(s impl.JobShop) { checkOps(t, s) })
	everyJobShop(3, 2, []int{1}, func(s impl.JobShop) { checkOps(t, s) })
	everyJobShop(1, 4, []int{2}, func(s impl.JobShop) { checkOps(t, s) })
}

func TestPromise9KnownOps(t *testing.T) {
	s := jobShop(4, []impl.Op{op(2, 3), op(0, 1)}, nil, []impl.Op{op(0, 20)}, []impl.Op{op(3, 2), op(2, 5), op(0, 1)})
	ops, ok := impl.OpsOf(s)
	if !ok || !slices.Equal(ops, [][2]int{{0, 0}, {0, 1}, {2, 0}, {3, 0}, {3, 1}, {3, 2}}) {
		t.Error("OpsOf", ops, ok)
	}
	for machine, want := range [][]int{{1, 2, 5}, {}, {0, 4}, {3}} {
		if list, ok := impl.OpsOn(s, machine); !ok || !slices.Equal(list, want) {
			t.Errorf("OpsOn %d = %v, %v, not %v", machine, list, ok, want)
		}
	}
}

// TestPromise9ChangedJobShops changes one number of a JobShop, or the number of its Routes or Ops.
func TestPromise9ChangedJobShops(t *testing.T) {
	valid, count := 0, 0
	check := func(s impl.JobShop) {
		want := isJobShopByHand(s)
		if is := impl.IsJobShop(s); is != want {
			t.Errorf("IsJobShop(%v) = %v", s, is)
		}
		if want {
			valid++
		}
		count++
	}
	for _, s := range append(allJobShops(), noJobShops()...) {
		check(s)
		for _, machines := range []int{0, 1, 2, 3, 4, 5, -1} {
			check(impl.JobShop{Machines: machines, Routes: s.Routes})
		}
		if len(s.Routes) > 5 {
			continue
		}
		for number, route := range s.Routes {
			check(impl.JobShop{Machines: s.Machines, Routes: slices.Concat(s.Routes, s.Routes[:number+1])})
			check(impl.JobShop{Machines: s.Machines, Routes: slices.Concat(s.Routes[:number], s.Routes[number+1:])})
			for index := range min(len(route), 5) {
				for _, change := range []int{-1, 1, 2, -20, 20} {
					old := route[index]
					check(changedShop(s, number, index, op(old.Machine+change, old.Time)))
					check(changedShop(s, number, index, op(old.Machine, old.Time+change)))
				}
				longer := copiedShop(s)
				longer.Routes[number] = append(longer.Routes[number], op(index, 1))
				check(longer)
			}
		}
	}
	if valid < 1000 || count-valid < 1000 {
		t.Errorf("%d of %d are JobShops", valid, count)
	}
}

func TestPromise9NoJobShops(t *testing.T) {
	for _, s := range noJobShops() {
		if impl.IsJobShop(s) {
			t.Errorf("%.200v is a JobShop", s)
		}
	}
	// As many Routes, Ops, Machines and Times as there may be.
	for _, s := range []impl.JobShop{lineShop(4, 3, 20), lineShop(3, 4, 20), lineShop(4, 3, 1), {Machines: 4, Routes: make([][]impl.Op, 4)}, {Machines: 1}} {
		if !impl.IsJobShop(s) {
			t.Errorf("%v is no JobShop", s)
		}
	}
}

// checkIsSelection compares whether lists are a selection, and an acyclic one, with the document.
func checkIsSelection(t *testing.T, s impl.JobShop, orders [][]int) (selection, acyclic bool) {
	t.Helper()
	selection = isSelectionByHand(s, orders)
	acyclic = selection && everyTrail(leadsByHand(s, orders), func([]int) {})
	if is, ok := impl.IsSelection(s, orders); !ok || is != selection {
		t.Errorf("IsSelection(%v, %.200v) = %v, %v, not %v", s, orders, is, ok, selection)
	}
	if is, ok := impl.IsAcyclic(s, orders); ok != selection || is != acyclic {
		t.Errorf("IsAcyclic(%v, %.200v) = %v, %v, not %v, %v", s, orders, is, ok, acyclic, selection)
	}
	return selection, acyclic
}

// TestPromise9EachListOfSmallJobShops takes all lists of lists with few numbers, so that some miss an Op, have it twice or have one of another Machine.
func TestPromise9EachListOfSmallJobShops(t *testing.T) {
	lists := [][]int{nil, {}}
	for size := range 4 {
		everyNumbers(size, []int{-1, 0, 1, 2, 3, 4}, func(list []int) { lists = append(lists, slices.Clone(list)) })
	}
	for _, s := range []impl.JobShop{
		{Machines: 1}, jobShop(1, nil, nil), jobShop(1, []impl.Op{op(0, 2)}), lineShop(1, 2, 1), lineShop(1, 3, 4), lineShop(2, 1, 3), lineShop(2, 2, 1), meetingShop(2, 2, 1),
		jobShop(2, []impl.Op{op(1, 2)}), jobShop(2, []impl.Op{op(0, 2)}, []impl.Op{op(1, 2), op(0, 1)}),
	} {
		selections, acyclic := 0, 0
		note := func(orders [][]int) {
			one, two := checkIsSelection(t, s, orders)
			if one {
				selections++
			}
			if two {
				acyclic++
			}
		}
		note(nil)
		for _, one := range lists {
			note([][]int{one})
			for _, other := range lists {
				note([][]int{one, other})
			}
		}
		// For lists of just these lengths, each selection comes once, but an empty list comes three times.
		if want := len(selectionsByHand(s)); selections < want || acyclic == 0 || acyclic > selections {
			t.Errorf("%v: %d selections, of which %d are acyclic, not %d", s, selections, acyclic, want)
		}
	}
}

func TestPromise9SelectionsOfJobShops(t *testing.T) {
	cyclic, none := 0, 0
	for number, s := range allJobShops() {
		for k, orders := range someSelections(number, s, 60) {
			selection, acyclic := checkIsSelection(t, s, orders)
			if !selection {
				t.Errorf("%v is no selection of %v", orders, s)
			}
			if !acyclic {
				cyclic++
			}
			machine := k % s.Machines
			for _, other := range []int{-1, 0, len(opsByHand(s)), k % 12, math.MinInt, math.MaxInt} {
				lists := copied(orders)
				if len(lists[machine]) > 0 {
					lists[machine][k%len(lists[machine])] = other
				}
				longer, shorter := copied(orders), copied(orders)
				longer[machine] = append(longer[machine], other)
				shorter[machine] = shorter[machine][:len(shorter[machine])/2]
				for _, changed := range [][][]int{lists, longer, shorter, append(copied(orders), []int{other}), orders[1:], append(copied(orders), nil)} {
					if one, _ := checkIsSelection(t, s, changed); !one {
						none++
					}
				}
			}
		}
	}
	if cyclic < 500 || none < 5000 {
		t.Errorf("%d selections are not acyclic, %d lists are no selection", cyclic, none)
	}
}

func TestPromise9KnownSelections(t *testing.T) {
	s := meetingShop(2, 2, 3) // the Ops 0 and 3 are on the Machine 0, 1 and 2 on the Machine 1
	for _, c := range []struct {
		orders             [][]int
		selection, acyclic bool
	}{
		{[][]int{{0, 3}, {1, 2}}, true, true}, {[][]int{{0, 3}, {2, 1}}, true, true}, {[][]int{{3, 0}, {2, 1}}, true, true},
		// 0, 1, 2 and 3 lead back to 0
		{[][]int{{3, 0}, {1, 2}}, true, false},
		{[][]int{{1, 2}, {0, 3}}, false, false}, {[][]int{{0, 0}, {1, 2}}, false, false}, {[][]int{{0}, {1, 2}}, false, false}, {[][]int{{0, 3}}, false, false}, {[][]int{{0, 3, 3}, {1, 2}}, false, false}, {nil, false, false},
		{[][]int{{0, 3}, {1, 2}, {}}, false, false}, {[][]int{{0, 3}, {1, 2}, nil, nil}, false, false}, {[][]int{{0, 3, 1, 2}, {}}, false, false},
	} {
		is, ok := impl.IsSelection(s, c.orders)
		if !ok || is != c.selection {
			t.Errorf("IsSelection of %v = %v, %v", c.orders, is, ok)
		}
		is, ok = impl.IsAcyclic(s, c.orders)
		if ok != c.selection || is != c.acyclic {
			t.Errorf("IsAcyclic of %v = %v, %v", c.orders, is, ok)
		}
	}
	// Cycles of three Machines, and of Ops of one Route and others alone, are found too.
	three := jobShop(3, []impl.Op{op(0, 1), op(1, 1)}, []impl.Op{op(1, 1), op(2, 1)}, []impl.Op{op(2, 1), op(0, 1)})
	if is, ok := impl.IsAcyclic(three, [][]int{{5, 0}, {1, 2}, {3, 4}}); !ok || is {
		t.Error("a cycle over three Machines", is, ok)
	}
	if is, ok := impl.IsAcyclic(three, [][]int{{0, 5}, {1, 2}, {3, 4}}); !ok || !is {
		t.Error("no cycle over three Machines", is, ok)
	}
}
