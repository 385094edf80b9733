package tests

import (
	"fmt"
	"math"
	"slices"
	"testing"

	"loop.example/g01103/impl"
)

// jobShopLists are what functions of chapter 9 take beside numbers; the pairs are arcs and a proof.
type jobShopLists struct {
	shop   impl.JobShop
	orders [][]int
	others [][]int
	arcs   [][2]int
	proof  [][2]int
}

// roomyPairs is a copy of a list of pairs behind which something is written.
func roomyPairs(list [][2]int) [][2]int {
	return append(slices.Clone(list), [2]int{99, 88})[:len(list)]
}

// withRoom returns copies of the lists behind each of which something is written.
func (l jobShopLists) withRoom() jobShopLists {
	routes := [][]impl.Op{}
	for _, route := range l.shop.Routes {
		routes = append(routes, append(slices.Clone(route), op(22, 11))[:len(route)])
	}
	routes = append(routes, []impl.Op{op(44, 33)})[:len(routes)]
	return jobShopLists{impl.JobShop{Machines: l.shop.Machines, Routes: routes}, roomyLists(l.orders), roomyLists(l.others), roomyPairs(l.arcs), roomyPairs(l.proof)}
}

// text tells of the lists that withRoom returned, and of what is written behind them.
func (l jobShopLists) text() string {
	behind := []any{}
	for _, route := range l.shop.Routes {
		behind = append(behind, route[len(route):len(route)+1])
	}
	for _, list := range slices.Concat(l.orders, l.others) {
		behind = append(behind, list[len(list):len(list)+1])
	}
	return fmt.Sprint(l.shop.Machines, l.shop.Routes[:len(l.shop.Routes)+1], l.orders[:len(l.orders)+1], l.others[:len(l.others)+1], l.arcs[:len(l.arcs)+1], l.proof[:len(l.proof)+1], behind)
}

// answersOfJobShops calls each function of chapter 9; the first number is a Machine, a rule or a value, the second one is a place.
func answersOfJobShops(l jobShopLists) caller {
	return func(_ []impl.Job, _ []int, a, b int) map[string]answer {
		answers, note := newAnswers()
		note("IsJobShop", impl.IsJobShop(l.shop))
		ops, ok := impl.OpsOf(l.shop)
		note("OpsOf", ok, ops)
		on, ok := impl.OpsOn(l.shop, a)
		note("OpsOn", ok, on)
		selection, ok := impl.IsSelection(l.shop, l.orders)
		note("IsSelection", ok, selection)
		acyclic, ok := impl.IsAcyclic(l.shop, l.orders)
		note("IsAcyclic", ok, acyclic)
		heads, ok := impl.HeadsOf(l.shop, l.orders)
		note("HeadsOf", ok, heads)
		tails, ok := impl.OpTails(l.shop, l.orders)
		note("OpTails", ok, tails)
		length, ok := impl.ShopLength(l.shop, l.orders)
		note("ShopLength", ok, length)
		path, ok := impl.CriticalPath(l.shop, l.orders)
		note("CriticalPath", ok, path)
		blocks, ok := impl.CriticalBlocks(l.shop, l.orders)
		note("CriticalBlocks", ok, blocks)
		swaps, ok := impl.CriticalSwaps(l.shop, l.orders)
		note("CriticalSwaps", ok, swaps)
		other, ok := impl.SwapOps(l.shop, l.orders, a, b)
		note("SwapOps", ok, other)
		leaves, ok := impl.LeavesBlocks(l.shop, l.orders, l.others)
		note("LeavesBlocks", ok, leaves)
		made, ok := impl.PriorityOrders(l.shop, a)
		note("PriorityOrders", ok, made)
		best, ok := impl.BestSelection(l.shop)
		note("BestSelection", ok, best)
		bound, ok := impl.OneMachineBound(l.shop, a)
		note("OneMachineBound", ok, bound)
		least, ok := impl.ArcsBound(l.shop, l.arcs)
		note("ArcsBound", ok, least)
		is, ok := impl.IsShopProof(l.shop, a, l.proof)
		note("IsShopProof", ok, is)
		proof, ok := impl.FindShopProof(l.shop)
		note("FindShopProof", ok, proof)
		return answers
	}
}

// These are the functions that fail if the JobShop, the selection, or one of both selections, is not valid.
var (
	failWithoutJobShop   = []string{"IsJobShop", "OpsOf", "OpsOn", "IsSelection", "IsAcyclic", "HeadsOf", "OpTails", "ShopLength", "CriticalPath", "CriticalBlocks", "CriticalSwaps", "SwapOps", "LeavesBlocks", "PriorityOrders", "BestSelection", "OneMachineBound", "ArcsBound", "IsShopProof", "FindShopProof"}
	failWithoutAcyclic   = []string{"HeadsOf", "OpTails", "ShopLength", "CriticalPath", "CriticalBlocks", "CriticalSwaps", "SwapOps", "LeavesBlocks"}
	failWithoutSelection = append(slices.Clone(failWithoutAcyclic), "IsAcyclic")
	failWithoutMachine   = []string{"OpsOn", "OneMachineBound", "SwapOps"}
)

// checkTotalInJobShops checks of all functions of chapter 9 what checkTotal does, and that no list is changed; if some functions are named, that just these fail.
func checkTotalInJobShops(t *testing.T, l jobShopLists, a, b int, fail []string) {
	t.Helper()
	given := l.withRoom()
	kept := given.text()
	call := answersOfJobShops(given)
	checkTotal(t, call, nil, nil, a, b)
	if text := given.text(); text != kept {
		t.Errorf("%.300s with %d, %d was changed to %.300s", kept, a, b, text)
	}
	if fail == nil {
		return
	}
	for name, got := range call(nil, nil, a, b) {
		if failed := slices.Contains(fail, name); failed == got.ok || failed && !nothing(got.results) {
			t.Errorf("%s of %.300v, %d, %d: %v", name, l, a, b, got)
		}
	}
}

// listsOfJobShop are two acyclic selections, arcs and a proof of a JobShop.
func listsOfJobShop(number int, s impl.JobShop) jobShopLists {
	next := drawer(number)
	l := jobShopLists{shop: s, orders: doneSelection(next, s), others: doneSelection(next, s), proof: [][2]int{branchEnd}}
	for _, order := range l.orders {
		l.arcs = append(l.arcs, chainOf(order)...)
	}
	return l
}

// oddPairs are lists of pairs of all kinds.
func oddPairs() [][][2]int {
	return [][][2]int{
		nil, {}, {{0, 1}}, {{-1, -1}}, {{0, 0}}, {{1, 0}, {0, 1}}, {{math.MinInt, math.MaxInt}}, {{math.MaxInt, math.MaxInt}, {-1, -1}}, {{64, 65}}, {{-1, 0}, {0, -1}},
		slices.Repeat([][2]int{{0, 1}}, 800), slices.Repeat([][2]int{{0, 2}}, 801), slices.Repeat([][2]int{branchEnd}, 800), make([][2]int, 5000),
	}
}

func TestPromise13JobShopsOfAllKinds(t *testing.T) {
	_, nested := oddLists()
	pairs := oddPairs()
	numbers := []int{math.MinInt, -1, 0, 1, 2, 3, 4, 5, 12, 64, math.MaxInt - 1, math.MaxInt}
	for number, s := range slices.Concat(noJobShops(), knownJobShops(), longJobShops()[:6]) {
		for k, a := range numbers {
			l := jobShopLists{s, nested[(number+k)%len(nested)], nested[(number+3*k)%len(nested)], pairs[(number+k)%len(pairs)], pairs[(number+5*k)%len(pairs)]}
			checkTotalInJobShops(t, l, a, numbers[(number+5*k)%len(numbers)], nil)
		}
	}
	for number, s := range knownJobShops() {
		if number%3 > 0 {
			continue
		}
		l := listsOfJobShop(number, s)
		for _, orders := range nested {
			checkTotalInJobShops(t, jobShopLists{s, orders, l.others, l.arcs, l.proof}, number%4, 0, nil)
			checkTotalInJobShops(t, jobShopLists{s, l.orders, orders, l.arcs, l.proof}, number%4, 0, nil)
		}
		for k, list := range pairs {
			checkTotalInJobShops(t, jobShopLists{s, l.orders, l.others, list, pairs[(number+k)%len(pairs)]}, number%4, 0, nil)
		}
	}
}

// failingIn tells which functions fail for a valid JobShop and its lists with a Machine, rule or value and a place.
func failingIn(l jobShopLists, a, b int) []string {
	fail := []string{}
	if a < 0 || a >= l.shop.Machines {
		fail = append(fail, failWithoutMachine...)
	} else if b < 0 || b+1 >= len(l.orders[a]) || !planByHand(l.shop, swappedOps(l.orders, a, b)).acyclic {
		fail = append(fail, "SwapOps")
	}
	if a < 1 || a > 3 {
		fail = append(fail, "PriorityOrders")
	}
	return fail
}

// TestPromise13FailuresInJobShops checks for each function that it fails for each argument that is not valid, and for no other reason.
func TestPromise13FailuresInJobShops(t *testing.T) {
	for number, s := range knownJobShops() {
		l := listsOfJobShop(number, s)
		for a := -1; a <= 5; a++ {
			for b := -1; b <= 4; b++ {
				checkTotalInJobShops(t, l, a, b, failingIn(l, a, b))
			}
		}
		// Other lists of pairs make ArcsBound fail, and IsShopProof only if they are too long.
		for _, list := range [][][2]int{{{0, 0}}, {{0, 99}}, {branchEnd}} {
			checkTotalInJobShops(t, jobShopLists{s, l.orders, l.others, list, list}, 1, -1, append(failingIn(l, 1, -1), "ArcsBound"))
		}
		checkTotalInJobShops(t, jobShopLists{s, l.orders, l.others, l.arcs, make([][2]int, 800)}, 1, -1, failingIn(l, 1, -1))
		checkTotalInJobShops(t, jobShopLists{s, l.orders, l.others, l.arcs, make([][2]int, 801)}, 1, -1, append(failingIn(l, 1, -1), "IsShopProof"))
		// Lists that are no selection, as the first one or as the second one.
		for _, orders := range [][][]int{nil, append(copied(l.orders), nil), copied(l.orders)[1:], {{-1}, {}, {}, {}}} {
			if isSelectionByHand(s, orders) {
				continue
			}
			for _, a := range []int{0, 1} {
				fail := failingIn(l, a, -1)
				// IsSelection tells it, so this is no failure.
				checkTotalInJobShops(t, jobShopLists{s, orders, l.others, l.arcs, l.proof}, a, -1, append(slices.Clone(fail), failWithoutSelection...))
				checkTotalInJobShops(t, jobShopLists{s, l.orders, orders, l.arcs, l.proof}, a, -1, append(slices.Clone(fail), "LeavesBlocks"))
			}
		}
		// Selections that are not acyclic.
		for _, orders := range someSelections(number, s, 20) {
			if planByHand(s, orders).acyclic {
				continue
			}
			fail := failingIn(l, 1, -1)
			checkTotalInJobShops(t, jobShopLists{s, orders, l.others, l.arcs, l.proof}, 1, -1, append(slices.Clone(fail), failWithoutAcyclic...))
			checkTotalInJobShops(t, jobShopLists{s, l.orders, orders, l.arcs, l.proof}, 1, -1, append(slices.Clone(fail), "LeavesBlocks"))
		}
	}
	for number, s := range noJobShops() {
		l := listsOfJobShop(number, turningShop(2, 3, 4))
		for _, a := range []int{0, 1, 2} {
			checkTotalInJobShops(t, jobShopLists{s, l.orders, l.others, l.arcs, l.proof}, a, 0, failWithoutJobShop)
			checkTotalInJobShops(t, jobShopLists{shop: s}, a, 0, failWithoutJobShop)
		}
	}
}

// TestPromise13FailuresOfLongProofs checks that FindShopProof alone fails for a proof with more than MaxProof pairs.
func TestPromise13FailuresOfLongProofs(t *testing.T) {
	s := jobShop(3, []impl.Op{op(2, 20), op(0, 4), op(1, 10)}, []impl.Op{op(1, 7), op(2, 17), op(0, 4)}, []impl.Op{op(2, 11), op(0, 5), op(1, 8)}, []impl.Op{op(2, 12), op(0, 2), op(1, 10)})
	l := listsOfJobShop(1, s)
	checkTotalInJobShops(t, l, 2, -1, append(failingIn(l, 2, -1), "FindShopProof"))
}

// TestPromise13ListsOfJobShopsAreApart writes all over results and checks that no argument and no later result shows it.
func TestPromise13ListsOfJobShopsAreApart(t *testing.T) {
	for number, s := range allJobShops() {
		l := listsOfJobShop(number, s)
		kept := fmt.Sprint(l)
		for name, f := range map[string]func() ([]int, bool){
			"OpsOn":        func() ([]int, bool) { return impl.OpsOn(s, s.Machines-1) },
			"HeadsOf":      func() ([]int, bool) { return impl.HeadsOf(s, l.orders) },
			"OpTails":      func() ([]int, bool) { return impl.OpTails(s, l.orders) },
			"CriticalPath": func() ([]int, bool) { return impl.CriticalPath(s, l.orders) },
		} {
			checkApart(t, fmt.Sprintf("%s of %v", name, l), f)
			if text := fmt.Sprint(l); text != kept {
				t.Fatalf("%s of %s: a result changed an argument: %s", name, kept, text)
			}
		}
	}
}

func TestPromise13SelectionsAreApart(t *testing.T) {
	for number, s := range allJobShops() {
		l := listsOfJobShop(number, s)
		kept := fmt.Sprint(l)
		for name, f := range map[string]func() ([][]int, bool){
			"CriticalBlocks": func() ([][]int, bool) { return impl.CriticalBlocks(s, l.orders) },
			"PriorityOrders": func() ([][]int, bool) { return impl.PriorityOrders(s, 1+number%3) },
			"BestSelection":  func() ([][]int, bool) { return impl.BestSelection(s) },
			"SwapOps": func() ([][]int, bool) {
				swaps, _ := impl.CriticalSwaps(s, l.orders)
				if len(swaps) == 0 {
					return nil, true
				}
				return impl.SwapOps(s, l.orders, swaps[0][0], swaps[0][1])
			},
		} {
			lists, ok := f()
			want := copied(lists)
			checkSetsApart(t, fmt.Sprintf("%s of %v", name, l), lists)
			clear(lists[:cap(lists)])
			again, fine := f()
			if !ok || !fine || !equalLists(again, want) {
				t.Errorf("%s of %s: a result changed another: %v, not %v", name, kept, again, want)
			}
			if text := fmt.Sprint(l); text != kept {
				t.Fatalf("%s of %s: a result changed an argument: %s", name, kept, text)
			}
		}
	}
}

func TestPromise13PairsOfJobShopsAreApart(t *testing.T) {
	for number, s := range allJobShops() {
		l := listsOfJobShop(number, s)
		kept := fmt.Sprint(l)
		for name, f := range map[string]func() ([][2]int, bool){
			"OpsOf":         func() ([][2]int, bool) { return impl.OpsOf(s) },
			"CriticalSwaps": func() ([][2]int, bool) { return impl.CriticalSwaps(s, l.orders) },
			"FindShopProof": func() ([][2]int, bool) { return impl.FindShopProof(s) },
		} {
			one, ok := f()
			two, fine := f()
			want := slices.Clone(two)
			clear(one[:cap(one)])
			three, fair := f()
			if ok != fine || ok != fair || !slices.Equal(two, want) || !slices.Equal(three, want) {
				t.Errorf("%s of %s: a result changed another: %v, %v, %v", name, kept, want, two, three)
			}
			if text := fmt.Sprint(l); text != kept {
				t.Fatalf("%s of %s: a result changed an argument: %s", name, kept, text)
			}
		}
	}
}
