package tests

import (
	"fmt"
	"math"
	"slices"
	"testing"

	"loop.example/g01103/impl"
)

// shopLists are the lists that functions of chapter 8 take beside orders.
type shopLists struct {
	shop   [][]int
	stops  []int
	starts [][]int
	plan   []impl.ShopPiece
}

// roomy is a copy of a list behind which something is written.
func roomy(list []int) []int {
	return append(slices.Clone(list), 77)[:len(list)]
}

// roomyLists are copies of lists, behind which and behind each of which something is written.
func roomyLists(lists [][]int) [][]int {
	others := [][]int{}
	for _, list := range lists {
		others = append(others, roomy(list))
	}
	return append(others, []int{66, 55})[:len(lists)]
}

// withRoom returns copies of the lists behind each of which something is written.
func (l shopLists) withRoom() shopLists {
	plan := []impl.ShopPiece{}
	for _, p := range l.plan {
		plan = append(plan, piece(p.Length, roomy(p.Jobs)...))
	}
	return shopLists{roomyLists(l.shop), roomy(l.stops), roomyLists(l.starts), append(plan, piece(44, 33))[:len(plan)]}
}

// text tells of the lists that withRoom returned, and of what is written behind them.
func (l shopLists) text() string {
	jobs := [][]int{}
	for _, p := range l.plan {
		jobs = append(jobs, p.Jobs)
	}
	behind := [][]int{l.stops[len(l.stops) : len(l.stops)+1]}
	for _, list := range slices.Concat(l.shop, l.starts, jobs) {
		behind = append(behind, list[len(list):len(list)+1])
	}
	return fmt.Sprint(l.shop[:len(l.shop)+1], l.stops, l.starts[:len(l.starts)+1], l.plan[:len(l.plan)+1], behind)
}

// answersOfShops calls each function of chapter 8; the jobs and numbers of other chapters are not used.
func answersOfShops(l shopLists) caller {
	return func(_ []impl.Job, order []int, _, _ int) map[string]answer {
		answers, note := newAnswers()
		note("IsShop", impl.IsShop(l.shop))
		ends, ok := impl.FlowEnds(l.shop, order)
		note("FlowEnds", ok, ends)
		span, ok := impl.FlowSpan(l.shop, order)
		note("FlowSpan", ok, span)
		length, ok := impl.StairLength(l.shop, order, l.stops)
		note("StairLength", ok, length)
		stair, ok := impl.LongestStair(l.shop, order)
		note("LongestStair", ok, stair)
		best, least, ok := impl.BestFlow(l.shop)
		note("BestFlow", ok, best, least)
		johnson, ok := impl.JohnsonOrder(l.shop)
		note("JohnsonOrder", ok, johnson)
		sorted, ok := impl.IsJohnsonSorted(l.shop, order)
		note("IsJohnsonSorted", ok, sorted)
		short, ok := impl.MiddleIsShort(l.shop)
		note("MiddleIsShort", ok, short)
		bound, ok := impl.FlowBound(l.shop)
		note("FlowBound", ok, bound)
		load, ok := impl.ShopLoad(l.shop)
		note("ShopLoad", ok, load)
		open, ok := impl.IsOpenSchedule(l.shop, l.starts)
		note("IsOpenSchedule", ok, open)
		starts, ok := impl.OpenSchedule(l.shop)
		note("OpenSchedule", ok, starts)
		plan, ok := impl.PiecePlan(l.shop)
		note("PiecePlan", ok, plan)
		pieces, ok := impl.IsPiecePlan(l.shop, l.plan)
		note("IsPiecePlan", ok, pieces)
		return answers
	}
}

// failWithout tells which functions fail for a valid shop, by its jobs and machines.
func failWithout(shop [][]int) []string {
	fail := []string{}
	if len(shop) == 0 {
		fail = append(fail, "StairLength", "LongestStair")
	} else if len(shop[0]) != 2 {
		fail = append(fail, "JohnsonOrder", "IsJohnsonSorted", "OpenSchedule")
	}
	if len(shop) > 0 && len(shop[0]) != 3 {
		fail = append(fail, "MiddleIsShort")
	}
	if len(shop) > 6 {
		fail = append(fail, "PiecePlan")
	}
	return fail
}

// These are the functions that fail if the shop, or the order, is not valid.
var (
	failWithoutShop      = []string{"IsShop", "FlowEnds", "FlowSpan", "StairLength", "LongestStair", "BestFlow", "JohnsonOrder", "IsJohnsonSorted", "MiddleIsShort", "FlowBound", "ShopLoad", "IsOpenSchedule", "OpenSchedule", "PiecePlan", "IsPiecePlan"}
	failWithoutShopOrder = []string{"FlowEnds", "FlowSpan", "StairLength", "LongestStair", "IsJohnsonSorted"}
)

// checkTotalInShops checks of all functions of chapter 8 what checkTotal does, and that no list is changed; if some functions are named, that just these fail.
func checkTotalInShops(t *testing.T, l shopLists, order []int, fail []string) {
	t.Helper()
	given := l.withRoom()
	kept := given.text()
	call := answersOfShops(given)
	checkTotal(t, call, nil, order, 0, 0)
	if text := given.text(); text != kept {
		t.Errorf("%.300s with %.200v was changed to %.300s", kept, order, text)
	}
	if fail == nil {
		return
	}
	for name, got := range call(nil, order, 0, 0) {
		if failed := slices.Contains(fail, name); failed == got.ok || failed && !nothing(got.results) {
			t.Errorf("%s of %.200v, %.200v: %v", name, l, order, got)
		}
	}
}

// listsOfShop are a staircase, lists of starts and a plan with pieces of a shop; the starts are those of one machine and job after the other.
func listsOfShop(shop [][]int) shopLists {
	m := machinesOf(shop)
	l := shopLists{shop, slices.Repeat([]int{max(0, len(shop)-1)}, m), copied(shop), []impl.ShopPiece{}}
	now := 0
	for i, times := range shop {
		for machine, time := range times {
			l.starts[i][machine] = now
			now += time
			if time > 0 {
				jobs := slices.Repeat([]int{-1}, m)
				jobs[machine] = i
				l.plan = append(l.plan, piece(time, jobs...))
			}
		}
	}
	return l
}

// oddLists are lists of numbers, and of lists of numbers, of all kinds.
func oddLists() ([][]int, [][][]int) {
	lists := [][]int{nil, {}, {0}, {-1}, {0, 1}, {1, 0}, {0, 0, 0}, upTo(3), upTo(8), upTo(9), {math.MinInt}, {math.MaxInt, math.MinInt}, {math.MinInt, 0, math.MaxInt}, make([]int, 2000)}
	return lists, append(noShops()[:20], nil, [][]int{}, [][]int{{math.MinInt}}, [][]int{{math.MaxInt, math.MinInt}, {math.MinInt, math.MaxInt}}, [][]int{nil, {math.MaxInt}}, sameTimes(2, 2, 1000000), sameTimes(3, 3, 7), make([][]int, 2000), [][]int{make([]int, 2000)})
}

// oddPlans are lists of Pieces of all kinds.
func oddPlans() [][]impl.ShopPiece {
	return [][]impl.ShopPiece{
		nil, {}, {piece(1)}, {piece(1, -1)}, {piece(1, 0, 1, 2)}, {piece(0, 0)}, {piece(math.MinInt, 0)}, {piece(math.MaxInt, 0, 1)}, {piece(math.MaxInt, math.MinInt)}, {piece(1, math.MaxInt, -2, 64)},
		make([]impl.ShopPiece, 40), make([]impl.ShopPiece, 2000), slices.Repeat([]impl.ShopPiece{piece(1000000, -1, 0)}, 40), {{Length: 1, Jobs: make([]int, 2000)}},
	}
}

func TestPromise13ShopsOfAllKinds(t *testing.T) {
	lists, nested := oddLists()
	plans := oddPlans()
	shops := append(noShops(), nested...)
	for _, m := range shopMachines {
		shops = append(shops, shopsOn(m)[:20]...)
	}
	for number, shop := range shops {
		for k, order := range append(lists, upTo(min(len(shop), 20))) {
			l := shopLists{shop, lists[(number+k)%len(lists)], nested[(number+3*k)%len(nested)], plans[(number+5*k)%len(plans)]}
			checkTotalInShops(t, l, order, nil)
		}
	}
	shop := madeShop(71, 3, 2, 0, 9)
	for _, stops := range lists {
		for k, starts := range nested {
			checkTotalInShops(t, shopLists{shop, stops, starts, plans[k%len(plans)]}, upTo(3), nil)
		}
	}
}

// TestPromise13FailuresInShops checks for each function that it fails for each argument that is not valid, and for no other reason.
func TestPromise13FailuresInShops(t *testing.T) {
	for _, m := range shopMachines {
		for _, shop := range allShopsOn(m) {
			checkTotalInShops(t, listsOfShop(shop), upTo(len(shop)), failWithout(shop))
		}
		for _, shop := range [][][]int{nil, sameTimes(1, m, 30), madeShop(72, 3, m, 0, 9), madeShop(73, 6, m, 0, 9), madeShop(74, 7, m, 0, 9)} {
			l := listsOfShop(shop)
			for _, order := range noOrders(len(shop)) {
				checkTotalInShops(t, l, order, append(failWithout(shop), failWithoutShopOrder...))
			}
			for _, stops := range [][]int{nil, upTo(m + 1), slices.Repeat([]int{-1}, m), slices.Repeat([]int{len(shop)}, m)} {
				other := shopLists{shop, stops, l.starts, l.plan}
				checkTotalInShops(t, other, upTo(len(shop)), append(failWithout(shop), "StairLength"))
			}
			// Other starts and Pieces are no reason to fail.
			checkTotalInShops(t, shopLists{shop, l.stops, [][]int{{-1}}, oddPlans()[6]}, upTo(len(shop)), failWithout(shop))
		}
	}
	for _, shop := range noShops() {
		l := listsOfShop(sameTimes(3, 2, 5))
		for _, order := range [][]int{nil, upTo(min(len(shop), 8)), upTo(len(shop))} {
			checkTotalInShops(t, shopLists{shop, l.stops, l.starts, l.plan}, order, failWithoutShop)
			checkTotalInShops(t, shopLists{shop, nil, shop, nil}, order, failWithoutShop)
		}
	}
}

// TestPromise13ListsOfShopsAreApart writes all over results and checks that no argument and no later result shows it.
func TestPromise13ListsOfShopsAreApart(t *testing.T) {
	for _, shop := range allShopsOn(2) {
		n := len(shop)
		order := madeOrder(drawer(n), n)
		keptShop, keptOrder := copied(shop), slices.Clone(order)
		for name, f := range map[string]func() ([]int, bool){
			"LongestStair": func() ([]int, bool) { return impl.LongestStair(shop, order) },
			"JohnsonOrder": func() ([]int, bool) { return impl.JohnsonOrder(shop) },
			"BestFlow": func() ([]int, bool) {
				best, _, ok := impl.BestFlow(shop[:min(n, 5)])
				return best, ok
			},
		} {
			if _, ok := f(); !ok && n == 0 {
				continue // there is no staircase without jobs
			}
			checkApart(t, fmt.Sprintf("%s of %v", name, shop), f)
			if !slices.EqualFunc(shop, keptShop, slices.Equal[[]int]) || !slices.Equal(order, keptOrder) {
				t.Fatalf("%s of %v, %v: a result changed an argument: %v, %v", name, keptShop, keptOrder, shop, order)
			}
		}
	}
}

func TestPromise13SchedulesOfShopsAreApart(t *testing.T) {
	for _, shop := range allShopsOn(2) {
		kept, order := copied(shop), upTo(len(shop))
		for name, f := range map[string]func() ([][]int, bool){
			"FlowEnds":     func() ([][]int, bool) { return impl.FlowEnds(shop, order) },
			"OpenSchedule": func() ([][]int, bool) { return impl.OpenSchedule(shop) },
		} {
			lists, ok := f()
			want := copied(lists)
			checkSetsApart(t, fmt.Sprintf("%s of %v", name, shop), lists)
			again, fine := f()
			if !ok || !fine || !slices.EqualFunc(again, want, slices.Equal[[]int]) || !slices.EqualFunc(shop, kept, slices.Equal[[]int]) {
				t.Errorf("%s of %v: a result changed another, or the shop: %v, %v", name, kept, again, shop)
			}
		}
	}
}

func TestPromise13PiecesAreApart(t *testing.T) {
	for _, m := range shopMachines {
		for _, shop := range append(shopsOn(m), sameTimes(6, m, 30), madeShop(75, 6, m, 0, 30)) {
			kept := copied(shop)
			plan, ok := impl.PiecePlan(shop)
			want, jobs := fmt.Sprint(plan), [][]int{}
			for _, p := range plan {
				jobs = append(jobs, p.Jobs)
			}
			checkSetsApart(t, fmt.Sprintf("PiecePlan of %v", shop), jobs)
			clear(plan[:cap(plan)])
			again, fine := impl.PiecePlan(shop)
			if !ok || !fine || fmt.Sprint(again) != want || !slices.EqualFunc(shop, kept, slices.Equal[[]int]) {
				t.Errorf("PiecePlan of %v: a result changed another, or the shop: %v, not %s", kept, again, want)
			}
		}
	}
}
