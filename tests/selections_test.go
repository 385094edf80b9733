package tests

import (
	"math"
	"slices"
	"testing"

	"loop.example/g01103/impl"
)

// checkBestSelection compares the best selection with all of them, and returns how many are best.
func checkBestSelection(t *testing.T, s impl.JobShop) int {
	t.Helper()
	want, least, count := bestSelectionByHand(s)
	best, ok := impl.BestSelection(s)
	if !ok || !equalLists(best, want) {
		t.Errorf("BestSelection(%v) = %v, %v, not %v", s, best, ok, want)
	}
	if length, ok := impl.ShopLength(s, best); !ok || length != least {
		t.Errorf("BestSelection(%v) = %v has the length %d, %v, but one has %d", s, best, length, ok, least)
	}
	for machine := range s.Machines {
		if bound, ok := impl.OneMachineBound(s, machine); !ok || bound > least {
			t.Errorf("OneMachineBound(%v, %d) = %d, %v, but a selection has %d", s, machine, bound, ok, least)
		}
	}
	return count
}

func TestPromise9BestSelections(t *testing.T) {
	several, single := 0, 0
	check := func(s impl.JobShop) {
		if checkBestSelection(t, s) > 1 {
			several++
		} else {
			single++
		}
	}
	for _, s := range allJobShops() {
		check(s)
	}
	everyJobShop(1, 4, []int{1, 2}, check)
	everyJobShop(2, 2, []int{1, 2, 5}, check)
	everyJobShop(2, 3, []int{1, 2}, check)
	everyJobShop(3, 2, []int{1, 3}, check)
	for number := range 100 {
		check(madeJobShop(number+10000, 2+number%3, 3, 3, 20))
	}
	if several < 1000 || single < 100 {
		t.Errorf("%d JobShops have several best selections, %d have one", several, single)
	}
}

// TestPromise9NoScheduleIsShorter compares the length of the best selection with all starts with which no Machine does two Ops at the same time.
func TestPromise9NoScheduleIsShorter(t *testing.T) {
	check := func(s impl.JobShop) {
		best, ok := impl.BestSelection(s)
		length, fine := impl.ShopLength(s, best)
		least := math.MaxInt
		everyStart(s, leadsOfArcs(s, nil), length+1, func(starts []int) {
			if areApartByHand(s, starts) {
				least = min(least, lastEnd(s, starts))
			}
		})
		if !ok || !fine || least != length {
			t.Errorf("BestSelection(%v) = %v has the length %d, but all can be done until %d", s, best, length, least)
		}
	}
	everyJobShop(1, 3, []int{1, 2}, check)
	everyJobShop(1, 4, []int{1}, check)
	everyJobShop(2, 2, []int{1, 2}, check)
	everyJobShop(3, 2, []int{1}, check)
	everyJobShop(2, 3, []int{1}, check)
	check(jobShop(2, []impl.Op{op(0, 3), op(1, 1)}, []impl.Op{op(1, 1), op(0, 3)}, []impl.Op{op(1, 2)}))
	check(jobShop(3, []impl.Op{op(0, 2), op(1, 1)}, []impl.Op{op(1, 2), op(2, 1)}, []impl.Op{op(2, 2)}))
}

// TestPromise9MostSelections takes the JobShops with the most selections, which are no more than MaxSelections, so that BestSelection never fails for a JobShop.
func TestPromise9MostSelections(t *testing.T) {
	most := 0
	for _, s := range []impl.JobShop{
		lineShop(3, 4, 20), turningShop(3, 4, 1), meetingShop(3, 4, 7), {Machines: 4, Routes: turningShop(3, 4, 3).Routes}, lineShop(4, 3, 1), turningShop(4, 3, 20),
		jobShop(4, []impl.Op{op(3, 1)}, []impl.Op{op(0, 5), op(1, 9), op(3, 2)}, []impl.Op{op(1, 5), op(0, 8), op(3, 4)}, []impl.Op{op(1, 2), op(3, 9), op(0, 4)}),
	} {
		selections := selectionsByHand(s)
		most = max(most, len(selections))
		if len(selections) > impl.MaxSelections {
			t.Errorf("%v has %d selections", s, len(selections))
		}
		if best, ok := impl.BestSelection(s); !ok || !isSelectionByHand(s, best) {
			t.Errorf("BestSelection(%v) = %v, %v", s, best, ok)
		}
		if proof, ok := impl.FindShopProof(s); ok != (len(proof) > 0) {
			t.Errorf("FindShopProof(%v) has %d pairs, %v", s, len(proof), ok)
		}
	}
	if most != 13824 {
		t.Error("a JobShop has", most, "selections")
	}
}

func TestPromise9KnownBestSelections(t *testing.T) {
	for _, c := range []struct {
		s    impl.JobShop
		want [][]int
	}{
		{impl.JobShop{Machines: 1}, [][]int{{}}}, {impl.JobShop{Machines: 4}, [][]int{{}, {}, {}, {}}}, {jobShop(2, nil, nil), [][]int{{}, {}}},
		{jobShop(3, nil, []impl.Op{op(1, 20)}), [][]int{{}, {0}, {}}},
		// all selections are best
		{lineShop(1, 4, 1), [][]int{{0, 1, 2, 3}}}, {lineShop(2, 1, 4), [][]int{{0}, {1}}},
		{jobShop(2, []impl.Op{op(0, 3), op(1, 2)}, []impl.Op{op(1, 2), op(0, 4)}), [][]int{{0, 3}, {2, 1}}},
		// the job with the long second Op goes first
		{jobShop(2, []impl.Op{op(0, 3), op(1, 1)}, []impl.Op{op(0, 1), op(1, 20)}), [][]int{{2, 0}, {3, 1}}},
		{jobShop(2, []impl.Op{op(0, 3), op(1, 2)}, []impl.Op{op(0, 1), op(1, 4)}, []impl.Op{op(0, 2), op(1, 2)}), [][]int{{2, 0, 4}, {3, 1, 5}}},
	} {
		best, ok := impl.BestSelection(c.s)
		if !ok || !equalLists(best, c.want) {
			t.Errorf("BestSelection(%v) = %v, %v, not %v", c.s, best, ok, c.want)
		}
	}
}

// checkPriorities compares what a rule makes with the document.
func checkPriorities(t *testing.T, s impl.JobShop, rule int) *handMaker {
	t.Helper()
	h := prioritiesByHand(s, rule)
	orders, ok := impl.PriorityOrders(s, rule)
	if !ok || !equalLists(orders, h.orders) {
		t.Errorf("PriorityOrders(%v, %d) = %v, %v, not %v", s, rule, orders, ok, h.orders)
	}
	heads, ok := impl.HeadsOf(s, orders)
	if !ok || !slices.Equal(heads, h.starts) {
		t.Errorf("PriorityOrders(%v, %d) = %v has the heads %v, %v, not %v", s, rule, orders, heads, ok, h.starts)
	}
	return h
}

func TestPromise9Priorities(t *testing.T) {
	for _, rule := range shopRules {
		ends, rules, best, count := 0, 0, 0, 0
		check := func(s impl.JobShop) {
			h := checkPriorities(t, s, rule)
			ends, rules, count = ends+h.tiedEnds, rules+h.tiedRules, count+1
			orders, ok := impl.BestSelection(s)
			least, fine := impl.ShopLength(s, orders)
			length := lastEnd(s, h.starts)
			if !ok || !fine || length < least {
				t.Errorf("PriorityOrders(%v, %d) has the length %d, but BestSelection %d", s, rule, length, least)
			}
			if length == least {
				best++
			}
		}
		for _, s := range allJobShops() {
			check(s)
		}
		everyJobShop(1, 4, []int{1, 2, 3}, check)
		everyJobShop(2, 2, []int{1, 2, 3}, check)
		everyJobShop(2, 3, []int{1, 2}, check)
		everyJobShop(3, 2, []int{1, 2}, check)
		for number := range 200 {
			check(madeJobShop(number+11000, 2+number%3, 4, 3, []int{3, 20}[number%2]))
		}
		if ends < 1000 || rules < 1000 || best < 1000 || count-best < 100 {
			t.Errorf("rule %d: %d tied ends, %d tied rules, %d of %d are best", rule, ends, rules, best, count)
		}
	}
}

func TestPromise9KnownPriorities(t *testing.T) {
	two := jobShop(2, []impl.Op{op(0, 3), op(1, 2)}, []impl.Op{op(1, 2), op(0, 4)})
	wide := jobShop(2, []impl.Op{op(0, 2)}, []impl.Op{op(0, 3), op(1, 1)}, []impl.Op{op(0, 5)}, []impl.Op{op(0, 1), op(1, 9)})
	for _, c := range []struct {
		s    impl.JobShop
		rule int
		want [][]int
	}{
		{impl.JobShop{Machines: 1}, impl.RuleShort, [][]int{{}}}, {jobShop(2, nil, nil), impl.RuleRest, [][]int{{}, {}}},
		{two, impl.RuleShort, [][]int{{0, 3}, {2, 1}}}, {two, impl.RuleLong, [][]int{{3, 0}, {2, 1}}}, {two, impl.RuleRest, [][]int{{0, 3}, {2, 1}}},
		// the least Time, the greatest one, the greatest rest: 2, 4, 5 and 10
		{wide, impl.RuleShort, [][]int{{4, 0, 1, 3}, {2, 5}}}, {wide, impl.RuleLong, [][]int{{3, 1, 0, 4}, {2, 5}}}, {wide, impl.RuleRest, [][]int{{4, 3, 1, 0}, {5, 2}}},
		// equal by each rule: the least numbers come first
		{lineShop(1, 4, 20), impl.RuleLong, [][]int{{0, 1, 2, 3}}}, {lineShop(2, 3, 1), impl.RuleShort, [][]int{{0, 2, 4}, {1, 3, 5}}}, {lineShop(2, 3, 1), impl.RuleRest, [][]int{{0, 2, 4}, {1, 3, 5}}},
		// the Op 2 could not start before the Op 0 ends, though it is the longest one
		{jobShop(2, []impl.Op{op(0, 3)}, []impl.Op{op(1, 3), op(0, 9)}), impl.RuleLong, [][]int{{0, 2}, {1}}},
		// here it could, so the Op 0 waits
		{jobShop(2, []impl.Op{op(0, 3)}, []impl.Op{op(1, 2), op(0, 9)}), impl.RuleLong, [][]int{{2, 0}, {1}}},
		// both first Ops end at 2: that of the Machine 1 is the less one, so that Machine is looked at first
		{jobShop(2, []impl.Op{op(1, 2), op(0, 1)}, []impl.Op{op(0, 2), op(1, 9)}), impl.RuleShort, [][]int{{2, 1}, {0, 3}}},
	} {
		orders, ok := impl.PriorityOrders(c.s, c.rule)
		if !ok || !equalLists(orders, c.want) {
			t.Errorf("PriorityOrders(%v, %d) = %v, %v, not %v", c.s, c.rule, orders, ok, c.want)
		}
	}
	for _, rule := range []int{0, 4, -1, 5, -3, math.MinInt, math.MaxInt} {
		for _, s := range []impl.JobShop{{Machines: 1}, jobShop(2, nil), two, wide} {
			if orders, ok := impl.PriorityOrders(s, rule); ok || len(orders) > 0 {
				t.Errorf("PriorityOrders(%v, %d) = %v, %v", s, rule, orders, ok)
			}
		}
	}
}
