package tests

import (
	"slices"
	"testing"

	"loop.example/g01103/impl"
)

// checkLeasts compares the orders with the least worst value and with the least regret with all orders, and returns the regrets of all orders and the places of both orders.
func checkLeasts(t *testing.T, lists [][]impl.Job, orders, rows [][]int, objective int) (regrets [][]int, safe, calm int) {
	t.Helper()
	safe, worst := leastGreatest(rows)
	if order, value, ok := impl.LeastWorst(lists, objective); !ok || value != worst || !slices.Equal(order, orders[safe]) {
		t.Errorf("LeastWorst(%v, %d) = %v, %d, %v, not %v, %d", lists, objective, order, value, ok, orders[safe], worst)
	}
	regrets = regretRows(rows)
	calm, least := leastGreatest(regrets)
	if order, value, ok := impl.LeastRegret(lists, objective); !ok || value != least || !slices.Equal(order, orders[calm]) {
		t.Errorf("LeastRegret(%v, %d) = %v, %d, %v, not %v, %d", lists, objective, order, value, ok, orders[calm], least)
	}
	return regrets, safe, calm
}

// checkRegrets compares the values, the greatest regret and the bound of an order with those of its row, and reports whether several scenarios have this regret.
func checkRegrets(t *testing.T, lists [][]impl.Job, order, row, regrets []int, least, objective int) bool {
	t.Helper()
	if values, ok := impl.ScenarioValues(lists, order, objective); !ok || !slices.Equal(values, row) {
		t.Errorf("ScenarioValues(%v, %v, %d) = %v, %v, not %v", lists, order, objective, values, ok, row)
	}
	greatest := slices.Max(regrets)
	first := slices.Index(regrets, greatest)
	if regret, scenario, ok := impl.GreatestRegret(lists, order, objective); !ok || regret != greatest || scenario != first {
		t.Errorf("GreatestRegret(%v, %v, %d) = %d, %d, %v, not %d, %d", lists, order, objective, regret, scenario, ok, greatest, first)
	}
	if bound, ok := impl.RegretBound(lists, order, objective); !ok || bound != greatest-least {
		t.Errorf("RegretBound(%v, %v, %d) = %d, %v, not %d", lists, order, objective, bound, ok, greatest-least)
	}
	return slices.Contains(regrets[first+1:], greatest)
}

// hasCommonBest tells whether an order is best in all scenarios.
func hasCommonBest(regrets [][]int) bool {
	return slices.ContainsFunc(regrets, func(row []int) bool { return slices.Max(row) == 0 })
}

func TestPromise11Scenarios(t *testing.T) {
	shared, others, later, apart := 0, 0, 0, 0
	for _, lists := range knownScenarios() {
		orders := allOrders(len(lists[0]))
		if !impl.AreScenarios(lists) {
			t.Errorf("AreScenarios(%v) = false", lists)
		}
		for _, objective := range objectives {
			rows := scenarioRows(lists, orders, objective)
			regrets, safe, calm := checkLeasts(t, lists, orders, rows, objective)
			for k := 0; k < len(orders); k += max(1, len(orders)/30) {
				if checkRegrets(t, lists, orders[k], rows[k], regrets[k], slices.Max(regrets[calm]), objective) {
					shared++
				}
				if slices.Max(regrets[k]) > regrets[k][0] {
					later++
				}
			}
			if !hasCommonBest(regrets) {
				others++
			}
			if safe != calm {
				apart++
			}
		}
	}
	if shared < 200 || others < 100 || later < 500 || apart < 50 {
		t.Errorf("scenarios of a kind were rare: %d with the same regret, %d with other best orders, %d with a later one, %d with another least worst order", shared, others, later, apart)
	}
}

func TestPromise11ScenariosOfManyJobs(t *testing.T) {
	seven, eight := allOrders(7), allOrders(8)
	for _, lists := range longScenarios() {
		orders := eight
		if len(lists[0]) == 7 {
			orders = seven
		}
		for _, objective := range objectives {
			rows := scenarioRows(lists, orders, objective)
			regrets, _, calm := checkLeasts(t, lists, orders, rows, objective)
			for _, k := range []int{0, len(orders) / 3, calm, len(orders) - 1} {
				checkRegrets(t, lists, orders[k], rows[k], regrets[k], slices.Max(regrets[calm]), objective)
			}
		}
	}
}

// TestPromise11EqualScenarios checks that equal scenarios are like one of them: its best orders have no regret.
func TestPromise11EqualScenarios(t *testing.T) {
	for _, jobs := range append(frontJobs(), longFrontJobs()...) {
		for size := 1; size <= impl.MaxScenarios; size++ {
			lists := slices.Repeat([][]impl.Job{jobs}, size)
			for _, objective := range objectives {
				if size > 1 && size < impl.MaxScenarios && objective > impl.ObjSum {
					continue
				}
				best, one := impl.BestOrder(jobs, objective)
				value, two := impl.BestValue(jobs, objective)
				safe, worst, three := impl.LeastWorst(lists, objective)
				calm, regret, four := impl.LeastRegret(lists, objective)
				if !one || !two || !three || !four || !slices.Equal(safe, best) || worst != value || !slices.Equal(calm, best) || regret != 0 {
					t.Errorf("%d times %v, objective %d: %v, %d and %v, %d; best is %v, %d", size, jobs, objective, safe, worst, calm, regret, best, value)
				}
			}
		}
	}
}

func TestPromise11KnownScenarios(t *testing.T) {
	two, other := []impl.Job{job(3, 0, 0, 0), job(1, 0, 0, 0)}, []impl.Job{job(1, 0, 0, 0), job(3, 0, 0, 0)}
	early := []impl.Job{job(3, 1, 0, 400), job(2, 1, 0, 300)}
	far := repeated(job(50, 50, 500, 0), 8)
	for _, c := range []struct {
		lists     [][]impl.Job
		order     []int
		objective int
		values    []int
		regret    int
		scenario  int
		bound     int
		calm      []int
		least     int
		safe      []int
		worst     int
	}{
		{[][]impl.Job{nil}, nil, impl.ObjSum, []int{0}, 0, 0, 0, nil, 0, nil, 0},
		{[][]impl.Job{nil, nil, nil, nil}, nil, impl.ObjLateness, []int{0, 0, 0, 0}, 0, 0, 0, nil, 0, nil, 0},
		{[][]impl.Job{two}, []int{0, 1}, impl.ObjSum, []int{7}, 2, 0, 2, []int{1, 0}, 0, []int{1, 0}, 5},
		{[][]impl.Job{two, other}, []int{0, 1}, impl.ObjSum, []int{7, 5}, 2, 0, 0, []int{0, 1}, 2, []int{0, 1}, 7},
		{[][]impl.Job{two, other}, []int{1, 0}, impl.ObjSum, []int{5, 7}, 2, 1, 0, []int{0, 1}, 2, []int{0, 1}, 7},
		// the same greatest regret several times
		{[][]impl.Job{other, two, two, other}, []int{0, 1}, impl.ObjSum, []int{5, 7, 7, 5}, 2, 1, 0, []int{0, 1}, 2, []int{0, 1}, 7},
		{[][]impl.Job{two, two, two, two}, []int{0, 1}, impl.ObjSum, []int{7, 7, 7, 7}, 2, 0, 2, []int{1, 0}, 0, []int{1, 0}, 5},
		// the worst value and the greatest regret are in other scenarios, and other orders are best for them
		{[][]impl.Job{{job(3, 0, 0, 0), job(1, 0, 0, 0)}, {job(9, 0, 0, 0), job(10, 0, 0, 0)}}, []int{0, 1}, impl.ObjSum, []int{7, 28}, 2, 0, 1, []int{1, 0}, 1, []int{0, 1}, 28},
		// all values are less than 0
		{[][]impl.Job{early}, []int{0, 1}, impl.ObjLateness, []int{-295}, 3, 0, 3, []int{1, 0}, 0, []int{1, 0}, -298},
		{[][]impl.Job{early, {job(3, 1, 0, 300), job(2, 1, 0, 400)}}, []int{0, 1}, impl.ObjLateness, []int{-295, -297}, 3, 0, 1, []int{1, 0}, 2, []int{0, 1}, -295},
		{[][]impl.Job{far, far}, []int{7, 6, 5, 4, 3, 2, 1, 0}, impl.ObjWeightedTardiness, []int{290000, 290000}, 0, 0, 0, upTo(8), 0, upTo(8), 290000},
	} {
		values, one := impl.ScenarioValues(c.lists, c.order, c.objective)
		regret, scenario, two := impl.GreatestRegret(c.lists, c.order, c.objective)
		bound, three := impl.RegretBound(c.lists, c.order, c.objective)
		calm, least, four := impl.LeastRegret(c.lists, c.objective)
		safe, worst, five := impl.LeastWorst(c.lists, c.objective)
		if !one || !two || !three || !four || !five || !slices.Equal(values, c.values) || regret != c.regret || scenario != c.scenario || bound != c.bound {
			t.Errorf("%v, %v, objective %d: %v, regret %d in %d, bound %d", c.lists, c.order, c.objective, values, regret, scenario, bound)
		}
		if !slices.Equal(calm, c.calm) || least != c.least || !slices.Equal(safe, c.safe) || worst != c.worst {
			t.Errorf("%v, objective %d: least regret %v, %d, least worst %v, %d", c.lists, c.objective, calm, least, safe, worst)
		}
	}
}

// checkNoScenarios checks that no function for scenarios takes these arguments.
func checkNoScenarios(t *testing.T, lists [][]impl.Job, order []int, objective int) {
	t.Helper()
	safe, worst, one := impl.LeastWorst(lists, objective)
	calm, least, two := impl.LeastRegret(lists, objective)
	if one || two || len(safe) != 0 || worst != 0 || len(calm) != 0 || least != 0 {
		t.Errorf("%.200v, objective %d: %v, %d, %v, %d", lists, objective, safe, worst, calm, least)
	}
	checkNoRegret(t, lists, order, objective)
}

// checkNoRegret checks that no function for scenarios and an order takes these arguments.
func checkNoRegret(t *testing.T, lists [][]impl.Job, order []int, objective int) {
	t.Helper()
	values, one := impl.ScenarioValues(lists, order, objective)
	regret, scenario, two := impl.GreatestRegret(lists, order, objective)
	bound, three := impl.RegretBound(lists, order, objective)
	if one || two || three || len(values) != 0 || regret != 0 || scenario != 0 || bound != 0 {
		t.Errorf("%.200v, %.200v, objective %d: %v, %d, %d, %d", lists, order, objective, values, regret, scenario, bound)
	}
}

func TestPromise11NoScenarios(t *testing.T) {
	for _, lists := range noScenarios() {
		if impl.AreScenarios(lists) {
			t.Errorf("AreScenarios(%.200v) = true", lists)
		}
		for _, objective := range objectives {
			checkNoScenarios(t, lists, nil, objective)
			if len(lists) > 0 {
				checkNoScenarios(t, lists, upTo(len(lists[0])), objective)
			}
		}
	}
	for _, lists := range knownScenarios()[:20] {
		n := len(lists[0])
		for _, objective := range noObjectives() {
			checkNoScenarios(t, lists, upTo(n), objective)
		}
		for k, order := range noOrders(n) {
			checkNoRegret(t, lists, order, objectives[k%8])
		}
	}
}
