package tests

import (
	"math"
	"slices"
	"testing"

	"loop.example/g01103/impl"
)

// checkInversions compares the inversions of an order, and what it loses by them, with the document's definitions.
func checkInversions(t *testing.T, jobs []impl.Job, order []int, objective int) {
	t.Helper()
	want := inversionsByHand(jobs, order, objective)
	if got, ok := impl.InversionsOf(jobs, order, objective); !ok || !slices.Equal(got, want) {
		t.Errorf("InversionsOf(%v, %v, %d) = %v, %v, not %v", jobs, order, objective, got, ok, want)
	}
	if objective != impl.ObjWeighted {
		return
	}
	loss := 0
	for _, pair := range want {
		loss += differenceByHand(jobs, objective, pair[0], pair[1])
	}
	if got, ok := impl.PairLoss(jobs, order); !ok || got != loss {
		t.Errorf("PairLoss(%v, %v) = %d, %v, not %d", jobs, order, got, ok, loss)
	}
}

// checkSorting compares the sorting exchanges with the document's definition, and checks that none of them makes the value greater.
func checkSorting(t *testing.T, jobs []impl.Job, order []int, objective int) {
	t.Helper()
	places, sorted, ok := impl.SortingExchanges(jobs, order, objective)
	if !ok || len(places) != len(inversionsByHand(jobs, order, objective)) {
		t.Errorf("SortingExchanges(%v, %v, %d) = %v, %v, %v", jobs, order, objective, places, sorted, ok)
		return
	}
	current := slices.Clone(order)
	for _, place := range places {
		if want := leastInversionByHand(jobs, current, objective); place != want {
			t.Errorf("SortingExchanges(%v, %v, %d) = %v, not %d from %v", jobs, order, objective, places, want, current)
			return
		}
		if gain, ok := impl.ExchangeGain(jobs, current, place, objective); !ok || gain < 0 {
			t.Errorf("%v: the exchange at %d of %v gains %d of objective %d, %v", jobs, place, current, gain, objective, ok)
		}
		current = swapped(current, place)
	}
	if leastInversionByHand(jobs, current, objective) >= 0 || !slices.Equal(sorted, current) {
		t.Errorf("SortingExchanges(%v, %v, %d) ends with %v, not %v", jobs, order, objective, sorted, current)
	}
}

func TestPromise3InversionsAndSorting(t *testing.T) {
	for _, jobs := range slices.Concat(knownJobs(), plainJobs(), notPlainJobs()[:4]) {
		for _, order := range allOrders(len(jobs)) {
			for _, objective := range ruledFor(jobs) {
				checkInversions(t, jobs, order, objective)
				checkSorting(t, jobs, order, objective)
			}
		}
	}
}

func TestPromise3InversionsAndSortingOfManyJobs(t *testing.T) {
	for _, jobs := range append(longPlainJobs(), longJobs()...) {
		orders := allOrders(len(jobs))
		for i := 0; i < len(orders); i += 997 {
			for _, objective := range ruledFor(jobs) {
				checkInversions(t, jobs, orders[i], objective)
				checkSorting(t, jobs, orders[i], objective)
			}
		}
	}
}

func TestPromise3PairLossIsWhatTheOrderLoses(t *testing.T) {
	for _, jobs := range plainJobs() {
		orders := allOrders(len(jobs))
		least, _, _ := bestByHand(jobs, orders, impl.ObjWeighted)
		for _, order := range orders {
			want := valueByHand(jobs, order, impl.ObjWeighted) - least
			if got, ok := impl.PairLoss(jobs, order); !ok || got != want {
				t.Errorf("PairLoss(%v, %v) = %d, %v, not %d", jobs, order, got, ok, want)
			}
		}
	}
}

func TestPromise3KnownInversions(t *testing.T) {
	three := []impl.Job{job(3, 1, 0, 8), job(1, 0, 0, 8), job(2, 2, 0, 8)}
	released := []impl.Job{job(1, 1, 5, 0), job(9, 0, 0, 7), job(2, 2, 5, 1)}
	rising := []impl.Job{}
	for i := range 8 {
		rising = append(rising, job(1+i, 1, 0, i))
	}
	down := upTo(8)
	slices.Reverse(down)
	for _, c := range []struct {
		jobs       []impl.Job
		order      []int
		objective  int
		inversions [][2]int
		places     []int
		sorted     []int
	}{
		{nil, nil, impl.ObjWeighted, nil, nil, nil},
		{three[:1], []int{0}, impl.ObjWeighted, nil, nil, []int{0}},
		{three, []int{2, 0, 1}, impl.ObjWeighted, nil, nil, []int{2, 0, 1}},
		{three, []int{0, 1, 2}, impl.ObjWeighted, [][2]int{{0, 2}, {1, 2}}, []int{1, 0}, []int{2, 0, 1}},
		{three, []int{1, 0, 2}, impl.ObjWeighted, [][2]int{{1, 0}, {1, 2}, {0, 2}}, []int{0, 1, 0}, []int{2, 0, 1}},
		{three, []int{0, 2, 1}, impl.ObjSum, [][2]int{{0, 2}, {0, 1}, {2, 1}}, []int{0, 1, 0}, []int{1, 2, 0}},
		// tied jobs are not exchanged
		{three, []int{2, 1, 0}, impl.ObjLateness, nil, nil, []int{2, 1, 0}},
		{released, []int{2, 0, 1}, impl.ObjEnd, [][2]int{{2, 1}, {0, 1}}, []int{1, 0}, []int{1, 2, 0}},
		{rising, upTo(8), impl.ObjLateness, nil, nil, upTo(8)},
		{rising, []int{1, 0, 3, 2, 4, 5, 7, 6}, impl.ObjSum, [][2]int{{1, 0}, {3, 2}, {7, 6}}, []int{0, 2, 6}, upTo(8)},
		{repeated(job(5, 0, 0, 5), 8), down, impl.ObjWeighted, nil, nil, down},
	} {
		inversions, one := impl.InversionsOf(c.jobs, c.order, c.objective)
		places, sorted, two := impl.SortingExchanges(c.jobs, c.order, c.objective)
		if !one || !two || !slices.Equal(inversions, c.inversions) || !slices.Equal(places, c.places) || !slices.Equal(sorted, c.sorted) {
			t.Errorf("%v, order %v, objective %d: %v, %v, %v", c.jobs, c.order, c.objective, inversions, places, sorted)
		}
	}
	for _, objective := range []int{impl.ObjSum, impl.ObjWeighted, impl.ObjLateness} {
		inversions, one := impl.InversionsOf(rising, down, objective)
		places, sorted, two := impl.SortingExchanges(rising, down, objective)
		if !one || !two || len(inversions) != 28 || len(places) != 28 || !slices.Equal(sorted, upTo(8)) {
			t.Errorf("all pairs inverted, objective %d: %v, %v, %v", objective, inversions, places, sorted)
		}
	}
}

func TestPromise3KnownPairLosses(t *testing.T) {
	three := []impl.Job{job(3, 1, 0, 8), job(1, 0, 0, 8), job(2, 2, 0, 8)}
	far := append(repeated(job(50, 0, 0, 0), 7), job(1, 50, 0, 0))
	for _, c := range []struct {
		jobs  []impl.Job
		order []int
		want  int
	}{
		{nil, nil, 0}, {three[:1], []int{0}, 0}, {three, []int{2, 0, 1}, 0}, {three, []int{0, 1, 2}, 6}, {three, []int{1, 0, 2}, 7}, {three, []int{0, 2, 1}, 4},
		{repeated(job(3, 0, 0, 8), 8), upTo(8), 0}, {far, upTo(8), 17500}, {far, []int{7, 6, 5, 4, 3, 2, 1, 0}, 0},
	} {
		if got, ok := impl.PairLoss(c.jobs, c.order); !ok || got != c.want {
			t.Errorf("PairLoss(%v, %v) = %d, %v, not %d", c.jobs, c.order, got, ok, c.want)
		}
	}
}

// checkSlacks compares the slacks of an order with what makes just no job late by more than the limit.
func checkSlacks(t *testing.T, jobs []impl.Job, order []int, limit int) {
	t.Helper()
	slacks, ok := impl.SlacksOf(jobs, order, limit)
	if !ok || len(slacks) != len(order) {
		t.Errorf("SlacksOf(%v, %v, %d) = %v, %v", jobs, order, limit, slacks, ok)
		return
	}
	ends := endsByHand(jobs, order)
	for place := range order {
		greatest := math.MinInt
		for _, i := range order[place:] {
			greatest = max(greatest, ends[i]+slacks[place]-jobs[i].Due)
		}
		if greatest != limit {
			t.Errorf("SlacksOf(%v, %v, %d) = %v: at %d the greatest lateness is %d", jobs, order, limit, slacks, place, greatest)
		}
	}
}

func TestPromise3Slacks(t *testing.T) {
	for _, jobs := range plainJobs() {
		for _, order := range allOrders(len(jobs)) {
			for _, limit := range []int{0, 1, 7, 499, 500} {
				checkSlacks(t, jobs, order, limit)
			}
		}
	}
	for _, jobs := range longPlainJobs() {
		order := upTo(len(jobs))
		checkSlacks(t, jobs, order, 0)
		slices.Reverse(order)
		checkSlacks(t, jobs, order, 500)
	}
}

func TestPromise3KnownSlacks(t *testing.T) {
	three := []impl.Job{job(4, 0, 0, 4), job(2, 0, 0, 5), job(3, 0, 0, 6)}
	for _, c := range []struct {
		jobs  []impl.Job
		order []int
		limit int
		want  []int
	}{
		{nil, nil, 0, nil}, {nil, nil, 500, nil},
		{three, []int{1, 2, 0}, 0, []int{-5, -5, -5}}, {three, []int{0, 1, 2}, 0, []int{-3, -3, -3}}, {three, []int{2, 1, 0}, 0, []int{-5, -5, -5}},
		{three, []int{0, 1, 2}, 3, []int{0, 0, 0}}, {three, []int{0, 1, 2}, 500, []int{497, 497, 497}},
		{[]impl.Job{job(1, 0, 0, 0), job(1, 0, 0, 500), job(1, 0, 0, 7)}, []int{0, 2, 1}, 0, []int{-1, 5, 497}},
		{[]impl.Job{job(1, 0, 0, 500)}, []int{0}, 500, []int{999}}, {repeated(job(50, 0, 0, 0), 8), upTo(8), 0, slices.Repeat([]int{-400}, 8)},
	} {
		if got, ok := impl.SlacksOf(c.jobs, c.order, c.limit); !ok || !slices.Equal(got, c.want) {
			t.Errorf("SlacksOf(%v, %v, %d) = %v, %v, not %v", c.jobs, c.order, c.limit, got, ok, c.want)
		}
	}
	for _, limit := range []int{-1, 501, math.MinInt, math.MaxInt} {
		for _, jobs := range [][]impl.Job{nil, three} {
			if got, ok := impl.SlacksOf(jobs, upTo(len(jobs)), limit); ok || len(got) != 0 {
				t.Errorf("SlacksOf(%v, .., %d) = %v, %v", jobs, limit, got, ok)
			}
		}
	}
}

// rejectsRules fails the test if a function tells anything of a rule that there is not.
func rejectsRules(t *testing.T, jobs []impl.Job, objective int) {
	t.Helper()
	difference, one := impl.RuleDifference(jobs, objective, 0, 0)
	order, two := impl.RuledOrder(jobs, objective)
	groups, three := impl.TieGroups(jobs, objective)
	count, four := impl.CountRuled(jobs, objective)
	if one || two || three || four || difference != 0 || len(order) != 0 || len(groups) != 0 || count != 0 {
		t.Errorf("%.200v, objective %d: %d, %v, %v, %d", jobs, objective, difference, order, groups, count)
	}
	rejectsRuleOfOrder(t, jobs, upTo(len(jobs)), objective)
}

// rejectsRuleOfOrder fails the test if a function tells anything of an order, or of a rule, that there is not.
func rejectsRuleOfOrder(t *testing.T, jobs []impl.Job, order []int, objective int) {
	t.Helper()
	is, one := impl.IsRuledOrder(jobs, order, objective)
	inversions, two := impl.InversionsOf(jobs, order, objective)
	places, sorted, three := impl.SortingExchanges(jobs, order, objective)
	if one || two || three || is || len(inversions) != 0 || len(places) != 0 || len(sorted) != 0 {
		t.Errorf("%.200v, order %.200v, objective %d: %v, %v, %v, %v", jobs, order, objective, is, inversions, places, sorted)
	}
}

// rejectsPlain fails the test if a function that asks for an order of a plain list tells anything of another one.
func rejectsPlain(t *testing.T, jobs []impl.Job, order []int) {
	t.Helper()
	loss, one := impl.PairLoss(jobs, order)
	slacks, two := impl.SlacksOf(jobs, order, 1)
	if one || two || loss != 0 || len(slacks) != 0 {
		t.Errorf("%.200v, order %.200v: %d, %v", jobs, order, loss, slacks)
	}
}

func TestPromise3NoRulesOfInvalidLists(t *testing.T) {
	for _, jobs := range append(noJobs(), repeated(job(1, 1, 0, 1), 9)) {
		for _, objective := range objectives {
			rejectsRules(t, jobs, objective)
		}
		rejectsPlain(t, jobs, upTo(len(jobs)))
	}
	for _, jobs := range slices.Concat(plainJobs()[:20], longPlainJobs(), notPlainJobs()) {
		for _, order := range noOrders(len(jobs)) {
			for _, objective := range ruledObjectives {
				rejectsRuleOfOrder(t, jobs, order, objective)
			}
			rejectsPlain(t, jobs, order)
		}
	}
}

func TestPromise3NoRulesOfOtherObjectives(t *testing.T) {
	for _, jobs := range slices.Concat(plainJobs()[:20], longPlainJobs(), notPlainJobs()) {
		for _, objective := range append(noObjectives(), unruledObjectives...) {
			rejectsRules(t, jobs, objective)
		}
	}
	for _, jobs := range notPlainJobs() {
		for _, objective := range []int{impl.ObjSum, impl.ObjWeighted, impl.ObjLateness} {
			rejectsRules(t, jobs, objective)
		}
		rejectsPlain(t, jobs, upTo(len(jobs)))
	}
}
