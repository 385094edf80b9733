package tests

import (
	"math"
	"slices"
	"testing"

	"loop.example/g01103/impl"
)

func TestPromise3IsPlain(t *testing.T) {
	for _, jobs := range append(plainJobs(), longPlainJobs()...) {
		if !impl.IsPlain(jobs) {
			t.Errorf("IsPlain(%v) is false", jobs)
		}
	}
	for _, jobs := range append(notPlainJobs(), noJobs()...) {
		if impl.IsPlain(jobs) {
			t.Errorf("IsPlain(%.200v) is true", jobs)
		}
	}
	for _, jobs := range knownJobs() {
		if impl.IsPlain(jobs) != isPlainByHand(jobs) {
			t.Errorf("IsPlain(%v) is not %v", jobs, isPlainByHand(jobs))
		}
	}
	// plain but for what makes them no lists of jobs
	for _, jobs := range [][]impl.Job{repeated(job(1, 1, 0, 1), 9), {job(0, 1, 0, 1)}, {job(1, 51, 0, 1)}, {job(1, 1, 0, 501)}, {job(1, 1, -1, 1)}} {
		if impl.IsPlain(jobs) {
			t.Errorf("IsPlain(%v) is true", jobs)
		}
	}
}

func TestPromise3RuleDifferences(t *testing.T) {
	for _, jobs := range slices.Concat(knownJobs(), plainJobs(), longPlainJobs(), notPlainJobs()) {
		for _, objective := range ruledFor(jobs) {
			for i := range jobs {
				for j := range jobs {
					want := differenceByHand(jobs, objective, i, j)
					if got, ok := impl.RuleDifference(jobs, objective, i, j); !ok || got != want {
						t.Errorf("RuleDifference(%v, %d, %d, %d) = %d, %v", jobs, objective, i, j, got, ok)
					}
				}
			}
		}
	}
}

func TestPromise3KnownRuleDifferences(t *testing.T) {
	plain := []impl.Job{job(3, 1, 0, 9), job(1, 0, 0, 4), job(2, 2, 0, 500), job(50, 50, 0, 0)}
	released := []impl.Job{job(3, 1, 7, 9), job(1, 0, 2, 4), job(1, 0, 500, 4)}
	for _, c := range []struct {
		jobs            []impl.Job
		objective, i, j int
		want            int
	}{
		{plain, impl.ObjEnd, 0, 1, 0}, {plain, impl.ObjSum, 0, 1, 2}, {plain, impl.ObjSum, 1, 0, -2}, {plain, impl.ObjSum, 3, 1, 49},
		{plain, impl.ObjWeighted, 0, 1, -1}, {plain, impl.ObjWeighted, 0, 2, 4}, {plain, impl.ObjWeighted, 1, 2, 2},
		{plain, impl.ObjWeighted, 2, 3, 0}, {plain, impl.ObjWeighted, 1, 3, 50}, {plain, impl.ObjWeighted, 2, 2, 0},
		{plain, impl.ObjLateness, 0, 1, 5}, {plain, impl.ObjLateness, 3, 2, -500}, {plain, impl.ObjLateness, 3, 3, 0},
		{released, impl.ObjEnd, 0, 1, 5}, {released, impl.ObjEnd, 1, 2, -498}, {released, impl.ObjEnd, 2, 2, 0},
	} {
		if got, ok := impl.RuleDifference(c.jobs, c.objective, c.i, c.j); !ok || got != c.want {
			t.Errorf("RuleDifference(%v, %d, %d, %d) = %d, %v, not %d", c.jobs, c.objective, c.i, c.j, got, ok, c.want)
		}
	}
}

func TestPromise3NoRuleDifferencesOfOtherNumbers(t *testing.T) {
	for _, jobs := range [][]impl.Job{{}, {job(1, 0, 0, 0)}, madeJobs(14, 3, 9, 9, 0, 9), repeated(job(2, 2, 0, 2), 8)} {
		n := len(jobs)
		for _, objective := range ruledObjectives {
			for _, wrong := range []int{-1, n, n + 1, math.MinInt, math.MaxInt} {
				for _, pair := range [][2]int{{wrong, 0}, {0, wrong}, {wrong, n - 1}, {n - 1, wrong}, {wrong, wrong}} {
					if got, ok := impl.RuleDifference(jobs, objective, pair[0], pair[1]); ok || got != 0 {
						t.Errorf("RuleDifference(%v, %d, %v) = %d, %v", jobs, objective, pair, got, ok)
					}
				}
			}
		}
	}
}

// checkRuled compares what the functions tell of ruled orders with all orders, and checks which of these are best.
func checkRuled(t *testing.T, jobs []impl.Job, orders [][]int, objective int) {
	t.Helper()
	ruled := ruledByHand(jobs, orders, objective)
	// Tied jobs are in ascending order in the ruled order, so it is the first one of those that are ruled.
	got, ok := impl.RuledOrder(jobs, objective)
	if !ok || !slices.Equal(got, ruled[0]) {
		t.Errorf("RuledOrder(%v, %d) = %v, %v, not %v", jobs, objective, got, ok, ruled[0])
	}
	if count, ok := impl.CountRuled(jobs, objective); !ok || count != len(ruled) {
		t.Errorf("CountRuled(%v, %d) = %d, %v, not %d", jobs, objective, count, ok, len(ruled))
	}
	least, _, best := bestByHand(jobs, orders, objective)
	for _, order := range ruled {
		if is, ok := impl.IsRuledOrder(jobs, order, objective); !ok || !is {
			t.Errorf("IsRuledOrder(%v, %v, %d) = %v, %v", jobs, order, objective, is, ok)
		}
		if value := valueByHand(jobs, order, objective); value != least {
			t.Errorf("%v: the ruled order %v has the value %d of objective %d, not %d", jobs, order, value, objective, least)
		}
	}
	if (objective == impl.ObjSum || objective == impl.ObjWeighted) && best != len(ruled) {
		t.Errorf("%v: %d orders are ruled and %d are best for objective %d", jobs, len(ruled), best, objective)
	}
}

func TestPromise3RuledOrdersAreBest(t *testing.T) {
	for _, jobs := range slices.Concat(knownJobs(), plainJobs(), notPlainJobs()[:4]) {
		orders := allOrders(len(jobs))
		for _, objective := range ruledFor(jobs) {
			checkRuled(t, jobs, orders, objective)
		}
	}
}

func TestPromise3RuledOrdersOfManyJobsAreBest(t *testing.T) {
	for _, jobs := range slices.Concat(longPlainJobs(), longJobs()[1:2], longJobs()[4:]) {
		orders := allOrders(len(jobs))
		for _, objective := range ruledFor(jobs) {
			checkRuled(t, jobs, orders, objective)
		}
	}
}

// TestPromise3OnlyRuledOrdersAreRuled also has orders that are best and not ruled.
func TestPromise3OnlyRuledOrdersAreRuled(t *testing.T) {
	for _, jobs := range slices.Concat(knownJobs(), plainJobs()) {
		for _, order := range allOrders(len(jobs)) {
			for _, objective := range ruledFor(jobs) {
				want := len(inversionsByHand(jobs, order, objective)) == 0
				if is, ok := impl.IsRuledOrder(jobs, order, objective); !ok || is != want {
					t.Errorf("IsRuledOrder(%v, %v, %d) = %v, %v", jobs, order, objective, is, ok)
				}
			}
		}
	}
}

// checkGroups checks that the groups are the ruled order, cut just where a job is not tied with the one before it.
func checkGroups(t *testing.T, jobs []impl.Job, objective int) {
	t.Helper()
	groups, one := impl.TieGroups(jobs, objective)
	order, two := impl.RuledOrder(jobs, objective)
	if !one || !two || !slices.Equal(slices.Concat(groups...), order) {
		t.Errorf("TieGroups(%v, %d) = %v, but the order is %v", jobs, objective, groups, order)
		return
	}
	count, place := 1, 0
	for _, group := range groups {
		if len(group) == 0 || !slices.IsSorted(group) {
			t.Errorf("TieGroups(%v, %d) = %v", jobs, objective, groups)
		}
		for k := range group {
			count *= k + 1
			if place > 0 && (differenceByHand(jobs, objective, order[place-1], order[place]) == 0) != (k > 0) {
				t.Errorf("TieGroups(%v, %d) = %v is cut at a wrong place %d", jobs, objective, groups, place)
			}
			place++
		}
	}
	if got, ok := impl.CountRuled(jobs, objective); !ok || got != count {
		t.Errorf("CountRuled(%v, %d) = %d, %v, but the groups are %v", jobs, objective, got, ok, groups)
	}
}

func TestPromise3TieGroups(t *testing.T) {
	for _, jobs := range slices.Concat(knownJobs(), plainJobs(), longPlainJobs(), longJobs(), notPlainJobs()) {
		for _, objective := range ruledFor(jobs) {
			checkGroups(t, jobs, objective)
		}
	}
}

func TestPromise3KnownRules(t *testing.T) {
	three := []impl.Job{job(3, 1, 0, 0), job(1, 0, 0, 0), job(2, 2, 0, 0)}
	released := []impl.Job{job(1, 1, 5, 0), job(9, 0, 0, 7), job(2, 2, 5, 1), job(1, 1, 0, 2)}
	weightless := []impl.Job{job(1, 0, 0, 3), job(50, 1, 0, 2), job(9, 0, 0, 3), job(50, 1, 0, 1)}
	ratios := []impl.Job{job(6, 3, 0, 8), job(4, 2, 0, 8), job(3, 2, 0, 9), job(2, 1, 0, 8)}
	for _, c := range []struct {
		jobs      []impl.Job
		objective int
		groups    [][]int
		count     int
	}{
		{nil, impl.ObjEnd, nil, 1}, {nil, impl.ObjSum, nil, 1}, {nil, impl.ObjWeighted, nil, 1}, {nil, impl.ObjLateness, nil, 1},
		{three[1:2], impl.ObjEnd, [][]int{{0}}, 1}, {three[1:2], impl.ObjSum, [][]int{{0}}, 1},
		{three[1:2], impl.ObjWeighted, [][]int{{0}}, 1}, {three[1:2], impl.ObjLateness, [][]int{{0}}, 1},
		{three, impl.ObjEnd, [][]int{{0, 1, 2}}, 6}, {three, impl.ObjSum, [][]int{{1}, {2}, {0}}, 1},
		{three, impl.ObjWeighted, [][]int{{2}, {0}, {1}}, 1}, {three, impl.ObjLateness, [][]int{{0, 1, 2}}, 6},
		{released, impl.ObjEnd, [][]int{{1, 3}, {0, 2}}, 4},
		{weightless, impl.ObjWeighted, [][]int{{1, 3}, {0, 2}}, 4},
		{weightless, impl.ObjSum, [][]int{{0}, {2}, {1, 3}}, 2},
		{weightless, impl.ObjLateness, [][]int{{3}, {1}, {0, 2}}, 2},
		{ratios, impl.ObjWeighted, [][]int{{2}, {0, 1, 3}}, 6},
		{ratios, impl.ObjLateness, [][]int{{0, 1, 3}, {2}}, 6},
		{repeated(job(7, 0, 0, 7), 8), impl.ObjWeighted, [][]int{{0, 1, 2, 3, 4, 5, 6, 7}}, 40320},
		{repeated(job(7, 3, 500, 7), 8), impl.ObjEnd, [][]int{{0, 1, 2, 3, 4, 5, 6, 7}}, 40320},
	} {
		groups, one := impl.TieGroups(c.jobs, c.objective)
		order, two := impl.RuledOrder(c.jobs, c.objective)
		count, three := impl.CountRuled(c.jobs, c.objective)
		is, four := impl.IsRuledOrder(c.jobs, slices.Concat(c.groups...), c.objective)
		if !one || !two || !three || !four || !slices.EqualFunc(groups, c.groups, slices.Equal[[]int]) ||
			!slices.Equal(order, slices.Concat(c.groups...)) || count != c.count || !is {
			t.Errorf("%v, objective %d: %v, %v, %d, %v", c.jobs, c.objective, groups, order, count, is)
		}
	}
}
