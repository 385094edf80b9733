package tests

import (
	"fmt"
	"math"
	"slices"
	"testing"

	"loop.example/g01103/impl"
)

// answersOfRules calls each function of chapter 3; what is an order for some of them is a set for OnTime.
func answersOfRules(jobs []impl.Job, order []int, a, b int) map[string]answer {
	answers, note := newAnswers()
	note("IsPlain", impl.IsPlain(jobs))
	for _, pair := range [][2]int{{b, 0}, {0, b}, {a, b}, {b, b}} {
		difference, ok := impl.RuleDifference(jobs, a, pair[0], pair[1])
		note(fmt.Sprint("RuleDifference of ", pair), ok, difference)
	}
	ruled, ok := impl.RuledOrder(jobs, a)
	note("RuledOrder", ok, ruled)
	is, ok := impl.IsRuledOrder(jobs, order, a)
	note("IsRuledOrder", ok, is)
	groups, ok := impl.TieGroups(jobs, a)
	note("TieGroups", ok, groups)
	count, ok := impl.CountRuled(jobs, a)
	note("CountRuled", ok, count)
	inversions, ok := impl.InversionsOf(jobs, order, a)
	note("InversionsOf", ok, inversions)
	loss, ok := impl.PairLoss(jobs, order)
	note("PairLoss", ok, loss)
	places, sorted, ok := impl.SortingExchanges(jobs, order, a)
	note("SortingExchanges", ok, places, sorted)
	rule, ok := impl.LateRule(jobs)
	note("LateRule", ok, rule)
	steps, ok := impl.LateSteps(jobs)
	note("LateSteps", ok, steps)
	on, ok := impl.OnTime(jobs, order)
	note("OnTime", ok, on)
	fewest, ok := impl.FewestLate(jobs)
	note("FewestLate", ok, fewest)
	left, ok := impl.LeftAfter(jobs, b)
	note("LeftAfter", ok, left)
	slacks, ok := impl.SlacksOf(jobs, order, b)
	note("SlacksOf", ok, slacks)
	stretched, ok := impl.StretchedJobs(jobs, b)
	note("StretchedJobs", ok, stretched)
	return answers
}

func TestPromise13RulesOfAllKinds(t *testing.T) {
	numbers := []int{math.MinInt, -1, 0, 1, 2, 3, 4, 8, 9, 11, 500, 501, math.MaxInt - 1, math.MaxInt}
	for _, jobs := range slices.Concat(knownJobs()[:20], plainJobs()[:20], notPlainJobs(), noJobs()) {
		for _, order := range [][]int{nil, {0}, upTo(len(jobs)), upTo(9), {math.MaxInt, math.MinInt}, {0, 0, 0}} {
			for i, a := range numbers {
				checkTotal(t, answersOfRules, jobs, order, a, numbers[len(numbers)-1-i])
				checkTotal(t, answersOfRules, jobs, order, a, 0)
			}
		}
	}
}

func TestPromise13RulesOfOrdersOfAllKinds(t *testing.T) {
	for _, jobs := range append(longPlainJobs(), nil, []impl.Job{job(1, 0, 0, 0)}, madeJobs(15, 3, 9, 9, 0, 20), madeJobs(16, 6, 9, 9, 9, 30)) {
		down := upTo(len(jobs))
		slices.Reverse(down)
		for _, order := range [][]int{upTo(len(jobs)), down} {
			for a := range 10 {
				checkTotal(t, answersOfRules, jobs, order, a, a/2)
				checkTotal(t, answersOfRules, jobs, order, a, len(jobs))
			}
		}
		for i, order := range noOrders(len(jobs)) {
			checkTotal(t, answersOfRules, jobs, order, i%10, 1)
		}
	}
}

// TestPromise13ListsOfRulesAreApart writes all over results and checks that no argument and no later result shows it.
func TestPromise13ListsOfRulesAreApart(t *testing.T) {
	for _, jobs := range append(plainJobs(), longPlainJobs()...) {
		order := upTo(len(jobs))
		keptJobs := slices.Clone(jobs)
		for name, f := range map[string]func() ([]int, bool){
			"RuledOrder": func() ([]int, bool) { return impl.RuledOrder(jobs, impl.ObjEnd) },
			"SortingExchanges, the places": func() ([]int, bool) {
				places, _, ok := impl.SortingExchanges(jobs, order, impl.ObjSum)
				return places, ok
			},
			"SortingExchanges, the order": func() ([]int, bool) {
				_, sorted, ok := impl.SortingExchanges(jobs, order, impl.ObjEnd)
				return sorted, ok
			},
			"LateRule":  func() ([]int, bool) { return impl.LateRule(jobs) },
			"LeftAfter": func() ([]int, bool) { return impl.LeftAfter(jobs, len(jobs)) },
			"SlacksOf":  func() ([]int, bool) { return impl.SlacksOf(jobs, order, 0) },
		} {
			checkApart(t, fmt.Sprintf("%s of %v", name, jobs), f)
			if !slices.Equal(jobs, keptJobs) || !slices.Equal(order, upTo(len(jobs))) {
				t.Fatalf("%s of %v: a result changed an argument: %v, %v", name, keptJobs, jobs, order)
			}
		}
	}
}

func TestPromise13SortingExchangesGivesListsApart(t *testing.T) {
	for _, jobs := range longPlainJobs() {
		order := upTo(len(jobs))
		slices.Reverse(order)
		for _, objective := range ruledObjectives {
			places, sorted, ok := impl.SortingExchanges(jobs, order, objective)
			kept := slices.Clone(sorted)
			scribble(places)
			if !ok || !slices.Equal(sorted, kept) {
				t.Errorf("SortingExchanges(%v, %v, %d): the places share memory with %v", jobs, order, objective, kept)
			}
		}
	}
}

func TestPromise13TieGroupsAreApart(t *testing.T) {
	for _, jobs := range append(plainJobs(), longPlainJobs()...) {
		for _, objective := range ruledObjectives {
			groups, ok := impl.TieGroups(jobs, objective)
			if !ok {
				t.Fatalf("TieGroups(%v, %d) failed", jobs, objective)
			}
			for i := range groups {
				others := slices.Concat(groups[i+1:]...)
				scribble(groups[i])
				if !slices.Equal(slices.Concat(groups[i+1:]...), others) {
					t.Fatalf("TieGroups(%v, %d): a group shares memory", jobs, objective)
				}
			}
		}
	}
}

func TestPromise13StretchedJobsAreApart(t *testing.T) {
	jobs := []impl.Job{job(3, 2, 5, 5), job(2, 1, 4, 6)}
	for _, factor := range []int{1, 2} {
		stretched, ok := impl.StretchedJobs(jobs, factor)
		if !ok || len(stretched) != 2 {
			t.Fatalf("stretched to %v, %v", stretched, ok)
		}
		clear(stretched[:cap(stretched)])
		if !slices.Equal(jobs, []impl.Job{job(3, 2, 5, 5), job(2, 1, 4, 6)}) {
			t.Errorf("a result changed an argument: %v", jobs)
		}
	}
}
