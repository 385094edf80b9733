package tests

import (
	"fmt"
	"math"
	"slices"
	"testing"

	"loop.example/g01103/impl"
)

// answersOfTardiness calls each function of chapter 6; what is an order for other chapters is a set here.
func answersOfTardiness(jobs []impl.Job, set []int, a, b int) map[string]answer {
	answers, note := newAnswers()
	total, ok := impl.TotalTime(jobs)
	note("TotalTime", ok, total)
	values, ok := impl.SetValues(jobs, a)
	note("SetValues", ok, values)
	order, ok := impl.SetOrder(jobs, a)
	note("SetOrder", ok, order)
	due, ok := impl.DueOrder(jobs)
	note("DueOrder", ok, due)
	is, ok := impl.IsTimely(jobs, set)
	note("IsTimely", ok, is)
	sets, ok := impl.TimelySets(jobs)
	note("TimelySets", ok, sets)
	table, ok := impl.WeightTable(jobs)
	note("WeightTable", ok, table)
	late, ok := impl.LeastLateWeight(jobs)
	note("LeastLateWeight", ok, late)
	timely, ok := impl.TimelyOrder(jobs, set)
	note("TimelyOrder", ok, timely)
	agreeable, ok := impl.AreAgreeable(jobs)
	note("AreAgreeable", ok, agreeable)
	for _, pair := range [][2]int{{b, 0}, {0, b}, {a, b}, {b, b}} {
		before, ok := impl.ComesBefore(jobs, pair[0], pair[1])
		note(fmt.Sprint("ComesBefore of ", pair), ok, before)
	}
	longest, places, ok := impl.SplitPlaces(jobs)
	note("SplitPlaces", ok, longest, places)
	least, ok := impl.LeastTardiness(jobs)
	note("LeastTardiness", ok, least)
	bound, ok := impl.TardinessBound(jobs)
	note("TardinessBound", ok, bound)
	latest, ok := impl.EarliestLatest(jobs)
	note("EarliestLatest", ok, latest)
	after, ok := impl.TimelyAfter(jobs, b)
	note("TimelyAfter", ok, after)
	return answers
}

func TestPromise13TardinessOfAllKinds(t *testing.T) {
	numbers := []int{math.MinInt, -1, 0, 1, 2, 3, 5, 8, 9, 64, 400, 401, math.MaxInt - 1, math.MaxInt}
	for _, jobs := range slices.Concat(datedJobs()[:24], notPlain()) {
		for _, set := range [][]int{nil, {0}, upTo(len(jobs)), upTo(9), {math.MaxInt, math.MinInt}, {0, 0, 0}, {-1}, {64}} {
			for i, a := range numbers {
				checkTotal(t, answersOfTardiness, jobs, set, a, numbers[len(numbers)-1-i])
			}
			checkTotal(t, answersOfTardiness, jobs, set, impl.ObjWeightedTardiness, 0)
		}
	}
}

func TestPromise13SetsOfAllKinds(t *testing.T) {
	for number, jobs := range append(datedJobs(), longDatedJobs()...) {
		for _, objective := range objectives {
			mask := drawer(number + objective)(1 << len(jobs))
			checkTotal(t, answersOfTardiness, jobs, setOf(mask), objective, number%9)
		}
	}
	for _, n := range []int{0, 1, 3, 8} {
		jobs := madeJobs(n+980, n, 9, 9, 0, 30)
		for i, set := range noOrders(n) {
			checkTotal(t, answersOfTardiness, jobs, set, i%10, i)
		}
	}
}

// TestPromise13ListsOfTardinessAreApart writes all over results and checks that no argument and no later result shows it.
func TestPromise13ListsOfTardinessAreApart(t *testing.T) {
	for _, jobs := range append(datedJobs(), longDatedJobs()...) {
		sets, ok := impl.TimelySets(jobs)
		if !ok {
			t.Fatalf("TimelySets(%v) failed", jobs)
		}
		set := slices.Clone(sets[len(sets)-1])
		keptJobs, keptSet := slices.Clone(jobs), slices.Clone(set)
		for name, f := range map[string]func() ([]int, bool){
			"SetValues":   func() ([]int, bool) { return impl.SetValues(jobs, impl.ObjLateWeight) },
			"SetOrder":    func() ([]int, bool) { return impl.SetOrder(jobs, impl.ObjTardiness) },
			"DueOrder":    func() ([]int, bool) { return impl.DueOrder(jobs) },
			"WeightTable": func() ([]int, bool) { return impl.WeightTable(jobs) },
			"TimelyOrder": func() ([]int, bool) { return impl.TimelyOrder(jobs, set) },
			"SplitPlaces": func() ([]int, bool) {
				_, places, ok := impl.SplitPlaces(jobs)
				return places, ok
			},
		} {
			if _, ok := f(); !ok && len(jobs) == 0 {
				continue // no job of none is the longest one
			}
			checkApart(t, fmt.Sprintf("%s of %v", name, jobs), f)
			if !slices.Equal(jobs, keptJobs) || !slices.Equal(set, keptSet) {
				t.Fatalf("%s of %v, %v: a result changed an argument: %v, %v", name, keptJobs, keptSet, jobs, set)
			}
		}
	}
}

func TestPromise13TimelySetsAreApart(t *testing.T) {
	for _, jobs := range append(datedJobs(), longDatedJobs()...) {
		sets, ok := impl.TimelySets(jobs)
		if !ok {
			t.Fatalf("TimelySets(%v) failed", jobs)
		}
		kept := copied(sets)
		checkSetsApart(t, fmt.Sprintf("TimelySets(%v)", jobs), sets)
		if again, ok := impl.TimelySets(jobs); !ok || !slices.EqualFunc(again, kept, slices.Equal[[]int]) {
			t.Errorf("TimelySets(%v): a result changed another: %v", jobs, again)
		}
	}
}
