package tests

import (
	"fmt"
	"math"
	"slices"
	"testing"

	"loop.example/g01103/impl"
)

// answersOfReleases calls each function of chapter 5 with some Spans and some cases; what is an order for SplitOf is a set or a prefix for others.
func answersOfReleases(spans []impl.Span, cases [][]int) caller {
	return func(jobs []impl.Job, order []int, a, b int) map[string]answer {
		answers, note := newAnswers()
		is, ok := impl.IsSplit(jobs, spans)
		note("IsSplit", ok, is)
		ends, ok := impl.SplitEnds(jobs, spans)
		note("SplitEnds", ok, ends)
		value, ok := impl.SplitValue(jobs, spans, a)
		note("SplitValue", ok, value)
		split, ok := impl.SplitOf(jobs, order)
		note("SplitOf", ok, split)
		breaks, ok := impl.CountBreaks(jobs, spans)
		note("CountBreaks", ok, breaks)
		rest, ok := impl.ByLeastRest(jobs)
		note("ByLeastRest", ok, rest)
		date, ok := impl.ByEarliestDate(jobs)
		note("ByEarliestDate", ok, date)
		lateness, ok := impl.LatenessBound(jobs, order)
		note("LatenessBound", ok, lateness)
		proof, ok := impl.LatenessProof(jobs)
		note("LatenessProof", ok, proof)
		gain, ok := impl.SplitGain(jobs, a)
		note("SplitGain", ok, gain)
		bound, ok := impl.PrefixBound(jobs, order, a)
		note("PrefixBound", ok, bound)
		are, ok := impl.IsCases(jobs, a, b, cases)
		note("IsCases", ok, are)
		found, ok := impl.FindCases(jobs, a)
		note("FindCases", ok, found)
		greedy, ok := impl.GreedyOrder(jobs)
		note("GreedyOrder", ok, greedy)
		part, ok := impl.CriticalPart(jobs)
		note("CriticalPart", ok, part)
		blocking, ok := impl.BlockingJob(jobs)
		note("BlockingJob", ok, blocking)
		return answers
	}
}

// copied returns lists that share no memory with some lists.
func copied(lists [][]int) [][]int {
	others := make([][]int, len(lists))
	for i, list := range lists {
		others[i] = slices.Clone(list)
	}
	return others
}

// checkTotalWithSpans checks of all functions of chapter 5 what checkTotal does, and that no Spans and no cases are changed.
func checkTotalWithSpans(t *testing.T, spans []impl.Span, cases [][]int, jobs []impl.Job, order []int, a, b int) {
	t.Helper()
	moreSpans := append(slices.Clone(spans), span(7, 7, 7), span(6, 6, 6))
	moreCases := append(copied(cases), []int{7}, []int{6})
	for i, c := range moreCases {
		moreCases[i] = append(c, 77, 66)
	}
	keptSpans, keptCases := slices.Clone(moreSpans), copied(moreCases)
	given := slices.Clone(moreCases)
	for i, c := range given {
		given[i] = c[:len(c)-2]
	}
	checkTotal(t, answersOfReleases(moreSpans[:len(spans)], given[:len(cases)]), jobs, order, a, b)
	if !slices.Equal(moreSpans, keptSpans) || !slices.EqualFunc(moreCases, keptCases, slices.Equal[[]int]) {
		t.Errorf("%.200v, %.200v with %.200v, %.200v, %d, %d was changed to %.200v, %.200v", spans, cases, jobs, order, a, b, moreSpans, moreCases)
	}
	for i, c := range given {
		if !slices.Equal(c, keptCases[i][:len(keptCases[i])-2]) {
			t.Errorf("the list %d of %.200v became %v", i, cases, c)
		}
	}
}

func TestPromise13ReleasesOfAllKinds(t *testing.T) {
	numbers := []int{math.MinInt, -1, 0, 1, 2, 3, 4, 5, 8, 9, 1000, math.MaxInt}
	oddSpans := [][]impl.Span{nil, {span(0, 0, 1)}, {span(-1, -1, -1)}, {span(math.MinInt, math.MinInt, math.MinInt)}, {span(math.MaxInt, math.MaxInt, math.MaxInt)}, {span(0, math.MinInt, math.MaxInt)}, make([]impl.Span, 2000)}
	oddCases := [][][]int{nil, {nil}, {{}, {}}, {{math.MinInt}, {math.MaxInt}}, {{-1}}, {{64}}, {{0}, {1}}, make([][]int, 800), make([][]int, 801), {make([]int, 3000)}}
	for _, jobs := range slices.Concat(releasedJobs()[:14], noJobs()) {
		for k, order := range [][]int{nil, {0}, upTo(min(len(jobs), 20)), upTo(9), {math.MaxInt, math.MinInt}, {0, 0, 0}} {
			for i, a := range numbers {
				checkTotalWithSpans(t, oddSpans[(i+k)%len(oddSpans)], oddCases[(i+k)%len(oddCases)], jobs, order, a, numbers[len(numbers)-1-i])
			}
		}
		for i, spans := range oddSpans {
			checkTotalWithSpans(t, spans, oddCases[i], jobs, upTo(len(jobs)), impl.ObjSum, 0)
		}
		for i, cases := range oddCases {
			checkTotalWithSpans(t, oddSpans[i%len(oddSpans)], cases, jobs, upTo(len(jobs)), impl.ObjLateness, math.MinInt)
		}
	}
}

func TestPromise13SplitsOfAllKinds(t *testing.T) {
	for number, jobs := range append(releasedJobs(), longReleasedJobs()...) {
		n := len(jobs)
		next := drawer(number)
		spans := spansOfSlots(drawnSlots(next, jobs))
		cases := madeCases(n, 20)
		for _, a := range []int{impl.ObjSum, impl.ObjLateness, 1 + number%8} {
			checkTotalWithSpans(t, spans, cases, jobs, madeOrder(next, n), a, math.MinInt)
			checkTotalWithSpans(t, spans, cases, jobs, madeOrder(next, n)[:n/2], a, next(50))
		}
	}
	for _, n := range []int{0, 1, 3, 8} {
		jobs := madeJobs(n+970, n, 9, 9, 9, 30)
		for i, order := range noOrders(n) {
			checkTotalWithSpans(t, nil, [][]int{order}, jobs, order, []int{impl.ObjSum, impl.ObjLateness}[i%2], math.MinInt)
		}
	}
}

// TestPromise13ListsOfReleasesAreApart writes all over results and checks that no argument and no later result shows it.
func TestPromise13ListsOfReleasesAreApart(t *testing.T) {
	for number, jobs := range append(releasedJobs(), longReleasedJobs()...) {
		spans := spansOfSlots(drawnSlots(drawer(number), jobs))
		keptJobs, keptSpans := slices.Clone(jobs), slices.Clone(spans)
		for name, f := range map[string]func() ([]int, bool){
			"SplitEnds":     func() ([]int, bool) { return impl.SplitEnds(jobs, spans) },
			"LatenessProof": func() ([]int, bool) { return impl.LatenessProof(jobs) },
			"GreedyOrder":   func() ([]int, bool) { return impl.GreedyOrder(jobs) },
			"CriticalPart":  func() ([]int, bool) { return impl.CriticalPart(jobs) },
		} {
			if _, ok := f(); !ok && len(jobs) == 0 {
				continue // there is no set and no part of no jobs
			}
			checkApart(t, fmt.Sprintf("%s of %v", name, jobs), f)
			if !slices.Equal(jobs, keptJobs) || !slices.Equal(spans, keptSpans) {
				t.Fatalf("%s of %v, %v: a result changed an argument: %v, %v", name, keptJobs, keptSpans, jobs, spans)
			}
		}
	}
}

func TestPromise13SpansAreApart(t *testing.T) {
	for number, jobs := range append(releasedJobs(), longReleasedJobs()...) {
		order := madeOrder(drawer(number), len(jobs))
		keptJobs, keptOrder := slices.Clone(jobs), slices.Clone(order)
		for name, f := range map[string]func() ([]impl.Span, bool){
			"SplitOf":        func() ([]impl.Span, bool) { return impl.SplitOf(jobs, order) },
			"ByLeastRest":    func() ([]impl.Span, bool) { return impl.ByLeastRest(jobs) },
			"ByEarliestDate": func() ([]impl.Span, bool) { return impl.ByEarliestDate(jobs) },
		} {
			one, ok := f()
			two, fine := f()
			kept := slices.Clone(two)
			clear(one[:cap(one)])
			three, fair := f()
			if !ok || !fine || !fair || !slices.Equal(two, kept) || !slices.Equal(three, kept) {
				t.Errorf("%s of %v: a result changed another: %v, %v, %v", name, jobs, kept, two, three)
			}
			if !slices.Equal(jobs, keptJobs) || !slices.Equal(order, keptOrder) {
				t.Fatalf("%s of %v, %v: a result changed an argument: %v, %v", name, keptJobs, keptOrder, jobs, order)
			}
		}
	}
}

func TestPromise13CasesAreApart(t *testing.T) {
	for _, jobs := range append(releasedJobs(), manyCases[0].jobs, manyCases[2].jobs) {
		for _, objective := range splitObjectives {
			cases, ok := impl.FindCases(jobs, objective)
			if !ok {
				if len(jobs) < 8 {
					t.Errorf("FindCases(%v, %d) failed", jobs, objective)
				}
				continue
			}
			kept := copied(cases)
			checkSetsApart(t, fmt.Sprintf("FindCases(%v, %d)", jobs, objective), cases)
			if again, ok := impl.FindCases(jobs, objective); !ok || !slices.EqualFunc(again, kept, slices.Equal[[]int]) {
				t.Errorf("FindCases(%v, %d): a result changed another: %v", jobs, objective, again)
			}
		}
	}
}
