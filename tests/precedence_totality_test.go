package tests

import (
	"fmt"
	"math"
	"slices"
	"testing"

	"loop.example/g01103/impl"
)

// answersOfPrecedence calls each function of chapter 4 with some pairs; what is an order for some of them is a set for RatioOfSet.
func answersOfPrecedence(edges [][2]int) caller {
	return func(jobs []impl.Job, order []int, a, b int) map[string]answer {
		answers, note := newAnswers()
		note("IsPrecedence", impl.IsPrecedence(a, edges))
		closure, ok := impl.PrecedenceClosure(a, edges)
		note("PrecedenceClosure", ok, closure)
		reduction, ok := impl.PrecedenceReduction(a, edges)
		note("PrecedenceReduction", ok, reduction)
		is, ok := impl.IsExtension(a, edges, order)
		note("IsExtension", ok, is)
		count, ok := impl.CountExtensions(a, edges)
		note("CountExtensions", ok, count)
		sets, ok := impl.InitialSets(a, edges)
		note("InitialSets", ok, sets)
		best, ok := impl.BestExtension(jobs, edges, b)
		note("BestExtension", ok, best)
		last, ok := impl.LastCostOrder(jobs, edges)
		note("LastCostOrder", ok, last)
		dates, ok := impl.AdjustedDates(jobs, edges)
		note("AdjustedDates", ok, dates)
		ratio, ok := impl.RatioOfSet(jobs, order)
		note("RatioOfSet", ok, ratio[0], ratio[1])
		blocks, ok := impl.SidneyBlocks(jobs, edges)
		note("SidneyBlocks", ok, blocks)
		block, ok := impl.IsBlockOrder(jobs, edges, order)
		note("IsBlockOrder", ok, block)
		parallel, ok := impl.IsSeriesParallel(a, edges)
		note("IsSeriesParallel", ok, parallel)
		series, ok := impl.SeriesOrder(jobs, edges)
		note("SeriesOrder", ok, series)
		return answers
	}
}

// checkTotalWithEdges checks of all functions of chapter 4 what checkTotal does, and that no pairs are changed.
func checkTotalWithEdges(t *testing.T, edges [][2]int, jobs []impl.Job, order []int, a, b int) {
	t.Helper()
	moreEdges := append(slices.Clone(edges), [2]int{7, 6}, [2]int{6, 5})
	kept := slices.Clone(moreEdges)
	checkTotal(t, answersOfPrecedence(moreEdges[:len(edges)]), jobs, order, a, b)
	if !slices.Equal(moreEdges, kept) {
		t.Errorf("%.200v with %.200v, %.200v, %d, %d was changed to %.200v", edges, jobs, order, a, b, moreEdges)
	}
}

func TestPromise13PrecedencesOfAllKinds(t *testing.T) {
	numbers := []int{math.MinInt, -1, 0, 1, 2, 3, 8, 9, 63, 64, math.MaxInt - 1, math.MaxInt}
	for _, jobs := range slices.Concat(knownJobs()[:14], plainJobs()[:10], notPlainJobs()[:3], noJobs()[:30]) {
		for _, order := range [][]int{nil, upTo(min(len(jobs), 20)), {math.MaxInt, math.MinInt}} {
			for _, edges := range [][][2]int{nil, {{0, 1}}, {{0, 0}}, {{math.MinInt, math.MaxInt}}, make([][2]int, 1000)} {
				for i, a := range numbers {
					checkTotalWithEdges(t, edges, jobs, order, a, i)
				}
			}
		}
	}
}

func TestPromise13PairsOfAllKinds(t *testing.T) {
	for n := range impl.MaxJobs + 1 {
		jobs, plain := madeJobs(n+900, n, 9, 9, 9, 30), madeJobs(n+910, n, 9, 9, 0, 30)
		for i, edges := range knownEdges(n) {
			if n > 6 && len(edges) < n {
				continue
			}
			checkTotalWithEdges(t, edges, plain, upTo(n), n, i%10)
			checkTotalWithEdges(t, edges, jobs, upTo(n), n, i%10)
		}
		for i, edges := range noEdges(n) {
			checkTotalWithEdges(t, edges, plain, upTo(n), n, i%10)
		}
		for i, order := range noOrders(n) {
			checkTotalWithEdges(t, totalOf(upTo(n)), plain, order, n, i%10)
		}
	}
}

// TestPromise13ListsOfPrecedenceAreApart writes all over results and checks that no argument and no later result shows it.
func TestPromise13ListsOfPrecedenceAreApart(t *testing.T) {
	for number, jobs := range append(plainJobs(), longPlainJobs()...) {
		n := len(jobs)
		for _, edges := range [][][2]int{chainOf(upTo(n)), totalOf(upTo(n)), seriesEdges(n)[3+number%5]} {
			keptJobs, keptEdges := slices.Clone(jobs), slices.Clone(edges)
			for name, f := range map[string]func() ([]int, bool){
				"BestExtension": func() ([]int, bool) { return impl.BestExtension(jobs, edges, impl.ObjWeighted) },
				"LastCostOrder": func() ([]int, bool) { return impl.LastCostOrder(jobs, edges) },
				"AdjustedDates": func() ([]int, bool) { return impl.AdjustedDates(jobs, edges) },
				"SeriesOrder":   func() ([]int, bool) { return impl.SeriesOrder(jobs, edges) },
			} {
				checkApart(t, fmt.Sprintf("%s of %v, %v", name, jobs, edges), f)
				if !slices.Equal(jobs, keptJobs) || !slices.Equal(edges, keptEdges) {
					t.Fatalf("%s of %v, %v: a result changed an argument: %v, %v", name, keptJobs, keptEdges, jobs, edges)
				}
			}
		}
	}
}

func TestPromise13PairsAreApart(t *testing.T) {
	for n := range impl.MaxJobs + 1 {
		for _, edges := range knownEdges(n) {
			keptEdges := slices.Clone(edges)
			for name, f := range map[string]func(int, [][2]int) ([][2]int, bool){
				"PrecedenceClosure": impl.PrecedenceClosure, "PrecedenceReduction": impl.PrecedenceReduction,
			} {
				one, ok := f(n, edges)
				two, fine := f(n, edges)
				kept := slices.Clone(two)
				clear(one[:cap(one)])
				three, fair := f(n, edges)
				if !ok || !fine || !fair || !slices.Equal(two, kept) || !slices.Equal(three, kept) {
					t.Errorf("%s of %d, %v: a result changed another: %v, %v, %v", name, n, edges, kept, two, three)
				}
				if !slices.Equal(edges, keptEdges) {
					t.Fatalf("%s of %d, %v: a result changed the argument: %v", name, n, keptEdges, edges)
				}
			}
		}
	}
}

// checkSetsApart writes all over each set and checks that no later one shows it.
func checkSetsApart(t *testing.T, name string, sets [][]int) {
	t.Helper()
	for i := range sets {
		others := slices.Concat(sets[i+1:]...)
		scribble(sets[i])
		if !slices.Equal(slices.Concat(sets[i+1:]...), others) {
			t.Fatalf("%s: a set shares memory with another one", name)
		}
	}
}

func TestPromise13SetsAreApart(t *testing.T) {
	for n := range impl.MaxJobs + 1 {
		jobs := madeJobs(n+920, n, 9, 9, 9, 30)
		for _, edges := range knownEdges(n) {
			sets, one := impl.InitialSets(n, edges)
			blocks, two := impl.SidneyBlocks(jobs, edges)
			if !one || !two {
				t.Fatalf("InitialSets or SidneyBlocks of %v, %v failed", jobs, edges)
			}
			checkSetsApart(t, fmt.Sprintf("InitialSets(%d, %v)", n, edges), sets)
			checkSetsApart(t, fmt.Sprintf("SidneyBlocks(%v, %v)", jobs, edges), blocks)
			if again, ok := impl.InitialSets(n, edges); !ok || len(again[0]) > 0 || !slices.Equal(again[len(again)-1], upTo(n)) {
				t.Errorf("InitialSets(%d, %v): a result changed another: %v", n, edges, again)
			}
		}
	}
}
