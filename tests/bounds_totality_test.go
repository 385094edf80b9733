package tests

import (
	"fmt"
	"math"
	"slices"
	"testing"

	"loop.example/g01103/impl"
)

// boundLists are the lists that functions of chapter 10 take beside jobs and orders: two end vectors, a set and prices.
type boundLists struct {
	ends   []int
	others []int
	set    []int
	prices []impl.SetPrice
}

// withRoom returns copies of the lists behind each of which something is written.
func (l boundLists) withRoom() boundLists {
	prices := []impl.SetPrice{}
	for _, p := range l.prices {
		prices = append(prices, setPrice(p.Price, roomy(p.Set)...))
	}
	return boundLists{roomy(l.ends), roomy(l.others), roomy(l.set), append(prices, setPrice(44, 33))[:len(prices)]}
}

// text tells of the lists that withRoom returned, and of what is written behind them.
func (l boundLists) text() string {
	behind := [][]int{}
	for _, p := range l.prices {
		behind = append(behind, p.Set[len(p.Set):len(p.Set)+1])
	}
	for _, list := range [][]int{l.ends, l.others, l.set} {
		behind = append(behind, list[:len(list)+1])
	}
	return fmt.Sprint(l.prices[:len(l.prices)+1], behind)
}

// answersOfBounds calls each function of chapter 10; the first number is x, a scale or a job, the second one is y.
func answersOfBounds(l boundLists) caller {
	return func(jobs []impl.Job, order []int, a, b int) map[string]answer {
		answers, note := newAnswers()
		demand, ok := impl.DemandOf(jobs, l.set)
		note("DemandOf", ok, demand)
		supply, ok := impl.SupplyOf(jobs, l.ends, l.set)
		note("SupplyOf", ok, supply)
		short, ok := impl.ShortSet(jobs, l.ends)
		note("ShortSet", ok, short)
		balanced, ok := impl.IsBalanced(jobs, l.ends)
		note("IsBalanced", ok, balanced)
		ordered, ok := impl.IsOrderVector(jobs, l.ends)
		note("IsOrderVector", ok, ordered)
		mixed, ok := impl.MixVectors(jobs, l.ends, l.others, a, b)
		note("MixVectors", ok, mixed)
		fair, ok := impl.IsFair(jobs, l.prices, a)
		note("IsFair", ok, fair)
		yield, ok := impl.YieldOf(jobs, l.prices)
		note("YieldOf", ok, yield)
		prices, scale, ok := impl.SmithPrices(jobs)
		note("SmithPrices", ok, prices, scale)
		proof, ok := impl.PriceProof(jobs, l.prices, a, order)
		note("PriceProof", ok, proof)
		rank, ok := impl.UnitRank(jobs, l.set)
		note("UnitRank", ok, rank)
		greedy, ok := impl.UnitGreedy(jobs)
		note("UnitGreedy", ok, greedy)
		circuit, ok := impl.UnitCircuit(jobs, l.set, a)
		note("UnitCircuit", ok, circuit)
		slots, ok := impl.UnitSlots(jobs, l.set)
		note("UnitSlots", ok, slots)
		return answers
	}
}

// These are the functions that fail if the jobs, or one of the lists, or the scale, are not valid.
var (
	failWithoutVector = []string{"SupplyOf", "ShortSet", "IsBalanced", "IsOrderVector", "MixVectors"}
	failWithoutSet    = []string{"DemandOf", "SupplyOf", "UnitRank", "UnitCircuit", "UnitSlots"}
	failWithoutPrices = []string{"IsFair", "YieldOf", "PriceProof"}
	failWithoutScale  = []string{"IsFair", "PriceProof"}
	failWithoutUnits  = []string{"UnitRank", "UnitGreedy", "UnitCircuit", "UnitSlots"}
	failWithoutBounds = slices.Concat(failWithoutVector, failWithoutSet, failWithoutPrices, failWithoutUnits, []string{"SmithPrices"})
)

// checkTotalInBounds checks of all functions of chapter 10 what checkTotal does, and that no list is changed; if some functions are named, that just these fail.
func checkTotalInBounds(t *testing.T, l boundLists, jobs []impl.Job, order []int, a, b int, fail []string) {
	t.Helper()
	given := l.withRoom()
	kept := given.text()
	call := answersOfBounds(given)
	checkTotal(t, call, jobs, order, a, b)
	if text := given.text(); text != kept {
		t.Errorf("%.200v, %.300s, %.200v, %d, %d was changed to %.300s", jobs, kept, order, a, b, text)
	}
	if fail == nil {
		return
	}
	for name, got := range call(jobs, order, a, b) {
		if failed := slices.Contains(fail, name); failed == got.ok || failed && !nothing(got.results) {
			t.Errorf("%s of %.200v, %.200v, %.200v, %d, %d: %v", name, jobs, l, order, a, b, got)
		}
	}
}

// listsOfBounds are two end vectors, a set and prices of a plain list: the first vector leaves the first job short, and the set has all jobs but the last one.
func listsOfBounds(number int, jobs []impl.Job) boundLists {
	next := drawer(number)
	n := len(jobs)
	return boundLists{make([]int, n), slices.Repeat([]int{360}, n), upTo(max(0, n-1)), drawnPrices(next, n, 9)}
}

// oddPrices are lists of SetPrices of all kinds.
func oddPrices() [][]impl.SetPrice {
	return append(noPrices(3), nil, []impl.SetPrice{}, []impl.SetPrice{setPrice(1, 0)}, []impl.SetPrice{setPrice(2, 1), setPrice(mostPrice, 0, 1)}, pricesOfList(3, slices.Repeat([]int{5}, 8)))
}

func TestPromise13BoundsOfAllKinds(t *testing.T) {
	lists, _ := oddLists()
	lists = append(lists, []int{1, 3}, []int{1, 3, 6}, []int{2000}, []int{2001, 1})
	prices := oddPrices()
	numbers := []int{math.MinInt, -1, 0, 1, 2, 9, 10, 64, mostScale, mostScale + 1, math.MaxInt - 1, math.MaxInt}
	for number, jobs := range slices.Concat(boundJobs()[:20], unitJobs()[:20], notUnits()) {
		for k, list := range append(lists, upTo(len(jobs))) {
			l := boundLists{list, lists[(number+k)%len(lists)], lists[(number+3*k)%len(lists)], prices[(number+5*k)%len(prices)]}
			for i := range 5 {
				a, b := numbers[(number+k+5*i)%len(numbers)], numbers[(number+7*i)%len(numbers)]
				checkTotalInBounds(t, l, jobs, list, a, b, nil)
			}
		}
	}
	for _, jobs := range [][]impl.Job{timed(2, 1, 3), units(1, 1, 2)} {
		l := listsOfBounds(3, jobs)
		for k, list := range lists {
			checkTotalInBounds(t, boundLists{list, l.others, l.set, l.prices}, jobs, upTo(3), 1, 1, nil)
			checkTotalInBounds(t, boundLists{l.ends, list, l.set, l.prices}, jobs, upTo(3), 1, 0, nil)
			checkTotalInBounds(t, boundLists{l.ends, l.others, list, l.prices}, jobs, upTo(3), k%4, 2, nil)
		}
		for k, list := range prices {
			checkTotalInBounds(t, boundLists{l.ends, l.others, l.set, list}, jobs, upTo(3), 1+k, 0, nil)
		}
	}
}

// knownFailures tells which functions fail for valid jobs and the lists of listsOfBounds, whatever the numbers are, and which sets are independent, if these are unit jobs.
func knownFailures(l boundLists, jobs []impl.Job) ([]string, []bool) {
	fail := []string{}
	if len(jobs) == 0 {
		fail = append(fail, "ShortSet")
	}
	if _, ok := scaleByHand(jobs); !ok {
		fail = append(fail, "SmithPrices")
	}
	if slices.ContainsFunc(jobs, func(j impl.Job) bool { return j.Time > 1 }) {
		return append(fail, failWithoutUnits...), nil
	}
	independent := timelyByHand(jobs)
	if !independent[maskOf(l.set)] {
		fail = append(fail, "UnitSlots")
	}
	return fail, independent
}

// failingWith tells which functions fail then with x, scale or job a and with y of b, too.
func failingWith(known []string, independent []bool, l boundLists, a, b int) []string {
	fail := slices.Clone(known)
	if min(a, b) < 0 || max(a, b) > 9 || a == 0 && b == 0 || mixedByHand(l.ends, l.others, a, b) == nil {
		fail = append(fail, "MixVectors")
	}
	if a < 1 || a > mostScale {
		fail = append(fail, failWithoutScale...)
	}
	mask := maskOf(l.set)
	if independent == nil || !independent[mask] || a < 0 || a >= len(l.ends) || independent[mask|1<<a] {
		fail = append(fail, "UnitCircuit")
	}
	return fail
}

// TestPromise13FailuresInBounds checks for each function that it fails for each argument that is not valid, and for no other reason.
func TestPromise13FailuresInBounds(t *testing.T) {
	for number, jobs := range slices.Concat(smithJobs()[:30], unitJobs(), longUnitJobs()[1:5], longBoundJobs()[:3]) {
		l, n := listsOfBounds(number, jobs), len(jobs)
		order := madeOrder(drawer(number), n)
		known, independent := knownFailures(l, jobs)
		for a := -1; a <= 10; a++ {
			for _, b := range []int{-1, 0, 1, 9, 10} {
				checkTotalInBounds(t, l, jobs, order, a, b, failingWith(known, independent, l, a, b))
			}
		}
		for _, scale := range append(noScales(), mostScale) {
			checkTotalInBounds(t, l, jobs, order, scale, 1, failingWith(known, independent, l, scale, 1))
		}
		fail := failingWith(known, independent, l, 1, 0)
		for _, ends := range noVectors(n) {
			checkTotalInBounds(t, boundLists{ends, l.others, l.set, l.prices}, jobs, order, 1, 0, append(slices.Clone(fail), failWithoutVector...))
			checkTotalInBounds(t, boundLists{l.ends, ends, l.set, l.prices}, jobs, order, 1, 0, append(slices.Clone(fail), "MixVectors"))
		}
		for _, set := range [][]int{{-1}, {n}, {0, 0}, upTo(n + 1), {math.MinInt}, {math.MaxInt}} {
			checkTotalInBounds(t, boundLists{l.ends, l.others, set, l.prices}, jobs, order, 1, 0, append(slices.Clone(fail), failWithoutSet...))
		}
		for _, prices := range noPrices(n) {
			checkTotalInBounds(t, boundLists{l.ends, l.others, l.set, prices}, jobs, order, 1, 0, append(slices.Clone(fail), failWithoutPrices...))
		}
		for _, other := range noOrders(n) {
			checkTotalInBounds(t, l, jobs, other, 1, 0, append(slices.Clone(fail), "PriceProof"))
		}
		// A vector none of whose sets is short makes ShortSet alone fail.
		checkTotalInBounds(t, boundLists{slices.Repeat([]int{2000}, n), l.others, l.set, l.prices}, jobs, order, 1, 0, append(slices.Clone(fail), "ShortSet"))
	}
	for _, jobs := range notPlain() {
		l, n := listsOfBounds(1, jobs[:min(len(jobs), 8)]), len(jobs)
		l.ends = make([]int, n)
		for _, order := range [][]int{nil, upTo(n)} {
			checkTotalInBounds(t, l, jobs, order, 1, 0, failWithoutBounds)
			checkTotalInBounds(t, boundLists{}, jobs, order, 1, 1, failWithoutBounds)
		}
	}
}

// TestPromise13ListsOfBoundsAreApart writes all over results and checks that no argument and no later result shows it.
func TestPromise13ListsOfBoundsAreApart(t *testing.T) {
	for _, jobs := range slices.Concat(unitJobs(), longUnitJobs()) {
		set, ok := impl.UnitGreedy(jobs)
		if !ok {
			t.Fatalf("UnitGreedy(%v) failed", jobs)
		}
		left := othersOf(len(jobs), set)
		ends, others := make([]int, len(jobs)), make([]int, len(jobs))
		kept := fmt.Sprint(jobs, set, ends, others)
		for name, f := range map[string]func() ([]int, bool){
			"ShortSet":                    func() ([]int, bool) { return impl.ShortSet(jobs, ends) },
			"MixVectors":                  func() ([]int, bool) { return impl.MixVectors(jobs, ends, others, 1, 1) },
			"MixVectors of the first one": func() ([]int, bool) { return impl.MixVectors(jobs, ends, others, 1, 0) },
			"MixVectors of the last one":  func() ([]int, bool) { return impl.MixVectors(jobs, ends, others, 0, 1) },
			"UnitGreedy":                  func() ([]int, bool) { return impl.UnitGreedy(jobs) },
			"UnitSlots":                   func() ([]int, bool) { return impl.UnitSlots(jobs, set) },
			"UnitCircuit": func() ([]int, bool) {
				if len(left) == 0 {
					return nil, true
				}
				return impl.UnitCircuit(jobs, set, left[0])
			},
		} {
			if _, ok := f(); !ok && len(jobs) == 0 {
				continue // the empty set is not short
			}
			checkApart(t, fmt.Sprintf("%s of %v", name, jobs), f)
			if text := fmt.Sprint(jobs, set, ends, others); text != kept {
				t.Fatalf("%s of %s: a result changed an argument: %s", name, kept, text)
			}
		}
	}
}

func TestPromise13PricesAreApart(t *testing.T) {
	for _, jobs := range slices.Concat(boundJobs(), longBoundJobs()) {
		kept := slices.Clone(jobs)
		prices, scale, ok := impl.SmithPrices(jobs)
		want, sets := copiedPrices(prices), [][]int{}
		for _, p := range prices {
			sets = append(sets, p.Set)
		}
		checkSetsApart(t, fmt.Sprintf("SmithPrices of %v", jobs), sets)
		clear(prices[:cap(prices)])
		again, same, fine := impl.SmithPrices(jobs)
		if ok != fine || scale != same || !equalPrices(again, want) || !slices.Equal(jobs, kept) {
			t.Errorf("SmithPrices of %v: a result changed another, or the jobs: %v, not %v; %v", kept, again, want, jobs)
		}
	}
}
