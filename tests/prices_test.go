package tests

import (
	"math"
	"slices"
	"testing"

	"loop.example/g01103/impl"
)

// checkPrices compares what is told of prices with what is so by hand, and returns whether they are fair.
func checkPrices(t *testing.T, jobs []impl.Job, prices []impl.SetPrice, scale int) bool {
	t.Helper()
	fair, yield := isFairByHand(jobs, prices, scale), yieldByHand(jobs, prices)
	if got, ok := impl.IsFair(jobs, prices, scale); !ok || got != fair {
		t.Errorf("IsFair(%v, %v, %d) = %v, %v", jobs, prices, scale, got, ok)
	}
	if got, ok := impl.YieldOf(jobs, prices); !ok || got != yield {
		t.Errorf("YieldOf(%v, %v) = %d, %v, not %d", jobs, prices, got, ok, yield)
	}
	return fair
}

// checkProofs compares the proofs with each of some orders, and checks that fair prices bound all of them; it returns how many of them are proved to be best.
func checkProofs(t *testing.T, jobs []impl.Job, orders [][]int, prices []impl.SetPrice, scale int) int {
	t.Helper()
	fair, yield := checkPrices(t, jobs, prices, scale), yieldByHand(jobs, prices)
	proved := 0
	for _, order := range orders {
		value := scale * valueByHand(jobs, order, impl.ObjWeighted)
		if fair && value < yield {
			t.Errorf("%v, %v: the scale %d times the value for %v is %d, less than %d", jobs, prices, scale, order, value, yield)
		}
		want := fair && value == yield
		if want {
			proved++
		}
		if got, ok := impl.PriceProof(jobs, prices, scale, order); !ok || got != want {
			t.Errorf("PriceProof(%v, %v, %d, %v) = %v, %v", jobs, prices, scale, order, got, ok)
		}
	}
	return proved
}

// TestPromise10AllPrices tries all small Prices of all sets of two jobs, and of three with Prices of 1.
func TestPromise10AllPrices(t *testing.T) {
	fair, proved := 0, 0
	orders := allOrders(2)
	everyNumbers(4, []int{1, 2}, func(times []int) {
		jobs := weighed([2]int{times[0], 3 * (times[1] - 1)}, [2]int{times[2], times[3]})
		everyNumbers(3, upTo(5), func(list []int) {
			prices := pricesOfList(2, list)
			for scale := 1; scale <= 4; scale++ {
				proved += checkProofs(t, jobs, orders, prices, scale)
			}
		})
	})
	orders = allOrders(3)
	for number := range 6 {
		jobs := madeJobs(number+4400, 3, 2, 4, 0, 5)
		everyNumbers(7, upTo(2), func(list []int) {
			prices := pricesOfList(3, list)
			for scale := 1; scale <= 2; scale++ {
				proved += checkProofs(t, jobs, orders, prices, scale)
				if isFairByHand(jobs, prices, scale) {
					fair++
				}
			}
		})
	}
	if fair == 0 || proved == 0 {
		t.Errorf("%d prices were fair, and %d orders proved", fair, proved)
	}
}

// TestPromise10PricesOfAllKinds draws prices for all lists of jobs, with a scale for which they are just fair and with one that is 1 less.
func TestPromise10PricesOfAllKinds(t *testing.T) {
	just := 0
	for number, jobs := range append(boundJobs(), longBoundJobs()...) {
		next := drawer(number + 5)
		orders := [][]int{}
		for range 5 {
			orders = append(orders, madeOrder(next, len(jobs)))
		}
		for _, most := range []int{1, 9, 1000, mostPrice} {
			prices := drawnPrices(next, len(jobs), most)
			checkProofs(t, jobs, orders, prices, 1+next(mostScale))
			checkProofs(t, jobs, orders, prices, mostScale)
			// The least scale for which they are fair: one less is not enough.
			scale := 1
			for i, j := range jobs {
				if paid := paidByHand(jobs, prices, i); j.Weight > 0 {
					scale = max(scale, (paid+j.Weight-1)/j.Weight)
				} else if paid > 0 {
					scale = mostScale + 1
				}
			}
			if scale > mostScale {
				continue
			}
			if !checkPrices(t, jobs, prices, scale) {
				t.Errorf("%v, %v are not fair for %d", jobs, prices, scale)
			}
			if scale > 1 {
				just++
				if checkPrices(t, jobs, prices, scale-1) {
					t.Errorf("%v, %v are fair for %d", jobs, prices, scale-1)
				}
			}
		}
	}
	if just == 0 {
		t.Error("no prices were just fair")
	}
}

// smithJobs are plain lists whose SmithPrices have scales of all kinds.
func smithJobs() [][]impl.Job {
	return append(boundJobs(),
		// scales of 999999, 999925 and 1000008, and one that is far greater
		weighed([2]int{7, 50}, [2]int{11, 3}, [2]int{13, 1}, [2]int{27, 9}, [2]int{37, 50}),
		weighed([2]int{23, 1}, [2]int{25, 0}, [2]int{37, 50}, [2]int{47, 7}),
		weighed([2]int{8, 5}, [2]int{9, 5}, [2]int{17, 5}, [2]int{19, 5}, [2]int{43, 5}),
		weighed([2]int{50, 1}, [2]int{49, 1}, [2]int{47, 1}, [2]int{43, 1}, [2]int{41, 1}),
		// a Price of 999999 * MaxWeight would be one of a job with the Time 1
		weighed([2]int{7, 0}, [2]int{11, 0}, [2]int{13, 0}, [2]int{27, 0}, [2]int{37, 0}, [2]int{1, 50}))
}

// checkSmithPrices compares the SmithPrices with those by hand, and tries all orders; it returns how many sets of first jobs have none.
func checkSmithPrices(t *testing.T, jobs []impl.Job, orders [][]int) int {
	t.Helper()
	prices, scale, ok := impl.SmithPrices(jobs)
	least, valid := scaleByHand(jobs)
	if ok != valid || scale != least {
		t.Errorf("SmithPrices(%v) = %v, %d, %v", jobs, prices, scale, ok)
	}
	if !ok {
		if len(prices) != 0 {
			t.Errorf("SmithPrices(%v) failed with %v", jobs, prices)
		}
		return 0
	}
	if want := smithByHand(jobs, scale); !equalPrices(prices, want) || !arePricesByHand(len(jobs), prices) {
		t.Errorf("SmithPrices(%v) = %v, not %v", jobs, prices, want)
		return 0
	}
	best, _, count := bestByHand(jobs, orders, impl.ObjWeighted)
	if yield := yieldByHand(jobs, prices); yield != scale*best {
		t.Errorf("SmithPrices(%v) have the yield %d, not %d times %d", jobs, yield, scale, best)
	}
	if proved := checkProofs(t, jobs, orders, prices, scale); proved != count {
		t.Errorf("SmithPrices(%v) prove %d orders, not %d", jobs, proved, count)
	}
	for place := range prices {
		// Each job of each set pays all that it may.
		if checkPrices(t, jobs, priced(prices, place, 1), scale) {
			t.Errorf("SmithPrices(%v) are fair with 1 more at %d", jobs, place)
		}
		if prices[place].Price > 1 && checkProofs(t, jobs, orders[:1], priced(prices, place, -1), scale) > 0 {
			t.Errorf("SmithPrices(%v) prove an order with 1 less at %d", jobs, place)
		}
	}
	return len(jobs) - len(prices)
}

func TestPromise10SmithPrices(t *testing.T) {
	missing := 0
	for _, jobs := range smithJobs() {
		missing += checkSmithPrices(t, jobs, allOrders(len(jobs)))
	}
	if missing == 0 {
		t.Error("no Price was 0")
	}
}

func TestPromise10SmithPricesOfManyJobs(t *testing.T) {
	seven, eight := allOrders(7), allOrders(8)
	lists := append(longBoundJobs(),
		weighed([2]int{1, 3}, [2]int{2, 6}, [2]int{3, 1}, [2]int{4, 4}, [2]int{6, 50}, [2]int{12, 0}, [2]int{8, 9}, [2]int{24, 7}))
	for _, jobs := range lists {
		orders := eight
		if len(jobs) == 7 {
			orders = seven
		}
		checkSmithPrices(t, jobs, orders)
	}
}

func TestPromise10KnownSmithPrices(t *testing.T) {
	for _, c := range []struct {
		jobs   []impl.Job
		prices []impl.SetPrice
		scale  int
		yield  int
	}{
		{nil, nil, 1, 0},
		{weighed([2]int{1, 0}), nil, 1, 0},
		{weighed([2]int{50, 0}), nil, 50, 0},
		{weighed([2]int{1, 50}), []impl.SetPrice{setPrice(50, 0)}, 1, 50},
		{weighed([2]int{50, 50}), []impl.SetPrice{setPrice(50, 0)}, 50, 125000},
		{weighed([2]int{2, 3}, [2]int{1, 1}), []impl.SetPrice{setPrice(1, 0), setPrice(2, 0, 1)}, 2, 18},
		{weighed([2]int{1, 1}, [2]int{2, 3}), []impl.SetPrice{setPrice(1, 1), setPrice(2, 0, 1)}, 2, 18},
		// the same quotient: only the set of all jobs has a Price
		{weighed([2]int{2, 4}, [2]int{3, 6}), []impl.SetPrice{setPrice(12, 0, 1)}, 6, 228},
		// a Weight of 0 at the end: the set of all jobs has none
		{weighed([2]int{4, 0}, [2]int{6, 5}), []impl.SetPrice{setPrice(10, 1)}, 12, 360},
		{weighed([2]int{3, 1}, [2]int{6, 2}, [2]int{1, 5}), []impl.SetPrice{setPrice(28, 2), setPrice(2, 0, 1, 2)}, 6, 6 * (5 + 4 + 20)},
		{weighed([2]int{7, 0}, [2]int{11, 0}, [2]int{13, 0}, [2]int{27, 0}, [2]int{37, 0}, [2]int{1, 50}), []impl.SetPrice{setPrice(49999950, 5)}, 999999, 49999950},
	} {
		prices, scale, one := impl.SmithPrices(c.jobs)
		yield, two := impl.YieldOf(c.jobs, prices)
		if !one || !two || !equalPrices(prices, c.prices) || scale != c.scale || yield != c.yield {
			t.Errorf("SmithPrices(%v) = %v, %d, %v with the yield %d, not %v, %d, %d", c.jobs, prices, scale, one, yield, c.prices, c.scale, c.yield)
		}
	}
	for _, jobs := range [][]impl.Job{
		weighed([2]int{8, 5}, [2]int{9, 5}, [2]int{17, 5}, [2]int{19, 5}, [2]int{43, 5}),
		weighed([2]int{50, 0}, [2]int{49, 0}, [2]int{47, 0}, [2]int{43, 0}, [2]int{41, 0}, [2]int{37, 0}, [2]int{31, 0}, [2]int{29, 0}),
	} {
		if prices, scale, ok := impl.SmithPrices(jobs); ok || len(prices) != 0 || scale != 0 {
			t.Errorf("SmithPrices(%v) = %v, %d, %v", jobs, prices, scale, ok)
		}
	}
}

func TestPromise10KnownPrices(t *testing.T) {
	two := weighed([2]int{2, 3}, [2]int{1, 1})
	one := weighed([2]int{1, 50})
	none := weighed([2]int{4, 0}, [2]int{6, 0})
	most := []impl.SetPrice{setPrice(mostPrice, 0)}
	for _, c := range []struct {
		jobs          []impl.Job
		prices        []impl.SetPrice
		scale         int
		order         []int
		yield         int
		fair, isProof bool
	}{
		{nil, nil, 1, nil, 0, true, true}, {nil, nil, mostScale, nil, 0, true, true},
		// no prices are fair, and prove that orders without Weights are best
		{two, nil, 1, []int{0, 1}, 0, true, false}, {none, nil, 1, []int{1, 0}, 0, true, true}, {none, nil, mostScale, []int{0, 1}, 0, true, true},
		{none, []impl.SetPrice{setPrice(1, 1)}, mostScale, []int{0, 1}, 36, false, false},
		{two, []impl.SetPrice{setPrice(1, 0), setPrice(2, 0, 1)}, 2, []int{0, 1}, 18, true, true},
		{two, []impl.SetPrice{setPrice(1, 0), setPrice(2, 0, 1)}, 2, []int{1, 0}, 18, true, false},
		// the same prices have the same yield for another scale, which is too small, or too great
		{two, []impl.SetPrice{setPrice(1, 0), setPrice(2, 0, 1)}, 1, []int{0, 1}, 18, false, false},
		{two, []impl.SetPrice{setPrice(1, 0), setPrice(2, 0, 1)}, 3, []int{0, 1}, 18, true, false},
		{two, []impl.SetPrice{setPrice(2, 0), setPrice(4, 0, 1)}, 4, []int{0, 1}, 36, true, true},
		// the first job, or the last one, pays 1 too much
		{two, []impl.SetPrice{setPrice(2, 0), setPrice(2, 0, 1)}, 2, []int{0, 1}, 22, false, false},
		{two, []impl.SetPrice{setPrice(1, 0), setPrice(1, 1), setPrice(2, 0, 1)}, 2, []int{0, 1}, 19, false, false},
		// the yield is the value, but the prices are not fair
		{two, []impl.SetPrice{setPrice(18, 1)}, 2, []int{0, 1}, 18, false, false},
		{one, most, mostScale, []int{0}, mostPrice, true, true}, {one, most, mostScale - 1, []int{0}, mostPrice, false, false},
		{weighed([2]int{1, 49}), most, mostScale, []int{0}, mostPrice, false, false},
		{one, []impl.SetPrice{setPrice(1, 0)}, 1, []int{0}, 1, true, false},
	} {
		checkPrices(t, c.jobs, c.prices, c.scale)
		fair, one := impl.IsFair(c.jobs, c.prices, c.scale)
		yield, two := impl.YieldOf(c.jobs, c.prices)
		proof, three := impl.PriceProof(c.jobs, c.prices, c.scale, c.order)
		if !one || !two || !three || fair != c.fair || yield != c.yield || proof != c.isProof {
			t.Errorf("%v, %v, %d, %v: %v, %d, %v", c.jobs, c.prices, c.scale, c.order, fair, yield, proof)
		}
	}
}

// TestPromise10AllSetsPriced prices all sets of the longest jobs as high as possible, so that sums are as great as they can be.
func TestPromise10AllSetsPriced(t *testing.T) {
	jobs := repeated(job(50, 50, 0, 0), 8)
	prices := pricesOfList(8, slices.Repeat([]int{mostPrice}, 256))
	if len(prices) != 255 || checkPrices(t, jobs, prices, mostScale) {
		t.Errorf("%d prices are fair", len(prices))
	}
	// Each job is in 128 sets, so it pays 128 * 50, and may pay 50 times the scale.
	low := pricesOfList(8, slices.Repeat([]int{1}, 256))
	if !checkPrices(t, jobs, low, 128) || checkPrices(t, jobs, low, 127) {
		t.Error("prices of 1 for all sets are fair for another scale")
	}
}

// checkNoPrices checks that all functions of prices fail.
func checkNoPrices(t *testing.T, jobs []impl.Job, prices []impl.SetPrice, order []int) {
	t.Helper()
	for _, scale := range []int{1, mostScale} {
		fair, one := impl.IsFair(jobs, prices, scale)
		proof, two := impl.PriceProof(jobs, prices, scale, order)
		if one || two || fair || proof {
			t.Errorf("%.200v, %.200v, %d: %v, %v, %v, %v", jobs, prices, scale, fair, one, proof, two)
		}
	}
	if yield, ok := impl.YieldOf(jobs, prices); ok || yield != 0 {
		t.Errorf("YieldOf(%.200v, %.200v) = %d, %v", jobs, prices, yield, ok)
	}
}

// TestPromise10PricesOfAllLists tries all lists of up to two SetPrices, and some of three, whose sets and Prices are of all kinds.
func TestPromise10PricesOfAllLists(t *testing.T) {
	sets := [][]int{nil, {0}, {1}, {2}, {-1}, {0, 1}, {1, 0}, {0, 0}, {0, 2}, {0, 1, 2}}
	all := []impl.SetPrice{}
	for _, set := range sets {
		for _, price := range []int{0, 1, mostPrice, mostPrice + 1} {
			all = append(all, setPrice(price, set...))
		}
	}
	valid, next := 0, drawer(9)
	for n := range 4 {
		jobs := madeJobs(n+90, n, 5, 5, 0, 9)
		check := func(places []int) {
			prices := []impl.SetPrice{}
			for _, place := range places {
				prices = append(prices, all[place])
			}
			if !arePricesByHand(n, prices) {
				checkNoPrices(t, jobs, prices, upTo(n))
				return
			}
			valid++
			checkProofs(t, jobs, [][]int{upTo(n)}, prices, 7)
		}
		for size := range 3 {
			everyNumbers(size, upTo(len(all)), check)
		}
		for range 400 {
			check([]int{next(len(all)), next(len(all)), next(len(all))})
		}
	}
	if valid < 20 {
		t.Errorf("only %d lists were valid", valid)
	}
}

func TestPromise10NoPrices(t *testing.T) {
	for n := range impl.MaxJobs + 1 {
		jobs := madeJobs(n+70, n, 5, 5, 0, 9)
		for _, prices := range noPrices(n) {
			checkNoPrices(t, jobs, prices, upTo(n))
		}
		prices := pricesOfList(n, append(slices.Repeat([]int{1}, (1<<n)-1), 1))
		for _, order := range noOrders(n) {
			if proof, ok := impl.PriceProof(jobs, prices, 1, order); ok || proof {
				t.Errorf("PriceProof(%v, %v, 1, %.200v) = %v, %v", jobs, prices, order, proof, ok)
			}
		}
		for _, scale := range noScales() {
			fair, one := impl.IsFair(jobs, nil, scale)
			proof, two := impl.PriceProof(jobs, nil, scale, upTo(n))
			if one || two || fair || proof {
				t.Errorf("%v, %d: %v, %v, %v, %v", jobs, scale, fair, one, proof, two)
			}
		}
	}
	for _, jobs := range notPlain() {
		checkNoPrices(t, jobs, nil, upTo(len(jobs)))
		checkNoPrices(t, jobs, []impl.SetPrice{setPrice(1, 0)}, upTo(len(jobs)))
		if prices, scale, ok := impl.SmithPrices(jobs); ok || len(prices) != 0 || scale != 0 {
			t.Errorf("SmithPrices(%.200v) = %v, %d, %v", jobs, prices, scale, ok)
		}
	}
	if fair, ok := impl.IsFair(nil, nil, math.MinInt); ok || fair {
		t.Errorf("IsFair of no jobs = %v, %v", fair, ok)
	}
}
