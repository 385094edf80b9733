package tests

import (
	"math"
	"slices"
	"testing"

	"loop.example/g01103/impl"
)

func TestPromise8Shops(t *testing.T) {
	for _, m := range shopMachines {
		for _, shop := range allShopsOn(m) {
			if !impl.IsShop(shop) {
				t.Errorf("%v is no shop", shop)
			}
		}
	}
	for _, shop := range [][][]int{nil, {}, {{0}}, {{30}}, {{0, 30}}, {{30, 0, 30}}, {{0, 0, 0}, {30, 30, 30}}, sameTimes(8, 1, 30), sameTimes(8, 3, 0)} {
		if !impl.IsShop(shop) {
			t.Errorf("%v is no shop", shop)
		}
	}
	for _, shop := range noShops() {
		if impl.IsShop(shop) {
			t.Errorf("%.200v is a shop", shop)
		}
	}
}

// checkFlow compares the flow schedule of an order with one made by hand, and returns its span.
func checkFlow(t *testing.T, shop [][]int, order []int) int {
	t.Helper()
	want := flowByHand(shop, order)
	ends, ok := impl.FlowEnds(shop, order)
	if !ok || !slices.EqualFunc(ends, want, slices.Equal[[]int]) {
		t.Errorf("FlowEnds(%v, %v) = %v, %v, not %v", shop, order, ends, ok, want)
	}
	span, ok := impl.FlowSpan(shop, order)
	if !ok || span != spanByHand(shop, order) {
		t.Errorf("FlowSpan(%v, %v) = %d, %v, not %d", shop, order, span, ok, spanByHand(shop, order))
	}
	return span
}

// checkStairs compares all staircases of an order with its span, the greatest length of which it is, and returns how many are the longest.
func checkStairs(t *testing.T, shop [][]int, order []int) int {
	t.Helper()
	span := checkFlow(t, shop, order)
	first, longest, count := []int{}, -1, 0
	for _, stops := range stairsByHand(len(shop), machinesOf(shop)) {
		want := stairByHand(shop, order, stops)
		if length, ok := impl.StairLength(shop, order, stops); !ok || length != want {
			t.Errorf("StairLength(%v, %v, %v) = %d, %v, not %d", shop, order, stops, length, ok, want)
		}
		if want > longest {
			first, longest, count = stops, want, 0
		}
		if want == longest {
			count++
		}
	}
	stops, ok := impl.LongestStair(shop, order)
	if len(shop) == 0 {
		if ok || len(stops) != 0 {
			t.Errorf("LongestStair without jobs = %v, %v", stops, ok)
		}
		return 0
	}
	if !ok || !slices.Equal(stops, first) || span != longest {
		t.Errorf("LongestStair(%v, %v) = %v, %v, not %v with %d, the span is %d", shop, order, stops, ok, first, longest, span)
	}
	return count
}

// TestPromise8Staircases compares the span of orders with all staircases.
func TestPromise8Staircases(t *testing.T) {
	for _, m := range shopMachines {
		one, several, number := 0, 0, 0
		for _, shop := range allShopsOn(m) {
			number++
			for _, order := range someOrders(number, len(shop), 20) {
				switch count := checkStairs(t, shop, order); {
				case count == 1:
					one++
				case count > 1:
					several++
				}
			}
		}
		if one < 100 || m > 1 && several < 100 {
			t.Errorf("with %d machines %d orders have one longest staircase, %d have several", m, one, several)
		}
	}
}

func TestPromise8StaircasesOfSmallShops(t *testing.T) {
	for _, c := range []struct {
		n, m  int
		times []int
	}{
		{1, 1, []int{0, 1, 2, 30}}, {2, 1, []int{0, 1, 30}}, {3, 1, []int{0, 1, 2}},
		{1, 2, []int{0, 1, 2, 30}}, {2, 2, []int{0, 1, 2, 3}}, {3, 2, []int{0, 1, 3}},
		{1, 3, []int{0, 1, 2, 30}}, {2, 3, []int{0, 1, 3}}, {3, 3, []int{0, 1}},
	} {
		everyShop(c.n, c.m, c.times, func(shop [][]int) {
			for _, order := range allOrders(c.n) {
				checkStairs(t, shop, order)
			}
		})
	}
}

func TestPromise8KnownFlows(t *testing.T) {
	shop := [][]int{{3, 2}, {1, 4}, {2, 2}}
	for _, c := range []struct {
		shop  [][]int
		order []int
		ends  [][]int
		span  int
		stops []int
	}{
		{nil, nil, nil, 0, nil},
		{[][]int{}, []int{}, [][]int{}, 0, nil},
		{[][]int{{7}}, []int{0}, [][]int{{7}}, 7, []int{0}},
		{[][]int{{0, 0, 0}}, []int{0}, [][]int{{0, 0, 0}}, 0, []int{0, 0, 0}},
		{[][]int{{30, 30, 30}}, []int{0}, [][]int{{30, 60, 90}}, 90, []int{0, 0, 0}},
		// one machine: the sums of the times
		{[][]int{{3}, {0}, {5}}, []int{2, 1, 0}, [][]int{{8}, {5}, {5}}, 8, []int{2}},
		{shop, []int{1, 2, 0}, [][]int{{6, 9}, {1, 5}, {3, 7}}, 9, []int{0, 2}},
		{shop, []int{1, 0, 2}, [][]int{{4, 7}, {1, 5}, {6, 9}}, 9, []int{0, 2}},
		{shop, []int{0, 1, 2}, [][]int{{3, 5}, {4, 9}, {6, 11}}, 11, []int{0, 2}},
		// all of the first machine, and then the last job; the first job, and then all of the second machine
		{[][]int{{5, 1}, {6, 2}}, []int{0, 1}, [][]int{{5, 6}, {11, 13}}, 13, []int{1, 1}},
		{[][]int{{1, 5}, {2, 6}}, []int{0, 1}, [][]int{{1, 6}, {3, 12}}, 12, []int{0, 1}},
		// the same length both ways
		{[][]int{{2, 2}, {2, 2}}, []int{1, 0}, [][]int{{4, 6}, {2, 4}}, 6, []int{0, 1}},
		// machines that have nothing to do, at the beginning, in the middle and at the end
		{[][]int{{0, 3}, {0, 4}}, []int{1, 0}, [][]int{{0, 7}, {0, 4}}, 7, []int{0, 1}},
		{[][]int{{3, 0, 2}, {4, 0, 1}}, []int{0, 1}, [][]int{{3, 3, 5}, {7, 7, 8}}, 8, []int{1, 1, 1}},
		{[][]int{{3, 0}, {4, 0}}, []int{1, 0}, [][]int{{7, 7}, {4, 4}}, 7, []int{1, 1}},
		// a job with the time 0 waits for the machine, too
		{[][]int{{1, 9}, {1, 0}}, []int{0, 1}, [][]int{{1, 10}, {2, 10}}, 10, []int{0, 1}},
		// one that waits on each machine, and one that all others wait for
		{[][]int{{4, 1, 1}, {1, 5, 2}, {2, 2, 6}}, []int{2, 1, 0}, [][]int{{7, 10, 13}, {3, 9, 12}, {2, 4, 10}}, 13, []int{0, 0, 2}},
		{[][]int{{4, 1, 1}, {1, 5, 2}, {2, 2, 6}}, []int{0, 1, 2}, [][]int{{4, 5, 6}, {5, 10, 12}, {7, 12, 18}}, 18, []int{0, 1, 2}},
		{sameTimes(8, 3, 30), upTo(8), [][]int{{30, 60, 90}, {60, 90, 120}, {90, 120, 150}, {120, 150, 180}, {150, 180, 210}, {180, 210, 240}, {210, 240, 270}, {240, 270, 300}}, 300, []int{0, 0, 7}},
	} {
		ends, one := impl.FlowEnds(c.shop, c.order)
		span, two := impl.FlowSpan(c.shop, c.order)
		stops, three := impl.LongestStair(c.shop, c.order)
		if !one || !two || !slices.EqualFunc(ends, c.ends, slices.Equal[[]int]) || span != c.span {
			t.Errorf("the flow of %v in the order %v: %v, %d", c.shop, c.order, ends, span)
		}
		if three != (len(c.shop) > 0) || !slices.Equal(stops, c.stops) {
			t.Errorf("LongestStair(%v, %v) = %v, %v, not %v", c.shop, c.order, stops, three, c.stops)
		}
		checkStairs(t, c.shop, c.order)
	}
}

func TestPromise8KnownStaircases(t *testing.T) {
	shop, order := [][]int{{3, 2, 1}, {1, 4, 5}, {2, 2, 9}}, []int{2, 0, 1}
	for _, c := range []struct {
		stops []int
		want  int
	}{
		// at the last place at once, at the first place up to the last machine, and one place further on each machine
		{[]int{2, 2, 2}, 15}, {[]int{0, 0, 2}, 19}, {[]int{0, 2, 2}, 15}, {[]int{0, 1, 2}, 12}, {[]int{1, 1, 2}, 13}, {[]int{1, 2, 2}, 16},
	} {
		if length, ok := impl.StairLength(shop, order, c.stops); !ok || length != c.want {
			t.Errorf("StairLength(%v, %v, %v) = %d, %v, not %d", shop, order, c.stops, length, ok, c.want)
		}
	}
}

func TestPromise8NoStaircases(t *testing.T) {
	for _, m := range shopMachines {
		for _, shop := range [][][]int{nil, sameTimes(1, m, 3), madeShop(31, 3, m, 0, 9), sameTimes(8, m, 30)} {
			n := len(shop)
			lists := [][]int{nil, {}, make([]int, 1000), upTo(m), slices.Repeat([]int{n}, m), slices.Repeat([]int{-1}, m)}
			numbers := []int{-1, 0, 1, n - 2, n - 1, n, math.MinInt, math.MaxInt}
			for _, size := range []int{m - 1, m, m + 1} {
				everyNumbers(size, numbers, func(list []int) { lists = append(lists, slices.Clone(list)) })
			}
			for _, stops := range lists {
				want := isStairByHand(n, machinesOf(shop), stops)
				if length, ok := impl.StairLength(shop, upTo(n), stops); ok != want || !ok && length != 0 {
					t.Errorf("StairLength(%v, .., %v) = %d, %v", shop, stops, length, ok)
				}
			}
		}
	}
}

// checkBestFlow compares the best order with all orders, and returns how many are best.
func checkBestFlow(t *testing.T, shop [][]int, orders [][]int) int {
	t.Helper()
	want, least, count := bestFlowByHand(shop, orders)
	order, span, ok := impl.BestFlow(shop)
	if !ok || !slices.Equal(order, want) || span != least {
		t.Errorf("BestFlow(%v) = %v, %d, %v, not %v, %d", shop, order, span, ok, want, least)
	}
	if bound, ok := impl.FlowBound(shop); !ok || bound > least {
		t.Errorf("FlowBound(%v) = %d, %v, but an order has %d", shop, bound, ok, least)
	}
	return count
}

func TestPromise8BestFlows(t *testing.T) {
	orders := [][][]int{}
	for n := range 7 {
		orders = append(orders, allOrders(n))
	}
	for _, m := range shopMachines {
		one, several, later := 0, 0, 0
		for _, shop := range append(shopsOn(m), madeShop(41, 6, m, 0, 9), madeShop(42, 6, m, 0, 30), sameTimes(6, m, 30)) {
			all := orders[len(shop)]
			count := checkBestFlow(t, shop, all)
			if count == 1 {
				one++
			}
			if count > 1 && count < len(all) {
				several++
			}
			if order, _, _ := impl.BestFlow(shop); !slices.Equal(order, upTo(len(shop))) {
				later++
			}
		}
		if m > 1 && (one < 10 || several < 20 || later < 20) {
			t.Errorf("with %d machines %d shops have one best order, %d several ones, %d another one than the first", m, one, several, later)
		}
	}
}

func TestPromise8BestFlowsOfEightJobs(t *testing.T) {
	orders := allOrders(8)
	for _, shop := range [][][]int{sameTimes(8, 1, 30), sameTimes(8, 3, 0), madeShop(43, 8, 2, 0, 9), madeShop(44, 8, 3, 0, 30)} {
		checkBestFlow(t, shop, orders)
	}
}

func TestPromise8KnownBestFlows(t *testing.T) {
	for _, c := range []struct {
		shop  [][]int
		order []int
		span  int
	}{
		{nil, nil, 0},
		{[][]int{}, []int{}, 0},
		{[][]int{{5, 6}}, []int{0}, 11},
		{[][]int{{3, 2}, {1, 4}, {2, 2}}, []int{1, 0, 2}, 9},
		{[][]int{{3, 1}, {1, 3}}, []int{1, 0}, 5},
		{[][]int{{3}, {1}, {2}}, []int{0, 1, 2}, 6},
		{[][]int{{5, 1, 5}, {1, 1, 9}, {9, 1, 1}}, []int{1, 0, 2}, 17},
		{sameTimes(4, 2, 0), []int{0, 1, 2, 3}, 0},
	} {
		if order, span, ok := impl.BestFlow(c.shop); !ok || !slices.Equal(order, c.order) || span != c.span {
			t.Errorf("BestFlow(%v) = %v, %d, %v, not %v, %d", c.shop, order, span, ok, c.order, c.span)
		}
	}
}
