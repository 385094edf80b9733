package tests

import (
	"slices"
	"testing"

	"loop.example/g01103/impl"
)

// checkJohnson compares Johnson's order, and each sorted one, with all orders, and returns how many sorted ones are not Johnson's order, and how many are best and not sorted.
func checkJohnson(t *testing.T, shop [][]int, orders [][]int) (int, int) {
	t.Helper()
	want := johnsonByHand(shop)
	order, ok := impl.JohnsonOrder(shop)
	if !ok || !slices.Equal(order, want) {
		t.Errorf("JohnsonOrder(%v) = %v, %v, not %v", shop, order, ok, want)
	}
	_, least, _ := bestFlowByHand(shop, orders)
	if span, ok := impl.FlowSpan(shop, order); !ok || span != least {
		t.Errorf("JohnsonOrder(%v) = %v has %d, %v, but an order has %d", shop, order, span, ok, least)
	}
	if sorted, ok := impl.IsJohnsonSorted(shop, order); !ok || !sorted {
		t.Errorf("IsJohnsonSorted(%v, %v) = %v, %v for Johnson's order", shop, order, sorted, ok)
	}
	others, unsorted := 0, 0
	for _, other := range orders {
		span, is := spanByHand(shop, other), isSortedByHand(shop, other)
		if sorted, ok := impl.IsJohnsonSorted(shop, other); !ok || sorted != is || sorted && span != least {
			t.Errorf("IsJohnsonSorted(%v, %v) = %v, %v, not %v; it has %d, but an order has %d", shop, other, sorted, ok, is, span, least)
		}
		if is && !slices.Equal(other, want) {
			others++
		}
		if !is && span == least {
			unsorted++
		}
	}
	return others, unsorted
}

func TestPromise8JohnsonOrders(t *testing.T) {
	others, unsorted := 0, 0
	for _, shop := range append(shopsOn(2), madeShop(51, 6, 2, 0, 3), madeShop(52, 6, 2, 0, 30), sameTimes(6, 2, 0)) {
		more, worse := checkJohnson(t, shop, allOrders(len(shop)))
		others, unsorted = others+more, unsorted+worse
	}
	if others < 100 || unsorted < 100 {
		t.Error(others, "sorted orders are not Johnson's,", unsorted, "best ones are not sorted")
	}
}

func TestPromise8JohnsonOrdersOfSmallShops(t *testing.T) {
	for _, c := range []struct {
		n     int
		times []int
	}{
		{0, nil}, {1, []int{0, 1, 2, 29, 30}}, {2, []int{0, 1, 2, 3, 4, 30}}, {3, []int{0, 1, 2, 3}}, {4, []int{0, 1, 2}},
	} {
		orders := allOrders(c.n)
		everyShop(c.n, 2, c.times, func(shop [][]int) { checkJohnson(t, shop, orders) })
	}
}

func TestPromise8JohnsonOrdersOfManyJobs(t *testing.T) {
	for number, shop := range longShopsOn(2) {
		order, ok := impl.JohnsonOrder(shop)
		if want := johnsonByHand(shop); !ok || !slices.Equal(order, want) {
			t.Errorf("JohnsonOrder(%v) = %v, %v, not %v", shop, order, ok, want)
		}
		span, fine := impl.FlowSpan(shop, order)
		_, least, fair := impl.BestFlow(shop)
		if !fine || !fair || span != least {
			t.Errorf("JohnsonOrder(%v) = %v has %d, but BestFlow is %d", shop, order, span, least)
		}
		// Exchanges of neighbors make orders that are sorted, or nearly so.
		for place := range len(shop) - 1 {
			for _, other := range [][]int{swapped(order, place), madeOrder(drawer(8*number+place), len(shop))} {
				want := isSortedByHand(shop, other)
				if sorted, ok := impl.IsJohnsonSorted(shop, other); !ok || sorted != want || want && spanByHand(shop, other) != least {
					t.Errorf("IsJohnsonSorted(%v, %v) = %v, %v, not %v", shop, other, sorted, ok, want)
				}
			}
		}
	}
}

func TestPromise8KnownJohnsonOrders(t *testing.T) {
	for _, c := range []struct {
		shop [][]int
		want []int
	}{
		{nil, nil}, {[][]int{}, nil}, {[][]int{{30, 0}}, []int{0}},
		{[][]int{{3, 2}, {1, 4}, {2, 2}}, []int{1, 2, 0}},
		// the same first times, the same second times, and equal jobs
		{[][]int{{2, 9}, {2, 3}, {1, 5}, {2, 2}}, []int{2, 0, 1, 3}},
		{[][]int{{9, 2}, {3, 2}, {7, 5}, {4, 2}}, []int{2, 0, 1, 3}},
		{[][]int{{9, 2}, {2, 9}, {9, 2}, {2, 9}}, []int{1, 3, 0, 2}},
		// times that are equal come first, even if they are the greatest ones
		{[][]int{{30, 29}, {30, 30}, {29, 30}, {29, 29}}, []int{2, 3, 1, 0}},
		{[][]int{{1, 0}, {0, 0}, {0, 30}, {30, 0}, {30, 30}}, []int{1, 2, 4, 0, 3}},
		// a time that is one less and one greater than the other one
		{[][]int{{5, 4}, {4, 5}, {5, 5}, {6, 5}}, []int{1, 2, 3, 0}},
	} {
		if order, ok := impl.JohnsonOrder(c.shop); !ok || !slices.Equal(order, c.want) {
			t.Errorf("JohnsonOrder(%v) = %v, %v, not %v", c.shop, order, ok, c.want)
		}
	}
	for _, c := range []struct {
		shop  [][]int
		order []int
		want  bool
	}{
		{nil, nil, true}, {[][]int{{3, 4}}, []int{0}, true},
		{[][]int{{1, 2}, {2, 1}}, []int{0, 1}, true}, {[][]int{{1, 2}, {2, 1}}, []int{1, 0}, false},
		// ties: equal first times, a time that is the least for both, and jobs with times of 0
		{[][]int{{2, 9}, {2, 3}}, []int{0, 1}, true}, {[][]int{{2, 9}, {2, 3}}, []int{1, 0}, true},
		{[][]int{{1, 1}, {1, 1}}, []int{1, 0}, true}, {[][]int{{2, 2}, {5, 2}}, []int{1, 0}, true},
		{[][]int{{0, 0}, {1, 3}, {3, 1}}, []int{1, 0, 2}, true}, {[][]int{{0, 0}, {1, 3}, {3, 1}}, []int{2, 0, 1}, false},
		// neighbors that are sorted while the first and the last one are not
		{[][]int{{3, 1}, {0, 0}, {1, 3}}, []int{0, 1, 2}, false},
	} {
		if sorted, ok := impl.IsJohnsonSorted(c.shop, c.order); !ok || sorted != c.want {
			t.Errorf("IsJohnsonSorted(%v, %v) = %v, %v, not %v", c.shop, c.order, sorted, ok, c.want)
		}
	}
}

func TestPromise8OtherMachinesThanTwo(t *testing.T) {
	for _, shop := range append(notOn(2), noShops()...) {
		order, one := impl.JohnsonOrder(shop)
		sorted, two := impl.IsJohnsonSorted(shop, upTo(len(shop)))
		starts, three := impl.OpenSchedule(shop)
		if one || two || three || len(order) != 0 || sorted || len(starts) != 0 {
			t.Errorf("%.200v was taken as a shop with two machines: %v, %v, %v", shop, order, sorted, starts)
		}
	}
	for _, shop := range allShopsOn(2) {
		for _, order := range noOrders(len(shop)) {
			if sorted, ok := impl.IsJohnsonSorted(shop, order); ok || sorted {
				t.Errorf("IsJohnsonSorted(%v, %v) = %v, %v", shop, order, sorted, ok)
			}
		}
	}
}

// checkMiddle compares MiddleIsShort with the document; if it is, Johnson's order of the sums is compared with all orders. It returns what it is.
func checkMiddle(t *testing.T, shop [][]int, orders [][]int) bool {
	t.Helper()
	want := middleByHand(shop)
	if short, ok := impl.MiddleIsShort(shop); !ok || short != want {
		t.Errorf("MiddleIsShort(%v) = %v, %v, not %v", shop, short, ok, want)
	}
	if !want {
		return false
	}
	sums := joined(shop)
	order := johnsonByHand(sums)
	// No time is so great that johnsonByHand would miss a sum.
	if got, ok := impl.JohnsonOrder(sums); impl.IsShop(sums) && (!ok || !slices.Equal(got, order)) || len(order) != len(shop) {
		t.Fatalf("JohnsonOrder(%v) = %v, %v, not %v", sums, got, ok, order)
	}
	_, least, _ := bestFlowByHand(shop, orders)
	if span, ok := impl.FlowSpan(shop, order); !ok || span != least {
		t.Errorf("with short middles %v has %d, %v in the order %v, but an order has %d", shop, span, ok, order, least)
	}
	return true
}

func TestPromise8ShortMiddles(t *testing.T) {
	short, long := 0, 0
	note := func(is bool) {
		if is {
			short++
		} else {
			long++
		}
	}
	for n := range 4 {
		times := []int{0, 1, 2, 3}
		if n == 3 {
			times = []int{0, 1, 2}
		}
		orders := allOrders(n)
		everyShop(n, 3, times, func(shop [][]int) { note(checkMiddle(t, shop, orders)) })
	}
	for number := range 300 {
		n := 3 + number%3
		shop := madeShop(number+6000, n, 3, 0, 12)
		for _, list := range shop {
			list[1] = min(list[1], 6)
			list[2*(number%2)] = min(6+list[2*(number%2)]%7, 12)
		}
		note(checkMiddle(t, shop, allOrders(n)))
	}
	if short < 500 || long < 500 {
		t.Error(short, "shops have a short middle,", long, "have not")
	}
}

func TestPromise8KnownMiddles(t *testing.T) {
	for _, c := range []struct {
		shop [][]int
		want bool
	}{
		{nil, true}, {[][]int{}, true}, {[][]int{{0, 0, 0}}, true}, {[][]int{{0, 1, 0}}, false}, {[][]int{{30, 30, 0}}, true}, {[][]int{{0, 30, 30}}, true}, {[][]int{{29, 30, 29}}, false},
		{[][]int{{3, 1, 0}, {2, 2, 5}}, true}, {[][]int{{0, 1, 3}, {5, 2, 2}}, true},
		// equal to the least one, and one greater
		{[][]int{{3, 2, 0}, {2, 1, 0}}, true}, {[][]int{{3, 3, 0}, {2, 1, 0}}, false}, {[][]int{{3, 2, 0}, {1, 1, 0}}, false},
		{[][]int{{0, 2, 3}, {0, 1, 2}}, true}, {[][]int{{0, 3, 3}, {0, 1, 2}}, false}, {[][]int{{0, 2, 3}, {0, 1, 1}}, false},
		// each job's time is short beside one of the same job only, or beside one machine each
		{[][]int{{5, 5, 0}, {1, 1, 0}}, false}, {[][]int{{5, 3, 1}, {1, 3, 5}}, false}, {[][]int{{5, 1, 5}, {5, 4, 3}, {0, 2, 9}}, false},
		{sameTimes(8, 3, 30), true}, {idleMachine(sameTimes(8, 3, 30), 1), true}, {idleJob(sameTimes(8, 3, 30), 7), false},
	} {
		if short, ok := impl.MiddleIsShort(c.shop); !ok || short != c.want {
			t.Errorf("MiddleIsShort(%v) = %v, %v, not %v", c.shop, short, ok, c.want)
		}
	}
	for _, shop := range append(notOn(3), noShops()...) {
		if short, ok := impl.MiddleIsShort(shop); ok || short {
			t.Errorf("MiddleIsShort(%.200v) = %v, %v", shop, short, ok)
		}
	}
}

// TestPromise8FlowBounds compares the bound with one made by hand, and for small shops with all orders.
func TestPromise8FlowBounds(t *testing.T) {
	for _, m := range shopMachines {
		met, missed := 0, 0
		for _, shop := range allShopsOn(m) {
			want := flowBoundByHand(shop)
			bound, ok := impl.FlowBound(shop)
			if !ok || bound != want {
				t.Errorf("FlowBound(%v) = %d, %v, not %d", shop, bound, ok, want)
			}
			if len(shop) > 5 {
				continue
			}
			switch _, least, _ := bestFlowByHand(shop, allOrders(len(shop))); {
			case bound > least:
				t.Errorf("FlowBound(%v) = %d, but an order has %d", shop, bound, least)
			case bound == least:
				met++
			default:
				missed++
			}
		}
		if met < 20 || m > 1 && missed < 5 {
			t.Errorf("with %d machines %d orders meet the bound, %d do not", m, met, missed)
		}
	}
	for _, c := range []struct {
		shop [][]int
		want int
	}{
		{nil, 0}, {[][]int{}, 0}, {[][]int{{7}}, 7}, {[][]int{{7, 8, 9}}, 24}, {[][]int{{0, 0, 0}}, 0}, {[][]int{{3, 2}, {1, 4}, {2, 2}}, 9},
		// told by the first, the second and the third machine, with the least sums of different jobs
		{[][]int{{9, 1, 3}, {8, 2, 1}}, 20}, {[][]int{{1, 9, 5}, {5, 9, 1}}, 20}, {[][]int{{1, 5, 9}, {3, 1, 8}}, 21},
		// the least sum of two machines is not the sum of the least times
		{[][]int{{9, 0, 5}, {9, 5, 0}}, 23}, {[][]int{{0, 5, 9}, {5, 0, 9}}, 23},
		{sameTimes(8, 1, 30), 240}, {sameTimes(8, 3, 30), 300}, {sameTimes(8, 3, 0), 0},
	} {
		if bound, ok := impl.FlowBound(c.shop); !ok || bound != c.want {
			t.Errorf("FlowBound(%v) = %d, %v, not %d", c.shop, bound, ok, c.want)
		}
	}
}
