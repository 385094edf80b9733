package tests

import (
	"math"
	"slices"
	"testing"

	"loop.example/g01103/impl"
)

// checkUnder compares the best order under a limit with all orders, and reports whether there is one.
func checkUnder(t *testing.T, jobs []impl.Job, orders [][]int, points [][2]int, f, g, limit int) bool {
	t.Helper()
	order, ok := impl.BestUnder(jobs, f, g, limit)
	place := bestUnderByHand(points, limit)
	if place < 0 {
		if ok || len(order) != 0 {
			t.Errorf("BestUnder(%v, %d, %d, %d) = %v, %v", jobs, f, g, limit, order, ok)
		}
		return false
	}
	if !ok || !slices.Equal(order, orders[place]) {
		t.Errorf("BestUnder(%v, %d, %d, %d) = %v, %v, not %v", jobs, f, g, limit, order, ok, orders[place])
	}
	return true
}

// limitsNear are the values of an objective, those beside them, and the least and the greatest number.
func limitsNear(rows [][8]int, objective int) []int {
	limits := []int{math.MinInt, math.MaxInt, -1, 0}
	for _, value := range columnOf(rows, objective) {
		limits = append(limits, value-1, value, value+1)
	}
	slices.Sort(limits)
	return slices.Compact(limits)
}

func TestPromise11BestUnderLimits(t *testing.T) {
	none, some := 0, 0
	for number, jobs := range frontJobs() {
		orders := allOrders(len(jobs))
		rows := valueRows(jobs, orders)
		next := drawer(number)
		eachPair(func(f, g int) {
			points := pointsByHand(rows, f, g)
			limits := limitsNear(rows, g)
			for len(limits) > 16 {
				place := next(len(limits))
				limits = slices.Delete(limits, place, place+1)
			}
			for _, limit := range limits {
				if checkUnder(t, jobs, orders, points, f, g, limit) {
					some++
				} else {
					none++
				}
			}
		})
	}
	if none < 1000 || some < 1000 {
		t.Errorf("%d limits without an order, %d with one", none, some)
	}
}

// TestPromise11BestUnderAllLimits tries all limits between those below and above all values.
func TestPromise11BestUnderAllLimits(t *testing.T) {
	lists := [][]impl.Job{nil, {job(1, 0, 0, 500)}, {job(1, 0, 0, 500), job(2, 3, 0, 499)}, {job(2, 0, 3, 0), job(4, 1, 0, 2)}, repeated(job(2, 1, 0, 3), 3), lineJobs(), bentJobs()}
	for number := range 8 {
		n := 2 + number%3
		lists = append(lists, madeJobs(number+6600, n, 4, 3, 0, 9), madeJobs(number+6700, n, 4, 2, 6, 12))
	}
	for _, jobs := range lists {
		orders := allOrders(len(jobs))
		rows := valueRows(jobs, orders)
		eachPair(func(f, g int) {
			points, values := pointsByHand(rows, f, g), columnOf(rows, g)
			for limit := slices.Min(values) - 2; limit <= slices.Max(values)+2; limit++ {
				checkUnder(t, jobs, orders, points, f, g, limit)
			}
		})
	}
}

func TestPromise11BestUnderLimitsOfManyJobs(t *testing.T) {
	seven, eight := allOrders(7), allOrders(8)
	for _, jobs := range longFrontJobs() {
		orders := eight
		if len(jobs) == 7 {
			orders = seven
		}
		rows := valueRows(jobs, orders)
		for _, pair := range [][2]int{{impl.ObjSum, impl.ObjLateness}, {impl.ObjLateness, impl.ObjWeighted}, {impl.ObjWeighted, impl.ObjTardiness}, {impl.ObjLateWeight, impl.ObjLateWeight}} {
			f, g := pair[0], pair[1]
			points, values := pointsByHand(rows, f, g), columnOf(rows, g)
			least, greatest := slices.Min(values), slices.Max(values)
			for _, limit := range []int{least - 1, least, least + 1, (least + greatest) / 2, greatest} {
				checkUnder(t, jobs, orders, points, f, g, limit)
			}
		}
	}
}

func TestPromise11KnownOrdersUnderLimits(t *testing.T) {
	two, early := []impl.Job{job(3, 0, 0, 3), job(1, 0, 0, 4)}, []impl.Job{job(1, 0, 0, 500), job(3, 0, 0, 400)}
	for _, c := range []struct {
		jobs        []impl.Job
		f, g, limit int
		order       []int
		ok          bool
	}{
		{nil, impl.ObjSum, impl.ObjLateness, 0, nil, true}, {nil, impl.ObjSum, impl.ObjLateness, -1, nil, false}, {nil, impl.ObjSum, impl.ObjEnd, math.MaxInt, nil, true}, {nil, impl.ObjSum, impl.ObjEnd, math.MinInt, nil, false},
		{two, impl.ObjSum, impl.ObjLateness, -1, nil, false}, {two, impl.ObjSum, impl.ObjLateness, 0, []int{0, 1}, true}, {two, impl.ObjSum, impl.ObjLateness, 1, []int{1, 0}, true},
		{two, impl.ObjSum, impl.ObjLateness, math.MaxInt, []int{1, 0}, true}, {two, impl.ObjSum, impl.ObjLateness, math.MinInt, nil, false},
		{two, impl.ObjLateness, impl.ObjSum, 4, nil, false}, {two, impl.ObjLateness, impl.ObjSum, 5, []int{1, 0}, true}, {two, impl.ObjLateness, impl.ObjSum, 6, []int{1, 0}, true}, {two, impl.ObjLateness, impl.ObjSum, 7, []int{0, 1}, true},
		// for one objective twice the limit decides only whether there is an order
		{two, impl.ObjSum, impl.ObjSum, 4, nil, false}, {two, impl.ObjSum, impl.ObjSum, 5, []int{1, 0}, true}, {two, impl.ObjSum, impl.ObjSum, 8, []int{1, 0}, true},
		// the limit is less than 0, as the greatest lateness is
		{early[:1], impl.ObjSum, impl.ObjLateness, -499, []int{0}, true}, {early[:1], impl.ObjSum, impl.ObjLateness, -500, nil, false},
		{early, impl.ObjSum, impl.ObjLateness, -396, []int{0, 1}, true}, {early, impl.ObjSum, impl.ObjLateness, -397, []int{1, 0}, true}, {early, impl.ObjSum, impl.ObjLateness, -398, nil, false},
		// the first order with the best value, though a later one has a less value of the other objective
		{[]impl.Job{job(1, 0, 0, 5), job(1, 0, 0, 1)}, impl.ObjSum, impl.ObjLateness, 1, []int{0, 1}, true}, {[]impl.Job{job(1, 0, 0, 5), job(1, 0, 0, 1)}, impl.ObjSum, impl.ObjLateness, 0, []int{1, 0}, true},
		{bentJobs(), impl.ObjSum, impl.ObjTardiness, 0, nil, false}, {bentJobs(), impl.ObjSum, impl.ObjTardiness, 1, []int{1, 0, 2}, true}, {bentJobs(), impl.ObjSum, impl.ObjTardiness, 3, []int{0, 1, 2}, true}, {bentJobs(), impl.ObjSum, impl.ObjTardiness, 4, []int{0, 2, 1}, true},
		{repeated(job(50, 50, 500, 0), 8), impl.ObjLate, impl.ObjEnd, 899, nil, false}, {repeated(job(50, 50, 500, 0), 8), impl.ObjLate, impl.ObjEnd, 900, upTo(8), true},
	} {
		if order, ok := impl.BestUnder(c.jobs, c.f, c.g, c.limit); ok != c.ok || !slices.Equal(order, c.order) {
			t.Errorf("BestUnder(%v, %d, %d, %d) = %v, %v", c.jobs, c.f, c.g, c.limit, order, ok)
		}
	}
}

// leastSums are, for each limit from -MaxDate to MaxTotal, the least sum of ends of all orders with a greatest lateness of at most the limit, -1 if there is none.
func leastSums(rows [][8]int) []int {
	sums := slices.Repeat([]int{-1}, 901)
	for _, row := range rows {
		sum, late := row[impl.ObjSum-1], row[impl.ObjLateness-1]
		for k := 500 + late; k < len(sums); k++ {
			if sums[k] < 0 || sum < sums[k] {
				sums[k] = sum
			}
		}
	}
	return sums
}

// checkBackward compares the orders found backward for all limits with those by hand and with the best ones of all orders, and the front that they make with that of all orders.
func checkBackward(t *testing.T, jobs []impl.Job, rows [][8]int) {
	t.Helper()
	sums := leastSums(rows)
	points := [][2]int{}
	for limit := -500; limit <= 400; limit++ {
		order, ok := impl.BackwardOrder(jobs, limit)
		want, found := backwardByHand(jobs, limit)
		if ok != found || !slices.Equal(order, want) {
			t.Fatalf("BackwardOrder(%v, %d) = %v, %v, not %v, %v", jobs, limit, order, ok, want, found)
		}
		if len(jobs) > 0 && ok != (sums[limit+500] >= 0) {
			t.Errorf("BackwardOrder(%v, %d) = %v, %v; the least sum is %d", jobs, limit, order, ok, sums[limit+500])
		}
		if !ok {
			continue
		}
		sum, late := valueByHand(jobs, order, impl.ObjSum), valueByHand(jobs, order, impl.ObjLateness)
		if len(jobs) > 0 && (sum != sums[limit+500] || late > limit) {
			t.Errorf("BackwardOrder(%v, %d) = %v with the sum %d and the lateness %d; the least sum is %d", jobs, limit, order, sum, late, sums[limit+500])
		}
		points = append(points, [2]int{sum, late})
	}
	front := frontByHand(pointsByHand(rows, impl.ObjSum, impl.ObjLateness))
	got, one := impl.LatenessFront(jobs)
	other, two := impl.FrontOf(jobs, impl.ObjSum, impl.ObjLateness)
	if !one || !two || !slices.Equal(got, front) || !slices.Equal(other, front) || !slices.Equal(frontByHand(points), front) {
		t.Errorf("LatenessFront(%v) = %v, %v; FrontOf: %v; of all limits: %v; of all orders: %v", jobs, got, one, other, frontByHand(points), front)
	}
}

func TestPromise11BackwardOrders(t *testing.T) {
	lists := datedJobs()
	for number := range 60 {
		n := 3 + number%3
		// the same Times often, so that orders have the same sum
		lists = append(lists, madeJobs(number+6800, n, 2, 0, 0, 8), madeJobs(number+6900, n, 9, 0, 0, 30))
	}
	several, again := 0, 0
	for _, jobs := range lists {
		rows := valueRows(jobs, allOrders(len(jobs)))
		checkBackward(t, jobs, rows)
		front := frontByHand(pointsByHand(rows, impl.ObjSum, impl.ObjLateness))
		if len(front) > 2 {
			several++
		}
		// The first order that is found may not be one of the front.
		if order, ok := impl.BackwardOrder(jobs, impl.MaxTotal); ok && valueByHand(jobs, order, impl.ObjLateness) != front[0][1] {
			again++
		}
	}
	if several < 30 || again < 30 {
		t.Errorf("%d fronts of several points, %d with a first order that has none", several, again)
	}
}

func TestPromise11BackwardOrdersOfManyJobs(t *testing.T) {
	seven, eight := allOrders(7), allOrders(8)
	for _, jobs := range longDatedJobs() {
		orders := eight
		if len(jobs) == 7 {
			orders = seven
		}
		checkBackward(t, jobs, valueRows(jobs, orders))
	}
}

func TestPromise11KnownBackwardOrders(t *testing.T) {
	two, equal := []impl.Job{job(3, 0, 0, 3), job(1, 0, 0, 4)}, []impl.Job{job(2, 0, 0, 9), job(2, 0, 0, 1), job(2, 0, 0, 9)}
	for _, c := range []struct {
		jobs  []impl.Job
		limit int
		order []int
		ok    bool
	}{
		{nil, 0, nil, true}, {nil, -500, nil, true}, {nil, 400, nil, true}, {nil, -501, nil, false}, {nil, 401, nil, false},
		{two, -500, nil, false}, {two, -1, nil, false}, {two, 0, []int{0, 1}, true}, {two, 1, []int{1, 0}, true}, {two, 400, []int{1, 0}, true},
		{two, 401, nil, false}, {two, -501, nil, false}, {two, math.MinInt, nil, false}, {two, math.MaxInt, nil, false},
		// of several jobs with the greatest Time the one with the greatest number
		{equal, 400, []int{0, 1, 2}, true}, {equal, 5, []int{0, 1, 2}, true}, {equal, 3, []int{0, 1, 2}, true}, {equal, 2, []int{1, 0, 2}, true}, {equal, 1, []int{1, 0, 2}, true}, {equal, 0, nil, false},
		{[]impl.Job{job(1, 0, 0, 500)}, -499, []int{0}, true}, {[]impl.Job{job(1, 0, 0, 500)}, -500, nil, false},
		{[]impl.Job{job(50, 0, 0, 500)}, -450, []int{0}, true}, {[]impl.Job{job(50, 0, 0, 500)}, -451, nil, false},
		{repeated(job(50, 0, 0, 0), 8), 400, upTo(8), true}, {repeated(job(50, 0, 0, 0), 8), 399, nil, false},
		{lineJobs(), 7, []int{0, 2, 1}, true}, {lineJobs(), 6, []int{0, 1, 2}, true}, {lineJobs(), 5, []int{0, 1, 2}, true}, {lineJobs(), 4, []int{1, 0, 2}, true}, {lineJobs(), 3, []int{1, 0, 2}, true}, {lineJobs(), 2, nil, false},
	} {
		if order, ok := impl.BackwardOrder(c.jobs, c.limit); ok != c.ok || !slices.Equal(order, c.order) {
			t.Errorf("BackwardOrder(%v, %d) = %v, %v", c.jobs, c.limit, order, ok)
		}
	}
}

func TestPromise11KnownLatenessFronts(t *testing.T) {
	for _, c := range []struct {
		jobs  []impl.Job
		front [][2]int
	}{
		{nil, [][2]int{{0, 0}}}, {[]impl.Job{}, [][2]int{{0, 0}}},
		{[]impl.Job{job(1, 0, 0, 500)}, [][2]int{{1, -499}}}, {[]impl.Job{job(50, 0, 0, 0)}, [][2]int{{50, 50}}},
		{[]impl.Job{job(3, 0, 0, 3), job(1, 0, 0, 4)}, [][2]int{{5, 1}, {7, 0}}},
		{lineJobs(), [][2]int{{13, 7}, {14, 5}, {15, 3}}},
		// the first order that is found has the same sum as a less late one
		{[]impl.Job{job(1, 0, 0, 5), job(1, 0, 0, 1)}, [][2]int{{3, 0}}},
		{[]impl.Job{job(2, 0, 0, 9), job(2, 0, 0, 1), job(2, 0, 0, 9)}, [][2]int{{12, 1}}},
		{repeated(job(50, 0, 0, 0), 8), [][2]int{{1800, 400}}}, {repeated(job(1, 0, 0, 500), 8), [][2]int{{36, -492}}},
	} {
		if front, ok := impl.LatenessFront(c.jobs); !ok || !slices.Equal(front, c.front) {
			t.Errorf("LatenessFront(%v) = %v, %v", c.jobs, front, ok)
		}
	}
}

func TestPromise11NoBackwardOrdersOfInvalidLists(t *testing.T) {
	for _, jobs := range notPlain() {
		for _, limit := range []int{-500, 0, 400} {
			if order, ok := impl.BackwardOrder(jobs, limit); ok || len(order) != 0 {
				t.Errorf("BackwardOrder(%.200v, %d) = %v, %v", jobs, limit, order, ok)
			}
		}
		if front, ok := impl.LatenessFront(jobs); ok || len(front) != 0 {
			t.Errorf("LatenessFront(%.200v) = %v, %v", jobs, front, ok)
		}
	}
}
