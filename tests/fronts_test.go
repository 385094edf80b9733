package tests

import (
	"math"
	"slices"
	"testing"

	"loop.example/g01103/impl"
)

// checkFront compares the front, the first orders of its points and the supported ones with the points of all orders, and returns it.
func checkFront(t *testing.T, jobs []impl.Job, orders [][]int, points [][2]int, f, g int) [][2]int {
	t.Helper()
	front := frontByHand(points)
	if got, ok := impl.FrontOf(jobs, f, g); !ok || !slices.Equal(got, front) {
		t.Errorf("FrontOf(%v, %d, %d) = %v, %v, not %v", jobs, f, g, got, ok, front)
	}
	for k, point := range front {
		first := orders[slices.Index(points, point)]
		if got, ok := impl.FrontOrder(jobs, f, g, k); !ok || !slices.Equal(got, first) {
			t.Errorf("FrontOrder(%v, %d, %d, %d) = %v, %v, not %v", jobs, f, g, k, got, ok, first)
		}
	}
	for _, k := range []int{-1, len(front)} {
		if got, ok := impl.FrontOrder(jobs, f, g, k); ok || len(got) != 0 {
			t.Errorf("FrontOrder(%v, %d, %d, %d) = %v, %v", jobs, f, g, k, got, ok)
		}
	}
	supported := supportedByHand(front)
	if got, ok := impl.SupportedPoints(jobs, f, g); !ok || !slices.Equal(got, supported) {
		t.Errorf("SupportedPoints(%v, %d, %d) = %v, %v, not %v", jobs, f, g, got, ok, supported)
	}
	return front
}

// checkPoints compares the points of some orders with those by hand, and whether they are points of the front: all others are dominated by one of it.
func checkPoints(t *testing.T, jobs []impl.Job, orders [][]int, points, front [][2]int, f, g, step int) {
	t.Helper()
	for k := 0; k < len(orders); k += step {
		order, point := orders[k], points[k]
		if got, ok := impl.PointOf(jobs, order, f, g); !ok || got != point {
			t.Errorf("PointOf(%v, %v, %d, %d) = %v, %v, not %v", jobs, order, f, g, got, ok, point)
		}
		is := slices.Contains(front, point)
		if got, ok := impl.IsUndominated(jobs, order, f, g); !ok || got != is {
			t.Errorf("IsUndominated(%v, %v, %d, %d) = %v, %v, but the point %v is dominated or not in %v", jobs, order, f, g, got, ok, point, front)
		}
		if !is && !slices.ContainsFunc(front, func(other [2]int) bool { return dominatesByHand(other, point) }) {
			t.Errorf("%v, %d, %d: no point of %v dominates %v", jobs, f, g, front, point)
		}
	}
}

// checkMixes compares the least mixes for some pairs of numbers with all orders, and checks that points that have them are supported.
func checkMixes(t *testing.T, jobs []impl.Job, points, front [][2]int, f, g int, shares [][2]int) {
	t.Helper()
	supported := supportedByHand(front)
	for _, s := range shares {
		x, y := s[0], s[1]
		least := leastMixByHand(points, x, y)
		if got, ok := impl.LeastMix(jobs, f, g, x, y); !ok || got != least {
			t.Errorf("LeastMix(%v, %d, %d, %d, %d) = %d, %v, not %d", jobs, f, g, x, y, got, ok, least)
		}
		if x == 0 || y == 0 {
			continue
		}
		for _, point := range points {
			if mixByHand(point, x, y) == least && !slices.Contains(supported, point) {
				t.Errorf("%v, %d, %d: the point %v has the mix %d for %d and %d, but supported are %v", jobs, f, g, point, least, x, y, supported)
			}
		}
	}
}

// someShares are pairs of numbers of a mix, among them 0, 1 and 99.
func someShares(number int) [][2]int {
	next := drawer(number)
	shares := [][2]int{{0, 0}, {0, 1}, {1, 0}, {1, 1}, {1, 99}, {99, 1}, {99, 99}, {0, 99}, {99, 0}}
	return append(shares, [2]int{next(100), next(100)}, [2]int{1 + next(9), 1 + next(9)}, [2]int{1 + next(3), 1 + next(3)})
}

// frontKinds counts what kinds of fronts there have been.
type frontKinds struct{ single, several, unsupported, online int }

// note counts a front.
func (k *frontKinds) note(front [][2]int) {
	supported := supportedByHand(front)
	switch {
	case len(front) == 1:
		k.single++
	case len(supported) < len(front):
		k.unsupported++
	default:
		k.several++
	}
	for i := 2; i < len(supported); i++ {
		a, b, c := supported[i-2], supported[i-1], supported[i]
		if (b[0]-a[0])*(c[1]-b[1]) == (c[0]-b[0])*(b[1]-a[1]) {
			k.online++
		}
	}
}

func TestPromise11Fronts(t *testing.T) {
	kinds := frontKinds{}
	for number, jobs := range frontJobs() {
		orders := allOrders(len(jobs))
		rows := valueRows(jobs, orders)
		step := max(1, len(orders)/24)
		eachPair(func(f, g int) {
			points := pointsByHand(rows, f, g)
			front := checkFront(t, jobs, orders, points, f, g)
			checkPoints(t, jobs, orders, points, front, f, g, step)
			checkMixes(t, jobs, points, front, f, g, someShares(100*number+10*f+g))
			kinds.note(front)
			if f == g && len(front) != 1 {
				t.Errorf("%v: the front for %d twice is %v", jobs, f, front)
			}
		})
	}
	if kinds.single < 500 || kinds.several < 500 || kinds.unsupported < 100 || kinds.online < 100 {
		t.Errorf("fronts of a kind were rare: %+v", kinds)
	}
}

func TestPromise11FrontsOfManyJobs(t *testing.T) {
	seven, eight := allOrders(7), allOrders(8)
	for number, jobs := range longFrontJobs() {
		orders := eight
		if len(jobs) == 7 {
			orders = seven
		}
		rows := valueRows(jobs, orders)
		for _, pair := range [][2]int{{impl.ObjEnd, impl.ObjEnd}, {impl.ObjSum, impl.ObjLateness}, {impl.ObjWeighted, impl.ObjTardiness}, {impl.ObjLateness, impl.ObjSum}, {impl.ObjLateWeight, impl.ObjWeightedTardiness}, {impl.ObjSum, impl.ObjWeighted}, {impl.ObjLate, impl.ObjEnd}} {
			f, g := pair[0], pair[1]
			points := pointsByHand(rows, f, g)
			front := checkFront(t, jobs, orders, points, f, g)
			checkPoints(t, jobs, orders, points, front, f, g, len(orders)/7)
			checkMixes(t, jobs, points, front, f, g, someShares(number)[number:][:3])
		}
	}
}

// TestPromise11SmallLists tries all lists of up to three jobs with very small numbers.
func TestPromise11SmallLists(t *testing.T) {
	for n := range 4 {
		orders := allOrders(n)
		numbers := 4
		if n == 3 {
			numbers = 2 // Times and Due dates alone
		}
		everyNumbers(numbers*n, []int{0, 2}, func(list []int) {
			jobs := []impl.Job{}
			for part := range slices.Chunk(list, numbers) {
				j := job(1+part[0], 1, 0, part[1])
				if numbers == 4 {
					j.Weight, j.Release = part[2], part[3]
				}
				jobs = append(jobs, j)
			}
			rows := valueRows(jobs, orders)
			eachPair(func(f, g int) {
				points := pointsByHand(rows, f, g)
				front := checkFront(t, jobs, orders, points, f, g)
				checkPoints(t, jobs, orders, points, front, f, g, 1)
			})
		})
	}
}

// TestPromise11AllMixes tries all numbers of a mix, and supports points by them.
func TestPromise11AllMixes(t *testing.T) {
	shares, above := [][2]int{}, [][2]int{}
	for x := range 100 {
		for y := range 100 {
			shares = append(shares, [2]int{x, y})
			if x > 0 && y > 0 {
				above = append(above, [2]int{x, y})
			}
		}
	}
	for _, c := range []struct {
		jobs []impl.Job
		f, g int
	}{
		{nil, impl.ObjSum, impl.ObjLateness},
		{[]impl.Job{job(50, 50, 500, 0)}, impl.ObjWeighted, impl.ObjWeightedTardiness},
		{[]impl.Job{job(1, 0, 0, 500), job(3, 0, 0, 400)}, impl.ObjLateness, impl.ObjSum},
		{lineJobs(), impl.ObjSum, impl.ObjLateness},
		{bentJobs(), impl.ObjTardiness, impl.ObjSum},
		{[]impl.Job{job(4, 3, 0, 8), job(2, 1, 0, 4), job(1, 0, 0, 1)}, impl.ObjWeighted, impl.ObjTardiness},
		{[]impl.Job{job(4, 4, 4, 8), job(2, 0, 4, 2), job(4, 2, 4, 4)}, impl.ObjWeighted, impl.ObjLateness},
		{madeJobs(6001, 4, 4, 3, 0, 9), impl.ObjSum, impl.ObjWeightedTardiness},
		{madeJobs(6210, 4, 6, 3, 8, 15), impl.ObjWeighted, impl.ObjLateness},
	} {
		points := pointsByHand(valueRows(c.jobs, allOrders(len(c.jobs))), c.f, c.g)
		front := frontByHand(points)
		checkMixes(t, c.jobs, points, front, c.f, c.g, shares)
		// The numbers of the points of these fronts differ by less than 99.
		if got, ok := impl.SupportedPoints(c.jobs, c.f, c.g); !ok || !slices.Equal(got, supportedWith(front, above)) {
			t.Errorf("SupportedPoints(%v, %d, %d) = %v, %v, not %v", c.jobs, c.f, c.g, got, ok, supportedWith(front, above))
		}
	}
}

func TestPromise11KnownFronts(t *testing.T) {
	two := []impl.Job{job(3, 0, 0, 3), job(1, 0, 0, 4)}
	for _, c := range []struct {
		jobs             []impl.Job
		f, g             int
		front, supported [][2]int
		orders           [][]int
	}{
		{nil, impl.ObjSum, impl.ObjLateness, [][2]int{{0, 0}}, [][2]int{{0, 0}}, [][]int{{}}},
		{[]impl.Job{job(1, 0, 0, 500)}, impl.ObjEnd, impl.ObjLateness, [][2]int{{1, -499}}, [][2]int{{1, -499}}, [][]int{{0}}},
		{[]impl.Job{job(50, 50, 500, 0)}, impl.ObjWeighted, impl.ObjLateWeight, [][2]int{{27500, 50}}, [][2]int{{27500, 50}}, [][]int{{0}}},
		{two, impl.ObjSum, impl.ObjLateness, [][2]int{{5, 1}, {7, 0}}, [][2]int{{5, 1}, {7, 0}}, [][]int{{1, 0}, {0, 1}}},
		{two, impl.ObjLateness, impl.ObjSum, [][2]int{{0, 7}, {1, 5}}, [][2]int{{0, 7}, {1, 5}}, [][]int{{0, 1}, {1, 0}}},
		{two, impl.ObjSum, impl.ObjSum, [][2]int{{5, 5}}, [][2]int{{5, 5}}, [][]int{{1, 0}}},
		// all orders have the same point
		{two, impl.ObjEnd, impl.ObjWeighted, [][2]int{{4, 0}}, [][2]int{{4, 0}}, [][]int{{0, 1}}},
		// dominated in one number alone, the first one and the second one
		{[]impl.Job{job(1, 0, 0, 5), job(1, 0, 0, 1)}, impl.ObjSum, impl.ObjLateness, [][2]int{{3, 0}}, [][2]int{{3, 0}}, [][]int{{1, 0}}},
		{[]impl.Job{job(1, 0, 0, 5), job(1, 0, 0, 1)}, impl.ObjLateness, impl.ObjSum, [][2]int{{0, 3}}, [][2]int{{0, 3}}, [][]int{{1, 0}}},
		{lineJobs(), impl.ObjSum, impl.ObjLateness, [][2]int{{13, 7}, {14, 5}, {15, 3}}, [][2]int{{13, 7}, {14, 5}, {15, 3}}, [][]int{{0, 2, 1}, {0, 1, 2}, {1, 0, 2}}},
		{bentJobs(), impl.ObjSum, impl.ObjTardiness, [][2]int{{14, 4}, {16, 3}, {18, 1}}, [][2]int{{14, 4}, {18, 1}}, [][]int{{0, 2, 1}, {0, 1, 2}, {1, 0, 2}}},
		{bentJobs(), impl.ObjTardiness, impl.ObjSum, [][2]int{{1, 18}, {3, 16}, {4, 14}}, [][2]int{{1, 18}, {4, 14}}, [][]int{{1, 0, 2}, {0, 1, 2}, {0, 2, 1}}},
		// two points are above the same line between supported ones
		{[]impl.Job{job(3, 3, 0, 3), job(4, 3, 1, 0), job(1, 2, 3, 4)}, impl.ObjSum, impl.ObjLateness, [][2]int{{15, 8}, {18, 7}, {20, 6}, {22, 5}}, [][2]int{{15, 8}, {22, 5}}, nil},
		// a point on a line between others, and one above it
		{[]impl.Job{job(2, 4, 0, 8), job(4, 0, 0, 1), job(3, 1, 0, 2)}, impl.ObjSum, impl.ObjLateness, [][2]int{{16, 8}, {17, 7}, {19, 6}, {20, 5}}, [][2]int{{16, 8}, {17, 7}, {20, 5}}, nil},
		{repeated(job(50, 50, 0, 0), 8), impl.ObjSum, impl.ObjWeightedTardiness, [][2]int{{1800, 90000}}, [][2]int{{1800, 90000}}, [][]int{{0, 1, 2, 3, 4, 5, 6, 7}}},
		{repeated(job(1, 0, 500, 500), 8), impl.ObjLate, impl.ObjTardiness, [][2]int{{8, 36}}, [][2]int{{8, 36}}, [][]int{{0, 1, 2, 3, 4, 5, 6, 7}}},
	} {
		front, one := impl.FrontOf(c.jobs, c.f, c.g)
		supported, two := impl.SupportedPoints(c.jobs, c.f, c.g)
		if !one || !two || !slices.Equal(front, c.front) || !slices.Equal(supported, c.supported) {
			t.Errorf("%v, %d, %d: the front is %v, supported are %v", c.jobs, c.f, c.g, front, supported)
		}
		for k, want := range c.orders {
			order, one := impl.FrontOrder(c.jobs, c.f, c.g, k)
			point, two := impl.PointOf(c.jobs, want, c.f, c.g)
			is, three := impl.IsUndominated(c.jobs, want, c.f, c.g)
			if !one || !two || !three || !slices.Equal(order, want) || point != c.front[k] || !is {
				t.Errorf("%v, %d, %d: the order %d is %v, the point of %v is %v, %v", c.jobs, c.f, c.g, k, order, want, point, is)
			}
		}
	}
}

func TestPromise11KnownDominatedOrders(t *testing.T) {
	for _, c := range []struct {
		jobs  []impl.Job
		order []int
		f, g  int
		point [2]int
		is    bool
	}{
		{[]impl.Job{job(1, 2, 0, 5), job(1, 1, 0, 1)}, []int{0, 1}, impl.ObjSum, impl.ObjLateness, [2]int{3, 1}, false},
		{[]impl.Job{job(1, 2, 0, 5), job(1, 1, 0, 1)}, []int{0, 1}, impl.ObjLateness, impl.ObjSum, [2]int{1, 3}, false},
		// worse for one objective, and better for the other one
		{[]impl.Job{job(1, 2, 0, 5), job(1, 1, 0, 1)}, []int{0, 1}, impl.ObjWeighted, impl.ObjLateness, [2]int{4, 1}, true},
		{[]impl.Job{job(1, 2, 0, 5), job(1, 1, 0, 1)}, []int{1, 0}, impl.ObjWeighted, impl.ObjLateness, [2]int{5, 0}, true},
		// another order has the same point
		{repeated(job(2, 1, 0, 3), 3), []int{2, 1, 0}, impl.ObjSum, impl.ObjLate, [2]int{12, 2}, true},
		{lineJobs(), []int{2, 0, 1}, impl.ObjSum, impl.ObjLateness, [2]int{13, 7}, true},
		{lineJobs(), []int{2, 1, 0}, impl.ObjSum, impl.ObjLateness, [2]int{14, 5}, true},
		{bentJobs(), []int{2, 1, 0}, impl.ObjSum, impl.ObjTardiness, [2]int{16, 4}, false},
		{[]impl.Job{job(3, 1, 500, 0), job(2, 1, 0, 0)}, []int{0, 1}, impl.ObjEnd, impl.ObjSum, [2]int{505, 1008}, false},
		{[]impl.Job{job(3, 1, 500, 0), job(2, 1, 0, 0)}, []int{1, 0}, impl.ObjEnd, impl.ObjSum, [2]int{503, 505}, true},
	} {
		point, one := impl.PointOf(c.jobs, c.order, c.f, c.g)
		is, two := impl.IsUndominated(c.jobs, c.order, c.f, c.g)
		if !one || !two || point != c.point || is != c.is {
			t.Errorf("%v, %v, %d, %d: %v, %v", c.jobs, c.order, c.f, c.g, point, is)
		}
	}
}

func TestPromise11KnownMixes(t *testing.T) {
	jobs, early := bentJobs(), []impl.Job{job(1, 0, 0, 500), job(50, 0, 0, 500)}
	for _, c := range []struct {
		jobs []impl.Job
		f, g int
		x, y int
		want int
	}{
		{nil, impl.ObjSum, impl.ObjLateness, 99, 99, 0},
		{jobs, impl.ObjSum, impl.ObjTardiness, 0, 0, 0}, {jobs, impl.ObjSum, impl.ObjTardiness, 1, 0, 14}, {jobs, impl.ObjSum, impl.ObjTardiness, 0, 1, 1},
		{jobs, impl.ObjSum, impl.ObjTardiness, 99, 0, 1386}, {jobs, impl.ObjSum, impl.ObjTardiness, 0, 99, 99},
		{jobs, impl.ObjSum, impl.ObjTardiness, 1, 1, 18}, {jobs, impl.ObjSum, impl.ObjTardiness, 3, 4, 58}, {jobs, impl.ObjSum, impl.ObjTardiness, 2, 3, 39}, {jobs, impl.ObjSum, impl.ObjTardiness, 99, 99, 1782},
		// for one objective twice
		{jobs, impl.ObjSum, impl.ObjSum, 2, 3, 70},
		// values that are less than 0, and ones that are as great as they can be
		{early, impl.ObjLateness, impl.ObjEnd, 1, 0, -449}, {early, impl.ObjLateness, impl.ObjEnd, 99, 1, -44400}, {early, impl.ObjLateness, impl.ObjLateness, 99, 99, -88902},
		{repeated(job(50, 50, 500, 0), 8), impl.ObjWeighted, impl.ObjWeightedTardiness, 99, 99, 57420000},
	} {
		if got, ok := impl.LeastMix(c.jobs, c.f, c.g, c.x, c.y); !ok || got != c.want {
			t.Errorf("LeastMix(%v, %d, %d, %d, %d) = %d, %v, not %d", c.jobs, c.f, c.g, c.x, c.y, got, ok, c.want)
		}
	}
	for _, wrong := range []int{-1, 100, -99, 1000, math.MinInt, math.MaxInt} {
		for _, pair := range [][2]int{{wrong, 1}, {1, wrong}, {wrong, 0}, {0, wrong}, {wrong, wrong}} {
			for _, list := range [][]impl.Job{nil, jobs} {
				if got, ok := impl.LeastMix(list, impl.ObjSum, impl.ObjEnd, pair[0], pair[1]); ok || got != 0 {
					t.Errorf("LeastMix(%v) with %v = %d, %v", list, pair, got, ok)
				}
			}
		}
	}
}

func TestPromise11NoFrontOrdersOfOtherIndexes(t *testing.T) {
	for _, jobs := range [][]impl.Job{nil, lineJobs(), repeated(job(1, 0, 0, 0), 8)} {
		front, ok := impl.FrontOf(jobs, impl.ObjSum, impl.ObjLateness)
		if !ok || len(front) == 0 {
			t.Fatalf("FrontOf(%v) = %v, %v", jobs, front, ok)
		}
		for _, k := range []int{-1, -len(front), len(front), len(front) + 1, math.MinInt, math.MaxInt} {
			if order, ok := impl.FrontOrder(jobs, impl.ObjSum, impl.ObjLateness, k); ok || len(order) != 0 {
				t.Errorf("FrontOrder(%v, %d) = %v, %v", jobs, k, order, ok)
			}
		}
	}
}

// checkNoFront checks that no function for two objectives takes these arguments.
func checkNoFront(t *testing.T, jobs []impl.Job, f, g int) {
	t.Helper()
	order := upTo(len(jobs))
	point, one := impl.PointOf(jobs, order, f, g)
	front, two := impl.FrontOf(jobs, f, g)
	first, three := impl.FrontOrder(jobs, f, g, 0)
	is, four := impl.IsUndominated(jobs, order, f, g)
	supported, five := impl.SupportedPoints(jobs, f, g)
	mix, six := impl.LeastMix(jobs, f, g, 1, 1)
	under, seven := impl.BestUnder(jobs, f, g, math.MaxInt)
	if one || two || three || four || five || six || seven {
		t.Errorf("%.200v, %d, %d: a function did not fail", jobs, f, g)
	}
	if point != [2]int{} || len(front) != 0 || len(first) != 0 || is || len(supported) != 0 || mix != 0 || len(under) != 0 {
		t.Errorf("%.200v, %d, %d: %v, %v, %v, %v, %v, %d, %v", jobs, f, g, point, front, first, is, supported, mix, under)
	}
}

func TestPromise11NoFrontsOfInvalidLists(t *testing.T) {
	for _, jobs := range noJobs() {
		eachPair(func(f, g int) { checkNoFront(t, jobs, f, g) })
	}
	for _, jobs := range [][]impl.Job{nil, lineJobs(), repeated(job(1, 0, 0, 0), 8)} {
		for _, wrong := range noObjectives() {
			for _, fine := range objectives {
				checkNoFront(t, jobs, wrong, fine)
				checkNoFront(t, jobs, fine, wrong)
			}
			checkNoFront(t, jobs, wrong, wrong)
		}
		for _, order := range noOrders(len(jobs)) {
			point, one := impl.PointOf(jobs, order, impl.ObjSum, impl.ObjEnd)
			is, two := impl.IsUndominated(jobs, order, impl.ObjSum, impl.ObjEnd)
			if one || two || is || point != [2]int{} {
				t.Errorf("%v, %.200v: %v, %v", jobs, order, point, is)
			}
		}
	}
}
