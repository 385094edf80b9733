package tests

import (
	"math"
	"slices"
	"testing"

	"loop.example/g01103/impl"
)

// checkIsPieces compares whether a list is a plan with pieces with the document, and returns it.
func checkIsPieces(t *testing.T, shop [][]int, plan []impl.ShopPiece) bool {
	t.Helper()
	want := isPiecePlanByHand(shop, plan)
	if is, ok := impl.IsPiecePlan(shop, plan); !ok || is != want {
		t.Errorf("IsPiecePlan(%v, %.200v) = %v, %v, not %v", shop, plan, is, ok, want)
	}
	return want
}

// checkPieces compares the plan with pieces with one made by hand, and its length with the load, and returns it.
func checkPieces(t *testing.T, shop [][]int) []impl.ShopPiece {
	t.Helper()
	load, want := checkLoad(t, shop), piecesByHand(shop)
	plan, ok := impl.PiecePlan(shop)
	if !ok || !equalPieces(plan, want) {
		t.Errorf("PiecePlan(%v) = %v, %v, not %v", shop, plan, ok, want)
		return want
	}
	if !checkIsPieces(t, shop, plan) {
		t.Errorf("PiecePlan(%v) = %v is no plan with pieces", shop, plan)
	}
	if length := piecesLength(plan); length != load || len(plan) > 40 {
		t.Errorf("PiecePlan(%v) = %v has %d Pieces with the length %d, but the load is %d", shop, plan, len(plan), length, load)
	}
	return plan
}

// TestPromise8EachPiecePlanOfSmallShops also checks that no plan with pieces is shorter than the load.
func TestPromise8EachPiecePlanOfSmallShops(t *testing.T) {
	for _, c := range []struct {
		n, m  int
		times []int
		until int
	}{
		{0, 1, nil, 2}, {1, 1, []int{0, 1, 2, 3}, 4}, {1, 2, []int{0, 1, 2}, 4}, {1, 3, []int{0, 1}, 4}, {2, 1, []int{0, 1, 2}, 5}, {3, 1, []int{0, 1, 2}, 6},
		{2, 2, []int{0, 1, 2}, 4}, {3, 2, []int{0, 1}, 3}, {2, 3, []int{0, 1}, 3}, {3, 3, []int{0, 1}, 2},
	} {
		everyShop(c.n, c.m, c.times, func(shop [][]int) {
			load := checkLoad(t, shop)
			checkPieces(t, shop)
			for until := range min(c.until, load+1) + 1 {
				plans := 0
				everyPieces(shop, until, func(plan []impl.ShopPiece) {
					if checkIsPieces(t, shop, plan) {
						plans++
					}
				})
				if (plans > 0) != (until >= load) {
					t.Errorf("%d plans with pieces of %v have the length %d, but the load is %d", plans, shop, until, load)
				}
			}
		})
	}
}

// TestPromise8PiecePlans also checks Pieces that differ from those of a plan in one number.
func TestPromise8PiecePlans(t *testing.T) {
	for _, m := range shopMachines {
		waits, valid, count := 0, 0, 0
		for _, shop := range append(shopsOn(m), madeShop(61, 6, m, 0, 30), madeShop(62, 6, m, 0, 9), madeShop(63, 6, m, 1, 30), sameTimes(6, m, 30), idleJob(madeShop(64, 6, m, 1, 9), 5)) {
			plan := checkPieces(t, shop)
			for k, p := range plan {
				for machine, i := range p.Jobs {
					if i < 0 {
						waits++
					}
					for _, job := range []int{-2, -1, 0, 1, len(shop) - 1, len(shop), math.MinInt, math.MaxInt} {
						other := slices.Clone(plan)
						other[k].Jobs = slices.Clone(p.Jobs)
						other[k].Jobs[machine] = job
						if checkIsPieces(t, shop, other) {
							valid++
						}
						count++
					}
				}
				for _, length := range []int{p.Length + 1, p.Length - 1, 0, -p.Length, 1000000, 1000001, math.MinInt, math.MaxInt} {
					other := slices.Clone(plan)
					other[k].Length = length
					checkIsPieces(t, shop, other)
				}
				checkIsPieces(t, shop, slices.Concat(plan[:k], plan[k+1:]))
				checkIsPieces(t, shop, slices.Concat(plan[:k], plan[k:k+1], plan[k:]))
				// Pieces may stand in any order, and may be cut.
				checkIsPieces(t, shop, slices.Concat(plan[k:], plan[:k]))
				checkIsPieces(t, shop, slices.Concat(plan[:k], []impl.ShopPiece{piece(1, p.Jobs...), piece(p.Length-1, p.Jobs...)}, plan[k+1:]))
			}
		}
		if m > 1 && waits < 100 || valid < 100 || count-valid < 100 {
			t.Errorf("with %d machines %d wait in Pieces; %d of %d are plans", m, waits, valid, count)
		}
	}
}

func TestPromise8PiecePlansOfDrawnShops(t *testing.T) {
	most := 0
	for number := range 600 {
		plan := checkPieces(t, madeShop(number+8000, 3+number%4, 1+number%3, 0, []int{3, 9, 30}[number/3%3]))
		most = max(most, len(plan))
	}
	if most < 12 {
		t.Error("no plan has more than", most, "Pieces")
	}
}

func TestPromise8KnownPiecePlans(t *testing.T) {
	for _, c := range []struct {
		shop [][]int
		want []impl.ShopPiece
	}{
		{nil, nil}, {[][]int{}, nil}, {[][]int{{0}}, nil}, {sameTimes(6, 3, 0), nil},
		{[][]int{{7}}, []impl.ShopPiece{piece(7, 0)}},
		{[][]int{{3}, {0}, {2}}, []impl.ShopPiece{piece(3, 0), piece(2, 2)}},
		// one job, which is full, goes over all machines; the others wait
		{[][]int{{3, 0, 2}}, []impl.ShopPiece{piece(3, 0, -1, -1), piece(2, -1, -1, 0)}},
		{[][]int{{30, 30, 30}}, []impl.ShopPiece{piece(30, 0, -1, -1), piece(30, -1, 0, -1), piece(30, -1, -1, 0)}},
		{[][]int{{3, 2}, {1, 4}, {2, 2}}, []impl.ShopPiece{piece(3, 0, 1), piece(1, 1, 0), piece(1, 2, 0), piece(1, 2, 1), piece(2, -1, 2)}},
		// a machine that is full, and one that takes a job although it is not
		{[][]int{{2, 1}, {2, 0}}, []impl.ShopPiece{piece(2, 0, -1), piece(1, 1, 0), piece(1, 1, -1)}},
		// a job that is full, and stands behind a less one that is not
		{[][]int{{1, 0}, {2, 3}}, []impl.ShopPiece{piece(1, 0, 1), piece(2, 1, -1), piece(2, -1, 1)}},
		// all machines and all jobs are full
		{sameTimes(2, 2, 3), []impl.ShopPiece{piece(3, 0, 1), piece(3, 1, 0)}},
		{sameTimes(3, 3, 1), []impl.ShopPiece{piece(1, 0, 1, 2), piece(1, 1, 2, 0), piece(1, 2, 0, 1)}},
		// a machine that has nothing to do
		{[][]int{{2, 0}, {1, 0}}, []impl.ShopPiece{piece(2, 0, -1), piece(1, 1, -1)}},
	} {
		if plan, ok := impl.PiecePlan(c.shop); !ok || !equalPieces(plan, c.want) {
			t.Errorf("PiecePlan(%v) = %v, %v, not %v", c.shop, plan, ok, c.want)
		}
		checkPieces(t, c.shop)
	}
}

// TestPromise8PiecePlansOfManyJobs has six jobs and more.
func TestPromise8PiecePlansOfManyJobs(t *testing.T) {
	for _, m := range shopMachines {
		for number, n := range []int{6, 7, 8} {
			for _, shop := range [][][]int{sameTimes(n, m, 0), sameTimes(n, m, 1), sameTimes(n, m, 30), madeShop(number, n, m, 0, 30)} {
				if n == 6 {
					checkPieces(t, shop)
					continue
				}
				if plan, ok := impl.PiecePlan(shop); ok || len(plan) != 0 {
					t.Errorf("PiecePlan(%v) = %v, %v", shop, plan, ok)
				}
				// But such shops have plans with pieces: one machine after the other.
				plan := []impl.ShopPiece{}
				for i, times := range shop {
					for machine, time := range times {
						if time > 0 {
							jobs := slices.Repeat([]int{-1}, m)
							jobs[machine] = i
							plan = append(plan, piece(time, jobs...))
						}
					}
				}
				if !checkIsPieces(t, shop, plan) {
					t.Errorf("%v is no plan with pieces of %v", plan, shop)
				}
			}
		}
	}
	for _, shop := range noShops() {
		plan, one := impl.PiecePlan(shop)
		is, two := impl.IsPiecePlan(shop, nil)
		if one || two || len(plan) != 0 || is {
			t.Errorf("%.200v was taken as a shop: %v, %v", shop, plan, is)
		}
	}
}

func TestPromise8KnownPieces(t *testing.T) {
	two := [][]int{{3, 2}, {1, 4}}
	units := slices.Repeat([]impl.ShopPiece{piece(1, 0)}, 30)
	waits := slices.Repeat([]impl.ShopPiece{piece(1, -1)}, 11)
	for _, c := range []struct {
		shop [][]int
		plan []impl.ShopPiece
		want bool
	}{
		// without jobs there is one machine, which may wait
		{nil, nil, true}, {nil, []impl.ShopPiece{}, true}, {nil, []impl.ShopPiece{piece(1, -1)}, true}, {[][]int{}, []impl.ShopPiece{piece(1000000, -1), piece(7, -1)}, true},
		{nil, []impl.ShopPiece{piece(1)}, false}, {nil, []impl.ShopPiece{piece(1, -1, -1)}, false}, {nil, []impl.ShopPiece{piece(1, 0)}, false}, {nil, []impl.ShopPiece{piece(0, -1)}, false},
		{[][]int{{0}}, nil, true}, {[][]int{{1}}, nil, false}, {sameTimes(8, 3, 0), nil, true}, {sameTimes(8, 3, 0), []impl.ShopPiece{piece(5, -1, -1, -1)}, true}, {sameTimes(8, 3, 0), []impl.ShopPiece{piece(1, -1, 7, -1)}, false},
		// both machines work, one waits, or both wait
		{two, []impl.ShopPiece{piece(3, 0, 1), piece(1, 1, 0), piece(1, -1, 0), piece(1, -1, 1)}, true},
		{two, []impl.ShopPiece{piece(3, 0, 1), piece(9, -1, -1), piece(1, 1, 0), piece(1, -1, 0), piece(1, -1, 1)}, true},
		{two, []impl.ShopPiece{piece(3, 0, -1), piece(1, 1, -1), piece(2, -1, 0), piece(4, -1, 1)}, true},
		// times that are too great and too little
		{two, []impl.ShopPiece{piece(3, 0, 1), piece(1, 1, 0), piece(1, -1, 0), piece(2, -1, 1)}, false},
		{two, []impl.ShopPiece{piece(3, 0, 1), piece(1, 1, 0), piece(1, -1, 0)}, false},
		{two, []impl.ShopPiece{piece(3, 0, 1), piece(1, 1, 0), piece(1, -1, 1)}, false},
		{two, []impl.ShopPiece{piece(4, 0, 1), piece(2, 1, 0)}, false},
		// the same job twice
		{[][]int{{1, 1}}, []impl.ShopPiece{piece(1, 0, 0)}, false}, {[][]int{{1, 0, 1}}, []impl.ShopPiece{piece(1, 0, -1, 0)}, false}, {[][]int{{0, 1, 1}}, []impl.ShopPiece{piece(1, -1, 0, 0)}, false},
		// jobs that do not exist
		{[][]int{{1, 0}}, []impl.ShopPiece{piece(1, 0, 1)}, false}, {[][]int{{1, 0}}, []impl.ShopPiece{piece(1, 0, -2)}, false}, {[][]int{{1, 0}}, []impl.ShopPiece{piece(1, 0, 64)}, false},
		{[][]int{{1, 0}}, []impl.ShopPiece{piece(1, 0, math.MaxInt)}, false}, {[][]int{{1, 0}}, []impl.ShopPiece{piece(1, 0, math.MinInt)}, false},
		// other numbers of Jobs
		{[][]int{{1, 0}}, []impl.ShopPiece{piece(1, 0)}, false}, {[][]int{{1, 0}}, []impl.ShopPiece{piece(1, 0, -1, -1)}, false}, {[][]int{{1, 0}}, []impl.ShopPiece{piece(1, 0, -1), piece(1)}, false}, {[][]int{{1, 0}}, []impl.ShopPiece{piece(1, 0, -1)}, true},
		{[][]int{{0}}, []impl.ShopPiece{{Length: 1, Jobs: make([]int, 1000)}}, false},
		// Lengths of 0, 1 and 1000000, and others
		{[][]int{{1}}, []impl.ShopPiece{piece(1, 0)}, true}, {[][]int{{1}}, []impl.ShopPiece{piece(1, 0), piece(1000000, -1)}, true}, {[][]int{{1}}, []impl.ShopPiece{piece(1, 0), piece(1000001, -1)}, false}, {[][]int{{1}}, []impl.ShopPiece{piece(1, 0), piece(0, -1)}, false},
		{[][]int{{1}}, []impl.ShopPiece{piece(1, 0), piece(0, 0)}, false}, {[][]int{{1}}, []impl.ShopPiece{piece(2, 0), piece(-1, 0)}, false}, {[][]int{{0}}, []impl.ShopPiece{piece(0, 0)}, false}, {[][]int{{0}}, []impl.ShopPiece{piece(1, 0)}, false},
		{[][]int{{1}}, []impl.ShopPiece{piece(1, 0), piece(math.MaxInt, -1)}, false}, {[][]int{{1}}, []impl.ShopPiece{piece(1, 0), piece(math.MinInt, 0), piece(math.MinInt, 0)}, false},
		// MaxPieces, and one more
		{[][]int{{30}}, slices.Concat(units, waits[:10]), true}, {[][]int{{30}}, slices.Concat(units, waits), false}, {[][]int{{29}}, slices.Concat(units[:29], waits), true},
		{nil, slices.Repeat(waits[:1], 40), true}, {nil, slices.Repeat(waits[:1], 41), false}, {nil, slices.Repeat(waits[:1], 1000), false}, {[][]int{{1}}, make([]impl.ShopPiece, 1000), false},
	} {
		if isPiecePlanByHand(c.shop, c.plan) != c.want {
			t.Errorf("the test is wrong about %v", c)
		}
		checkIsPieces(t, c.shop, c.plan)
	}
}
