package tests

import (
	"math"
	"slices"
	"testing"

	"loop.example/g01103/impl"
)

// checkLoad compares the load with one made by hand, and returns it.
func checkLoad(t *testing.T, shop [][]int) int {
	t.Helper()
	want := loadByHand(shop)
	if load, ok := impl.ShopLoad(shop); !ok || load != want {
		t.Errorf("ShopLoad(%v) = %d, %v, not %d", shop, load, ok, want)
	}
	return want
}

// checkIsOpen compares whether lists of starts are an open schedule with the document, and returns it.
func checkIsOpen(t *testing.T, shop, starts [][]int) bool {
	t.Helper()
	want := isOpenByHand(shop, starts)
	if is, ok := impl.IsOpenSchedule(shop, starts); !ok || is != want {
		t.Errorf("IsOpenSchedule(%v, %.200v) = %v, %v, not %v", shop, starts, is, ok, want)
	}
	return want
}

// checkOpen compares the open schedule of a shop with two machines with one made by hand, and its end with the load.
func checkOpen(t *testing.T, shop [][]int) {
	t.Helper()
	load, want := checkLoad(t, shop), openByHand(shop)
	starts, ok := impl.OpenSchedule(shop)
	if !ok || !slices.EqualFunc(starts, want, slices.Equal[[]int]) {
		t.Errorf("OpenSchedule(%v) = %v, %v, not %v", shop, starts, ok, want)
		return
	}
	if !checkIsOpen(t, shop, starts) {
		t.Errorf("OpenSchedule(%v) = %v is no open schedule", shop, starts)
	}
	if end := openEnd(shop, starts); end != load {
		t.Errorf("OpenSchedule(%v) = %v ends at %d, but the load is %d", shop, starts, end, load)
	}
}

func TestPromise8Loads(t *testing.T) {
	for _, m := range shopMachines {
		byMachine, byJob := 0, 0
		for _, shop := range allShopsOn(m) {
			load := checkLoad(t, shop)
			for _, times := range shop {
				if added(times) == load {
					byJob++
				}
			}
			for machine := range machinesOf(shop) {
				if len(shop) > 0 && added(column(shop, machine)) == load {
					byMachine++
				}
			}
		}
		if byMachine < 20 || byJob < 5 {
			t.Errorf("with %d machines %d loads are of machines, %d of jobs", m, byMachine, byJob)
		}
	}
	for _, c := range []struct {
		shop [][]int
		want int
	}{
		{nil, 0}, {[][]int{}, 0}, {[][]int{{0}}, 0}, {[][]int{{0, 0, 0}, {0, 0, 0}}, 0}, {[][]int{{30}}, 30},
		// of a machine, the first one or the last one, and of a job, the first one or the last one
		{[][]int{{3, 2}, {1, 4}, {2, 2}}, 8}, {[][]int{{5, 2}, {4, 1}}, 9}, {[][]int{{1, 2, 9}, {2, 1, 8}}, 17}, {[][]int{{5, 6, 7}, {1, 2, 1}}, 18}, {[][]int{{1, 2, 1}, {2, 2, 2}, {6, 6, 6}}, 18},
		{sameTimes(1, 3, 30), 90}, {sameTimes(8, 1, 30), 240}, {sameTimes(8, 3, 30), 240},
	} {
		if load, ok := impl.ShopLoad(c.shop); !ok || load != c.want {
			t.Errorf("ShopLoad(%v) = %d, %v, not %d", c.shop, load, ok, c.want)
		}
	}
}

// TestPromise8EachOpenScheduleOfSmallShops also checks that nothing can be done before the load, and that all can with two machines.
func TestPromise8EachOpenScheduleOfSmallShops(t *testing.T) {
	for _, c := range []struct {
		n, m  int
		times []int
		until int
	}{
		{0, 1, nil, 2}, {1, 1, []int{0, 1, 2, 3}, 5}, {1, 2, []int{0, 1, 2, 3}, 7}, {1, 3, []int{0, 1, 2}, 7},
		{2, 1, []int{0, 1, 2, 3}, 7}, {3, 1, []int{0, 1, 2}, 7}, {2, 2, []int{0, 1, 2}, 5}, {2, 2, []int{0, 1, 3}, 6}, {3, 2, []int{0, 1}, 4}, {2, 3, []int{0, 1}, 4},
	} {
		everyShop(c.n, c.m, c.times, func(shop [][]int) {
			least, load := math.MaxInt, checkLoad(t, shop)
			everyNumbers(c.n*c.m, upTo(c.until), func(list []int) {
				starts := shopOfList(c.m, list)
				if checkIsOpen(t, shop, starts) {
					least = min(least, openEnd(shop, starts))
				}
			})
			if least < load || c.m < 3 && least != load {
				t.Errorf("an open schedule of %v ends at %d, but the load is %d", shop, least, load)
			}
			if c.m == 2 {
				checkOpen(t, shop)
			}
		})
	}
}

// TestPromise8OpenSchedules also checks lists of starts that differ from those of an open schedule in one number.
func TestPromise8OpenSchedules(t *testing.T) {
	valid, count := 0, 0
	for _, shop := range allShopsOn(2) {
		checkOpen(t, shop)
		starts := openByHand(shop)
		for i, list := range starts {
			for machine := range list {
				for _, change := range []int{-1, 1, -2, 2, 7, -7, 400, 999700, 1000000, -1000000} {
					other := copied(starts)
					other[i][machine] += change
					if checkIsOpen(t, shop, other) {
						valid++
					}
					count++
				}
			}
			checkIsOpen(t, shop, slices.Concat(starts[:i], starts[i+1:]))
		}
	}
	if valid < 500 || count-valid < 500 {
		t.Error(valid, "open schedules of", count)
	}
}

func TestPromise8OpenSchedulesOfSmallShops(t *testing.T) {
	for _, c := range []struct {
		n     int
		times []int
	}{
		{0, nil}, {1, []int{0, 1, 2, 30}}, {2, []int{0, 1, 2, 3, 5}}, {3, []int{0, 1, 2, 4}}, {4, []int{0, 1, 2}}, {5, []int{0, 1}},
	} {
		everyShop(c.n, 2, c.times, func(shop [][]int) { checkOpen(t, shop) })
	}
	for number := range 2000 {
		checkOpen(t, madeShop(number+7000, 2+number%7, 2, 0, []int{2, 5, 12, 30}[number%4]))
	}
}

func TestPromise8KnownOpenSchedules(t *testing.T) {
	for _, c := range []struct {
		shop, want [][]int
	}{
		{nil, nil}, {[][]int{}, nil},
		{[][]int{{0, 0}}, [][]int{{0, 0}}}, {[][]int{{5, 3}}, [][]int{{0, 5}}}, {[][]int{{0, 3}}, [][]int{{0, 0}}}, {[][]int{{30, 0}}, [][]int{{0, 0}}},
		{[][]int{{3, 2}, {1, 4}, {2, 2}}, [][]int{{3, 0}, {0, 2}, {1, 6}}},
		// the greatest time on the other machine, the least number of several, and the machine 0 first
		{[][]int{{1, 5}, {9, 1}, {1, 5}}, [][]int{{0, 1}, {2, 0}, {1, 6}}},
		{[][]int{{2, 2}, {2, 2}, {2, 2}}, [][]int{{0, 2}, {4, 0}, {2, 4}}},
		// ones that the other machine has not done come ahead of others, which come by their numbers
		{[][]int{{1, 1}, {1, 1}, {4, 4}}, [][]int{{4, 0}, {5, 1}, {0, 4}}},
		{[][]int{{2, 1}, {1, 1}, {1, 1}, {9, 3}}, [][]int{{9, 0}, {11, 1}, {12, 2}, {0, 9}}},
		// a machine waits for the one job that the other one is doing
		{[][]int{{4, 2}, {1, 1}}, [][]int{{0, 4}, {4, 0}}}, {[][]int{{1, 7}}, [][]int{{0, 1}}},
		// times of 0: the other machine has done the job, so it comes behind those that it has not
		{[][]int{{3, 0}, {2, 1}, {1, 0}}, [][]int{{2, 0}, {0, 2}, {5, 0}}},
		{[][]int{{0, 3}, {0, 0}, {2, 1}, {0, 4}}, [][]int{{0, 0}, {0, 0}, {0, 3}, {0, 4}}},
		{[][]int{{5, 0}, {3, 0}}, [][]int{{0, 0}, {5, 0}}}, {[][]int{{0, 5}, {0, 3}}, [][]int{{0, 0}, {0, 5}}},
		{sameTimes(8, 2, 0), sameTimes(8, 2, 0)},
		{sameTimes(2, 2, 30), [][]int{{0, 30}, {30, 0}}},
	} {
		if starts, ok := impl.OpenSchedule(c.shop); !ok || !slices.EqualFunc(starts, c.want, slices.Equal[[]int]) {
			t.Errorf("OpenSchedule(%v) = %v, %v, not %v", c.shop, starts, ok, c.want)
		}
		checkOpen(t, c.shop)
	}
}

func TestPromise8KnownStarts(t *testing.T) {
	two := [][]int{{3, 2}, {1, 4}}
	for _, c := range []struct {
		shop, starts [][]int
		want         bool
	}{
		{nil, nil, true}, {[][]int{}, [][]int{}, true}, {nil, [][]int{{}}, false}, {nil, [][]int{{0}}, false}, {nil, [][]int{nil}, false},
		// starts that touch, on a machine and of a job, and ones one less
		{two, [][]int{{0, 4}, {6, 0}}, true}, {two, [][]int{{1, 4}, {4, 0}}, true}, {two, [][]int{{4, 0}, {0, 2}}, true}, {two, [][]int{{4, 0}, {1, 2}}, true}, {two, [][]int{{3, 0}, {6, 2}}, true},
		{two, [][]int{{1, 3}, {4, 0}}, false}, {two, [][]int{{2, 5}, {4, 0}}, false}, {two, [][]int{{1, 5}, {3, 0}}, false}, {two, [][]int{{1, 4}, {4, 1}}, false},
		{[][]int{{3}, {2}}, [][]int{{2}, {0}}, true}, {[][]int{{3}, {2}}, [][]int{{1}, {0}}, false}, {[][]int{{3}, {2}}, [][]int{{0}, {3}}, true}, {[][]int{{3}, {2}}, [][]int{{0}, {2}}, false},
		{[][]int{{3, 1, 2}}, [][]int{{3, 2, 0}}, true}, {[][]int{{3, 1, 2}}, [][]int{{3, 1, 0}}, false}, {[][]int{{3, 1, 2}}, [][]int{{0, 4, 2}}, false},
		// one within the other, and both at the same time
		{[][]int{{9}, {2}}, [][]int{{0}, {4}}, false}, {[][]int{{2}, {9}}, [][]int{{4}, {0}}, false}, {[][]int{{2}, {2}}, [][]int{{5}, {5}}, false}, {[][]int{{2, 2}}, [][]int{{5, 5}}, false},
		// times of 0 need nothing: within others, at their beginning and at their end
		{[][]int{{9}, {0}}, [][]int{{0}, {4}}, true}, {[][]int{{0}, {9}}, [][]int{{4}, {0}}, true}, {[][]int{{9, 0}}, [][]int{{0, 4}}, true}, {[][]int{{0, 9}}, [][]int{{4, 0}}, true},
		{[][]int{{9, 0, 0}}, [][]int{{4, 4, 13}}, true}, {[][]int{{0}, {0}}, [][]int{{7}, {7}}, true}, {[][]int{{0}, {0}}, [][]int{{0}, {1000000}}, true},
		{[][]int{{9}, {0}, {2}}, [][]int{{0}, {4}, {4}}, false},
		// but they have starts
		{[][]int{{0}}, [][]int{{-1}}, false}, {[][]int{{0}}, [][]int{{1000001}}, false}, {[][]int{{0, 3}}, [][]int{{3}}, false},
		// 0 and 1000000, and ends behind that
		{[][]int{{30}}, [][]int{{0}}, true}, {[][]int{{30}}, [][]int{{1000000}}, true}, {[][]int{{30}, {30}}, [][]int{{1000000}, {999970}}, true}, {[][]int{{30}, {30}}, [][]int{{1000000}, {999971}}, false},
		{[][]int{{30}}, [][]int{{-1}}, false}, {[][]int{{30}}, [][]int{{1000001}}, false}, {[][]int{{30}}, [][]int{{math.MaxInt}}, false}, {[][]int{{30}}, [][]int{{math.MinInt}}, false},
		{two, [][]int{{1, 4}, {4, -1}}, false}, {two, [][]int{{1, 1000001}, {4, 0}}, false}, {two, [][]int{{1, 4}, {1000000, 0}}, true},
		// other numbers of lists, and of starts
		{two, nil, false}, {two, [][]int{{1, 4}}, false}, {two, [][]int{{1, 4}, {4, 0}, {9, 9}}, false}, {two, [][]int{{1, 4}, {4, 0}, nil}, false}, {two, make([][]int, 2), false},
		{two, [][]int{{1}, {4}}, false}, {two, [][]int{{1, 4}, {4}}, false}, {two, [][]int{{1, 4}, nil}, false}, {two, [][]int{{1, 4}, {4, 0, 20}}, false}, {two, [][]int{{1, 4, 30}, {4, 0, 20}}, false},
		{two, make([][]int, 1000), false}, {two, [][]int{make([]int, 1000), make([]int, 1000)}, false},
	} {
		if isOpenByHand(c.shop, c.starts) != c.want {
			t.Errorf("the test is wrong about %v", c)
		}
		checkIsOpen(t, c.shop, c.starts)
	}
}

func TestPromise8NoOpenShops(t *testing.T) {
	for _, shop := range noShops() {
		load, one := impl.ShopLoad(shop)
		bound, two := impl.FlowBound(shop)
		is, three := impl.IsOpenSchedule(shop, shop)
		if one || two || three || load != 0 || bound != 0 || is {
			t.Errorf("%.200v was taken as a shop: %d, %d, %v", shop, load, bound, is)
		}
	}
}
