package tests

import (
	"slices"
	"testing"

	"loop.example/g01103/impl"
)

// bestByHand tries all orders: the value of best ones, the first best one, and their number.
func bestByHand(jobs []impl.Job, orders [][]int, objective int) (int, []int, int) {
	least, count := 0, 0
	var first []int
	for _, order := range orders {
		value := valueByHand(jobs, order, objective)
		if count == 0 || value < least {
			least, first, count = value, order, 0
		}
		if value == least {
			count++
		}
	}
	return least, first, count
}

// checkBest compares what the functions tell of best orders with what all orders tell.
func checkBest(t *testing.T, jobs []impl.Job, orders [][]int, objective int) {
	t.Helper()
	least, first, count := bestByHand(jobs, orders, objective)
	if got, ok := impl.BestValue(jobs, objective); !ok || got != least {
		t.Errorf("BestValue(%v, %d) = %d, %v, not %d", jobs, objective, got, ok, least)
	}
	if got, ok := impl.BestOrder(jobs, objective); !ok || !slices.Equal(got, first) {
		t.Errorf("BestOrder(%v, %d) = %v, %v, not %v", jobs, objective, got, ok, first)
	}
	if got, ok := impl.CountBest(jobs, objective); !ok || got != count {
		t.Errorf("CountBest(%v, %d) = %d, %v, not %d", jobs, objective, got, ok, count)
	}
}

func TestPromise2BestOrders(t *testing.T) {
	for _, jobs := range knownJobs() {
		orders := allOrders(len(jobs))
		for _, objective := range objectives {
			checkBest(t, jobs, orders, objective)
		}
	}
}

func TestPromise2BestOrdersOfManyJobs(t *testing.T) {
	for _, jobs := range longJobs() {
		orders := allOrders(len(jobs))
		for _, objective := range objectives {
			checkBest(t, jobs, orders, objective)
		}
	}
}

func TestPromise2IsBestOrder(t *testing.T) {
	for _, jobs := range knownJobs() {
		if len(jobs) > 4 {
			continue
		}
		orders := allOrders(len(jobs))
		for _, objective := range objectives {
			least, _, _ := bestByHand(jobs, orders, objective)
			for _, order := range orders {
				want := valueByHand(jobs, order, objective) == least
				if got, ok := impl.IsBestOrder(jobs, order, objective); !ok || got != want {
					t.Errorf("IsBestOrder(%v, %v, %d) = %v, %v", jobs, order, objective, got, ok)
				}
			}
		}
	}
}

func TestPromise2KnownBestOrders(t *testing.T) {
	three := []impl.Job{job(3, 2, 0, 4), job(2, 1, 0, 3), job(1, 3, 5, 6)}
	equal := repeated(job(4, 3, 2, 500), 8)
	// the jobs 1 and 2 are equal and shorter than the jobs 0 and 3, which are equal too
	pairs := []impl.Job{job(2, 1, 0, 9), job(1, 1, 0, 9), job(1, 1, 0, 9), job(2, 1, 0, 9)}
	for _, c := range []struct {
		jobs      []impl.Job
		objective int
		value     int
		first     []int
		count     int
	}{
		{nil, impl.ObjEnd, 0, nil, 1},
		{nil, impl.ObjLateness, 0, nil, 1},
		{[]impl.Job{job(1, 0, 0, 500)}, impl.ObjLateness, -499, []int{0}, 1},
		{[]impl.Job{job(1, 0, 0, 500), job(50, 0, 0, 500)}, impl.ObjLateness, -449, []int{0, 1}, 2},
		{three, impl.ObjEnd, 6, []int{0, 1, 2}, 2},
		{three, impl.ObjLateness, 1, []int{1, 0, 2}, 1},
		{equal, impl.ObjSum, 160, []int{0, 1, 2, 3, 4, 5, 6, 7}, 40320},
		{equal, impl.ObjLateness, -466, []int{0, 1, 2, 3, 4, 5, 6, 7}, 40320},
		{equal, impl.ObjLateWeight, 0, []int{0, 1, 2, 3, 4, 5, 6, 7}, 40320},
		{pairs, impl.ObjSum, 13, []int{1, 2, 0, 3}, 4},
		{pairs, impl.ObjLate, 0, []int{0, 1, 2, 3}, 24},
		{[]impl.Job{job(1, 0, 0, 1), job(1, 0, 0, 0)}, impl.ObjLateWeight, 0, []int{0, 1}, 2},
		{[]impl.Job{job(1, 1, 500, 0), job(1, 1, 0, 0)}, impl.ObjEnd, 501, []int{1, 0}, 1},
		{[]impl.Job{job(1, 1, 500, 0), job(1, 1, 499, 0)}, impl.ObjTardiness, 1001, []int{1, 0}, 1},
	} {
		value, one := impl.BestValue(c.jobs, c.objective)
		first, two := impl.BestOrder(c.jobs, c.objective)
		count, three := impl.CountBest(c.jobs, c.objective)
		best, four := impl.IsBestOrder(c.jobs, c.first, c.objective)
		if !one || !two || !three || !four || value != c.value || !slices.Equal(first, c.first) || count != c.count || !best {
			t.Errorf("%v, objective %d: %d, %v, %d, %v", c.jobs, c.objective, value, first, count, best)
		}
	}
}

func TestPromise2NoBestOrdersOfInvalidLists(t *testing.T) {
	for _, jobs := range noJobs() {
		for _, objective := range objectives {
			value, one := impl.BestValue(jobs, objective)
			first, two := impl.BestOrder(jobs, objective)
			count, three := impl.CountBest(jobs, objective)
			if one || two || three || value != 0 || len(first) != 0 || count != 0 {
				t.Errorf("%.200v, objective %d: %d, %v, %d", jobs, objective, value, first, count)
			}
		}
	}
}
