package tests

import (
	"math"
	"slices"
	"testing"

	"loop.example/g01103/impl"
)

// checkExchanges compares the gain at each place of an order, and the next exchange, with the document's definitions.
func checkExchanges(t *testing.T, jobs []impl.Job, order []int, objective int) {
	t.Helper()
	for i := range len(order) - 1 {
		want := valueByHand(jobs, order, objective) - valueByHand(jobs, swapped(order, i), objective)
		if got, ok := impl.ExchangeGain(jobs, order, i, objective); !ok || got != want {
			t.Errorf("ExchangeGain(%v, %v, %d, %d) = %d, %v", jobs, order, i, objective, got, ok)
		}
	}
	for _, i := range []int{-1, len(order) - 1, len(order), len(order) + 1, math.MinInt, math.MaxInt, math.MaxInt - 1} {
		if i == 0 && len(order) > 1 {
			continue
		}
		if got, ok := impl.ExchangeGain(jobs, order, i, objective); ok || got != 0 {
			t.Errorf("ExchangeGain(%v, %v, %d, %d) = %d, %v", jobs, order, i, objective, got, ok)
		}
	}
	want := nextByHand(jobs, order, objective)
	if got, ok := impl.NextExchange(jobs, order, objective); ok != (want >= 0) || got != max(want, 0) {
		t.Errorf("NextExchange(%v, %v, %d) = %d, %v", jobs, order, objective, got, ok)
	}
}

// checkDown compares the end of exchanging downwards with the document's definition, and checks that it is not above the beginning.
func checkDown(t *testing.T, jobs []impl.Job, order []int, objective int) {
	t.Helper()
	want, number := slices.Clone(order), 0
	for i := nextByHand(jobs, want, objective); i >= 0; i = nextByHand(jobs, want, objective) {
		want = swapped(want, i)
		number++
	}
	got, steps, ok := impl.ExchangeDown(jobs, order, objective)
	if !ok || !slices.Equal(got, want) || steps != number {
		t.Errorf("ExchangeDown(%v, %v, %d) = %v, %d, %v, not %v, %d", jobs, order, objective, got, steps, ok, want, number)
		return
	}
	before, one := impl.ValueOf(jobs, order, objective)
	after, two := impl.ValueOf(jobs, got, objective)
	if !one || !two || after > before-steps {
		t.Errorf("ExchangeDown(%v, %v, %d) goes from %d to %d in %d steps", jobs, order, objective, before, after, steps)
	}
	if i, ok := impl.NextExchange(jobs, got, objective); ok || i != 0 {
		t.Errorf("ExchangeDown(%v, %v, %d) = %v leaves an exchange at %d", jobs, order, objective, got, i)
	}
}

func TestPromise2Exchanges(t *testing.T) {
	for _, jobs := range knownJobs() {
		for at, order := range allOrders(len(jobs)) {
			if len(jobs) == 5 && at%7 != 0 {
				continue
			}
			for _, objective := range objectives {
				checkExchanges(t, jobs, order, objective)
				checkDown(t, jobs, order, objective)
			}
		}
	}
}

func TestPromise2ExchangesOfManyJobs(t *testing.T) {
	for _, jobs := range longJobs() {
		orders := allOrders(len(jobs))
		for i := 0; i < len(orders); i += 997 {
			for _, objective := range objectives {
				checkExchanges(t, jobs, orders[i], objective)
				checkDown(t, jobs, orders[i], objective)
			}
		}
	}
}

func TestPromise2KnownExchangesDown(t *testing.T) {
	three := []impl.Job{job(3, 2, 0, 4), job(2, 1, 0, 3), job(1, 3, 5, 6)}
	rising := []impl.Job{}
	for time := range 8 {
		rising = append(rising, job(1+time, 1, 0, 0))
	}
	for _, c := range []struct {
		jobs      []impl.Job
		order     []int
		objective int
		down      []int
		steps     int
	}{
		{nil, nil, impl.ObjSum, nil, 0},
		{three[:1], []int{0}, impl.ObjSum, []int{0}, 0},
		{three, []int{0, 1, 2}, impl.ObjLateness, []int{1, 0, 2}, 1},
		{three, []int{1, 0, 2}, impl.ObjLateness, []int{1, 0, 2}, 0},
		{rising, []int{7, 6, 5, 4, 3, 2, 1, 0}, impl.ObjSum, upTo(8), 28},
		{rising, []int{7, 6, 5, 4, 3, 2, 1, 0}, impl.ObjEnd, []int{7, 6, 5, 4, 3, 2, 1, 0}, 0},
		{repeated(job(2, 1, 0, 3), 8), []int{7, 6, 5, 4, 3, 2, 1, 0}, impl.ObjTardiness, []int{7, 6, 5, 4, 3, 2, 1, 0}, 0},
	} {
		if down, steps, ok := impl.ExchangeDown(c.jobs, c.order, c.objective); !ok || !slices.Equal(down, c.down) || steps != c.steps {
			t.Errorf("ExchangeDown(%v, %v, %d) = %v, %d, %v", c.jobs, c.order, c.objective, down, steps, ok)
		}
	}
}

// TestPromise2ExchangeDownMayStopAboveTheBest has an order that no exchange of neighbors improves, and that is not best.
func TestPromise2ExchangeDownMayStopAboveTheBest(t *testing.T) {
	jobs := []impl.Job{job(1, 0, 0, 1), job(1, 0, 0, 1), job(1, 0, 0, 0), job(1, 1, 0, 1)}
	order := []int{0, 1, 2, 3}
	down, steps, ok := impl.ExchangeDown(jobs, order, impl.ObjLateWeight)
	if !ok || steps != 0 || !slices.Equal(down, order) {
		t.Errorf("down to %v in %d steps, %v", down, steps, ok)
	}
	if best, ok := impl.IsBestOrder(jobs, down, impl.ObjLateWeight); !ok || best {
		t.Error("the order is best", ok)
	}
	if first, ok := impl.BestOrder(jobs, impl.ObjLateWeight); !ok || !slices.Equal(first, []int{3, 0, 1, 2}) {
		t.Errorf("the first best order is %v, %v", first, ok)
	}
}

// insertedByHand takes the job out and goes over the places of the order that is asked for.
func insertedByHand(order []int, from, to int) []int {
	others := []int{}
	for place, i := range order {
		if place != from {
			others = append(others, i)
		}
	}
	want := []int{}
	for place := range order {
		switch {
		case place == to:
			want = append(want, order[from])
		case place < to:
			want = append(want, others[place])
		default:
			want = append(want, others[place-1])
		}
	}
	return want
}

func TestPromise2InsertJob(t *testing.T) {
	for n := range 5 {
		for _, order := range allOrders(n) {
			for from := -1; from <= n; from++ {
				for to := -1; to <= n; to++ {
					checkInsert(t, order, from, to)
				}
			}
		}
	}
	for from := -1; from <= 8; from++ {
		for to := -1; to <= 8; to++ {
			checkInsert(t, []int{3, 1, 4, 0, 5, 2, 7, 6}, from, to)
		}
	}
}

// checkInsert compares InsertJob, for places that need not be any, with the document's definition.
func checkInsert(t *testing.T, order []int, from, to int) {
	t.Helper()
	valid := from >= 0 && from < len(order) && to >= 0 && to < len(order)
	want := []int{}
	if valid {
		want = insertedByHand(order, from, to)
	}
	if got, ok := impl.InsertJob(order, from, to); ok != valid || !slices.Equal(got, want) {
		t.Errorf("InsertJob(%v, %d, %d) = %v, %v", order, from, to, got, ok)
	}
}

func TestPromise2InsertJobRejects(t *testing.T) {
	for _, list := range [][]int{nil, {}, {1}, {-1}, {0, 0}, {1, 2}, {0, 2}, {0, 1, 3}, {0, 1, -1}, {2, 1, 2}, upTo(9), upTo(100), {math.MinInt}, {math.MaxInt}} {
		for _, to := range []int{0, 1} {
			if got, ok := impl.InsertJob(list, 0, to); ok || len(got) != 0 {
				t.Errorf("InsertJob(%.200v, 0, %d) = %v, %v", list, to, got, ok)
			}
		}
	}
	for _, place := range []int{math.MinInt, -2, 9, 100, math.MaxInt} {
		for _, places := range [][2]int{{place, 0}, {0, place}, {place, place}} {
			if got, ok := impl.InsertJob(upTo(8), places[0], places[1]); ok || len(got) != 0 {
				t.Errorf("InsertJob of 8 jobs at %v = %v, %v", places, got, ok)
			}
		}
	}
}
