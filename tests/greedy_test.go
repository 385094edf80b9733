package tests

import (
	"slices"
	"testing"

	"loop.example/g01103/impl"
)

// greedyByHand makes the greedy order, as the document describes it, waiting for 1 at a time.
func greedyByHand(jobs []impl.Job) []int {
	order := []int{}
	for now := 0; len(order) < len(jobs); {
		next := -1
		for i, j := range jobs {
			if !slices.Contains(order, i) && j.Release <= now && (next < 0 || j.Due < jobs[next].Due) {
				next = i
			}
		}
		if next < 0 {
			now++
			continue
		}
		order = append(order, next)
		now += jobs[next].Time
	}
	return order
}

// criticalByHand is the critical part of an order of at least one job, as the document defines it.
func criticalByHand(jobs []impl.Job, order []int) []int {
	ends := endsByHand(jobs, order)
	last := 0
	for place, i := range order {
		if worst := order[last]; ends[i]-jobs[i].Due > ends[worst]-jobs[worst].Due {
			last = place
		}
	}
	first := last
	for first > 0 && ends[order[first]]-jobs[order[first]].Time == ends[order[first-1]] {
		first--
	}
	return order[first : last+1]
}

// blockingByHand is the blocking job of a critical part, or -1.
func blockingByHand(jobs []impl.Job, part []int) int {
	blocking := -1
	for _, i := range part {
		if jobs[i].Due > jobs[part[len(part)-1]].Due {
			blocking = i
		}
	}
	return blocking
}

// checkGreedy compares the greedy order with the document's definitions and guarantees, and returns whether a job blocks.
func checkGreedy(t *testing.T, jobs []impl.Job, best int) bool {
	t.Helper()
	order, ok := impl.GreedyOrder(jobs)
	if want := greedyByHand(jobs); !ok || !slices.Equal(order, want) {
		t.Errorf("GreedyOrder(%v) = %v, %v, not %v", jobs, order, ok, want)
		return false
	}
	part, ok := impl.CriticalPart(jobs)
	blocking, blocked := impl.BlockingJob(jobs)
	if len(jobs) == 0 {
		if ok || len(part) != 0 || blocked || blocking != 0 {
			t.Errorf("of no jobs the critical part is %v, %v, and the blocking job %d, %v", part, ok, blocking, blocked)
		}
		return false
	}
	want := criticalByHand(jobs, order)
	if !ok || !slices.Equal(part, want) {
		t.Errorf("CriticalPart(%v) = %v, %v, not %v", jobs, part, ok, want)
		return false
	}
	value := valueByHand(jobs, order, impl.ObjLateness)
	wanted := blockingByHand(jobs, want)
	if blocked != (wanted >= 0) || blocking != max(wanted, 0) {
		t.Errorf("BlockingJob(%v) = %d, %v, not %d", jobs, blocking, blocked, wanted)
		return false
	}
	if !blocked && value != best {
		t.Errorf("GreedyOrder(%v) = %v has no blocking job, but the value %d, not %d", jobs, order, value, best)
	}
	if split := leastSplit(t, jobs, impl.ObjLateness); blocked && value >= split+jobs[blocking].Time {
		t.Errorf("GreedyOrder(%v) = %v has the value %d, %d being the least, and %d blocks", jobs, order, value, split, blocking)
	}
	return blocked
}

func TestPromise5GreedyOrders(t *testing.T) {
	blocked, free := 0, 0
	check := func(jobs []impl.Job, orders [][]int) {
		best, _, _ := bestByHand(jobs, orders, impl.ObjLateness)
		if checkGreedy(t, jobs, best) {
			blocked++
		} else {
			free++
		}
	}
	for _, jobs := range releasedJobs() {
		check(jobs, allOrders(len(jobs)))
	}
	for number := range 400 {
		n := 1 + number%5
		check(madeJobs(number+4000, n, 1+number%9, 0, number%16, 1+number%21), allOrders(n))
	}
	if blocked < 50 || free < 50 {
		t.Error(blocked, "blocked lists and", free, "others")
	}
}

func TestPromise5GreedyOrdersOfManyJobs(t *testing.T) {
	seven, eight := allOrders(7), allOrders(8)
	for _, jobs := range append(longReleasedJobs(), manyCases[0].jobs, manyCases[1].jobs, manyCases[2].jobs, manyCases[3].jobs) {
		orders := eight
		if len(jobs) == 7 {
			orders = seven
		}
		best, _, _ := bestByHand(jobs, orders, impl.ObjLateness)
		checkGreedy(t, jobs, best)
	}
}

func TestPromise5KnownGreedyOrders(t *testing.T) {
	for _, c := range []struct {
		jobs     []impl.Job
		order    []int
		part     []int
		blocking int
	}{
		{nil, nil, nil, -1},
		{[]impl.Job{job(1, 0, 0, 0)}, []int{0}, []int{0}, -1},
		{[]impl.Job{job(50, 0, 500, 500)}, []int{0}, []int{0}, -1},
		{[]impl.Job{job(3, 0, 0, 9), job(1, 0, 1, 3)}, []int{0, 1}, []int{0, 1}, 0},
		// released at the same time, and with the same Due date
		{repeated(job(2, 0, 3, 5), 4), upTo(4), upTo(4), -1},
		{[]impl.Job{job(2, 0, 3, 9), job(1, 0, 3, 4), job(5, 0, 3, 9)}, []int{1, 0, 2}, []int{1, 0, 2}, -1},
		// job 1 is released just as job 0 ends, and goes ahead of job 2, which waits; it starts at this end, so the part begins with 0
		{[]impl.Job{job(2, 0, 0, 9), job(2, 0, 2, 1), job(2, 0, 1, 8)}, []int{0, 1, 2}, []int{0, 1}, 0},
		// one later, job 2 goes ahead
		{[]impl.Job{job(2, 0, 0, 9), job(2, 0, 3, 1), job(2, 0, 1, 8)}, []int{0, 2, 1}, []int{0, 2, 1}, 2},
		// idle time ahead of the part, and behind it
		{[]impl.Job{job(2, 0, 0, 1), job(2, 0, 3, 1), job(2, 0, 9, 20)}, []int{0, 1, 2}, []int{1}, -1},
		// of two jobs with the greatest lateness, the first one counts
		{[]impl.Job{job(2, 0, 0, 1), job(2, 0, 2, 3)}, []int{0, 1}, []int{0}, -1},
		// the last one of several that block; one with the same Due date as the last job does not
		{
			[]impl.Job{job(3, 0, 0, 50), job(3, 0, 1, 40), job(3, 0, 4, 7), job(3, 0, 5, 7)},
			[]int{0, 1, 2, 3}, []int{0, 1, 2, 3}, 1,
		},
		// one ahead of the part does not block
		{[]impl.Job{job(3, 0, 0, 50), job(3, 0, 4, 1)}, []int{0, 1}, []int{1}, -1},
		// all are early
		{[]impl.Job{job(2, 0, 0, 100), job(3, 0, 1, 90)}, []int{0, 1}, []int{0, 1}, 0},
	} {
		order, ok := impl.GreedyOrder(c.jobs)
		if !ok || !slices.Equal(order, c.order) {
			t.Errorf("GreedyOrder(%v) = %v, %v, not %v", c.jobs, order, ok, c.order)
		}
		part, ok := impl.CriticalPart(c.jobs)
		if ok != (len(c.jobs) > 0) || !slices.Equal(part, c.part) {
			t.Errorf("CriticalPart(%v) = %v, %v, not %v", c.jobs, part, ok, c.part)
		}
		blocking, ok := impl.BlockingJob(c.jobs)
		if ok != (c.blocking >= 0) || blocking != max(c.blocking, 0) {
			t.Errorf("BlockingJob(%v) = %d, %v, not %d", c.jobs, blocking, ok, c.blocking)
		}
	}
}

func TestPromise5NoGreedyOrders(t *testing.T) {
	for _, jobs := range noJobs() {
		if order, ok := impl.GreedyOrder(jobs); ok || len(order) != 0 {
			t.Errorf("GreedyOrder(%.200v) = %v, %v", jobs, order, ok)
		}
		if part, ok := impl.CriticalPart(jobs); ok || len(part) != 0 {
			t.Errorf("CriticalPart(%.200v) = %v, %v", jobs, part, ok)
		}
		if blocking, ok := impl.BlockingJob(jobs); ok || blocking != 0 {
			t.Errorf("BlockingJob(%.200v) = %d, %v", jobs, blocking, ok)
		}
	}
}
