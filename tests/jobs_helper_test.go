package tests

import (
	"math"
	"slices"

	"loop.example/g01103/impl"
)

// objectives are all numbers that are one.
var objectives = []int{1, 2, 3, 4, 5, 6, 7, 8}

// job writes a job as the document's texts do.
func job(time, weight, release, due int) impl.Job {
	return impl.Job{Time: time, Weight: weight, Release: release, Due: due}
}

// repeated returns a list of n equal jobs.
func repeated(j impl.Job, n int) []impl.Job {
	return slices.Repeat([]impl.Job{j}, n)
}

// drawer returns a function that draws numbers, which follow from a number, below a given one.
func drawer(number int) func(below int) int {
	state := uint32(number)*2654435761 + 12345
	return func(below int) int {
		state = state*1664525 + 1013904223
		return int(state>>8) % below
	}
}

// madeJobs returns n jobs that follow from a number, with Times of at most time, and so on.
func madeJobs(number, n, time, weight, release, due int) []impl.Job {
	next := drawer(number)
	jobs := make([]impl.Job, n)
	for i := range jobs {
		jobs[i] = job(1+next(time), next(weight+1), next(release+1), next(due+1))
	}
	return jobs
}

// knownJobs are lists of at most five jobs of all kinds, so that all orders can be tried for each.
func knownJobs() [][]impl.Job {
	lists := [][]impl.Job{
		nil,
		{},
		{job(1, 0, 0, 0)},
		{job(1, 0, 0, 500)},
		{job(50, 50, 500, 500)},
		{job(50, 50, 500, 0)},
		{job(3, 2, 0, 4), job(2, 1, 0, 3), job(1, 3, 5, 6)},
		{job(1, 0, 500, 0), job(50, 50, 0, 500)},
		{job(2, 1, 3, 500), job(3, 1, 0, 500), job(4, 1, 7, 500)},
		repeated(job(4, 3, 2, 9), 4),
		repeated(job(1, 0, 0, 0), 5),
		repeated(job(50, 50, 500, 500), 5),
		{job(2, 2, 0, 5), job(2, 2, 0, 5), job(1, 1, 0, 5), job(1, 1, 0, 5)},
	}
	for number := range 30 {
		n := 1 + number%5
		lists = append(lists,
			madeJobs(number, n, 5, 4, 0, 12),
			madeJobs(number+100, n, 4, 3, 10, 15),
			madeJobs(number+200, n, 2, 1, 2, 4),
			madeJobs(number+300, n, 50, 50, 500, 500))
	}
	return lists
}

// longJobs are lists of MaxJobs jobs, and of one less.
func longJobs() [][]impl.Job {
	return [][]impl.Job{
		repeated(job(1, 0, 0, 0), 8),
		repeated(job(50, 50, 500, 0), 8),
		madeJobs(1, 8, 9, 5, 0, 30),
		madeJobs(2, 8, 9, 5, 20, 40),
		madeJobs(3, 8, 2, 1, 3, 8),
		madeJobs(4, 7, 50, 50, 500, 500),
	}
}

// noJobs are lists that are no lists of jobs.
func noJobs() [][]impl.Job {
	good := job(3, 2, 1, 4)
	bad := []impl.Job{
		{},
		job(0, 1, 1, 1), job(51, 1, 1, 1), job(-1, 1, 1, 1), job(math.MinInt, 1, 1, 1), job(math.MaxInt, 1, 1, 1),
		job(1, -1, 1, 1), job(1, 51, 1, 1), job(1, math.MinInt, 1, 1), job(1, math.MaxInt, 1, 1),
		job(1, 1, -1, 1), job(1, 1, 501, 1), job(1, 1, math.MinInt, 1), job(1, 1, math.MaxInt, 1),
		job(1, 1, 1, -1), job(1, 1, 1, 501), job(1, 1, 1, math.MinInt), job(1, 1, 1, math.MaxInt),
	}
	lists := [][]impl.Job{repeated(good, 9), repeated(good, 10), repeated(good, 1000), make([]impl.Job, 8)}
	for _, b := range bad {
		lists = append(lists, []impl.Job{b}, []impl.Job{b, good}, []impl.Job{good, b}, []impl.Job{good, b, good})
	}
	return lists
}

// noOrders are lists that are no orders of n jobs.
func noOrders(n int) [][]int {
	up := upTo(n)
	lists := [][]int{upTo(n + 1), append(upTo(n), 0), append(upTo(n), -1), append(upTo(n), n), upTo(n + 100)}
	if n == 0 {
		return lists
	}
	lists = append(lists, nil, up[:n-1], up[1:])
	for _, wrong := range []int{-1, -n, n, n + 1, math.MinInt, math.MaxInt} {
		for place := range n {
			list := upTo(n)
			list[place] = wrong
			lists = append(lists, list)
		}
	}
	for place := 1; place < n; place++ {
		first, last := upTo(n), upTo(n)
		first[0], last[n-1] = place, place-1
		lists = append(lists, first, last)
	}
	return lists
}

// noObjectives are numbers that are no objectives.
func noObjectives() []int {
	return []int{0, 9, -1, 10, -8, 100, math.MinInt, math.MaxInt}
}

// upTo returns the numbers 0..n-1.
func upTo(n int) []int {
	list := make([]int, n)
	for i := range list {
		list[i] = i
	}
	return list
}

// allOrders returns all orders of n jobs in ascending order.
func allOrders(n int) [][]int {
	orders := [][]int{{}}
	for range n {
		longer := [][]int{}
		for _, o := range orders {
			for i := range n {
				if !slices.Contains(o, i) {
					longer = append(longer, append(slices.Clone(o), i))
				}
			}
		}
		orders = longer
	}
	return orders
}

// endsByHand are the ends in the schedule of an order, as the document defines them.
func endsByHand(jobs []impl.Job, order []int) []int {
	ends := make([]int, len(jobs))
	for place, i := range order {
		start := jobs[i].Release
		if place > 0 && ends[order[place-1]] > start {
			start = ends[order[place-1]]
		}
		ends[i] = start + jobs[i].Time
	}
	return ends
}

// valueByHand is the value of an objective for an order, as the document defines it.
func valueByHand(jobs []impl.Job, order []int, objective int) int {
	return valueOfEndsByHand(jobs, endsByHand(jobs, order), objective)
}

// valueOfEndsByHand is the value of an objective that the ends of the jobs tell.
func valueOfEndsByHand(jobs []impl.Job, ends []int, objective int) int {
	greatestEnd, sum, weighted, greatestLateness := 0, 0, 0, math.MinInt
	tardiness, weightedTardiness, late, lateWeight := 0, 0, 0, 0
	for i, j := range jobs {
		greatestEnd = max(greatestEnd, ends[i])
		sum += ends[i]
		weighted += j.Weight * ends[i]
		lateness := ends[i] - j.Due
		greatestLateness = max(greatestLateness, lateness)
		if lateness > 0 {
			tardiness += lateness
			weightedTardiness += j.Weight * lateness
			late++
			lateWeight += j.Weight
		}
	}
	if len(jobs) == 0 {
		greatestLateness = 0
	}
	return []int{greatestEnd, sum, weighted, greatestLateness, tardiness, weightedTardiness, late, lateWeight}[objective-1]
}

// swapped returns an order with the jobs at the places i and i + 1 exchanged.
func swapped(order []int, i int) []int {
	other := slices.Clone(order)
	other[i], other[i+1] = other[i+1], other[i]
	return other
}

// nextByHand is the least place at which an exchange gains, or -1.
func nextByHand(jobs []impl.Job, order []int, objective int) int {
	for i := 0; i+1 < len(order); i++ {
		if valueByHand(jobs, order, objective) > valueByHand(jobs, swapped(order, i), objective) {
			return i
		}
	}
	return -1
}
