package tests

import (
	"slices"

	"loop.example/g01103/impl"
)

// ruledObjectives are those for which lists of jobs may be ruled.
var ruledObjectives = []int{impl.ObjEnd, impl.ObjSum, impl.ObjWeighted, impl.ObjLateness}

// unruledObjectives are those for which no list of jobs is ruled.
var unruledObjectives = []int{impl.ObjTardiness, impl.ObjWeightedTardiness, impl.ObjLate, impl.ObjLateWeight}

// plainJobs are plain lists of at most five jobs, many of them with tied jobs and with Weights of 0.
func plainJobs() [][]impl.Job {
	lists := [][]impl.Job{
		nil,
		{},
		{job(1, 0, 0, 0)},
		{job(50, 50, 0, 500)},
		{job(50, 0, 0, 49)},
		{job(3, 1, 0, 0), job(1, 0, 0, 0), job(2, 2, 0, 0)},
		{job(4, 0, 0, 4), job(2, 0, 0, 5), job(3, 0, 0, 6)},
		{job(2, 0, 0, 3), job(2, 0, 0, 3)},
		{job(50, 0, 0, 9), job(1, 50, 0, 9), job(50, 50, 0, 9), job(1, 0, 0, 9)},
		{job(2, 1, 0, 5), job(4, 2, 0, 5), job(6, 3, 0, 5), job(1, 0, 0, 5), job(5, 0, 0, 5)},
		{job(3, 2, 0, 7), job(3, 2, 0, 7), job(2, 3, 0, 4), job(3, 2, 0, 7)},
		repeated(job(4, 3, 0, 9), 4),
		repeated(job(1, 0, 0, 0), 5),
		repeated(job(50, 50, 0, 100), 5),
	}
	for number := range 30 {
		n := 1 + number%5
		lists = append(lists,
			madeJobs(number+400, n, 3, 2, 0, 6),
			madeJobs(number+500, n, 6, 1, 0, 14),
			madeJobs(number+600, n, 9, 9, 0, 25),
			madeJobs(number+700, n, 50, 50, 0, 150))
	}
	return lists
}

// longPlainJobs are plain lists of MaxJobs jobs, and of one less.
func longPlainJobs() [][]impl.Job {
	return [][]impl.Job{
		repeated(job(1, 0, 0, 4), 8),
		repeated(job(50, 50, 0, 149), 8),
		// the numbers of a well-known example of the late rule
		{job(10, 1, 0, 35), job(6, 2, 0, 20), job(3, 0, 0, 11), job(1, 0, 0, 8), job(4, 3, 0, 6), job(8, 2, 0, 25), job(7, 1, 0, 28), job(6, 2, 0, 9)},
		madeJobs(11, 8, 3, 2, 0, 12),
		madeJobs(12, 8, 9, 2, 0, 30),
		madeJobs(13, 7, 50, 50, 0, 200),
	}
}

// notPlainJobs are lists of jobs in which some are not there from the beginning.
func notPlainJobs() [][]impl.Job {
	return [][]impl.Job{
		{job(1, 0, 1, 0)},
		{job(1, 1, 500, 500)},
		{job(1, 1, 0, 1), job(1, 1, 1, 1)},
		{job(3, 2, 4, 9), job(2, 1, 0, 3), job(1, 3, 0, 6)},
		append(repeated(job(2, 2, 0, 20), 7), job(2, 2, 1, 20)),
		repeated(job(2, 2, 3, 20), 8),
	}
}

// isPlainByHand tells whether all jobs of a list of jobs are there from the beginning.
func isPlainByHand(jobs []impl.Job) bool {
	latest := 0
	for _, j := range jobs {
		latest = max(latest, j.Release)
	}
	return latest == 0
}

// ruledFor are the objectives that are ruled for a list of jobs.
func ruledFor(jobs []impl.Job) []int {
	if isPlainByHand(jobs) {
		return ruledObjectives
	}
	return []int{impl.ObjEnd}
}

// differenceByHand is the rule difference of i and j, as the document's table tells it.
func differenceByHand(jobs []impl.Job, objective, i, j int) int {
	a, b := jobs[i], jobs[j]
	return []int{a.Release - b.Release, a.Time - b.Time, a.Time*b.Weight - b.Time*a.Weight, a.Due - b.Due}[objective-1]
}

// inversionsByHand are all inversions of an order, as the document defines them.
func inversionsByHand(jobs []impl.Job, order []int, objective int) [][2]int {
	pairs := [][2]int{}
	for p := range order {
		for q := p + 1; q < len(order); q++ {
			if differenceByHand(jobs, objective, order[q], order[p]) < 0 {
				pairs = append(pairs, [2]int{order[p], order[q]})
			}
		}
	}
	return pairs
}

// leastInversionByHand is the least place that is, with the next one, an inversion, or -1.
func leastInversionByHand(jobs []impl.Job, order []int, objective int) int {
	for i := 1; i < len(order); i++ {
		if differenceByHand(jobs, objective, order[i], order[i-1]) < 0 {
			return i - 1
		}
	}
	return -1
}

// ruledByHand are all ruled orders, in ascending order, of all orders that are given in ascending order.
func ruledByHand(jobs []impl.Job, orders [][]int, objective int) [][]int {
	ruled := [][]int{}
	for _, order := range orders {
		if leastInversionByHand(jobs, order, objective) < 0 {
			ruled = append(ruled, order)
		}
	}
	return ruled
}

// lateByHand lets the late rule take k jobs: the jobs left, in the order in which they have been taken, and the steps.
func lateByHand(jobs []impl.Job, k int) ([]int, [][2]int) {
	left, steps, taken := []int{}, [][2]int{}, make([]bool, len(jobs))
	for range k {
		next := -1
		for i, j := range jobs {
			if !taken[i] && (next < 0 || j.Due < jobs[next].Due) {
				next = i
			}
		}
		taken[next] = true
		left = append(left, next)
		sum, longest := 0, left[0]
		for _, i := range left {
			sum += jobs[i].Time
			if jobs[i].Time > jobs[longest].Time {
				longest = i
			}
		}
		if sum <= jobs[next].Due {
			longest = -1
		}
		left = slices.DeleteFunc(left, func(i int) bool { return i == longest })
		steps = append(steps, [2]int{next, longest})
	}
	return left, steps
}

// setOf lists the numbers whose binary digits in a mask are 1.
func setOf(mask int) []int {
	set := []int{}
	for i := 0; 1<<i <= mask; i++ {
		if mask>>i&1 == 1 {
			set = append(set, i)
		}
	}
	return set
}

// maskOf is the mask whose setOf has the same numbers.
func maskOf(set []int) int {
	mask := 0
	for _, i := range set {
		mask |= 1 << i
	}
	return mask
}

// onTimeByHand tells by its mask of each set of jobs whether an order has none of them late.
func onTimeByHand(jobs []impl.Job, orders [][]int) []bool {
	onTime := make([]bool, 1<<len(jobs))
	seen := make([]bool, 1<<len(jobs))
	for _, order := range orders {
		late := 0
		for i, end := range endsByHand(jobs, order) {
			if end > jobs[i].Due {
				late |= 1 << i
			}
		}
		if seen[late] {
			continue
		}
		seen[late] = true
		for mask := range onTime {
			onTime[mask] = onTime[mask] || mask&late == 0
		}
	}
	return onTime
}
