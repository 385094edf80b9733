package tests

import (
	"math"
	"slices"

	"loop.example/g01103/impl"
)

// sumObjectives are those for which there are tables over sets.
var sumObjectives = []int{impl.ObjSum, impl.ObjWeighted, impl.ObjTardiness, impl.ObjWeightedTardiness, impl.ObjLate, impl.ObjLateWeight}

// notSums are the objectives that are no sum objectives, and numbers that are no objectives.
func notSums() []int {
	return append(noObjectives(), impl.ObjEnd, impl.ObjLateness)
}

// notPlain are lists that are no jobs, and lists with a Release greater than 0.
func notPlain() [][]impl.Job {
	return slices.Concat(noJobs(), notPlainJobs(), [][]impl.Job{repeated(job(1, 1, 0, 1), 9)})
}

// datedJobs are plain lists of at most five jobs, with Due dates and Times of all kinds.
func datedJobs() [][]impl.Job {
	lists := append(plainJobs(),
		// one job that ends at its Due date, one later, and at least as late as it can be
		[]impl.Job{job(50, 1, 0, 50)}, []impl.Job{job(50, 1, 0, 49)}, []impl.Job{job(50, 50, 0, 0)},
		[]impl.Job{job(3, 2, 0, 4), job(2, 1, 0, 3), job(1, 3, 0, 6)},
		// the same Due date: 0, less than the total, the total, one greater and far greater
		[]impl.Job{job(3, 2, 0, 0), job(1, 0, 0, 0), job(2, 5, 0, 0), job(2, 1, 0, 0)},
		[]impl.Job{job(3, 2, 0, 7), job(1, 1, 0, 7), job(2, 5, 0, 7), job(2, 1, 0, 7)},
		[]impl.Job{job(3, 2, 0, 8), job(1, 1, 0, 8), job(2, 5, 0, 8), job(2, 1, 0, 8)},
		[]impl.Job{job(3, 2, 0, 9), job(1, 1, 0, 9), job(2, 5, 0, 9), job(2, 1, 0, 9)},
		[]impl.Job{job(3, 2, 0, 500), job(1, 1, 0, 500), job(2, 5, 0, 500), job(2, 1, 0, 500)},
		// some Due dates of 0
		[]impl.Job{job(4, 3, 0, 6), job(2, 9, 0, 0), job(1, 4, 0, 5), job(3, 1, 0, 0), job(2, 2, 0, 4)},
		// a total below all Due dates, at one of them and one greater
		[]impl.Job{job(4, 1, 0, 20), job(2, 2, 0, 11), job(3, 3, 0, 15)},
		[]impl.Job{job(4, 1, 0, 6), job(2, 2, 0, 9), job(3, 3, 0, 9)},
		[]impl.Job{job(4, 1, 0, 6), job(2, 2, 0, 8), job(3, 3, 0, 8)},
		// the same Due date and Time, with other Weights
		[]impl.Job{job(2, 1, 0, 4), job(2, 5, 0, 4), job(2, 3, 0, 4), job(2, 4, 0, 4)},
		[]impl.Job{job(3, 0, 0, 6), job(3, 0, 0, 6), job(1, 0, 0, 6), job(1, 0, 0, 6)},
		// timely in another order than that of the numbers
		[]impl.Job{job(3, 1, 0, 6), job(2, 1, 0, 3), job(1, 1, 0, 1)},
		// sums that no set has, and ones that no timely set has
		[]impl.Job{job(20, 7, 0, 60), job(40, 8, 0, 50)}, []impl.Job{job(2, 3, 0, 2), job(4, 5, 0, 5), job(6, 9, 0, 6)},
		// agreeable ones, with the same Time too, and ones that are not
		[]impl.Job{job(1, 1, 0, 2), job(2, 1, 0, 2), job(4, 1, 0, 5), job(5, 1, 0, 5)},
		[]impl.Job{job(3, 1, 0, 9), job(3, 1, 0, 2), job(3, 1, 0, 5), job(3, 1, 0, 3)},
		[]impl.Job{job(5, 1, 0, 5), job(3, 1, 0, 6), job(2, 1, 0, 8), job(1, 1, 0, 7)},
		// several longest jobs
		[]impl.Job{job(4, 1, 0, 9), job(4, 1, 0, 3), job(2, 1, 0, 5), job(4, 1, 0, 9), job(1, 1, 0, 7)},
		// no other job before the longest one, and all of them
		[]impl.Job{job(2, 1, 0, 9), job(5, 1, 0, 1), job(1, 1, 0, 9), job(2, 1, 0, 10)},
		[]impl.Job{job(2, 1, 0, 4), job(5, 1, 0, 30), job(1, 1, 0, 2), job(2, 1, 0, 7)},
	)
	for number := range 40 {
		n := 2 + number%4
		lists = append(lists,
			madeJobs(number+2000, n, 4, 3, 0, 9),
			madeJobs(number+2100, n, 9, 5, 0, 25),
			madeJobs(number+2200, n, 3, 4, 0, 2),
			madeJobs(number+2300, n, 6, 0, 0, 18))
	}
	return lists
}

// longDatedJobs are plain lists of MaxJobs jobs, and of one less, some with a total of MaxTotal.
func longDatedJobs() [][]impl.Job {
	return append(longPlainJobs(),
		repeated(job(50, 50, 0, 0), 8),
		repeated(job(50, 0, 0, 400), 8),
		repeated(job(50, 1, 0, 399), 8),
		madeJobs(31, 8, 12, 9, 0, 50),
		madeJobs(32, 8, 20, 50, 0, 80))
}

// everyList calls a check with each list of different ones of n jobs, the empty one too: with all orders of the jobs of each set.
func everyList(n int, check func(list []int)) {
	var extend func(list []int)
	extend = func(list []int) {
		check(list)
		for i := range n {
			if !slices.Contains(list, i) {
				extend(append(list, i))
			}
		}
	}
	extend(make([]int, 0, n))
}

// picked are the jobs of a list, in its order.
func picked(jobs []impl.Job, list []int) []impl.Job {
	some := make([]impl.Job, len(list))
	for place, i := range list {
		some[place] = jobs[i]
	}
	return some
}

// setValuesByHand tells by its mask the least value of each set, of all orders of its jobs alone.
func setValuesByHand(jobs []impl.Job, objective int) []int {
	values := slices.Repeat([]int{math.MaxInt}, 1<<len(jobs))
	everyList(len(jobs), func(list []int) {
		mask := maskOf(list)
		values[mask] = min(values[mask], valueByHand(picked(jobs, list), upTo(len(list)), objective))
	})
	return values
}

// timelyByHand tells by its mask whether each set is timely, of all orders of its jobs alone.
func timelyByHand(jobs []impl.Job) []bool {
	timely := make([]bool, 1<<len(jobs))
	everyList(len(jobs), func(list []int) {
		end, late := 0, false
		for _, i := range list {
			end += jobs[i].Time
			late = late || end > jobs[i].Due
		}
		timely[maskOf(list)] = timely[maskOf(list)] || !late
	})
	return timely
}

// dueOrderByHand is the due order of some of the jobs.
func dueOrderByHand(jobs []impl.Job, set []int) []int {
	keys := [][]int{}
	for _, i := range set {
		keys = append(keys, []int{jobs[i].Due, jobs[i].Time, i})
	}
	slices.SortFunc(keys, slices.Compare[[]int])
	order := []int{}
	for _, key := range keys {
		order = append(order, key[2])
	}
	return order
}

// weightOf is the sum of the Weights of a set of jobs.
func weightOf(jobs []impl.Job, set []int) int {
	sum := 0
	for _, i := range set {
		sum += jobs[i].Weight
	}
	return sum
}

// othersOf are all of n jobs that are not in a list, in ascending order.
func othersOf(n int, list []int) []int {
	return slices.DeleteFunc(upTo(n), func(i int) bool { return slices.Contains(list, i) })
}
