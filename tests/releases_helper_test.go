package tests

import (
	"math"
	"slices"

	"loop.example/g01103/impl"
)

// splitObjectives are those for which there is a rule of choice.
var splitObjectives = []int{impl.ObjSum, impl.ObjLateness}

// otherObjectives are those for which there is none, and numbers that are no objectives.
func otherObjectives() []int {
	return append(noObjectives(), impl.ObjEnd, impl.ObjWeighted, impl.ObjTardiness, impl.ObjWeightedTardiness, impl.ObjLate, impl.ObjLateWeight)
}

// releasedJobs are lists of at most five jobs, many of them with Releases.
func releasedJobs() [][]impl.Job {
	lists := append(knownJobs(),
		// idle time at the beginning, and between jobs
		[]impl.Job{job(2, 0, 3, 4), job(1, 0, 3, 4), job(2, 0, 20, 25)},
		// the same Release, the same Due date and the same Time
		[]impl.Job{job(3, 1, 4, 9), job(1, 1, 4, 6), job(2, 1, 4, 3), job(2, 1, 4, 6)},
		[]impl.Job{job(4, 0, 0, 7), job(2, 0, 1, 7), job(1, 0, 2, 7), job(1, 0, 6, 7)},
		[]impl.Job{job(3, 0, 5, 12), job(3, 0, 1, 6), job(3, 0, 0, 20), job(3, 0, 3, 9)},
		// a rest and a Time that become the same at a Release, with the less and with the greater number first
		[]impl.Job{job(2, 0, 1, 5), job(3, 0, 0, 5)},
		[]impl.Job{job(3, 0, 0, 5), job(2, 0, 1, 5)},
		// one that has to wait for others again and again
		[]impl.Job{job(9, 0, 0, 40), job(1, 0, 1, 3), job(1, 0, 3, 5), job(1, 0, 5, 8), job(2, 0, 7, 9)},
		// a long one that is urgent last
		[]impl.Job{job(50, 0, 0, 500), job(1, 0, 1, 1), job(50, 0, 2, 0)},
		[]impl.Job{job(50, 0, 500, 0), job(50, 0, 499, 500), job(50, 0, 0, 500), job(1, 0, 450, 0)},
	)
	for number := range 40 {
		n := 2 + number%4
		lists = append(lists,
			madeJobs(number+1000, n, 4, 2, 6, 9),
			madeJobs(number+1100, n, 9, 2, 12, 25),
			madeJobs(number+1200, n, 6, 0, 1, 12),
			madeJobs(number+1300, n, 3, 0, 30, 30))
	}
	return lists
}

// longReleasedJobs are lists of MaxJobs jobs, and of one less.
func longReleasedJobs() [][]impl.Job {
	return append(longJobs(),
		madeJobs(21, 8, 9, 3, 30, 40),
		madeJobs(22, 8, 6, 3, 12, 20),
		madeJobs(23, 7, 12, 3, 25, 40),
		repeated(job(2, 1, 7, 3), 8))
}

// span writes a Span.
func span(job, from, to int) impl.Span {
	return impl.Span{Job: job, From: from, To: to}
}

// spansOfSlots are the Spans, as long as possible, of the jobs that are done at the times 0, 1, .., each for 1; -1 is none.
func spansOfSlots(slots []int) []impl.Span {
	spans := []impl.Span{}
	for time, i := range slots {
		switch {
		case i < 0:
		case time > 0 && slots[time-1] == i:
			spans[len(spans)-1].To++
		default:
			spans = append(spans, span(i, time, time+1))
		}
	}
	return spans
}

// endsOfSlots are the ends of n jobs.
func endsOfSlots(n int, slots []int) []int {
	ends := make([]int, n)
	for time, i := range slots {
		if i >= 0 {
			ends[i] = time + 1
		}
	}
	return ends
}

// leftOfSlots are the Times that are still to be done of all jobs.
func leftOfSlots(jobs []impl.Job, slots []int) []int {
	left := make([]int, len(jobs))
	for i, j := range jobs {
		left[i] = j.Time
	}
	for _, i := range slots {
		if i >= 0 {
			left[i]--
		}
	}
	return left
}

// slotsByHand does the jobs of a prefix in order and then the others by a rule of choice, time going on by 1.
func slotsByHand(jobs []impl.Job, prefix []int, objective int) []int {
	slots := []int{}
	for _, i := range prefix {
		for len(slots) < jobs[i].Release {
			slots = append(slots, -1)
		}
		slots = append(slots, slices.Repeat([]int{i}, jobs[i].Time)...)
	}
	for left := leftOfSlots(jobs, slots); slices.ContainsFunc(left, func(rest int) bool { return rest > 0 }); {
		next, least := -1, math.MaxInt
		for i, j := range jobs {
			key := left[i]
			if objective == impl.ObjLateness {
				key = j.Due
			}
			if left[i] > 0 && j.Release <= len(slots) && key < least {
				next, least = i, key
			}
		}
		slots = append(slots, next)
		if next >= 0 {
			left[next]--
		}
	}
	return slots
}

// boundByHand is the bound of a prefix, as the document defines it.
func boundByHand(jobs []impl.Job, prefix []int, objective int) int {
	return valueOfEndsByHand(jobs, endsOfSlots(len(jobs), slotsByHand(jobs, prefix, objective)), objective)
}

// isSplitByHand tells whether Spans are a split schedule, as the document defines it.
func isSplitByHand(jobs []impl.Job, spans []impl.Span) bool {
	sums := make([]int, len(jobs))
	for k, s := range spans {
		switch {
		case s.Job < 0 || s.Job > len(jobs)-1,
			s.From < 0 || s.From > 1000 || s.To < 0 || s.To > 1000 || s.From >= s.To,
			s.From < jobs[s.Job].Release,
			k > 0 && s.From < spans[k-1].To,
			k > 0 && s.From == spans[k-1].To && s.Job == spans[k-1].Job:
			return false
		}
		sums[s.Job] += s.To - s.From
	}
	for i, j := range jobs {
		if sums[i] != j.Time {
			return false
		}
	}
	return true
}

// everySplit calls a check with the slots of each split schedule that is done at a given time.
func everySplit(jobs []impl.Job, until int, check func(slots []int)) {
	var extend func(slots []int)
	extend = func(slots []int) {
		work := 0
		for i, rest := range leftOfSlots(jobs, slots) {
			work += rest
			if rest > 0 && jobs[i].Release <= len(slots) {
				extend(append(slices.Clone(slots), i))
			}
		}
		if work == 0 {
			check(slots)
		} else if len(slots)+work < until {
			extend(append(slices.Clone(slots), -1))
		}
	}
	extend(nil)
}

// drawnSlots are those of a split schedule that follows from drawn numbers; now and then no job is done.
func drawnSlots(next func(below int) int, jobs []impl.Job) []int {
	slots := []int{}
	for left := leftOfSlots(jobs, slots); ; {
		ready, done := []int{}, true
		for i, j := range jobs {
			done = done && left[i] == 0
			if left[i] > 0 && j.Release <= len(slots) {
				ready = append(ready, i)
			}
		}
		if done {
			return slots
		}
		if len(ready) == 0 || next(20) == 0 {
			slots = append(slots, -1)
			continue
		}
		i := ready[next(len(ready))]
		// Some go on for a while, so that there are short Spans and long ones.
		for range 1 + next(left[i]) {
			slots = append(slots, i)
			left[i]--
		}
	}
}

// isPrefixByHand tells whether a list has different jobs of n only.
func isPrefixByHand(n int, prefix []int) bool {
	for place, i := range prefix {
		if i < 0 || i >= n || slices.Contains(prefix[:place], i) {
			return false
		}
	}
	return true
}

// beginsWith tells whether an order begins with a list.
func beginsWith(order, prefix []int) bool {
	return len(prefix) <= len(order) && slices.Equal(order[:len(prefix)], prefix)
}

// allPrefixes are all prefixes of n jobs, in lexicographic order.
func allPrefixes(n int) [][]int {
	all := [][]int{}
	for _, order := range allOrders(n) {
		for size := range n + 1 {
			if prefix := order[:size:size]; !slices.ContainsFunc(all, func(other []int) bool { return slices.Equal(other, prefix) }) {
				all = append(all, prefix)
			}
		}
	}
	slices.SortFunc(all, slices.Compare[[]int])
	return all
}

// isCasesByHand tells whether lists are cases for a value, as the document defines them; the orders are all of the jobs.
func isCasesByHand(jobs []impl.Job, orders [][]int, objective, value int, cases [][]int) bool {
	if len(cases) > 800 {
		return false
	}
	for k, c := range cases {
		if !isPrefixByHand(len(jobs), c) || k > 0 && slices.Compare(cases[k-1], c) >= 0 {
			return false
		}
		if boundByHand(jobs, c, objective) < value {
			return false
		}
	}
	for _, order := range orders {
		count := 0
		for _, c := range cases {
			if beginsWith(order, c) {
				count++
			}
		}
		if count != 1 {
			return false
		}
	}
	return true
}

// casesByHand are those prefixes whose bound is at least a value, while none of their shorter ones has such a bound.
func casesByHand(jobs []impl.Job, prefix []int, objective, value int) [][]int {
	if boundByHand(jobs, prefix, objective) >= value {
		return [][]int{prefix}
	}
	cases := [][]int{}
	for i := range jobs {
		if !slices.Contains(prefix, i) {
			cases = append(cases, casesByHand(jobs, append(slices.Clone(prefix), i), objective, value)...)
		}
	}
	return cases
}

// expanded are cases in which the one at a place is replaced by all prefixes that have one job more.
func expanded(n int, cases [][]int, place int) [][]int {
	longer := [][]int{}
	for i := range n {
		if !slices.Contains(cases[place], i) {
			longer = append(longer, append(slices.Clone(cases[place]), i))
		}
	}
	return slices.Concat(cases[:place], longer, cases[place+1:])
}

// madeCases are at most so many prefixes of n jobs, in lexicographic order, that each order begins with exactly one of them.
func madeCases(n, most int) [][]int {
	cases := [][]int{{}}
	for {
		place := slices.IndexFunc(cases, func(c []int) bool { return n-len(c) > 1 && len(cases)+n-len(c)-1 <= most })
		if place < 0 {
			return cases
		}
		cases = expanded(n, cases, place)
	}
}
