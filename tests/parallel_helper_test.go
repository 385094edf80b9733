package tests

import (
	"math"
	"slices"

	"loop.example/g01103/impl"
)

// machineNumbers are all numbers of machines.
var machineNumbers = []int{1, 2, 3, 4}

// noMachineNumbers are numbers that are no numbers of machines.
func noMachineNumbers() []int {
	return []int{0, -1, -4, 5, 6, 64, math.MinInt, math.MaxInt}
}

// timed are jobs with these Times.
func timed(times ...int) []impl.Job {
	jobs := make([]impl.Job, len(times))
	for i, time := range times {
		jobs[i] = job(time, i%3, 0, 9*i)
	}
	return jobs
}

// task writes a Task.
func task(job, machine, start int) impl.Task {
	return impl.Task{Job: job, Machine: machine, Start: start}
}

// machineJobs are plain lists of at most five jobs.
func machineJobs() [][]impl.Job {
	lists := [][]impl.Job{
		nil, {}, timed(1), timed(50), timed(1, 1), timed(50, 1), timed(3, 3, 2), timed(1, 1, 2), timed(1, 2, 3), timed(2, 2, 2),
		repeated(job(4, 3, 0, 9), 4), repeated(job(1, 0, 0, 0), 5), repeated(job(50, 50, 0, 500), 5),
		// the tight ones for the longest first, and for all list plans, on two machines
		timed(3, 3, 2, 2, 2), timed(1, 1, 1, 1, 4),
		// a job as long as all others together
		timed(10, 1, 2, 3, 4), timed(5, 1, 4),
		// sums that two, three and four machines divide, and sums that none does
		timed(6, 3, 2, 1), timed(6, 3, 3, 1), timed(5, 4, 4),
	}
	for number := range 24 {
		n := 3 + number%3
		lists = append(lists,
			madeJobs(number+3000, n, 3, 2, 0, 9),
			madeJobs(number+3100, n, 9, 5, 0, 25),
			madeJobs(number+3200, n, 1, 4, 0, 2))
	}
	return lists
}

// longMachineJobs are plain lists of MaxJobs jobs, and of some less.
func longMachineJobs() [][]impl.Job {
	return [][]impl.Job{
		repeated(job(1, 0, 0, 4), 8),
		repeated(job(50, 50, 0, 149), 8),
		// the tight ones for the longest first, and for all list plans, on three machines
		timed(5, 5, 4, 4, 3, 3, 3),
		timed(1, 1, 1, 1, 1, 1, 3),
		timed(1, 2, 3, 4, 5, 6, 7, 8),
		madeJobs(41, 8, 3, 2, 0, 12),
		madeJobs(42, 8, 9, 2, 0, 30),
		madeJobs(43, 7, 50, 50, 0, 200),
		madeJobs(44, 6, 12, 9, 0, 50),
	}
}

// machineEdges are precedences of n jobs: all kinds, and those in which all wait for one job, and one for all others.
func machineEdges(n int) [][][2]int {
	lists := knownEdges(n)
	if n < 2 {
		return lists
	}
	out, in, middle := [][2]int{}, [][2]int{}, [][2]int{}
	for i := 1; i < n; i++ {
		out, in = append(out, [2]int{0, i}), append(in, [2]int{i - 1, n - 1})
	}
	for i := range n {
		if i < n/2 {
			middle = append(middle, [2]int{i, n / 2})
		} else if i+1 < n {
			middle = append(middle, [2]int{n / 2, i + 1})
		}
	}
	return append(lists, out, in, middle)
}

// eachWork calls a check with some of the precedences of each list of jobs.
func eachWork(lists [][]impl.Job, check func(jobs []impl.Job, edges [][2]int)) {
	for number, jobs := range lists {
		edges := machineEdges(len(jobs))
		for k := range 8 {
			check(jobs, edges[(8*number+k)%len(edges)])
		}
	}
}

// isPlanByHand tells whether Tasks are a plan: each machine notes by what job it is used at each time.
func isPlanByHand(jobs []impl.Job, m int, before [][]bool, plan []impl.Task) bool {
	used := map[[2]int]bool{}
	if len(plan) != len(jobs) {
		return false
	}
	for i, t := range plan {
		if t.Job != i || t.Machine < 0 || t.Machine >= m || t.Start < 0 || t.Start > 500 {
			return false
		}
		for time := t.Start; time < t.Start+jobs[i].Time; time++ {
			if used[[2]int{t.Machine, time}] {
				return false
			}
			used[[2]int{t.Machine, time}] = true
		}
	}
	for i, t := range plan {
		for j := range plan {
			if before[j][i] && t.Start < plan[j].Start+jobs[j].Time {
				return false
			}
		}
	}
	return true
}

// planEnds are the ends of all jobs in a plan.
func planEnds(jobs []impl.Job, plan []impl.Task) []int {
	ends := []int{}
	for i, t := range plan {
		ends = append(ends, t.Start+jobs[i].Time)
	}
	return ends
}

// greatest is the greatest one of some numbers that are at least 0, 0 if there are none.
func greatest(numbers []int) int {
	return slices.Max(append([]int{0}, numbers...))
}

// added is the sum of some numbers.
func added(numbers []int) int {
	sum := 0
	for _, number := range numbers {
		sum += number
	}
	return sum
}

// timesOf are the Times of jobs.
func timesOf(jobs []impl.Job) []int {
	times := []int{}
	for _, j := range jobs {
		times = append(times, j.Time)
	}
	return times
}

// listPlanByHand makes a list plan, time going on by 1.
func listPlanByHand(jobs []impl.Job, m int, before [][]bool, order []int) []impl.Task {
	plan := make([]impl.Task, len(jobs))
	rest, running := timesOf(jobs), slices.Repeat([]int{-1}, m)
	started := make([]bool, len(jobs))
	for now := 0; added(rest) > 0; now++ {
		for machine := range running {
			if running[machine] >= 0 {
				continue
			}
			for _, i := range order {
				waits := started[i]
				for j := range jobs {
					waits = waits || before[j][i] && rest[j] > 0
				}
				if !waits {
					plan[i], running[machine], started[i] = task(i, machine, now), i, true
					break
				}
			}
		}
		for machine, i := range running {
			if i < 0 {
				continue
			}
			rest[i]--
			if rest[i] == 0 {
				running[machine] = -1
			}
		}
	}
	return plan
}

// lengthByHand is the length of the list plan for an order.
func lengthByHand(jobs []impl.Job, m int, before [][]bool, order []int) int {
	return greatest(planEnds(jobs, listPlanByHand(jobs, m, before, order)))
}

// earlyPlans calls a check with the ends of all jobs in each plan whose jobs, in some order, start as early as their machines and the jobs before them allow; of machines that are free at the same time it takes one only. Each other plan can be made one of these, on other machines maybe, without a later end of any job.
func earlyPlans(jobs []impl.Job, m int, before [][]bool, check func(ends []int)) {
	ends, free := make([]int, len(jobs)), make([]int, m)
	var extend func(left []int)
	extend = func(left []int) {
		if len(left) == 0 {
			check(ends)
		}
		for _, i := range left {
			if slices.ContainsFunc(left, func(j int) bool { return before[j][i] }) {
				continue
			}
			ready := 0
			for j := range jobs {
				if before[j][i] {
					ready = max(ready, ends[j])
				}
			}
			for machine, from := range free {
				if slices.Contains(free[:machine], from) {
					continue
				}
				ends[i] = max(from, ready) + jobs[i].Time
				free[machine] = ends[i]
				extend(slices.DeleteFunc(slices.Clone(left), func(j int) bool { return j == i }))
				free[machine] = from
			}
		}
	}
	extend(upTo(len(jobs)))
}

// leastByHand is the least length, and the least sum of all ends, of plans.
func leastByHand(jobs []impl.Job, m int, before [][]bool) (int, int) {
	length, sum := math.MaxInt, math.MaxInt
	earlyPlans(jobs, m, before, func(ends []int) {
		length, sum = min(length, greatest(ends)), min(sum, added(ends))
	})
	return length, sum
}

// leastLoadByHand tries all machines for all jobs.
func leastLoadByHand(jobs []impl.Job, m int) int {
	least, loads := math.MaxInt, make([]int, m)
	var put func(i int)
	put = func(i int) {
		if i == len(jobs) {
			least = min(least, greatest(loads))
			return
		}
		for machine := range loads {
			loads[machine] += jobs[i].Time
			put(i + 1)
			loads[machine] -= jobs[i].Time
		}
	}
	put(0)
	return least
}

// unitLengthByHand is the least length of plans of jobs with the Time 1: step by step, any of the sets of at most m jobs that can be done is done.
func unitLengthByHand(m int, before [][]bool) int {
	n := len(before)
	reached := map[int]bool{0: true}
	for length := 0; ; length++ {
		if reached[1<<n-1] {
			return length
		}
		next := map[int]bool{}
		for done := range reached {
			for set := range 1 << n {
				if list := setOf(set); set&done == 0 && len(list) <= m && canStart(before, done, list) {
					next[done|set] = true
				}
			}
		}
		reached = next
	}
}

// canStart tells whether all jobs before those of a list are done.
func canStart(before [][]bool, done int, list []int) bool {
	for _, i := range list {
		for j := range before {
			if before[j][i] && done>>j&1 == 0 {
				return false
			}
		}
	}
	return true
}

// chainsByHand are all chains.
func chainsByHand(before [][]bool) [][]int {
	chains := [][]int{}
	for i := range before {
		chains = append(chains, []int{i})
	}
	for from := 0; from < len(chains); from++ {
		chain := chains[from]
		for j, is := range before[chain[len(chain)-1]] {
			if is {
				chains = append(chains, append(slices.Clone(chain), j))
			}
		}
	}
	return chains
}

// tailsByHand are the tails, of all chains.
func tailsByHand(jobs []impl.Job, before [][]bool) []int {
	tails := make([]int, len(jobs))
	for _, chain := range chainsByHand(before) {
		tails[chain[0]] = max(tails[chain[0]], timeOf(jobs, chain))
	}
	return tails
}

// lengthBoundByHand is the least number that is no less than a tail and has m times itself no less than the sum of all Times.
func lengthBoundByHand(jobs []impl.Job, m int, before [][]bool) int {
	bound := greatest(tailsByHand(jobs, before))
	for m*bound < added(timesOf(jobs)) {
		bound++
	}
	return bound
}

// fallingByHand is the order in which numbers never grow, and those that are the same stand in ascending order of their jobs.
func fallingByHand(numbers []int) []int {
	order := []int{}
	for left := upTo(len(numbers)); len(left) > 0; {
		place := 0
		for k, i := range left {
			if numbers[i] > numbers[left[place]] {
				place = k
			}
		}
		order = append(order, left[place])
		left = slices.Delete(left, place, place+1)
	}
	return order
}

// followersByHand are the followers of a job.
func followersByHand(before [][]bool, i int) []int {
	followers := []int{}
	for j := range before {
		between := slices.ContainsFunc(upTo(len(before)), func(k int) bool { return before[i][k] && before[k][j] })
		if before[i][j] && !between {
			followers = append(followers, j)
		}
	}
	return followers
}

// labelsByHand are the labels, as the document gives them.
func labelsByHand(before [][]bool) []int {
	labels := make([]int, len(before))
	for label := 1; label <= len(before); label++ {
		next, least := -1, []int{}
		for i := range before {
			list := []int{}
			for _, j := range followersByHand(before, i) {
				list = append(list, labels[j])
			}
			if labels[i] > 0 || slices.Contains(list, 0) {
				continue
			}
			slices.Sort(list)
			slices.Reverse(list)
			if next < 0 || slices.Compare(list, least) < 0 {
				next, least = i, list
			}
		}
		labels[next] = label
	}
	return labels
}

// isSharedByHand tells whether lists of Spans are a shared plan on m machines: each job notes at what times it is done.
func isSharedByHand(jobs []impl.Job, m int, spans [][]impl.Span) bool {
	if len(spans) != m {
		return false
	}
	done, count := map[[2]int]bool{}, make([]int, len(jobs))
	for _, list := range spans {
		for k, s := range list {
			if s.Job < 0 || s.Job > len(jobs)-1 || s.From < 0 || s.From > 1000 || s.To < 0 || s.To > 1000 || s.From >= s.To {
				return false
			}
			if k > 0 && s.From < list[k-1].To {
				return false
			}
			for time := s.From; time < s.To; time++ {
				if done[[2]int{s.Job, time}] {
					return false
				}
				done[[2]int{s.Job, time}] = true
				count[s.Job]++
			}
		}
	}
	return slices.Equal(count, timesOf(jobs))
}

// wrappedByHand fills m machines up to a length with jobs, 1 by 1.
func wrappedByHand(jobs []impl.Job, m, length int) [][]impl.Span {
	slots := make([][]int, m)
	machine := 0
	for i, j := range jobs {
		for range j.Time {
			if len(slots[machine]) == length {
				machine++
			}
			slots[machine] = append(slots[machine], i)
		}
	}
	spans := [][]impl.Span{}
	for _, list := range slots {
		spans = append(spans, spansOfSlots(list))
	}
	return spans
}
