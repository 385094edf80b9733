package tests

import (
	"math"
	"slices"

	"loop.example/g01103/impl"
)

// lineJobs have the points 13 7, 14 5 and 15 3 for ObjSum and ObjLateness, all on one line.
func lineJobs() []impl.Job {
	return []impl.Job{job(2, 4, 0, 7), job(3, 2, 0, 0), job(2, 0, 0, 8)}
}

// bentJobs have the points 14 4, 16 3 and 18 1 for ObjSum and ObjTardiness; the one in the middle is not supported.
func bentJobs() []impl.Job {
	return []impl.Job{job(2, 1, 0, 6), job(4, 0, 0, 4), job(2, 2, 0, 7)}
}

// frontJobs are lists of at most five jobs, with Releases and without.
func frontJobs() [][]impl.Job {
	lists := append(knownJobs()[:13], lineJobs(), bentJobs(),
		[]impl.Job{job(3, 0, 0, 3), job(1, 0, 0, 4)},
		// an order is worse in one number alone
		[]impl.Job{job(1, 2, 0, 1), job(1, 1, 0, 5)},
		[]impl.Job{job(2, 4, 0, 8), job(4, 0, 0, 1), job(3, 1, 0, 2)},
		[]impl.Job{job(4, 3, 0, 8), job(2, 1, 0, 4), job(1, 0, 0, 1)},
		// fronts with Releases, of several points
		[]impl.Job{job(4, 4, 4, 8), job(2, 0, 4, 2), job(4, 2, 4, 4)},
		[]impl.Job{job(3, 4, 3, 4), job(3, 1, 2, 2), job(1, 0, 3, 0)},
		// the limits of all numbers beside each other
		[]impl.Job{job(50, 0, 0, 500), job(1, 50, 500, 0), job(50, 50, 0, 0), job(1, 0, 0, 500)},
		repeated(job(50, 50, 0, 0), 5), repeated(job(1, 0, 500, 500), 4))
	for number := range 20 {
		n := 2 + number%4
		lists = append(lists,
			madeJobs(number+6000, n, 4, 3, 0, 9),
			madeJobs(number+6100, n, 9, 5, 0, 25),
			madeJobs(number+6200, n, 6, 3, 8, 15),
			madeJobs(number+6300, n, 20, 9, 30, 60),
			madeJobs(number+6400, n, 50, 50, 500, 500))
	}
	return lists
}

// longFrontJobs are lists of MaxJobs jobs, and of one less.
func longFrontJobs() [][]impl.Job {
	return [][]impl.Job{
		repeated(job(1, 0, 0, 0), 8),
		repeated(job(50, 50, 500, 500), 8),
		madeJobs(6501, 8, 9, 5, 0, 30),
		madeJobs(6502, 8, 50, 50, 0, 300),
		madeJobs(6503, 8, 12, 9, 40, 60),
		madeJobs(6504, 7, 50, 50, 500, 500),
	}
}

// eachPair calls a check with each pair of objectives, two equal ones too.
func eachPair(check func(f, g int)) {
	for _, f := range objectives {
		for _, g := range objectives {
			check(f, g)
		}
	}
}

// valueRows are the values of all objectives, for each one of some orders.
func valueRows(jobs []impl.Job, orders [][]int) [][8]int {
	rows := make([][8]int, len(orders))
	for k, order := range orders {
		ends := endsByHand(jobs, order)
		for i, objective := range objectives {
			rows[k][i] = valueOfEndsByHand(jobs, ends, objective)
		}
	}
	return rows
}

// columnOf are the values of one objective.
func columnOf(rows [][8]int, objective int) []int {
	values := make([]int, len(rows))
	for k, row := range rows {
		values[k] = row[objective-1]
	}
	return values
}

// pointsByHand are the points of all orders.
func pointsByHand(rows [][8]int, f, g int) [][2]int {
	points := make([][2]int, len(rows))
	for k, row := range rows {
		points[k] = [2]int{row[f-1], row[g-1]}
	}
	return points
}

// dominatesByHand tells whether a point dominates another one.
func dominatesByHand(one, other [2]int) bool {
	return !(one[0] > other[0]) && !(one[1] > other[1]) && one != other
}

// frontByHand are all points that none of them dominates, each once, with ascending first numbers.
func frontByHand(points [][2]int) [][2]int {
	different := slices.Clone(points)
	slices.SortFunc(different, comparePairs)
	different = slices.Compact(different)
	front := [][2]int{}
	for _, one := range different {
		if !slices.ContainsFunc(different, func(other [2]int) bool { return dominatesByHand(other, one) }) {
			front = append(front, one)
		}
	}
	return front
}

// mixByHand is the sum of x times the first and y times the second number of a point.
func mixByHand(point [2]int, x, y int) int { return x*point[0] + y*point[1] }

// leastMixByHand is the least mix of some points.
func leastMixByHand(points [][2]int, x, y int) int {
	least := math.MaxInt
	for _, point := range points {
		least = min(least, mixByHand(point, x, y))
	}
	return least
}

// supportedByHand are the points of a front for which two numbers are found. If there are any for a point, there are those for which it and another point have the same mix, so those of all two points are tried.
func supportedByHand(front [][2]int) [][2]int {
	shares := [][2]int{{1, 1}}
	for k, behind := range front {
		for _, ahead := range front[:k] {
			shares = append(shares, [2]int{ahead[1] - behind[1], behind[0] - ahead[0]})
		}
	}
	return supportedWith(front, shares)
}

// supportedWith are the points of a front that have the least mix for one of some pairs of numbers.
func supportedWith(front, shares [][2]int) [][2]int {
	list := [][2]int{}
	for _, point := range front {
		if slices.ContainsFunc(shares, func(s [2]int) bool {
			return mixByHand(point, s[0], s[1]) == leastMixByHand(front, s[0], s[1])
		}) {
			list = append(list, point)
		}
	}
	return list
}

// bestUnderByHand is the first order with the least value of f of those whose value of g is at most a limit, -1 if there is none: it tells its place among all orders.
func bestUnderByHand(points [][2]int, limit int) int {
	best := -1
	for k, point := range points {
		if point[1] <= limit && (best < 0 || point[0] < points[best][0]) {
			best = k
		}
	}
	return best
}

// backwardByHand is the order that BackwardOrder finds, and whether there is one.
func backwardByHand(jobs []impl.Job, limit int) ([]int, bool) {
	order := []int{}
	for left := upTo(len(jobs)); len(left) > 0; {
		sum, last := 0, -1
		for _, i := range left {
			sum += jobs[i].Time
		}
		for _, i := range left {
			if jobs[i].Due+limit >= sum && (last < 0 || jobs[i].Time >= jobs[last].Time) {
				last = i
			}
		}
		if last < 0 {
			return nil, false
		}
		order = append([]int{last}, order...)
		left = slices.DeleteFunc(left, func(i int) bool { return i == last })
	}
	return order, true
}

// knownScenarios are 1..4 lists of the same number of jobs, at most five.
func knownScenarios() [][][]impl.Job {
	two := []impl.Job{job(3, 0, 0, 0), job(1, 0, 0, 0)}
	other := []impl.Job{job(1, 0, 0, 0), job(3, 0, 0, 0)}
	all := [][][]impl.Job{
		{{}}, {nil}, {nil, {}, nil}, {{}, nil, {}, {}},
		{two}, {two, other}, {other, two}, {two, two}, {two, two, other, other}, slices.Repeat([][]impl.Job{other}, 4),
		{lineJobs(), bentJobs()}, {bentJobs(), lineJobs(), bentJobs()},
		{{job(50, 50, 500, 0)}, {job(1, 0, 0, 500)}}, {{job(1, 0, 0, 500)}, {job(1, 0, 0, 499)}, {job(50, 50, 500, 500)}},
		// the greatest lateness is less than 0 in all scenarios
		{{job(3, 1, 0, 400), job(2, 1, 0, 300)}, {job(2, 1, 0, 300), job(3, 1, 0, 400)}},
		slices.Repeat([][]impl.Job{repeated(job(50, 50, 500, 500), 5)}, 4),
		{repeated(job(1, 0, 0, 0), 4), repeated(job(50, 50, 0, 500), 4), repeated(job(2, 3, 7, 9), 4)},
	}
	for number := range 16 {
		n := 1 + number%5
		for size := 1; size <= 4; size++ {
			lists := [][]impl.Job{}
			for k := range size {
				seed := 100*number + 10*size + k + 7000
				lists = append(lists, slices.Concat([][]impl.Job{
					madeJobs(seed, n, 3, 2, 0, 6), madeJobs(seed, n, 9, 5, 0, 25), madeJobs(seed, n, 6, 3, 9, 15), madeJobs(seed, n, 50, 50, 500, 500),
				}[(number+size)%4]))
			}
			all = append(all, lists)
		}
	}
	return all
}

// longScenarios are lists of MaxJobs jobs, and of one less.
func longScenarios() [][][]impl.Job {
	return [][][]impl.Job{
		{madeJobs(7001, 8, 50, 50, 500, 500)},
		{madeJobs(7002, 8, 9, 5, 0, 30), madeJobs(7003, 8, 9, 5, 0, 30)},
		{madeJobs(7004, 7, 9, 5, 20, 40), madeJobs(7005, 7, 9, 5, 20, 40), madeJobs(7006, 7, 9, 5, 20, 40)},
		{madeJobs(7007, 8, 50, 50, 0, 300), madeJobs(7008, 8, 50, 50, 300, 500), repeated(job(1, 50, 0, 500), 8), repeated(job(50, 0, 500, 0), 8)},
		slices.Repeat([][]impl.Job{repeated(job(50, 50, 500, 0), 8)}, 4),
	}
}

// noScenarios are lists of lists that are no scenarios.
func noScenarios() [][][]impl.Job {
	good, short := madeJobs(7009, 3, 9, 5, 9, 20), madeJobs(7010, 2, 9, 5, 9, 20)
	all := [][][]impl.Job{
		nil, {}, slices.Repeat([][]impl.Job{good}, 5), slices.Repeat([][]impl.Job{nil}, 5), slices.Repeat([][]impl.Job{good}, 1000), make([][]impl.Job, 2000),
		// other numbers of jobs
		{good, short}, {short, good}, {good, nil}, {nil, good}, {good, good, good, short}, {good, short, good}, {short, nil, nil},
		{repeated(good[0], 8), repeated(good[0], 9)}, {repeated(good[0], 9), repeated(good[0], 9)},
	}
	for _, jobs := range noJobs() {
		all = append(all, [][]impl.Job{jobs})
		if len(jobs) > 8 {
			continue
		}
		// one that is not valid among valid ones
		fine := repeated(job(2, 3, 4, 5), len(jobs))
		all = append(all, [][]impl.Job{jobs, fine}, [][]impl.Job{fine, jobs}, [][]impl.Job{fine, jobs, fine, fine}, [][]impl.Job{fine, fine, fine, jobs})
	}
	return all
}

// scenarioRows are the values of an objective in all scenarios, for each one of some orders.
func scenarioRows(lists [][]impl.Job, orders [][]int, objective int) [][]int {
	rows := make([][]int, len(orders))
	for k, order := range orders {
		for _, jobs := range lists {
			rows[k] = append(rows[k], valueByHand(jobs, order, objective))
		}
	}
	return rows
}

// regretRows are the regrets in all scenarios, for each one of all orders, of the values there.
func regretRows(rows [][]int) [][]int {
	regrets := copied(rows)
	for s := range rows[0] {
		best := rows[0][s]
		for _, row := range rows {
			best = min(best, row[s])
		}
		for k := range regrets {
			regrets[k][s] -= best
		}
	}
	return regrets
}

// leastGreatest is the place of the first row whose greatest number is least, and this number.
func leastGreatest(rows [][]int) (int, int) {
	place := 0
	for k, row := range rows {
		if slices.Max(row) < slices.Max(rows[place]) {
			place = k
		}
	}
	return place, slices.Max(rows[place])
}
