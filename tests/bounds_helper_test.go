package tests

import (
	"math"
	"math/big"
	"slices"

	"loop.example/g01103/impl"
)

// mostScale and mostPrice are the limits of scales and of Prices that the document names.
const (
	mostScale = 1000000
	mostPrice = 50000000
)

// setPrice writes a SetPrice.
func setPrice(price int, set ...int) impl.SetPrice {
	return impl.SetPrice{Set: set, Price: price}
}

// weighed are jobs that are there from the beginning, with a Time and a Weight each.
func weighed(pairs ...[2]int) []impl.Job {
	jobs := []impl.Job{}
	for i, pair := range pairs {
		jobs = append(jobs, job(pair[0], pair[1], 0, 7*i))
	}
	return jobs
}

// units are unit jobs with these Due dates.
func units(dates ...int) []impl.Job {
	jobs := []impl.Job{}
	for i, date := range dates {
		jobs = append(jobs, job(1, (3*i+2)%5, 0, date))
	}
	return jobs
}

// boundJobs are plain lists of at most five jobs.
func boundJobs() [][]impl.Job {
	return append(plainJobs(),
		weighed([2]int{2, 3}, [2]int{1, 1}), weighed([2]int{3, 6}, [2]int{2, 4}, [2]int{1, 2}), weighed([2]int{4, 0}, [2]int{6, 0}),
		// the same quotient twice, at the beginning, in the middle and at the end, and a Weight of 0
		weighed([2]int{2, 9}, [2]int{2, 9}, [2]int{1, 1}), weighed([2]int{5, 1}, [2]int{4, 6}, [2]int{2, 3}, [2]int{1, 9}),
		weighed([2]int{9, 3}, [2]int{1, 5}, [2]int{6, 2}, [2]int{3, 1}), weighed([2]int{3, 0}, [2]int{2, 1}, [2]int{4, 0}, [2]int{1, 0}),
		// a Time of 1 beside one of MaxTime, and a Weight of 0 beside one of MaxWeight
		weighed([2]int{1, 50}, [2]int{50, 50}, [2]int{50, 1}, [2]int{1, 0}))
}

// longBoundJobs are plain lists of MaxJobs jobs, and of one less.
func longBoundJobs() [][]impl.Job {
	return append(longPlainJobs(), repeated(job(50, 0, 0, 0), 8), madeJobs(4001, 8, 4, 3, 0, 9), madeJobs(4002, 8, 12, 50, 0, 30), madeJobs(4003, 7, 6, 1, 0, 9))
}

// demandByHand is the demand of a set: the sum of the products of the Times of all two jobs, and of each job with itself.
func demandByHand(jobs []impl.Job, set []int) int {
	sum := 0
	for place, i := range set {
		for _, j := range set[:place+1] {
			sum += jobs[i].Time * jobs[j].Time
		}
	}
	return sum
}

// supplyByHand is the supply of a set.
func supplyByHand(jobs []impl.Job, ends, set []int) int {
	sum := 0
	for _, i := range set {
		for range jobs[i].Time {
			sum += ends[i]
		}
	}
	return sum
}

// shortByHand are all short sets, by their masks.
func shortByHand(jobs []impl.Job, ends []int) []int {
	short := []int{}
	for mask := range 1 << len(jobs) {
		if set := setOf(mask); supplyByHand(jobs, ends, set) < demandByHand(jobs, set) {
			short = append(short, mask)
		}
	}
	return short
}

// firstShortByHand is the first short one of the sets of first jobs, nil if none is.
func firstShortByHand(jobs []impl.Job, ends []int) []int {
	falling := []int{}
	for _, end := range ends {
		falling = append(falling, -end)
	}
	order := fallingByHand(falling)
	for k := range order {
		set := slices.Sorted(slices.Values(order[:k+1]))
		if supplyByHand(jobs, ends, set) < demandByHand(jobs, set) {
			return set
		}
	}
	return nil
}

// vectorOf is an end vector as something that can be a key of a map.
func vectorOf(ends []int) [8]int {
	v := [8]int{}
	copy(v[:], ends)
	return v
}

// orderVectors are the end vectors of all orders.
func orderVectors(jobs []impl.Job, orders [][]int) map[[8]int]bool {
	vectors := map[[8]int]bool{}
	for _, order := range orders {
		vectors[vectorOf(endsByHand(jobs, order))] = true
	}
	return vectors
}

// changedAt is a list with a number added to one of its numbers.
func changedAt(list []int, place, by int) []int {
	other := slices.Clone(list)
	other[place] += by
	return other
}

// someVectors are end vectors of all kinds that follow from a number: those of orders, others near to them, and drawn ones.
func someVectors(number int, jobs []impl.Job) [][]int {
	n, next := len(jobs), drawer(number)
	total := added(timesOf(jobs))
	vectors := [][]int{make([]int, n), slices.Repeat([]int{2000}, n), slices.Repeat([]int{total}, n), timesOf(jobs)}
	for range 6 {
		ends := endsByHand(jobs, madeOrder(next, n))
		vectors = append(vectors, ends)
		drawn, far := make([]int, n), make([]int, n)
		for i := range n {
			drawn[i], far[i] = next(total+total/2), next(2001)
			vectors = append(vectors, changedAt(ends, i, -1), changedAt(ends, i, 1))
		}
		vectors = append(vectors, drawn, far)
		if n > 1 {
			// What one job gives away another one gets, so that the supply of all jobs stays the same.
			i, j := next(n), next(n)
			vectors = append(vectors, changedAt(changedAt(ends, i, jobs[j].Time), j, -jobs[i].Time))
		}
		if mixed := mixedByHand(ends, endsByHand(jobs, madeOrder(next, n)), 1, 1); mixed != nil {
			vectors = append(vectors, mixed)
		}
	}
	return slices.DeleteFunc(vectors, func(v []int) bool { return !isVectorByHand(n, v) })
}

// isVectorByHand tells whether a list is an end vector of n jobs.
func isVectorByHand(n int, v []int) bool {
	return len(v) == n && (n == 0 || slices.Min(v) >= 0 && slices.Max(v) <= 2000)
}

// noVectors are lists that are no end vectors of n jobs.
func noVectors(n int) [][]int {
	lists := [][]int{make([]int, n+1), make([]int, 1000+n)}
	if n == 0 {
		return lists
	}
	lists = append(lists, nil, make([]int, n-1))
	for place := range n {
		for _, wrong := range []int{-1, 2001, math.MinInt, math.MaxInt} {
			lists = append(lists, changedAt(make([]int, n), place, wrong))
		}
	}
	return lists
}

// mixedByHand is the mixture of two vectors, nil if there is none: for each job it looks for the number that is the quotient.
func mixedByHand(a, b []int, x, y int) []int {
	mixed := []int{}
	for i := range a {
		quotient := slices.IndexFunc(upTo(2001), func(q int) bool { return q*x+q*y == a[i]*x+b[i]*y })
		if quotient < 0 {
			return nil
		}
		mixed = append(mixed, quotient)
	}
	return mixed
}

// setsInOrder are the masks of all sets of n jobs but the empty one, by their numbers of jobs and then lexicographically.
func setsInOrder(n int) []int {
	masks := upTo(1 << n)[1:]
	slices.SortFunc(masks, func(a, b int) int {
		one, other := setOf(a), setOf(b)
		return slices.Compare(append([]int{len(one)}, one...), append([]int{len(other)}, other...))
	})
	return masks
}

// arePricesByHand tells whether a list has prices of n jobs: each of its sets is behind the one ahead of it in the list of all sets.
func arePricesByHand(n int, prices []impl.SetPrice) bool {
	masks, last := setsInOrder(n), -1
	for _, p := range prices {
		place := slices.IndexFunc(masks, func(mask int) bool { return slices.Equal(setOf(mask), p.Set) })
		if place <= last || p.Price < 1 || p.Price > mostPrice {
			return false
		}
		last = place
	}
	return true
}

// pricesOfList are the prices that a list tells in the order of all sets, where 0 is for a set that is left out.
func pricesOfList(n int, list []int) []impl.SetPrice {
	prices := []impl.SetPrice{}
	for place, mask := range setsInOrder(n) {
		if list[place] > 0 {
			prices = append(prices, setPrice(list[place], setOf(mask)...))
		}
	}
	return prices
}

// drawnPrices are some prices of n jobs.
func drawnPrices(next func(below int) int, n, most int) []impl.SetPrice {
	list := make([]int, 1<<n)
	for range next(6) {
		list[next(1<<n)] = 1 + next(most)
	}
	return pricesOfList(n, list)
}

// paidByHand is what a job pays: the sum of the Prices of all sets with it, times its Time.
func paidByHand(jobs []impl.Job, prices []impl.SetPrice, i int) int {
	paid := 0
	for _, p := range prices {
		if slices.Contains(p.Set, i) {
			paid += p.Price * jobs[i].Time
		}
	}
	return paid
}

// isFairByHand tells whether prices are fair for a scale.
func isFairByHand(jobs []impl.Job, prices []impl.SetPrice, scale int) bool {
	for i, j := range jobs {
		if paidByHand(jobs, prices, i) > j.Weight*scale {
			return false
		}
	}
	return true
}

// yieldByHand is the yield of prices.
func yieldByHand(jobs []impl.Job, prices []impl.SetPrice) int {
	yield := 0
	for _, p := range prices {
		yield += p.Price * demandByHand(jobs, p.Set)
	}
	return yield
}

// scaleByHand is the least number that all Times divide, and whether it is at most MaxScale: it counts up to it.
func scaleByHand(jobs []impl.Job) (int, bool) {
	for scale := 1; scale <= mostScale; scale++ {
		if !slices.ContainsFunc(jobs, func(j impl.Job) bool { return scale%j.Time > 0 }) {
			return scale, true
		}
	}
	return 0, false
}

// smithByHand are the SmithPrices for a scale, of quotients as they are.
func smithByHand(jobs []impl.Job, scale int) []impl.SetPrice {
	prices := []impl.SetPrice{}
	quotient := func(i int) *big.Rat { return big.NewRat(int64(jobs[i].Weight), int64(jobs[i].Time)) }
	order := []int{}
	for left := upTo(len(jobs)); len(left) > 0; {
		best := left[0]
		for _, i := range left {
			if quotient(i).Cmp(quotient(best)) > 0 {
				best = i
			}
		}
		order = append(order, best)
		left = slices.DeleteFunc(left, func(i int) bool { return i == best })
	}
	for k := range order {
		difference := quotient(order[k])
		if k+1 < len(order) {
			difference.Sub(difference, quotient(order[k+1]))
		}
		difference.Mul(difference, big.NewRat(int64(scale), 1))
		if !difference.IsInt() {
			return nil // the scale is no multiple of all Times
		}
		if price := int(difference.Num().Int64()); price > 0 {
			prices = append(prices, setPrice(price, slices.Sorted(slices.Values(order[:k+1]))...))
		}
	}
	return prices
}

// equalPrices tells whether two lists of SetPrices are the same.
func equalPrices(one, other []impl.SetPrice) bool {
	return slices.EqualFunc(one, other, func(p, q impl.SetPrice) bool {
		return p.Price == q.Price && slices.Equal(p.Set, q.Set)
	})
}

// copiedPrices is a copy of a list of SetPrices.
func copiedPrices(prices []impl.SetPrice) []impl.SetPrice {
	others := []impl.SetPrice{}
	for _, p := range prices {
		others = append(others, setPrice(p.Price, slices.Clone(p.Set)...))
	}
	return others
}

// priced are prices in which a number is added to one Price.
func priced(prices []impl.SetPrice, place, by int) []impl.SetPrice {
	others := copiedPrices(prices)
	others[place].Price += by
	return others
}

// noPrices are lists that have no prices of n jobs.
func noPrices(n int) [][]impl.SetPrice {
	lists := [][]impl.SetPrice{
		{{}}, {setPrice(1)}, {{Price: 1, Set: []int{}}}, {setPrice(1, -1)}, {setPrice(1, n)}, {setPrice(1, math.MinInt)}, {setPrice(1, math.MaxInt)}, {setPrice(1, 64)},
		{setPrice(1, upTo(n+1)...)}, {setPrice(1, upTo(2000)...)}, make([]impl.SetPrice, 3000),
	}
	if n == 0 {
		return lists
	}
	for _, price := range []int{0, -1, mostPrice + 1, math.MinInt, math.MaxInt} {
		lists = append(lists, []impl.SetPrice{setPrice(price, 0)}, []impl.SetPrice{setPrice(price, upTo(n)...)})
	}
	lists = append(lists, []impl.SetPrice{setPrice(1, 0, 0)}, []impl.SetPrice{setPrice(1, 0), setPrice(1, 0)}, []impl.SetPrice{setPrice(1, 0), setPrice(1)}, slices.Repeat([]impl.SetPrice{setPrice(1, 0)}, 400))
	if n > 1 {
		lists = append(lists, []impl.SetPrice{setPrice(1, 1, 0)}, []impl.SetPrice{setPrice(1, 1), setPrice(1, 0)}, []impl.SetPrice{setPrice(1, 0, 1), setPrice(1, 1)}, []impl.SetPrice{setPrice(1, 0), setPrice(1, 0, 1), setPrice(2, 0, 1)})
	}
	if n > 2 {
		lists = append(lists, []impl.SetPrice{setPrice(1, 0, 2), setPrice(1, 0, 1)}, []impl.SetPrice{setPrice(1, 0), setPrice(1, 0, 1), setPrice(1, 2)}, []impl.SetPrice{setPrice(1, 1, 2), setPrice(1, 0, 2)})
	}
	return lists
}

// noScales are numbers that are no scales.
func noScales() []int {
	return []int{0, -1, mostScale + 1, 2 * mostScale, math.MinInt, math.MaxInt}
}

// unitJobs are lists of at most five unit jobs.
func unitJobs() [][]impl.Job {
	lists := [][]impl.Job{
		nil, {}, units(0), units(1), units(500), units(1, 1, 2), units(2, 1), units(0, 0, 0), units(0, 1, 0, 1), units(3, 3, 3, 3, 3), units(2, 2, 2, 2), units(500, 500, 500), units(4, 3, 2, 1),
		{job(1, 5, 0, 1), job(1, 7, 0, 1), job(1, 3, 0, 2)},
		repeated(job(1, 0, 0, 2), 5), repeated(job(1, 50, 0, 3), 4),
		{job(1, 0, 0, 1), job(1, 50, 0, 1), job(1, 0, 0, 2), job(1, 50, 0, 2)},
	}
	for number := range 40 {
		n := 1 + number%5
		lists = append(lists, madeJobs(number+4100, n, 1, 3, 0, 4), madeJobs(number+4200, n, 1, 50, 0, 6))
	}
	return lists
}

// longUnitJobs are lists of MaxJobs unit jobs, and of one less.
func longUnitJobs() [][]impl.Job {
	return [][]impl.Job{
		repeated(job(1, 3, 0, 0), 8), repeated(job(1, 3, 0, 5), 8), repeated(job(1, 50, 0, 500), 8), units(8, 7, 6, 5, 4, 3, 2, 1), units(3, 1, 4, 1, 5, 9, 2, 6),
		madeJobs(4301, 8, 1, 9, 0, 4), madeJobs(4302, 8, 1, 2, 0, 8), madeJobs(4303, 7, 1, 50, 0, 5),
	}
}

// notUnits are lists that are no plain lists, and plain ones with another Time than 1.
func notUnits() [][]impl.Job {
	return append(notPlain(), weighed([2]int{2, 1}), weighed([2]int{50, 1}), weighed([2]int{1, 1}, [2]int{2, 1}), weighed([2]int{2, 1}, [2]int{1, 1}), append(repeated(job(1, 1, 0, 9), 7), job(3, 1, 0, 9)))
}

// rankByHand is the greatest number of jobs of an independent set in one, of all of them.
func rankByHand(independent []bool, mask int) int {
	rank := 0
	for part, is := range independent {
		if is && part&^mask == 0 {
			rank = max(rank, len(setOf(part)))
		}
	}
	return rank
}

// unitGreedyByHand looks at the jobs with descending Weights.
func unitGreedyByHand(jobs []impl.Job, independent []bool) []int {
	weights := []int{}
	for _, j := range jobs {
		weights = append(weights, j.Weight)
	}
	mask := 0
	for _, i := range fallingByHand(weights) {
		if independent[mask|1<<i] {
			mask |= 1 << i
		}
	}
	return setOf(mask)
}

// slotsOfUnits are, by the jobs of a set, the ends that are as late as possible, those of the last jobs by Due dates and numbers first: it tries all moments for each job, and is nil if there are none.
func slotsOfUnits(jobs []impl.Job, set []int) []int {
	order := dueOrderByHand(jobs, set)
	ends := make([]int, len(jobs))
	var fill func(place int) bool
	fill = func(place int) bool {
		if place < 0 {
			return true
		}
		for end := jobs[order[place]].Due; end >= 1; end-- {
			taken := slices.ContainsFunc(order[place+1:], func(i int) bool { return ends[i] == end })
			ends[order[place]] = end
			if !taken && fill(place-1) {
				return true
			}
		}
		return false
	}
	if !fill(len(order) - 1) {
		return nil
	}
	slots := []int{}
	for _, i := range set {
		slots = append(slots, ends[i])
	}
	return slots
}
