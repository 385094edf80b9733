package tests

import (
	"math"
	"slices"

	"loop.example/g01103/impl"
)

// shopMachines are all numbers of machines of shops.
var shopMachines = []int{1, 2, 3}

// everyNumbers calls a check with each list of so many of some numbers, the list being the same one each time.
func everyNumbers(size int, from []int, check func(list []int)) {
	list := make([]int, size)
	var fill func(place int)
	fill = func(place int) {
		if place == size {
			check(list)
			return
		}
		for _, number := range from {
			list[place] = number
			fill(place + 1)
		}
	}
	fill(0)
}

// shopOfList cuts a list of times into jobs with m of them each.
func shopOfList(m int, list []int) [][]int {
	shop := [][]int{}
	for part := range slices.Chunk(slices.Clone(list), m) {
		shop = append(shop, part)
	}
	return shop
}

// everyShop calls a check with each shop with n jobs, m machines and some times.
func everyShop(n, m int, times []int, check func(shop [][]int)) {
	everyNumbers(n*m, times, func(list []int) { check(shopOfList(m, list)) })
}

// madeShop is a shop with n jobs and m machines that follows from a number, with times from..to.
func madeShop(number, n, m, from, to int) [][]int {
	next := drawer(number)
	list := make([]int, n*m)
	for k := range list {
		list[k] = from + next(to-from+1)
	}
	return shopOfList(m, list)
}

// sameTimes is a shop with n jobs and m machines, all of whose times are the same.
func sameTimes(n, m, time int) [][]int {
	return shopOfList(m, slices.Repeat([]int{time}, n*m))
}

// idleMachine is a shop in which a machine has nothing to do.
func idleMachine(shop [][]int, machine int) [][]int {
	other := copied(shop)
	for _, times := range other {
		times[machine] = 0
	}
	return other
}

// idleJob is a shop in which a job has nothing to do.
func idleJob(shop [][]int, job int) [][]int {
	other := copied(shop)
	clear(other[job])
	return other
}

// shopsOn are shops with m machines and at most five jobs.
func shopsOn(m int) [][][]int {
	shops := [][][]int{
		nil, {},
		sameTimes(1, m, 0), sameTimes(1, m, 1), sameTimes(1, m, 30), madeShop(1, 1, m, 0, 9),
		sameTimes(2, m, 0), sameTimes(3, m, 2), sameTimes(4, m, 30), sameTimes(5, m, 0), sameTimes(5, m, 1),
	}
	for machine := range m {
		shops = append(shops, idleMachine(madeShop(2+machine, 4, m, 1, 6), machine), idleMachine(sameTimes(3, m, 30), machine))
	}
	for job := range 4 {
		shops = append(shops, idleJob(madeShop(5+job, 4, m, 1, 6), job))
	}
	for number := range 24 {
		n := 2 + number%4
		shops = append(shops,
			madeShop(number+5000, n, m, 0, 2),
			madeShop(number+5100, n, m, 1, 4),
			madeShop(number+5200, n, m, 0, 9),
			madeShop(number+5300, n, m, 0, 30))
	}
	return shops
}

// longShopsOn are shops with m machines and MaxJobs jobs, or one or two less.
func longShopsOn(m int) [][][]int {
	return [][][]int{
		sameTimes(8, m, 0), sameTimes(8, m, 1), sameTimes(8, m, 30), sameTimes(7, m, 30), sameTimes(6, m, 30),
		idleMachine(madeShop(11, 8, m, 0, 30), m-1), idleJob(madeShop(12, 8, m, 0, 30), 7),
		madeShop(13, 8, m, 0, 2), madeShop(14, 8, m, 0, 9), madeShop(15, 8, m, 0, 30), madeShop(16, 7, m, 0, 9), madeShop(17, 6, m, 0, 9),
	}
}

// allShopsOn are shops with m machines of all lengths.
func allShopsOn(m int) [][][]int { return append(shopsOn(m), longShopsOn(m)...) }

// noShops are lists that are no shops.
func noShops() [][][]int {
	lists := [][][]int{
		// too many jobs
		sameTimes(9, 1, 1), sameTimes(9, 2, 0), sameTimes(10, 3, 30), make([][]int, 1000), sameTimes(1000, 2, 1),
		// no times, and too many
		{nil}, {{}}, {{}, {}}, make([][]int, 8), {{1, 1, 1, 1}}, {{0, 0, 0, 0}, {0, 0, 0, 0}}, sameTimes(8, 4, 1), {make([]int, 1000)},
		// different numbers of times
		{{1}, {1, 2}}, {{1, 2}, {1}}, {{1}, {}}, {{}, {1}}, {nil, {1, 2}}, {{1, 2}, nil}, {{1, 2, 3}, {1, 2}}, {{1, 2}, {1, 2}, {1, 2, 3}}, {{1, 2, 3}, {1, 2, 3}, {1, 2, 3, 4}},
	}
	for _, wrong := range []int{-1, 31, -30, 32, 100, math.MinInt, math.MaxInt} {
		for _, m := range shopMachines {
			for _, n := range []int{1, 3, 8} {
				for _, place := range []int{0, m - 1, (n - 1) * m, n*m - 1} {
					list := slices.Repeat([]int{5}, n*m)
					list[place] = wrong
					lists = append(lists, shopOfList(m, list))
				}
			}
		}
	}
	return lists
}

// notOn are shops that have not m machines.
func notOn(m int) [][][]int {
	shops := [][][]int{}
	for _, other := range shopMachines {
		if other != m {
			shops = append(shops, sameTimes(1, other, 0), sameTimes(2, other, 3), sameTimes(8, other, 30), madeShop(21, 4, other, 0, 9))
		}
	}
	return shops
}

// someOrders are all orders of n jobs, or at most so many of them.
func someOrders(number, n, most int) [][]int {
	if n <= 4 {
		return allOrders(n)
	}
	orders := [][]int{upTo(n)}
	for k := range most {
		orders = append(orders, madeOrder(drawer(97*number+k), n))
	}
	return orders
}

// flowByHand are the ends of all jobs on all machines; each one is found from the job and the machine ahead.
func flowByHand(shop [][]int, order []int) [][]int {
	ends := make([][]int, len(shop))
	for place, i := range order {
		ends[i] = make([]int, len(shop[i]))
		for machine := range ends[i] {
			if machine > 0 {
				ends[i][machine] = ends[i][machine-1]
			}
			if place > 0 {
				ends[i][machine] = max(ends[i][machine], ends[order[place-1]][machine])
			}
			ends[i][machine] += shop[i][machine]
		}
	}
	return ends
}

// spanByHand is the greatest end.
func spanByHand(shop [][]int, order []int) int {
	return greatest(slices.Concat(flowByHand(shop, order)...))
}

// machinesOf is the number of machines of a shop.
func machinesOf(shop [][]int) int {
	if len(shop) == 0 {
		return 1
	}
	return len(shop[0])
}

// stairsByHand are all staircases of orders of n jobs on m machines, in lexicographic order.
func stairsByHand(n, m int) [][]int {
	stairs := [][]int{}
	everyNumbers(m, upTo(n), func(list []int) {
		if isStairByHand(n, m, list) {
			stairs = append(stairs, slices.Clone(list))
		}
	})
	return stairs
}

// isStairByHand tells whether a list is a staircase of orders of n jobs on m machines.
func isStairByHand(n, m int, stops []int) bool {
	if n == 0 || len(stops) != m {
		return false
	}
	for k, stop := range stops {
		if stop < 0 || stop > n-1 || k > 0 && stop < stops[k-1] {
			return false
		}
	}
	return stops[m-1] == n-1
}

// stairByHand is the length of a staircase: it goes on from place to place and from machine to machine.
func stairByHand(shop [][]int, order, stops []int) int {
	length, place := 0, 0
	for machine := range stops {
		length += shop[order[place]][machine]
		for place < stops[machine] {
			place++
			length += shop[order[place]][machine]
		}
	}
	return length
}

// bestFlowByHand are the order with the least span, that span, and the number of these orders.
func bestFlowByHand(shop [][]int, orders [][]int) ([]int, int, int) {
	best, least, count := []int{}, math.MaxInt, 0
	for _, order := range orders {
		span := spanByHand(shop, order)
		if span < least {
			best, least, count = order, span, 0
		}
		if span == least {
			count++
		}
	}
	return best, least, count
}

// johnsonByHand is Johnson's order of a shop with two machines.
func johnsonByHand(shop [][]int) []int {
	order := []int{}
	for time := 0; time <= 30; time++ {
		for i, times := range shop {
			if times[0] == time && times[0] <= times[1] {
				order = append(order, i)
			}
		}
	}
	for time := 30; time >= 0; time-- {
		for i, times := range shop {
			if times[1] == time && times[0] > times[1] {
				order = append(order, i)
			}
		}
	}
	return order
}

// isSortedByHand tells whether an order of a shop with two machines is sorted in Johnson's way.
func isSortedByHand(shop [][]int, order []int) bool {
	for p := range order {
		for q := p + 1; q < len(order); q++ {
			i, j := shop[order[p]], shop[order[q]]
			if slices.Min([]int{i[0], j[1]}) > slices.Min([]int{j[0], i[1]}) {
				return false
			}
		}
	}
	return true
}

// column are the times of a machine.
func column(shop [][]int, machine int) []int {
	times := []int{}
	for _, list := range shop {
		times = append(times, list[machine])
	}
	return times
}

// middleByHand tells whether the greatest time of the second machine is at most the least one of the first or of the third one.
func middleByHand(shop [][]int) bool {
	if len(shop) == 0 {
		return true
	}
	longest := greatest(column(shop, 1))
	return longest <= slices.Min(column(shop, 0)) || longest <= slices.Min(column(shop, 2))
}

// joined is the shop with two machines that have the sums of the first two and of the last two times.
func joined(shop [][]int) [][]int {
	sums := [][]int{}
	for _, times := range shop {
		sums = append(sums, []int{times[0] + times[1], times[1] + times[2]})
	}
	return sums
}

// flowBoundByHand is the bound: a job is first and one is last for each machine.
func flowBoundByHand(shop [][]int) int {
	bound := 0
	for machine := range machinesOf(shop) {
		least := math.MaxInt
		for _, first := range shop {
			for _, last := range shop {
				least = min(least, added(first[:machine])+added(column(shop, machine))+added(last[machine+1:]))
			}
		}
		if len(shop) > 0 {
			bound = max(bound, least)
		}
	}
	return bound
}

// loadByHand is the load.
func loadByHand(shop [][]int) int {
	sums := []int{}
	for _, times := range shop {
		sums = append(sums, added(times))
	}
	for machine := range machinesOf(shop) {
		sums = append(sums, added(column(shop, machine)))
	}
	return greatest(sums)
}

// isOpenByHand tells whether lists of starts are an open schedule: each machine and each job notes when it is needed.
func isOpenByHand(shop [][]int, starts [][]int) bool {
	if len(starts) != len(shop) {
		return false
	}
	machines, jobs := map[[2]int]bool{}, map[[2]int]bool{}
	for i, list := range starts {
		if len(list) != len(shop[i]) {
			return false
		}
		for machine, start := range list {
			if start < 0 || start > 1000000 {
				return false
			}
			for time := start; time < start+shop[i][machine]; time++ {
				if machines[[2]int{machine, time}] || jobs[[2]int{i, time}] {
					return false
				}
				machines[[2]int{machine, time}], jobs[[2]int{i, time}] = true, true
			}
		}
	}
	return true
}

// openEnd is the greatest end of an open schedule.
func openEnd(shop [][]int, starts [][]int) int {
	end := 0
	for i, list := range starts {
		for machine, start := range list {
			if shop[i][machine] > 0 {
				end = max(end, start+shop[i][machine])
			}
		}
	}
	return end
}

// openByHand is the open schedule that the document tells for two machines, time going on by 1.
func openByHand(shop [][]int) [][]int {
	starts, rest, running := copied(shop), copied(shop), []int{-1, -1}
	for _, list := range starts {
		for machine, time := range list {
			list[machine] = 0
			if time > 0 {
				list[machine] = -1
			}
		}
	}
	for now := 0; added(slices.Concat(rest...)) > 0; now++ {
		for machine := range running {
			if running[machine] < 0 {
				if next := openChoice(starts, rest, running, machine); next >= 0 {
					running[machine], starts[next][machine] = next, now
				}
			}
		}
		for machine, i := range running {
			if i < 0 {
				continue
			}
			rest[i][machine]--
			if rest[i][machine] == 0 {
				running[machine] = -1
			}
		}
	}
	return starts
}

// openChoice is the job that a machine takes, or -1.
func openChoice(starts, rest [][]int, running []int, machine int) int {
	next, other := -1, 1-machine
	for i := range starts {
		if starts[i][machine] < 0 && running[other] != i && rest[i][other] > 0 {
			if next < 0 || rest[i][other] > rest[next][other] {
				next = i
			}
		}
	}
	if next >= 0 {
		return next
	}
	return slices.IndexFunc(upTo(len(starts)), func(i int) bool { return starts[i][machine] < 0 && running[other] != i })
}

// piece writes a Piece.
func piece(length int, jobs ...int) impl.ShopPiece {
	return impl.ShopPiece{Length: length, Jobs: jobs}
}

// equalPieces tells whether two lists of Pieces are the same.
func equalPieces(one, other []impl.ShopPiece) bool {
	return slices.EqualFunc(one, other, func(a, b impl.ShopPiece) bool {
		return a.Length == b.Length && slices.Equal(a.Jobs, b.Jobs)
	})
}

// isPiecePlanByHand tells whether Pieces are a plan with pieces.
func isPiecePlanByHand(shop [][]int, plan []impl.ShopPiece) bool {
	if len(plan) > 40 {
		return false
	}
	done := map[[2]int]int{}
	for _, p := range plan {
		if p.Length < 1 || p.Length > 1000000 || len(p.Jobs) != machinesOf(shop) {
			return false
		}
		for machine, i := range p.Jobs {
			if i == -1 {
				continue
			}
			if i < 0 || i >= len(shop) || slices.Index(p.Jobs, i) != machine {
				return false
			}
			done[[2]int{i, machine}] += p.Length
		}
	}
	for i, times := range shop {
		for machine, time := range times {
			if done[[2]int{i, machine}] != time {
				return false
			}
		}
	}
	return true
}

// piecesLength is the sum of the Lengths of Pieces.
func piecesLength(plan []impl.ShopPiece) int {
	length := 0
	for _, p := range plan {
		length += p.Length
	}
	return length
}

// piecesByHand is the plan with pieces that the document tells.
func piecesByHand(shop [][]int) []impl.ShopPiece {
	plan, rest := []impl.ShopPiece{}, copied(shop)
	for load := loadByHand(shop); load > 0; {
		jobs := pieceJobsByHand(rest, load)
		length := 0
		for pieceMayHave(rest, load, jobs, length+1) {
			length++
		}
		for machine, i := range jobs {
			if i >= 0 {
				rest[i][machine] -= length
			}
		}
		load -= length
		plan = append(plan, piece(length, jobs...))
	}
	return plan
}

// pieceJobsByHand are the Jobs of the next Piece: all lists are made, and the least one of those that may be these is taken.
func pieceJobsByHand(rest [][]int, load int) []int {
	n := len(rest)
	lists := [][]int{}
	everyNumbers(machinesOf(rest), append(upTo(n), -1), func(jobs []int) {
		for machine, i := range jobs {
			if i >= 0 && (rest[i][machine] == 0 || slices.Index(jobs, i) != machine) {
				return
			}
			if i < 0 && added(column(rest, machine)) == load {
				return
			}
		}
		for i := range n {
			if added(rest[i]) == load && !slices.Contains(jobs, i) {
				return
			}
		}
		lists = append(lists, slices.Clone(jobs))
	})
	place := func(i int) int { return (i + n + 1) % (n + 1) }
	return slices.MinFunc(lists, func(a, b []int) int {
		return slices.CompareFunc(a, b, func(i, j int) int { return place(i) - place(j) })
	})
}

// pieceMayHave tells whether a Length is possible for the Jobs of the next Piece.
func pieceMayHave(rest [][]int, load int, jobs []int, length int) bool {
	if length > load {
		return false
	}
	for machine, i := range jobs {
		if i >= 0 && rest[i][machine] < length {
			return false
		}
		if i < 0 && added(column(rest, machine)) > load-length {
			return false
		}
	}
	for i, times := range rest {
		if !slices.Contains(jobs, i) && added(times) > load-length {
			return false
		}
	}
	return true
}

// everyPieces calls a check with the Pieces of the Length 1 for each way in which the machines of a shop may work on its jobs or wait so often, no job being on two of them at the same time.
func everyPieces(shop [][]int, until int, check func(plan []impl.ShopPiece)) {
	lists := [][]int{}
	everyNumbers(machinesOf(shop), append(upTo(len(shop)), -1), func(jobs []int) {
		for machine, i := range jobs {
			if i >= 0 && slices.Index(jobs, i) != machine {
				return
			}
		}
		lists = append(lists, slices.Clone(jobs))
	})
	everyNumbers(until, upTo(len(lists)), func(choice []int) {
		plan := []impl.ShopPiece{}
		for _, k := range choice {
			plan = append(plan, piece(1, lists[k]...))
		}
		check(plan)
	})
}
