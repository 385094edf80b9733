package tests

import (
	"math"
	"slices"

	"loop.example/g01103/impl"
)

// shopRules are all numbers that are a rule.
var shopRules = []int{impl.RuleShort, impl.RuleLong, impl.RuleRest}

// branchEnd is what ends a branch of a proof.
var branchEnd = [2]int{-1, -1}

// op writes an Op.
func op(machine, time int) impl.Op {
	return impl.Op{Machine: machine, Time: time}
}

// jobShop writes a JobShop.
func jobShop(machines int, routes ...[]impl.Op) impl.JobShop {
	return impl.JobShop{Machines: machines, Routes: routes}
}

// lineShop is a JobShop with n Routes that all go over the Machines 0, 1, .. in turn, with the same Times.
func lineShop(machines, n, time int) impl.JobShop {
	s := impl.JobShop{Machines: machines}
	for range n {
		route := []impl.Op{}
		for machine := range machines {
			route = append(route, op(machine, time))
		}
		s.Routes = append(s.Routes, route)
	}
	return s
}

// turningShop is one in which each Route begins one Machine later than the one ahead of it.
func turningShop(machines, n, time int) impl.JobShop {
	s := lineShop(machines, n, time)
	for number, route := range s.Routes {
		for index := range route {
			route[index].Machine = (index + number) % machines
		}
	}
	return s
}

// meetingShop is one in which every other Route goes over the Machines backwards.
func meetingShop(machines, n, time int) impl.JobShop {
	s := lineShop(machines, n, time)
	for number, route := range s.Routes {
		if number%2 == 1 {
			slices.Reverse(route)
		}
	}
	return s
}

// everyJobShop calls a check with each JobShop with m Machines and n Routes, all Times of which are some numbers.
func everyJobShop(m, n int, times []int, check func(s impl.JobShop)) {
	forms := allPrefixes(m)
	everyNumbers(n, upTo(len(forms)), func(choice []int) {
		size := 0
		for _, k := range choice {
			size += len(forms[k])
		}
		everyNumbers(size, times, func(list []int) {
			s := impl.JobShop{Machines: m}
			for _, k := range choice {
				route := []impl.Op{}
				for index, machine := range forms[k] {
					route = append(route, op(machine, list[index]))
				}
				list = list[len(route):]
				s.Routes = append(s.Routes, route)
			}
			check(s)
		})
	})
}

// madeJobShop is a JobShop that follows from a number, with at most n Routes of at most so many Ops each, and Times of at most most.
func madeJobShop(number, m, n, size, most int) impl.JobShop {
	next := drawer(number)
	s, left := impl.JobShop{Machines: m}, 12
	for range n {
		route := []impl.Op{}
		for _, machine := range madeOrder(next, m)[:min(m, size, left)] {
			route = append(route, op(machine, 1+next(most)))
		}
		// Now and then one is shorter than the others, or has no Ops.
		if next(5) == 0 {
			route = route[:next(len(route)+1)]
		}
		left -= len(route)
		s.Routes = append(s.Routes, route)
	}
	return s
}

// knownJobShops are JobShops with at most about a hundred selections.
func knownJobShops() []impl.JobShop {
	shops := []impl.JobShop{
		{Machines: 1}, {Machines: 4}, {Machines: 2, Routes: [][]impl.Op{}},
		jobShop(1, nil), jobShop(3, nil, []impl.Op{}), jobShop(4, nil, nil, nil, nil),
		jobShop(1, []impl.Op{op(0, 1)}), jobShop(1, []impl.Op{op(0, 20)}), jobShop(4, []impl.Op{op(3, 7)}), jobShop(2, nil, []impl.Op{op(1, 3)}, nil),
		// one Machine with as many Ops as there may be, and Routes without Ops between others
		jobShop(1, []impl.Op{op(0, 3)}, []impl.Op{op(0, 1)}), jobShop(1, []impl.Op{op(0, 2)}, nil, []impl.Op{op(0, 2)}), lineShop(1, 4, 1), lineShop(1, 4, 20),
		jobShop(1, []impl.Op{op(0, 4)}, []impl.Op{op(0, 2)}, []impl.Op{op(0, 5)}, []impl.Op{op(0, 1)}),
		// Machines without Ops, and with one Op
		jobShop(4, []impl.Op{op(3, 2), op(1, 5)}, []impl.Op{op(1, 4)}), jobShop(3, []impl.Op{op(0, 2), op(2, 5)}, []impl.Op{op(2, 1), op(0, 4)}),
		// one Route over all Machines
		jobShop(4, []impl.Op{op(2, 20), op(0, 1), op(3, 20), op(1, 1)}), jobShop(4, nil, []impl.Op{op(3, 1), op(2, 1), op(1, 1), op(0, 1)}, nil, nil),
		jobShop(2, []impl.Op{op(0, 3), op(1, 2)}, []impl.Op{op(1, 2), op(0, 4)}),
		lineShop(2, 2, 1), lineShop(2, 3, 20), lineShop(4, 2, 3), turningShop(2, 3, 20), turningShop(4, 2, 1), turningShop(3, 2, 20), meetingShop(2, 2, 5), meetingShop(3, 2, 20),
		jobShop(2, []impl.Op{op(0, 20), op(1, 1)}, []impl.Op{op(1, 20), op(0, 1)}, []impl.Op{op(0, 1), op(1, 20)}),
	}
	for number := range 20 {
		shops = append(shops, madeJobShop(number+9000, 2, 3, 2, 3), madeJobShop(number+9100, 3, 2, 3, 20), madeJobShop(number+9200, 4, 2, 4, 5), madeJobShop(number+9300, 1+number%4, 4, 1, 9))
	}
	return shops
}

// longJobShops are JobShops with more Ops, as many as there may be in most of them.
func longJobShops() []impl.JobShop {
	shops := []impl.JobShop{
		lineShop(3, 4, 1), lineShop(3, 4, 20), turningShop(3, 4, 1), turningShop(3, 4, 20), meetingShop(3, 4, 20), lineShop(4, 3, 1), turningShop(4, 3, 20), meetingShop(4, 3, 2),
		{Machines: 4, Routes: turningShop(3, 4, 7).Routes},
	}
	for number := range 5 {
		shops = append(shops, madeJobShop(number+9400, 3, 4, 3, 20), madeJobShop(number+9500, 4, 4, 3, 6), madeJobShop(number+9600, 4, 3, 4, 20), madeJobShop(number+9700, 3, 4, 3, 2))
	}
	return shops
}

// allJobShops are JobShops of all kinds.
func allJobShops() []impl.JobShop { return append(knownJobShops(), longJobShops()...) }

// noJobShops are structs that are no JobShops.
func noJobShops() []impl.JobShop {
	full := []impl.Op{op(0, 1), op(1, 1), op(2, 1), op(3, 1)}
	twelve := []impl.Op{}
	for machine := range 12 {
		twelve = append(twelve, op(machine, 1))
	}
	shops := []impl.JobShop{
		{}, {Routes: [][]impl.Op{{op(0, 1)}}},
		// too many Routes
		jobShop(1, nil, nil, nil, nil, nil), jobShop(4, full[:1], full[1:2], full[2:3], full[3:], full[:1]), {Machines: 2, Routes: make([][]impl.Op, 1000)},
		// too many Ops
		jobShop(4, full, full, full, full[:1]), jobShop(4, full[:1], full, full, full), jobShop(4, full, full, full, full), jobShop(4, full, full[1:], full[1:], full[:3]),
		// too many Ops in one Route, so that there are Machines that do not exist, or one stands twice
		jobShop(4, twelve), jobShop(12, twelve), jobShop(4, append(slices.Clone(full), full...)), jobShop(1, make([]impl.Op, 1000)), jobShop(4, slices.Repeat(full, 3)),
	}
	for _, machines := range []int{0, -1, 5, 6, -4, math.MinInt, math.MaxInt} {
		shops = append(shops, impl.JobShop{Machines: machines}, jobShop(machines, nil), jobShop(machines, []impl.Op{op(0, 1)}), jobShop(machines, full))
	}
	base := jobShop(3, []impl.Op{op(0, 3), op(2, 1), op(1, 20)}, nil, []impl.Op{op(1, 2)}, []impl.Op{op(2, 5), op(1, 4)})
	for number, route := range base.Routes {
		for index, old := range route {
			for _, wrong := range []int{-1, 3, 4, -3, 64, math.MinInt, math.MaxInt} {
				shops = append(shops, changedShop(base, number, index, op(wrong, old.Time)))
			}
			for _, wrong := range []int{0, 21, -1, 22, -20, math.MinInt, math.MaxInt} {
				shops = append(shops, changedShop(base, number, index, op(old.Machine, wrong)))
			}
			for other := range route {
				if other != index {
					shops = append(shops, changedShop(base, number, index, op(route[other].Machine, old.Time)))
				}
			}
		}
	}
	return shops
}

// copiedShop is a JobShop that shares no memory with another one.
func copiedShop(s impl.JobShop) impl.JobShop {
	other := impl.JobShop{Machines: s.Machines}
	for _, route := range s.Routes {
		other.Routes = append(other.Routes, slices.Clone(route))
	}
	return other
}

// changedShop is a JobShop with another Op in a Route.
func changedShop(s impl.JobShop, number, index int, o impl.Op) impl.JobShop {
	other := copiedShop(s)
	other.Routes[number][index] = o
	return other
}

// isJobShopByHand tells whether a JobShop is valid.
func isJobShopByHand(s impl.JobShop) bool {
	ops, seen := 0, map[[2]int]bool{}
	for number, route := range s.Routes {
		for _, o := range route {
			if o.Machine < 0 || o.Machine > s.Machines-1 || o.Time < 1 || o.Time > 20 {
				return false
			}
			seen[[2]int{number, o.Machine}] = true
			ops++
		}
	}
	return s.Machines >= 1 && s.Machines <= 4 && len(s.Routes) <= 4 && ops <= 12 && len(seen) == ops
}

// handOp is an Op with the number of its Route and its index in it.
type handOp struct {
	route, index, machine, time int
}

// opsByHand are all Ops, by their numbers.
func opsByHand(s impl.JobShop) []handOp {
	ops := []handOp{}
	for number, route := range s.Routes {
		for index, o := range route {
			ops = append(ops, handOp{number, index, o.Machine, o.Time})
		}
	}
	return ops
}

// opTimes are the Times of all Ops.
func opTimes(s impl.JobShop) []int {
	times := []int{}
	for _, o := range opsByHand(s) {
		times = append(times, o.time)
	}
	return times
}

// opsOnByHand are the Ops of a Machine.
func opsOnByHand(s impl.JobShop, machine int) []int {
	ops := opsByHand(s)
	return slices.DeleteFunc(upTo(len(ops)), func(i int) bool { return ops[i].machine != machine })
}

// firstSelection has the Ops of each Machine in ascending order.
func firstSelection(s impl.JobShop) [][]int {
	orders := [][]int{}
	for machine := range s.Machines {
		orders = append(orders, opsOnByHand(s, machine))
	}
	return orders
}

// ordersOf are all orders of the numbers of a list, in lexicographic order if the list ascends.
func ordersOf(list []int) [][]int {
	orders := [][]int{}
	for _, places := range allOrders(len(list)) {
		orders = append(orders, pickedNumbers(list, places))
	}
	return orders
}

// pickedNumbers are the numbers of a list at some places.
func pickedNumbers(list, places []int) []int {
	picked := []int{}
	for _, place := range places {
		picked = append(picked, list[place])
	}
	return picked
}

// selectionsByHand are all selections of a JobShop, in lexicographic order.
func selectionsByHand(s impl.JobShop) [][][]int {
	all := [][][]int{{}}
	for machine := range s.Machines {
		longer := [][][]int{}
		orders := ordersOf(opsOnByHand(s, machine))
		for _, selection := range all {
			for _, order := range orders {
				longer = append(longer, append(copied(selection), slices.Clone(order)))
			}
		}
		all = longer
	}
	return all
}

// drawnSelection is a selection that follows from drawn numbers.
func drawnSelection(next func(below int) int, s impl.JobShop) [][]int {
	orders := firstSelection(s)
	for machine, list := range orders {
		orders[machine] = pickedNumbers(list, madeOrder(next, len(list)))
	}
	return orders
}

// doneSelection is an acyclic selection that follows from drawn numbers: the Ops are done in some order that keeps that of their Routes.
func doneSelection(next func(below int) int, s impl.JobShop) [][]int {
	ops, orders := opsByHand(s), make([][]int, s.Machines)
	left := map[int]int{}
	for _, o := range ops {
		left[o.route]++
	}
	for done := 0; done < len(ops); {
		route := next(len(s.Routes))
		if left[route] == 0 {
			continue
		}
		i := slices.IndexFunc(ops, func(o handOp) bool { return o.route == route && o.index == len(s.Routes[route])-left[route] })
		orders[ops[i].machine] = append(orders[ops[i].machine], i)
		left[route]--
		done++
	}
	return orders
}

// someSelections are all selections of a JobShop, or at most so many of them, most of which are acyclic.
func someSelections(number int, s impl.JobShop, most int) [][][]int {
	count := 1
	for machine := range s.Machines {
		count *= []int{1, 1, 2, 6, 24}[len(opsOnByHand(s, machine))]
	}
	if count <= most {
		return selectionsByHand(s)
	}
	next, all := drawer(number), [][][]int{firstSelection(s)}
	for k := range most - 1 {
		if k%5 == 0 {
			all = append(all, drawnSelection(next, s))
		} else {
			all = append(all, doneSelection(next, s))
		}
	}
	return all
}

// isSelectionByHand tells whether lists are a selection of a JobShop.
func isSelectionByHand(s impl.JobShop, orders [][]int) bool {
	if len(orders) != s.Machines {
		return false
	}
	for machine, order := range orders {
		list := opsOnByHand(s, machine)
		if len(order) != len(list) || slices.ContainsFunc(list, func(i int) bool { return !slices.Contains(order, i) }) {
			return false
		}
	}
	return true
}

// leadsByHand tells for each Op to which ones it leads, in ascending order: to the next one of its Route, and to the next one in the orders of the Machines.
func leadsByHand(s impl.JobShop, orders [][]int) [][]int {
	arcs := [][2]int{}
	for _, order := range orders {
		arcs = append(arcs, chainOf(order)...)
	}
	return leadsOfArcs(s, arcs)
}

// leadsOfArcs tells for each Op to which ones it leads: to the next one of its Route, and to the second Ops of its arcs.
func leadsOfArcs(s impl.JobShop, arcs [][2]int) [][]int {
	ops := opsByHand(s)
	leads := make([][]int, len(ops))
	for i, one := range ops {
		for j, other := range ops {
			if one.route == other.route && one.index+1 == other.index || slices.Contains(arcs, [2]int{i, j}) {
				leads[i] = append(leads[i], j)
			}
		}
	}
	return leads
}

// everyTrail calls a check with each list of Ops each of which leads to the next one, in lexicographic order but for longer ones, and tells whether none leads back to its first one.
func everyTrail(leads [][]int, check func(list []int)) bool {
	var follow func(list []int) bool
	follow = func(list []int) bool {
		check(list)
		for _, next := range leads[list[len(list)-1]] {
			if slices.Contains(list, next) || !follow(append(slices.Clone(list), next)) {
				return false
			}
		}
		return true
	}
	for i := range leads {
		if !follow([]int{i}) {
			return false
		}
	}
	return true
}

// handPlan is what the document tells of a selection.
type handPlan struct {
	acyclic      bool
	heads, tails []int
	length       int
	critical     [][]int // all critical paths, the first one first
}

// planByHand finds what the document tells from all lists of Ops each of which leads to the next one.
func planByHand(s impl.JobShop, orders [][]int) handPlan {
	leads, times := leadsByHand(s, orders), opTimes(s)
	p := handPlan{heads: make([]int, len(times)), tails: make([]int, len(times))}
	p.acyclic = everyTrail(leads, func(list []int) {
		sum := added(pickedNumbers(times, list))
		first, last := list[0], list[len(list)-1]
		p.tails[first] = max(p.tails[first], sum)
		p.heads[last] = max(p.heads[last], sum-times[last])
		p.length = max(p.length, sum)
	})
	if !p.acyclic {
		return handPlan{}
	}
	everyTrail(leads, func(list []int) {
		if p.heads[list[0]] == 0 && added(pickedNumbers(times, list)) == p.length {
			p.critical = append(p.critical, list)
		}
	})
	slices.SortFunc(p.critical, slices.Compare[[]int])
	return p
}

// firstPath is the first critical path, none if there are no Ops.
func (p handPlan) firstPath() []int {
	if len(p.critical) == 0 {
		return []int{}
	}
	return p.critical[0]
}

// blocksOfPath are the longest parts of a list of Ops that are on the same Machine.
func blocksOfPath(s impl.JobShop, path []int) [][]int {
	blocks, ops := [][]int{}, opsByHand(s)
	for from := 0; from < len(path); {
		to := from
		for to < len(path) && ops[path[to]].machine == ops[path[from]].machine {
			to++
		}
		blocks = append(blocks, path[from:to])
		from = to
	}
	return blocks
}

// swapsByHand are the Machine and the place of each two Ops next to each other on a Machine that are so on a critical path.
func swapsByHand(p handPlan, orders [][]int) [][2]int {
	swaps := [][2]int{}
	for machine, order := range orders {
		for place := 0; place+1 < len(order); place++ {
			if slices.ContainsFunc(p.critical, func(path []int) bool {
				return slices.Contains(chainOf(path), [2]int{order[place], order[place+1]})
			}) {
				swaps = append(swaps, [2]int{machine, place})
			}
		}
	}
	return swaps
}

// swappedOps are the orders of all Machines with the Ops at a place of one and at the next one exchanged.
func swappedOps(orders [][]int, machine, place int) [][]int {
	others := copied(orders)
	others[machine] = swapped(orders[machine], place)
	return others
}

// leavesByHand tells whether other orders have an Op of a block ahead of its first one or behind its last one.
func leavesByHand(s impl.JobShop, blocks, others [][]int) bool {
	ops := opsByHand(s)
	for _, block := range blocks {
		for _, i := range block {
			order := others[ops[i].machine]
			place := slices.Index(order, i)
			if slices.Contains(order[place+1:], block[0]) || slices.Contains(order[:place], block[len(block)-1]) {
				return true
			}
		}
	}
	return false
}

// everyStart calls a check with the starts of all Ops, each below a number, with which no Op starts before the end of those that lead to it.
func everyStart(s impl.JobShop, leads [][]int, below int, check func(starts []int)) {
	times := opTimes(s)
	everyNumbers(len(times), upTo(below), func(starts []int) {
		for i, next := range leads {
			for _, j := range next {
				if starts[j] < starts[i]+times[i] {
					return
				}
			}
		}
		check(starts)
	})
}

// areApartByHand tells whether no Machine does two Ops at the same time.
func areApartByHand(s impl.JobShop, starts []int) bool {
	ops := opsByHand(s)
	for i, one := range ops {
		for j, other := range ops[:i] {
			if one.machine == other.machine && starts[i] < starts[j]+other.time && starts[j] < starts[i]+one.time {
				return false
			}
		}
	}
	return true
}

// lastEnd is when the last Op ends.
func lastEnd(s impl.JobShop, starts []int) int {
	end := 0
	for i, time := range opTimes(s) {
		end = max(end, starts[i]+time)
	}
	return end
}

// equalLists tells whether two lists of lists are the same.
func equalLists(one, other [][]int) bool {
	return slices.EqualFunc(one, other, slices.Equal[[]int])
}

// lengthOfArcs is the greatest sum of Times of Ops that lead to each other by Routes and arcs, and whether none leads back: starts grow as long as an Op starts too early.
func lengthOfArcs(s impl.JobShop, arcs [][2]int) (int, bool) {
	for _, route := range opsOfRoutes(s) {
		arcs = append(slices.Clip(arcs), chainOf(route)...)
	}
	times := opTimes(s)
	starts, grown := make([]int, len(times)), true
	for rounds := 0; grown; rounds++ {
		if rounds > len(times) {
			return 0, false
		}
		grown = false
		for _, a := range arcs {
			if end := starts[a[0]] + times[a[0]]; end > starts[a[1]] {
				starts[a[1]], grown = end, true
			}
		}
	}
	return lastEnd(s, starts), true
}

// opsOfRoutes are the numbers of the Ops of each Route.
func opsOfRoutes(s impl.JobShop) [][]int {
	routes, number := [][]int{}, 0
	for _, route := range s.Routes {
		list := []int{}
		for range route {
			list = append(list, number)
			number++
		}
		routes = append(routes, list)
	}
	return routes
}

// bestSelectionByHand are the first one of the selections with the least length, this length, and how many have it.
func bestSelectionByHand(s impl.JobShop) ([][]int, int, int) {
	best, least, count := [][]int{}, math.MaxInt, 0
	for _, orders := range selectionsByHand(s) {
		arcs := [][2]int{}
		for _, order := range orders {
			arcs = append(arcs, chainOf(order)...)
		}
		length, ok := lengthOfArcs(s, arcs)
		if !ok {
			continue
		}
		if length < least {
			best, least, count = orders, length, 0
		}
		if length == least {
			count++
		}
	}
	return best, least, count
}

// nextOp is the next Op of a Route that is not done, when it could start and end, and how long its Route goes on from it on.
type nextOp struct {
	number, route, machine, start, end, time, rest int
}

// handMaker makes a selection Op by Op.
type handMaker struct {
	shop      impl.JobShop
	orders    [][]int
	starts    []int
	done      []int // of each Route
	routes    []int // when each Route is free
	machines  []int // when each Machine is free
	tiedEnds  int   // how often several Ops could end first
	tiedRules int   // how often several Ops were equal by the rule
}

// nextOps are the next Ops of all Routes, by their numbers.
func (h *handMaker) nextOps() []nextOp {
	list, number := []nextOp{}, 0
	for route, ops := range h.shop.Routes {
		if done := h.done[route]; done < len(ops) {
			o := ops[done]
			start := max(h.routes[route], h.machines[o.Machine])
			rest := 0
			for _, later := range ops[done:] {
				rest += later.Time
			}
			list = append(list, nextOp{number + done, route, o.Machine, start, start + o.Time, o.Time, rest})
		}
		number += len(ops)
	}
	return list
}

// bestOps are those of some next Ops for which a key is least.
func bestOps(list []nextOp, key func(o nextOp) int) []nextOp {
	best := []nextOp{}
	for _, o := range list {
		if len(best) > 0 && key(o) < key(best[0]) {
			best = nil
		}
		if len(best) == 0 || key(o) == key(best[0]) {
			best = append(best, o)
		}
	}
	return best
}

// prioritiesByHand is what a rule makes, as the document tells.
func prioritiesByHand(s impl.JobShop, rule int) *handMaker {
	h := &handMaker{shop: s, orders: make([][]int, s.Machines), starts: make([]int, len(opTimes(s))), done: make([]int, len(s.Routes)), routes: make([]int, len(s.Routes)), machines: make([]int, s.Machines)}
	key := map[int]func(o nextOp) int{
		impl.RuleShort: func(o nextOp) int { return o.time },
		impl.RuleLong:  func(o nextOp) int { return -o.time },
		impl.RuleRest:  func(o nextOp) int { return -o.rest },
	}[rule]
	for {
		list := h.nextOps()
		if len(list) == 0 {
			return h
		}
		first := bestOps(list, func(o nextOp) int { return o.end })
		list = slices.DeleteFunc(list, func(o nextOp) bool { return o.machine != first[0].machine || o.start >= first[0].end })
		best := bestOps(list, key)
		if len(first) > 1 {
			h.tiedEnds++
		}
		if len(best) > 1 {
			h.tiedRules++
		}
		o := best[0]
		h.starts[o.number] = o.start
		h.done[o.route]++
		h.routes[o.route], h.machines[o.machine] = o.end, o.end
		h.orders[o.machine] = append(h.orders[o.machine], o.number)
	}
}

// around are, for an Op, the sums of the Times ahead of it and behind it in its Route.
func around(s impl.JobShop, i int) (int, int) {
	o, ahead, behind := opsByHand(s)[i], 0, 0
	for index, other := range s.Routes[o.route] {
		if index < o.index {
			ahead += other.Time
		}
		if index > o.index {
			behind += other.Time
		}
	}
	return ahead, behind
}

// machineBoundByHand is the greatest sum, of all sets of Ops of a Machine, of the least sum ahead, all Times and the least sum behind: what OneMachineBound is.
func machineBoundByHand(s impl.JobShop, machine int) int {
	list, times, bound := opsOnByHand(s, machine), opTimes(s), 0
	for mask := 1; mask < 1<<len(list); mask++ {
		first, last, sum := math.MaxInt, math.MaxInt, 0
		for _, i := range pickedNumbers(list, setOf(mask)) {
			ahead, behind := around(s, i)
			first, last, sum = min(first, ahead), min(last, behind), sum+times[i]
		}
		bound = max(bound, first+sum+last)
	}
	return bound
}

// isArcByHand tells whether a pair has two different Ops of the same Machine.
func isArcByHand(s impl.JobShop, pair [2]int) bool {
	ops := opsByHand(s)
	for _, i := range pair {
		if i < 0 || i >= len(ops) {
			return false
		}
	}
	return pair[0] != pair[1] && ops[pair[0]].machine == ops[pair[1]].machine
}

// areArcsByHand tells whether all pairs of a list are arcs.
func areArcsByHand(s impl.JobShop, arcs [][2]int) bool {
	return !slices.ContainsFunc(arcs, func(pair [2]int) bool { return !isArcByHand(s, pair) })
}

// shopPairs are the arcs of a JobShop from the less Op to the greater one, in ascending order.
func shopPairs(s impl.JobShop) [][2]int {
	return slices.DeleteFunc(allPairs(len(opsByHand(s))), func(pair [2]int) bool { return pair[0] > pair[1] || !isArcByHand(s, pair) })
}

// turned is a pair in the other order.
func turned(pair [2]int) [2]int {
	return [2]int{pair[1], pair[0]}
}

// withArc is a list of arcs with one more.
func withArc(arcs [][2]int, pair [2]int) [][2]int {
	return append(slices.Clone(arcs), pair)
}

// mayEnd tells whether a branch of a proof for a value may end.
func mayEnd(s impl.JobShop, value int, arcs [][2]int) bool {
	bound, ok := lengthOfArcs(s, arcs)
	return !ok || bound >= value
}

// proofSize is how many pairs the proof for a value with some arcs has that a list begins with, or -1 if it begins with none.
func proofSize(s impl.JobShop, value int, arcs, list [][2]int) int {
	switch {
	case len(list) == 0:
		return -1
	case list[0] == branchEnd:
		if mayEnd(s, value, arcs) {
			return 1
		}
		return -1
	case list[0][0] > list[0][1] || !isArcByHand(s, list[0]):
		return -1
	}
	one := proofSize(s, value, withArc(arcs, list[0]), list[1:])
	if one < 0 {
		return -1
	}
	other := proofSize(s, value, withArc(arcs, turned(list[0])), list[1+one:])
	if other < 0 {
		return -1
	}
	return 1 + one + other
}

// isProofByHand tells whether a list of pairs is a proof for a value.
func isProofByHand(s impl.JobShop, value int, list [][2]int) bool {
	size := proofSize(s, value, nil, list)
	return size > 0 && size == len(list)
}

// proofsByHand are all proofs for a value with some arcs that have at most so many pairs.
func proofsByHand(s impl.JobShop, value int, arcs [][2]int, most int) [][][2]int {
	proofs := [][][2]int{}
	if most > 0 && mayEnd(s, value, arcs) {
		proofs = append(proofs, [][2]int{branchEnd})
	}
	if most < 3 {
		return proofs
	}
	for _, pair := range shopPairs(s) {
		for _, one := range proofsByHand(s, value, withArc(arcs, pair), most-2) {
			for _, other := range proofsByHand(s, value, withArc(arcs, turned(pair)), most-1-len(one)) {
				proofs = append(proofs, slices.Concat([][2]int{pair}, one, other))
			}
		}
	}
	return proofs
}

// foundByHand is the proof for a value with some arcs that the document tells, or a longer list than there may be.
func foundByHand(s impl.JobShop, value int, arcs [][2]int) [][2]int {
	if mayEnd(s, value, arcs) {
		return [][2]int{branchEnd}
	}
	pairs := shopPairs(s)
	pair := pairs[slices.IndexFunc(pairs, func(p [2]int) bool { return !slices.Contains(arcs, p) && !slices.Contains(arcs, turned(p)) })]
	proof := append([][2]int{pair}, foundByHand(s, value, withArc(arcs, pair))...)
	if len(proof) > impl.MaxProof {
		return proof
	}
	return append(proof, foundByHand(s, value, withArc(arcs, turned(pair)))...)
}

// fullProof asks for all pairs of a list, one after the other, in each branch.
func fullProof(pairs [][2]int) [][2]int {
	if len(pairs) == 0 {
		return [][2]int{branchEnd}
	}
	rest := fullProof(pairs[1:])
	return slices.Concat(pairs[:1], rest, rest)
}

// paddedProof asks so often for one pair before it goes on with a proof in all branches with the first arc; those with the second one end.
func paddedProof(pair [2]int, times int, proof [][2]int) [][2]int {
	padded := slices.Repeat([][2]int{pair}, times)
	return slices.Concat(padded, proof, slices.Repeat([][2]int{branchEnd}, times))
}
