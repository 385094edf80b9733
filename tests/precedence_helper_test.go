package tests

import (
	"math"
	"slices"

	"loop.example/g01103/impl"
)

// comparePairs compares pairs by their first numbers and then by their second ones.
func comparePairs(a, b [2]int) int {
	if a[0] != b[0] {
		return a[0] - b[0]
	}
	return a[1] - b[1]
}

// allPairs are all pairs of different numbers of n jobs, in ascending order.
func allPairs(n int) [][2]int {
	pairs := [][2]int{}
	for i := range n {
		for j := range n {
			if i != j {
				pairs = append(pairs, [2]int{i, j})
			}
		}
	}
	return pairs
}

// chainOf is the precedence in which each job of an order is before the next one.
func chainOf(order []int) [][2]int {
	edges := [][2]int{}
	for place := 1; place < len(order); place++ {
		edges = append(edges, [2]int{order[place-1], order[place]})
	}
	slices.SortFunc(edges, comparePairs)
	return edges
}

// totalOf is the precedence in which each job of an order is before all those behind it, with all pairs of the closure.
func totalOf(order []int) [][2]int {
	edges := [][2]int{}
	for place := range order {
		for _, behind := range order[place+1:] {
			edges = append(edges, [2]int{order[place], behind})
		}
	}
	slices.SortFunc(edges, comparePairs)
	return edges
}

// madeOrder is an order of n jobs that follows from drawn numbers.
func madeOrder(next func(below int) int, n int) []int {
	order := upTo(n)
	for i := range order {
		j := i + next(n-i)
		order[i], order[j] = order[j], order[i]
	}
	return order
}

// madeEdges is a precedence of n jobs that follows from a number and has about so many tenths of all pairs it could have.
func madeEdges(number, n, tenths int) [][2]int {
	next := drawer(number)
	return slices.DeleteFunc(totalOf(madeOrder(next, n)), func([2]int) bool { return next(10) >= tenths })
}

// knownEdges are precedences of n jobs of all kinds.
func knownEdges(n int) [][][2]int {
	down := upTo(n)
	slices.Reverse(down)
	lists := [][][2]int{nil, {}, chainOf(upTo(n)), chainOf(down), totalOf(upTo(n)), totalOf(down)}
	if n >= 4 {
		lists = append(lists,
			[][2]int{{0, 2}, {1, 2}, {1, 3}},
			[][2]int{{0, 2}, {0, 3}, {1, 2}, {1, 3}},
			[][2]int{{0, 2}, {1, 3}},
			[][2]int{{0, 1}, {0, 2}, {1, 3}, {2, 3}},
			[][2]int{{3, 0}, {3, 1}, {3, 2}})
	}
	for number := range 12 {
		lists = append(lists, madeEdges(number+50*n, n, 1+number%9))
	}
	return lists
}

// everyPrecedence are all precedences of n jobs, for a small n.
func everyPrecedence(n int) [][][2]int {
	lists := [][][2]int{}
	for mask := range 1 << len(allPairs(n)) {
		if edges := pairsOf(n, mask); !isCyclic(beforeByHand(n, edges)) {
			lists = append(lists, edges)
		}
	}
	return lists
}

// pairsOf are those of allPairs whose binary digits in a mask are 1.
func pairsOf(n, mask int) [][2]int {
	edges := [][2]int{}
	for i, pair := range allPairs(n) {
		if mask>>i&1 == 1 {
			edges = append(edges, pair)
		}
	}
	return edges
}

// noEdges are lists that are no precedences of n jobs.
func noEdges(n int) [][][2]int {
	lists := [][][2]int{{{0, 0}}, {{n, 0}}, {{0, n}}, {{-1, 0}}, {{0, -1}}, {{n, n + 1}}, make([][2]int, 28), make([][2]int, 29), make([][2]int, 1000)}
	for _, wrong := range []int{math.MinInt, math.MaxInt, 8, 9, 63, 64, -64} {
		lists = append(lists, [][2]int{{wrong, 0}}, [][2]int{{0, wrong}}, [][2]int{{wrong, wrong}})
	}
	if n < 2 {
		return append(lists, [][2]int{{0, 1}}, [][2]int{{1, 0}})
	}
	lists = append(lists,
		[][2]int{{0, 1}, {0, 1}}, [][2]int{{1, 0}, {1, 0}}, [][2]int{{0, 1}, {1, 1}}, [][2]int{{0, 0}, {0, 1}},
		[][2]int{{0, 1}, {1, 0}}, [][2]int{{1, 0}, {0, 1}}, [][2]int{{0, 1}, {1, n}}, [][2]int{{-1, 0}, {0, 1}})
	if n < 3 {
		return lists
	}
	round := append(totalOf(upTo(n)), [2]int{n - 1, 0})
	circle := append(chainOf(upTo(n)), [2]int{n - 1, 0})
	return append(lists,
		[][2]int{{1, 2}, {0, 1}}, [][2]int{{0, 2}, {0, 1}}, [][2]int{{0, 1}, {0, 2}, {0, 2}}, [][2]int{{0, 1}, {1, 2}, {0, 2}},
		[][2]int{{0, 1}, {1, 2}, {2, 0}}, [][2]int{{0, 2}, {1, 0}, {2, 1}}, [][2]int{{0, 1}, {1, 2}, {2, 1}}, [][2]int{{0, 1}, {1, 0}, {1, 2}},
		[][2]int{{0, 1}, {1, 2}, {2, 2}}, round, circle, allPairs(n))
}

// beforeByHand tells of each pair of n jobs whether pairs lead from the first one to the second one.
func beforeByHand(n int, edges [][2]int) [][]bool {
	before := make([][]bool, n)
	for i := range before {
		before[i] = make([]bool, n)
		reached := []int{i}
		for len(reached) > 0 {
			from := reached[0]
			reached = reached[1:]
			for _, edge := range edges {
				if edge[0] == from && !before[i][edge[1]] {
					before[i][edge[1]] = true
					reached = append(reached, edge[1])
				}
			}
		}
	}
	return before
}

// isCyclic tells whether pairs lead from a job to itself.
func isCyclic(before [][]bool) bool {
	for i := range before {
		if before[i][i] {
			return true
		}
	}
	return false
}

// isExtensionByHand tells whether each job of an order comes behind all those before it.
func isExtensionByHand(before [][]bool, order []int) bool {
	for place, job := range order {
		for _, behind := range order[place+1:] {
			if before[behind][job] {
				return false
			}
		}
	}
	return true
}

// extensionsByHand are all those of some orders that are linear extensions.
func extensionsByHand(before [][]bool, orders [][]int) [][]int {
	extensions := [][]int{}
	for _, order := range orders {
		if isExtensionByHand(before, order) {
			extensions = append(extensions, order)
		}
	}
	return extensions
}

// isInitialByHand tells whether a set of jobs has, with each of its jobs, all those of what is left that are before it.
func isInitialByHand(before [][]bool, left, set []int) bool {
	for _, job := range set {
		for _, other := range left {
			if before[other][job] && !slices.Contains(set, other) {
				return false
			}
		}
	}
	return true
}

// ratioByHand is the sum of Weights and that of Times of a list of jobs.
func ratioByHand(jobs []impl.Job, set []int) (int, int) {
	weight, time := 0, 0
	for _, i := range set {
		weight += jobs[i].Weight
		time += jobs[i].Time
	}
	return weight, time
}

// ratioIsLess tells whether the ratio of a list of jobs is less than that of another one.
func ratioIsLess(jobs []impl.Job, one, other []int) bool {
	w, t := ratioByHand(jobs, one)
	v, u := ratioByHand(jobs, other)
	return w*u < v*t
}

// blocksByHand are the Sidney blocks, as the document defines them.
func blocksByHand(jobs []impl.Job, before [][]bool) [][]int {
	blocks := [][]int{}
	for left := upTo(len(jobs)); len(left) > 0; {
		block := []int{}
		for mask := 1; mask < 1<<len(left); mask++ {
			set := []int{}
			for _, place := range setOf(mask) {
				set = append(set, left[place])
			}
			if !isInitialByHand(before, left, set) {
				continue
			}
			if len(block) == 0 || ratioIsLess(jobs, block, set) || !ratioIsLess(jobs, set, block) && len(set) > len(block) {
				block = set
			}
		}
		blocks = append(blocks, block)
		left = slices.DeleteFunc(slices.Clone(left), func(i int) bool { return slices.Contains(block, i) })
	}
	return blocks
}

// isBlockOrderByHand tells whether a linear extension has all jobs of a block ahead of all those of the blocks behind it.
func isBlockOrderByHand(blocks [][]int, extension []int) bool {
	blockOf := make([]int, len(extension))
	for i, block := range blocks {
		for _, job := range block {
			blockOf[job] = i
		}
	}
	for place := 1; place < len(extension); place++ {
		if blockOf[extension[place]] < blockOf[extension[place-1]] {
			return false
		}
	}
	return true
}

// isSeriesByHand tells whether there are no four different jobs as the document forbids them.
func isSeriesByHand(before [][]bool) bool {
	apart := func(i, j int) bool { return !before[i][j] && !before[j][i] }
	n := len(before)
	for mask := range n * n * n * n {
		a, b, c, d := mask%n, mask/n%n, mask/n/n%n, mask/n/n/n
		if a == b || a == c || a == d || b == c || b == d || c == d {
			continue
		}
		if before[a][c] && before[b][c] && before[b][d] && apart(a, b) && apart(a, d) && apart(c, d) {
			return false
		}
	}
	return true
}

// partsByHand are the smallest parts of a set of which no job is linked to one of another part, by their least jobs.
func partsByHand(set []int, linked func(i, j int) bool) [][]int {
	label := map[int]int{}
	for _, i := range set {
		label[i] = i
	}
	for range set {
		for _, i := range set {
			for _, j := range set {
				if i != j && linked(i, j) {
					label[i] = min(label[i], label[j])
				}
			}
		}
	}
	parts := [][]int{}
	for _, least := range set {
		part := []int{}
		for _, i := range set {
			if label[i] == least {
				part = append(part, i)
			}
		}
		if len(part) > 0 {
			parts = append(parts, part)
		}
	}
	return parts
}

// stringsByHand are the strings of a set of jobs of a series-parallel precedence, as the document makes them.
func stringsByHand(jobs []impl.Job, before [][]bool, set []int) [][]int {
	if len(set) <= 1 {
		return [][]int{set}
	}
	ordered := func(i, j int) bool { return before[i][j] || before[j][i] }
	if parts := partsByHand(set, ordered); len(parts) > 1 {
		return mergedByHand(jobs, before, parts)
	}
	parts := partsByHand(set, func(i, j int) bool { return !ordered(i, j) })
	strings := [][]int{}
	for len(parts) > 0 {
		// The next part is the one of which no job has one of another part before it.
		at := slices.IndexFunc(parts, func(part []int) bool {
			return !slices.ContainsFunc(parts, func(other []int) bool { return before[other[0]][part[0]] })
		})
		strings = append(strings, stringsByHand(jobs, before, parts[at])...)
		parts = slices.Delete(slices.Clone(parts), at, at+1)
	}
	for i := 0; i+1 < len(strings); {
		if !ratioIsLess(jobs, strings[i], strings[i+1]) {
			i++
			continue
		}
		joined := slices.Concat(strings[i], strings[i+1])
		strings = slices.Concat(strings[:i], [][]int{joined}, strings[i+2:])
		i = 0
	}
	return strings
}

// mergedByHand takes, again and again, the first one of the strings of some part: one with the greatest ratio of these.
func mergedByHand(jobs []impl.Job, before [][]bool, parts [][]int) [][]int {
	left := [][][]int{}
	for _, part := range parts {
		left = append(left, stringsByHand(jobs, before, part))
	}
	merged := [][]int{}
	for {
		from := -1
		for i, strings := range left {
			if len(strings) > 0 && (from < 0 || ratioIsLess(jobs, left[from][0], strings[0])) {
				from = i
			}
		}
		if from < 0 {
			return merged
		}
		merged = append(merged, left[from][0])
		left[from] = left[from][1:]
	}
}
