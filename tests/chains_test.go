package tests

import (
	"slices"
	"testing"

	"loop.example/g01103/impl"
)

// checkTails compares the tails and the longest chain with all chains, and returns how many chains have the greatest sum.
func checkTails(t *testing.T, jobs []impl.Job, edges [][2]int, before [][]bool) int {
	t.Helper()
	want := tailsByHand(jobs, before)
	if tails, ok := impl.TailsOf(jobs, edges); !ok || !slices.Equal(tails, want) {
		t.Errorf("TailsOf(%v, %v) = %v, %v, not %v", jobs, edges, tails, ok, want)
	}
	longest := slices.DeleteFunc(chainsByHand(before), func(chain []int) bool { return timeOf(jobs, chain) < greatest(want) })
	chain, ok := impl.LongestChain(jobs, edges)
	if len(jobs) == 0 {
		if ok || len(chain) != 0 {
			t.Errorf("of no jobs the longest chain is %v, %v", chain, ok)
		}
		return 0
	}
	if first := slices.MinFunc(longest, slices.Compare[[]int]); !ok || !slices.Equal(chain, first) {
		t.Errorf("LongestChain(%v, %v) = %v, %v, not %v", jobs, edges, chain, ok, first)
	}
	return len(longest)
}

// checkLengthBound compares the bound with the document, for each number of machines.
func checkLengthBound(t *testing.T, jobs []impl.Job, edges [][2]int, before [][]bool) {
	t.Helper()
	for _, m := range machineNumbers {
		if bound, ok := impl.LengthBound(jobs, m, edges); !ok || bound != lengthBoundByHand(jobs, m, before) {
			t.Errorf("LengthBound(%v, %d, %v) = %d, %v", jobs, m, edges, bound, ok)
		}
	}
}

func TestPromise7Chains(t *testing.T) {
	several := 0
	for _, jobs := range machineJobs() {
		for _, edges := range machineEdges(len(jobs)) {
			before := beforeByHand(len(jobs), edges)
			if checkTails(t, jobs, edges, before) > 1 {
				several++
			}
			checkLengthBound(t, jobs, edges, before)
		}
	}
	for _, jobs := range longMachineJobs() {
		for _, edges := range machineEdges(len(jobs)) {
			before := beforeByHand(len(jobs), edges)
			checkTails(t, jobs, edges, before)
			checkLengthBound(t, jobs, edges, before)
		}
	}
	for _, edges := range everyPrecedence(4) {
		before := beforeByHand(4, edges)
		checkTails(t, timed(2, 1, 1, 2), edges, before)
		checkTails(t, timed(1, 1, 1, 1), edges, before)
		checkLengthBound(t, timed(2, 1, 1, 2), edges, before)
	}
	if several < 100 {
		t.Error("only", several, "times several chains are longest ones")
	}
}

// TestPromise7LengthBounds compares the bound with the shortest plans.
func TestPromise7LengthBounds(t *testing.T) {
	met, above := 0, 0
	eachWork(machineJobs(), func(jobs []impl.Job, edges [][2]int) {
		before := beforeByHand(len(jobs), edges)
		for _, m := range machineNumbers {
			least, _ := leastByHand(jobs, m, before)
			bound, ok := impl.LengthBound(jobs, m, edges)
			if !ok || bound > least {
				t.Errorf("LengthBound(%v, %d, %v) = %d, %v, but a plan has %d", jobs, m, edges, bound, ok, least)
			}
			if bound == least {
				met++
			} else {
				above++
			}
		}
	})
	if met < 100 || above < 20 {
		t.Error("the bound is met by", met, "and not by", above)
	}
}

func TestPromise7KnownChains(t *testing.T) {
	five := timed(1, 2, 3, 3, 1)
	for _, c := range []struct {
		jobs   []impl.Job
		edges  [][2]int
		tails  []int
		chain  []int
		bounds [4]int
	}{
		{nil, nil, nil, nil, [4]int{0, 0, 0, 0}},
		{timed(50), nil, []int{50}, []int{0}, [4]int{50, 50, 50, 50}},
		{timed(3, 3, 2), nil, []int{3, 3, 2}, []int{0}, [4]int{8, 4, 3, 3}},
		{timed(3, 3, 2), [][2]int{{0, 2}}, []int{5, 3, 2}, []int{0, 2}, [4]int{8, 5, 5, 5}},
		{timed(3, 3, 2), [][2]int{{0, 1}, {1, 2}}, []int{8, 5, 2}, []int{0, 1, 2}, [4]int{8, 8, 8, 8}},
		{timed(3, 3, 2), [][2]int{{1, 0}, {2, 1}}, []int{3, 6, 8}, []int{2, 1, 0}, [4]int{8, 8, 8, 8}},
		// a pair that others tell, and a chain that leaves it out
		{timed(3, 3, 2), [][2]int{{0, 1}, {0, 2}, {1, 2}}, []int{8, 5, 2}, []int{0, 1, 2}, [4]int{8, 8, 8, 8}},
		// several chains with the same sum: by their first, and by their second jobs
		{five, [][2]int{{0, 1}, {4, 3}}, []int{3, 2, 3, 3, 4}, []int{4, 3}, [4]int{10, 5, 4, 4}},
		{five, [][2]int{{0, 1}, {1, 4}}, []int{4, 3, 3, 3, 1}, []int{0, 1, 4}, [4]int{10, 5, 4, 4}},
		{five, [][2]int{{0, 2}, {0, 3}}, []int{4, 2, 3, 3, 1}, []int{0, 2}, [4]int{10, 5, 4, 4}},
		{five, [][2]int{{0, 3}, {4, 2}}, []int{4, 2, 3, 3, 4}, []int{0, 3}, [4]int{10, 5, 4, 4}},
		{timed(2, 1, 1, 2), [][2]int{{3, 1}, {3, 2}}, []int{2, 1, 1, 3}, []int{3, 1}, [4]int{6, 3, 3, 3}},
		// a job that all wait for, and one that waits for all
		{timed(2, 1, 3, 1), [][2]int{{0, 1}, {0, 2}, {0, 3}}, []int{5, 1, 3, 1}, []int{0, 2}, [4]int{7, 5, 5, 5}},
		{timed(2, 1, 3, 1), [][2]int{{0, 3}, {1, 3}, {2, 3}}, []int{3, 2, 4, 1}, []int{2, 3}, [4]int{7, 4, 4, 4}},
		{repeated(job(50, 0, 0, 0), 8), chainOf(upTo(8)), []int{400, 350, 300, 250, 200, 150, 100, 50}, upTo(8), [4]int{400, 400, 400, 400}},
		{repeated(job(50, 0, 0, 0), 8), nil, slices.Repeat([]int{50}, 8), []int{0}, [4]int{400, 200, 134, 100}},
		{timed(1, 1, 1, 1, 1), nil, []int{1, 1, 1, 1, 1}, []int{0}, [4]int{5, 3, 2, 2}},
	} {
		tails, one := impl.TailsOf(c.jobs, c.edges)
		chain, two := impl.LongestChain(c.jobs, c.edges)
		if !one || two != (len(c.jobs) > 0) || !slices.Equal(tails, c.tails) || !slices.Equal(chain, c.chain) {
			t.Errorf("%v with %v: %v, %v, %v, %v", c.jobs, c.edges, tails, one, chain, two)
		}
		for i, m := range machineNumbers {
			if bound, ok := impl.LengthBound(c.jobs, m, c.edges); !ok || bound != c.bounds[i] {
				t.Errorf("LengthBound(%v, %d, %v) = %d, %v", c.jobs, m, c.edges, bound, ok)
			}
		}
	}
}

// idleChainByHand goes back from the last job of a plan to the jobs for which it has waited.
func idleChainByHand(before [][]bool, ends []int) []int {
	last := slices.Index(ends, slices.Max(ends))
	chain := []int{last}
	for {
		next := -1
		for i := range before {
			if before[i][chain[0]] && (next < 0 || ends[i] > ends[next]) {
				next = i
			}
		}
		if next < 0 {
			return chain
		}
		chain = slices.Insert(chain, 0, next)
	}
}

// checkIdleChain compares the chain with one made by hand, and with the times at which machines wait.
func checkIdleChain(t *testing.T, jobs []impl.Job, m int, edges [][2]int, before [][]bool, order []int) {
	t.Helper()
	plan := listPlanByHand(jobs, m, before, order)
	ends := planEnds(jobs, plan)
	chain, ok := impl.IdleChain(jobs, m, edges, order)
	if len(jobs) == 0 {
		if ok || len(chain) != 0 {
			t.Errorf("of no jobs the chain is %v, %v", chain, ok)
		}
		return
	}
	if want := idleChainByHand(before, ends); !ok || !slices.Equal(chain, want) {
		t.Errorf("IdleChain(%v, %d, %v, %v) = %v, %v, not %v", jobs, m, edges, order, chain, ok, want)
	}
	for place := 1; place < len(chain); place++ {
		if !before[chain[place-1]][chain[place]] {
			t.Errorf("IdleChain(%v, %d, %v, %v) = %v is no chain", jobs, m, edges, order, chain)
		}
	}
	for time := range greatest(ends) {
		busy, covered := 0, false
		for i, task := range plan {
			if task.Start <= time && time < ends[i] {
				busy++
				covered = covered || slices.Contains(chain, i)
			}
		}
		if busy < m && !covered {
			t.Errorf("IdleChain(%v, %d, %v, %v) = %v, but at %d a machine waits and none of these is done", jobs, m, edges, order, chain, time)
		}
	}
	if length := greatest(ends); m*length > added(timesOf(jobs))+(m-1)*timeOf(jobs, chain) {
		t.Errorf("IdleChain(%v, %d, %v, %v) = %v does not prove the length %d", jobs, m, edges, order, chain, length)
	}
}

func TestPromise7IdleChains(t *testing.T) {
	eachWork(machineJobs(), func(jobs []impl.Job, edges [][2]int) {
		before := beforeByHand(len(jobs), edges)
		for _, m := range machineNumbers {
			orders := allOrders(len(jobs))
			for k := 0; k < len(orders); k += 1 + len(orders)/24 {
				checkIdleChain(t, jobs, m, edges, before, orders[k])
			}
		}
	})
	number := 0
	for _, jobs := range longMachineJobs() {
		for _, edges := range machineEdges(len(jobs)) {
			before := beforeByHand(len(jobs), edges)
			for _, m := range machineNumbers {
				number++
				checkIdleChain(t, jobs, m, edges, before, madeOrder(drawer(number), len(jobs)))
			}
		}
	}
}

func TestPromise7KnownIdleChains(t *testing.T) {
	four := timed(2, 1, 3, 1)
	for _, c := range []struct {
		jobs  []impl.Job
		m     int
		edges [][2]int
		order []int
		want  []int
	}{
		{timed(50), 4, nil, []int{0}, []int{0}},
		{timed(3, 3, 2), 2, [][2]int{{0, 2}}, []int{0, 1, 2}, []int{0, 2}},
		{timed(3, 3, 2), 1, nil, []int{2, 0, 1}, []int{1}},
		// several that end last
		{timed(3, 3, 3), 3, nil, []int{2, 1, 0}, []int{0}},
		{timed(3, 2, 1), 2, nil, []int{2, 1, 0}, []int{0}},
		{timed(2, 2, 4), 2, nil, []int{2, 1, 0}, []int{0}},
		// the one that ends last, of several the least one, and not the longest one
		{four, 3, [][2]int{{0, 3}, {1, 3}, {2, 3}}, []int{0, 1, 2, 3}, []int{2, 3}},
		{timed(2, 2, 1, 1), 3, [][2]int{{0, 3}, {1, 3}, {2, 3}}, []int{2, 1, 0, 3}, []int{0, 3}},
		{timed(3, 1, 1), 2, [][2]int{{0, 2}, {1, 2}}, []int{0, 1, 2}, []int{0, 2}},
		{timed(2, 1, 1, 1), 2, [][2]int{{0, 3}, {2, 3}}, []int{1, 0, 2, 3}, []int{0, 3}},
		{timed(3, 1, 2, 1), 2, [][2]int{{0, 3}, {2, 3}}, []int{0, 1, 2, 3}, []int{0, 3}},
		// a pair that others tell makes no chain shorter
		{timed(1, 2, 3), 2, [][2]int{{0, 1}, {0, 2}, {1, 2}}, []int{0, 1, 2}, []int{0, 1, 2}},
		{timed(1, 2, 3), 2, [][2]int{{1, 0}, {2, 0}, {2, 1}}, []int{0, 1, 2}, []int{2, 1, 0}},
		{repeated(job(50, 0, 0, 0), 8), 4, chainOf(upTo(8)), upTo(8), upTo(8)},
		{repeated(job(50, 0, 0, 0), 8), 4, nil, upTo(8), []int{4}},
	} {
		chain, ok := impl.IdleChain(c.jobs, c.m, c.edges, c.order)
		if !ok || !slices.Equal(chain, c.want) {
			t.Errorf("IdleChain(%v, %d, %v, %v) = %v, %v, not %v", c.jobs, c.m, c.edges, c.order, chain, ok, c.want)
		}
	}
}
