package tests

import (
	"slices"
	"testing"

	"loop.example/g01103/impl"
)

// checkListPlan compares the list plan for an order with one made by hand, and with the guarantee, and returns its length.
func checkListPlan(t *testing.T, jobs []impl.Job, m int, edges [][2]int, before [][]bool, order []int) int {
	t.Helper()
	plan, ok := impl.ListPlan(jobs, m, edges, order)
	if want := listPlanByHand(jobs, m, before, order); !ok || !slices.Equal(plan, want) {
		t.Errorf("ListPlan(%v, %d, %v, %v) = %v, %v, not %v", jobs, m, edges, order, plan, ok, want)
	}
	if !checkPlan(t, jobs, m, edges, before, plan) {
		t.Errorf("ListPlan(%v, %d, %v, %v) = %v is no plan", jobs, m, edges, order, plan)
	}
	length := greatest(planEnds(jobs, plan))
	// By what IdleChain proves, the machines wait for no longer than m - 1 times the time of a chain.
	if chain := greatest(tailsByHand(jobs, before)); m*length > added(timesOf(jobs))+(m-1)*chain {
		t.Errorf("ListPlan(%v, %d, %v, %v) has %d, but a chain only %d", jobs, m, edges, order, length, chain)
	}
	return length
}

func TestPromise7ListPlans(t *testing.T) {
	tight, above := 0, 0
	eachWork(machineJobs(), func(jobs []impl.Job, edges [][2]int) {
		before := beforeByHand(len(jobs), edges)
		for _, m := range machineNumbers {
			least, _ := leastByHand(jobs, m, before)
			orders := allOrders(len(jobs))
			for k := 0; k < len(orders); k += 1 + len(orders)/24 {
				length := checkListPlan(t, jobs, m, edges, before, orders[k])
				if m*length > (2*m-1)*least {
					t.Errorf("ListPlan(%v, %d, %v, %v) has %d, but a plan has %d", jobs, m, edges, orders[k], length, least)
				}
				if length > least {
					above++
				}
				if m > 1 && length > 0 && m*length == (2*m-1)*least {
					tight++
				}
			}
		}
	})
	if above < 500 || tight == 0 {
		t.Error(above, "list plans are longer than others,", tight, "by the greatest factor")
	}
}

func TestPromise7ListPlansOfManyJobs(t *testing.T) {
	number := 0
	eachWork(longMachineJobs(), func(jobs []impl.Job, edges [][2]int) {
		before := beforeByHand(len(jobs), edges)
		for _, m := range machineNumbers {
			for range 10 {
				number++
				checkListPlan(t, jobs, m, edges, before, madeOrder(drawer(number), len(jobs)))
			}
		}
	})
	// Without precedence the least length is the least load, and with the Time 1 each plan goes on by steps.
	for _, jobs := range longMachineJobs() {
		for _, m := range machineNumbers {
			least := leastLoadByHand(jobs, m)
			for k := range 10 {
				length := checkListPlan(t, jobs, m, nil, beforeByHand(len(jobs), nil), madeOrder(drawer(k), len(jobs)))
				if m*length > (2*m-1)*least {
					t.Errorf("a list plan of %v on %d machines has %d, but a plan has %d", jobs, m, length, least)
				}
			}
		}
	}
	units := repeated(job(1, 0, 0, 0), 8)
	for _, edges := range machineEdges(8) {
		before := beforeByHand(8, edges)
		for _, m := range machineNumbers {
			least := unitLengthByHand(m, before)
			for k := range 10 {
				if length := checkListPlan(t, units, m, edges, before, madeOrder(drawer(k), 8)); m*length > (2*m-1)*least {
					t.Errorf("a list plan of 8 jobs with %v on %d machines has %d, but a plan has %d", edges, m, length, least)
				}
			}
		}
	}
}

func TestPromise7KnownListPlans(t *testing.T) {
	three := timed(3, 3, 2)
	star, sink := [][2]int{{0, 1}, {0, 2}, {0, 3}}, [][2]int{{0, 3}, {1, 3}, {2, 3}}
	for _, c := range []struct {
		jobs  []impl.Job
		m     int
		edges [][2]int
		order []int
		want  []impl.Task
	}{
		{nil, 1, nil, nil, nil},
		{nil, 4, [][2]int{}, []int{}, nil},
		{timed(50), 4, nil, []int{0}, []impl.Task{task(0, 0, 0)}},
		{three, 1, nil, []int{2, 0, 1}, []impl.Task{task(0, 0, 2), task(1, 0, 5), task(2, 0, 0)}},
		{three, 2, nil, []int{0, 1, 2}, []impl.Task{task(0, 0, 0), task(1, 1, 0), task(2, 0, 3)}},
		{three, 2, nil, []int{2, 1, 0}, []impl.Task{task(0, 0, 2), task(1, 1, 0), task(2, 0, 0)}},
		// as many machines as jobs, and more
		{three, 3, nil, []int{1, 2, 0}, []impl.Task{task(0, 2, 0), task(1, 0, 0), task(2, 1, 0)}},
		{three, 4, nil, []int{1, 2, 0}, []impl.Task{task(0, 2, 0), task(1, 0, 0), task(2, 1, 0)}},
		// one chain, in its order and against it
		{three, 2, [][2]int{{0, 1}, {1, 2}}, []int{0, 1, 2}, []impl.Task{task(0, 0, 0), task(1, 0, 3), task(2, 0, 6)}},
		{three, 4, [][2]int{{0, 1}, {1, 2}}, []int{2, 1, 0}, []impl.Task{task(0, 0, 0), task(1, 0, 3), task(2, 0, 6)}},
		// a machine waits for the job before, and is then not the first one that is free
		{three, 2, [][2]int{{0, 2}}, []int{2, 0, 1}, []impl.Task{task(0, 0, 0), task(1, 1, 0), task(2, 0, 3)}},
		{timed(2, 3, 1), 2, [][2]int{{1, 2}}, []int{0, 1, 2}, []impl.Task{task(0, 0, 0), task(1, 1, 0), task(2, 0, 3)}},
		// jobs that all wait for one, and one that waits for all others
		{timed(2, 1, 3, 1), 3, star, []int{3, 2, 1, 0}, []impl.Task{task(0, 0, 0), task(1, 2, 2), task(2, 1, 2), task(3, 0, 2)}},
		{timed(2, 1, 3, 1), 2, star, []int{1, 2, 0, 3}, []impl.Task{task(0, 0, 0), task(1, 0, 2), task(2, 1, 2), task(3, 0, 3)}},
		{timed(2, 1, 3, 1), 3, sink, []int{3, 2, 1, 0}, []impl.Task{task(0, 2, 0), task(1, 1, 0), task(2, 0, 0), task(3, 0, 3)}},
		{timed(2, 1, 3, 1), 4, sink, []int{3, 2, 1, 0}, []impl.Task{task(0, 2, 0), task(1, 1, 0), task(2, 0, 0), task(3, 0, 3)}},
		// a pair that others tell changes nothing
		{timed(1, 1, 1), 3, [][2]int{{0, 1}, {0, 2}, {1, 2}}, []int{2, 0, 1}, []impl.Task{task(0, 0, 0), task(1, 0, 1), task(2, 0, 2)}},
		// a later one of the order starts ahead of one that waits
		{timed(4, 1, 5), 2, [][2]int{{0, 1}}, []int{0, 1, 2}, []impl.Task{task(0, 0, 0), task(1, 0, 4), task(2, 1, 0)}},
		// machines that become free at the same time
		{timed(2, 2, 1, 1), 2, nil, []int{1, 0, 3, 2}, []impl.Task{task(0, 1, 0), task(1, 0, 0), task(2, 1, 2), task(3, 0, 2)}},
		{repeated(job(50, 0, 0, 0), 8), 1, nil, []int{7, 6, 5, 4, 3, 2, 1, 0}, []impl.Task{task(0, 0, 350), task(1, 0, 300), task(2, 0, 250), task(3, 0, 200), task(4, 0, 150), task(5, 0, 100), task(6, 0, 50), task(7, 0, 0)}},
	} {
		before := beforeByHand(len(c.jobs), c.edges)
		if !slices.Equal(listPlanByHand(c.jobs, c.m, before, c.order), c.want) {
			t.Errorf("the test is wrong about %v", c)
		}
		checkListPlan(t, c.jobs, c.m, c.edges, before, c.order)
	}
}

// TestPromise7TightListPlans has list plans that are longer than others by just the factor of the guarantee.
func TestPromise7TightListPlans(t *testing.T) {
	for _, c := range []struct {
		jobs []impl.Job
		m    int
		want int
	}{
		{timed(2, 5), 1, 7}, {timed(1, 1, 2), 2, 3}, {timed(50, 50, 50), 2, 100}, {timed(1, 1, 1, 1, 1, 1, 3), 3, 5}, {timed(8, 8, 8, 8, 8, 8, 24), 3, 40},
	} {
		length := checkListPlan(t, c.jobs, c.m, nil, beforeByHand(len(c.jobs), nil), upTo(len(c.jobs)))
		least := leastLoadByHand(c.jobs, c.m)
		if load, ok := impl.LeastLoad(c.jobs, c.m); !ok || load != least || length != c.want || length*c.m > (2*c.m-1)*load {
			t.Errorf("the list plan of %v on %d machines has %d, the least load is %d, %v", c.jobs, c.m, length, load, ok)
		}
	}
}

func TestPromise7LongestFirst(t *testing.T) {
	longer := 0
	for _, jobs := range append(machineJobs(), longMachineJobs()...) {
		before := beforeByHand(len(jobs), nil)
		for _, m := range machineNumbers {
			plan, ok := impl.LongestFirst(jobs, m)
			if want := listPlanByHand(jobs, m, before, fallingByHand(timesOf(jobs))); !ok || !slices.Equal(plan, want) {
				t.Errorf("LongestFirst(%v, %d) = %v, %v, not %v", jobs, m, plan, ok, want)
				continue
			}
			length, least := greatest(planEnds(jobs, plan)), leastLoadByHand(jobs, m)
			if 3*m*length > (4*m-1)*least {
				t.Errorf("LongestFirst(%v, %d) has %d, but a plan has %d", jobs, m, length, least)
			}
			if length > least {
				longer++
			}
		}
	}
	if longer < 5 {
		t.Error("only", longer, "of LongestFirst are longer than others")
	}
	for _, c := range []struct {
		jobs  []impl.Job
		m     int
		want  []impl.Task
		least int
	}{
		// the factors 7/6 and 11/9
		{timed(3, 3, 2, 2, 2), 2, []impl.Task{task(0, 0, 0), task(1, 1, 0), task(2, 0, 3), task(3, 1, 3), task(4, 0, 5)}, 6},
		{timed(3, 5, 4, 3, 5, 3, 4), 3, []impl.Task{task(0, 0, 5), task(1, 0, 0), task(2, 2, 0), task(3, 1, 5), task(4, 1, 0), task(5, 0, 8), task(6, 2, 4)}, 9},
		{timed(2, 3, 2, 3), 1, []impl.Task{task(0, 0, 6), task(1, 0, 0), task(2, 0, 8), task(3, 0, 3)}, 10},
		{timed(2, 3), 4, []impl.Task{task(0, 1, 0), task(1, 0, 0)}, 3},
	} {
		plan, ok := impl.LongestFirst(c.jobs, c.m)
		load, fine := impl.LeastLoad(c.jobs, c.m)
		if !ok || !fine || !slices.Equal(plan, c.want) || load != c.least {
			t.Errorf("LongestFirst(%v, %d) = %v, %v; LeastLoad is %d", c.jobs, c.m, plan, ok, load)
		}
	}
}

// checkTailsFirst compares the plan by tails with one made by hand, and returns its length.
func checkTailsFirst(t *testing.T, jobs []impl.Job, m int, edges [][2]int, before [][]bool) int {
	t.Helper()
	plan, ok := impl.TailsFirst(jobs, m, edges)
	want := listPlanByHand(jobs, m, before, fallingByHand(tailsByHand(jobs, before)))
	if !ok || !slices.Equal(plan, want) {
		t.Errorf("TailsFirst(%v, %d, %v) = %v, %v, not %v", jobs, m, edges, plan, ok, want)
	}
	return greatest(planEnds(jobs, plan))
}

func TestPromise7TailsFirst(t *testing.T) {
	eachWork(append(machineJobs(), longMachineJobs()...), func(jobs []impl.Job, edges [][2]int) {
		for _, m := range machineNumbers {
			checkTailsFirst(t, jobs, m, edges, beforeByHand(len(jobs), edges))
		}
	})
	jobs := timed(1, 2, 3, 3, 1)
	plan, ok := impl.TailsFirst(jobs, 2, [][2]int{{0, 1}, {1, 4}})
	// the tails are 4, 3, 3, 3 and 1
	if want := []impl.Task{task(0, 0, 0), task(1, 0, 1), task(2, 1, 0), task(3, 0, 3), task(4, 1, 3)}; !ok || !slices.Equal(plan, want) {
		t.Errorf("TailsFirst(%v) = %v, %v", jobs, plan, ok)
	}
}

// hasOneFollower tells whether each job has at most one follower.
func hasOneFollower(before [][]bool) bool {
	return !slices.ContainsFunc(upTo(len(before)), func(i int) bool { return len(followersByHand(before, i)) > 1 })
}

// drawnForest is a precedence of n jobs each of which has at most one follower.
func drawnForest(number, n int) [][2]int {
	next := drawer(number)
	edges, order := [][2]int{}, madeOrder(next, n)
	for place := 0; place+1 < n; place++ {
		if next(6) > 0 {
			edges = append(edges, [2]int{order[place], order[place+1+next(n-place-1)]})
		}
	}
	slices.SortFunc(edges, comparePairs)
	return edges
}

// TestPromise7TailsOfUnits compares the plans by tails of jobs with the Time 1 and with one follower each with all plans.
func TestPromise7TailsOfUnits(t *testing.T) {
	lists, forests := everyPrecedence(4), 0
	for number := range 100 {
		lists = append(lists, drawnForest(number, 5+number%4))
	}
	for k, edges := range lists {
		n := 4
		if k >= len(lists)-100 {
			n = 5 + (k-len(lists)+100)%4
		}
		before := beforeByHand(n, edges)
		for _, m := range machineNumbers {
			length := checkTailsFirst(t, repeated(job(1, 0, 0, 0), n), m, edges, before)
			if !hasOneFollower(before) {
				continue
			}
			forests++
			if least := unitLengthByHand(m, before); length != least {
				t.Errorf("TailsFirst of %d jobs with %v on %d machines has %d, but a plan has %d", n, edges, m, length, least)
			}
		}
	}
	if forests < 500 {
		t.Error("only", forests, "precedences have one follower each")
	}
}

// checkBestListPlan compares the best list plan with those for all orders, and returns its length.
func checkBestListPlan(t *testing.T, jobs []impl.Job, m int, edges [][2]int, before [][]bool) int {
	t.Helper()
	want, least := []impl.Task{}, -1
	for _, order := range allOrders(len(jobs)) {
		plan := listPlanByHand(jobs, m, before, order)
		if length := greatest(planEnds(jobs, plan)); least < 0 || length < least {
			want, least = plan, length
		}
	}
	plan, ok := impl.BestListPlan(jobs, m, edges)
	if !ok || !slices.Equal(plan, want) {
		t.Errorf("BestListPlan(%v, %d, %v) = %v, %v, not %v", jobs, m, edges, plan, ok, want)
	}
	return least
}

func TestPromise7BestListPlans(t *testing.T) {
	later := 0
	eachWork(machineJobs(), func(jobs []impl.Job, edges [][2]int) {
		before := beforeByHand(len(jobs), edges)
		for _, m := range machineNumbers {
			length := checkBestListPlan(t, jobs, m, edges, before)
			if greatest(timesOf(jobs)) > 1 {
				continue
			}
			if least := unitLengthByHand(m, before); length != least {
				t.Errorf("BestListPlan(%v, %d, %v) has %d, but a plan has %d", jobs, m, edges, length, least)
			}
		}
		for _, m := range machineNumbers {
			none := beforeByHand(len(jobs), nil)
			length, first := checkBestListPlan(t, jobs, m, nil, none), lengthByHand(jobs, m, none, upTo(len(jobs)))
			if least, _ := leastByHand(jobs, m, none); length != least {
				t.Errorf("BestListPlan(%v, %d) has %d, but a plan has %d", jobs, m, length, least)
			}
			if length < first {
				later++
			}
		}
	})
	if later < 20 {
		t.Error("in only", later, "lists the first order is not best")
	}
}

func TestPromise7BestListPlansOfSixJobs(t *testing.T) {
	for number, jobs := range [][]impl.Job{madeJobs(71, 6, 9, 0, 0, 0), timed(5, 5, 4, 4, 3, 3), repeated(job(1, 0, 0, 0), 6), repeated(job(50, 50, 0, 500), 6)} {
		edges := machineEdges(6)
		for k := range 4 {
			some := edges[(4*number+k)%len(edges)]
			checkBestListPlan(t, jobs, 1+k, some, beforeByHand(6, some))
			length := checkBestListPlan(t, jobs, 1+k, nil, beforeByHand(6, nil))
			if least := leastLoadByHand(jobs, 1+k); length != least {
				t.Errorf("BestListPlan(%v, %d) has %d, but a plan has %d", jobs, 1+k, length, least)
			}
		}
	}
	for n := 7; n <= 8; n++ {
		for _, m := range machineNumbers {
			for _, edges := range [][][2]int{nil, chainOf(upTo(n))} {
				if plan, ok := impl.BestListPlan(repeated(job(1, 0, 0, 0), n), m, edges); ok || len(plan) != 0 {
					t.Errorf("BestListPlan of %d jobs on %d machines = %v, %v", n, m, plan, ok)
				}
			}
		}
	}
}

// TestPromise7TotalEnds compares the sum of all ends with all plans.
func TestPromise7TotalEnds(t *testing.T) {
	for _, jobs := range machineJobs() {
		before := beforeByHand(len(jobs), nil)
		for _, m := range machineNumbers {
			_, least := leastByHand(jobs, m, before)
			if total, ok := impl.TotalEnd(jobs, m); !ok || total != least {
				t.Errorf("TotalEnd(%v, %d) = %d, %v, not %d", jobs, m, total, ok, least)
			}
		}
	}
	for _, jobs := range longMachineJobs() {
		rising := fallingByHand(timesOf(jobs))
		slices.Reverse(rising)
		for _, m := range machineNumbers {
			want := added(planEnds(jobs, listPlanByHand(jobs, m, beforeByHand(len(jobs), nil), rising)))
			if total, ok := impl.TotalEnd(jobs, m); !ok || total != want {
				t.Errorf("TotalEnd(%v, %d) = %d, %v, not %d", jobs, m, total, ok, want)
			}
		}
	}
	for _, c := range []struct {
		jobs    []impl.Job
		m, want int
	}{
		{nil, 1, 0}, {nil, 4, 0}, {timed(50), 4, 50}, {timed(3, 3, 2), 1, 15}, {timed(3, 3, 2), 2, 10}, {timed(3, 3, 2), 3, 8}, {timed(3, 3, 2), 4, 8},
		{repeated(job(50, 0, 0, 0), 8), 1, 1800}, {repeated(job(50, 0, 0, 0), 8), 4, 600},
	} {
		if total, ok := impl.TotalEnd(c.jobs, c.m); !ok || total != c.want {
			t.Errorf("TotalEnd(%v, %d) = %d, %v, not %d", c.jobs, c.m, total, ok, c.want)
		}
	}
}
