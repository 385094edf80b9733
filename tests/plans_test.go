package tests

import (
	"math"
	"slices"
	"testing"

	"loop.example/g01103/impl"
)

// checkPlan compares whether Tasks are a plan, and its length, with the document, and returns whether they are one.
func checkPlan(t *testing.T, jobs []impl.Job, m int, edges [][2]int, before [][]bool, plan []impl.Task) bool {
	t.Helper()
	want := isPlanByHand(jobs, m, before, plan)
	if is, ok := impl.IsPlan(jobs, m, edges, plan); !ok || is != want {
		t.Errorf("IsPlan(%v, %d, %v, %.200v) = %v, %v", jobs, m, edges, plan, is, ok)
	}
	length := 0
	if want {
		length = greatest(planEnds(jobs, plan))
	}
	if got, ok := impl.PlanLength(jobs, m, edges, plan); ok != want || got != length {
		t.Errorf("PlanLength(%v, %d, %v, %.200v) = %d, %v", jobs, m, edges, plan, got, ok)
	}
	return want
}

// everyTasks calls a check with all lists of n Tasks, in ascending order of the jobs, on the machines -1..m and with the starts -1..latest.
func everyTasks(n, m, latest int, check func(plan []impl.Task)) {
	plan := make([]impl.Task, 0, n)
	var extend func()
	extend = func() {
		if len(plan) == n {
			check(plan)
			return
		}
		for machine := -1; machine <= m; machine++ {
			for start := -1; start <= latest; start++ {
				plan = append(plan, task(len(plan), machine, start))
				extend()
				plan = plan[:len(plan)-1]
			}
		}
	}
	extend()
}

func TestPromise7EachPlanOfFewJobs(t *testing.T) {
	for _, c := range []struct {
		jobs   []impl.Job
		m      int
		latest int
		edges  [][][2]int
	}{
		{nil, 1, 0, [][][2]int{nil}},
		{nil, 4, 0, [][][2]int{nil}},
		{timed(2), 1, 3, [][][2]int{nil}},
		{timed(1), 4, 3, [][][2]int{nil}},
		{timed(2, 1), 1, 5, everyPrecedence(2)},
		{timed(2, 3), 2, 5, everyPrecedence(2)},
		{timed(1, 2), 4, 3, everyPrecedence(2)},
		{timed(1, 2, 1), 1, 4, [][][2]int{nil, {{0, 1}}, {{2, 0}}, {{1, 0}, {2, 1}}, {{0, 1}, {1, 2}}, {{0, 2}, {1, 2}}}},
		{timed(2, 1, 2), 2, 3, [][][2]int{nil, {{1, 2}}, {{1, 0}, {1, 2}}, {{0, 2}, {1, 2}}}},
	} {
		plans := 0
		least := math.MaxInt
		for _, edges := range c.edges {
			before := beforeByHand(len(c.jobs), edges)
			least = math.MaxInt
			everyTasks(len(c.jobs), c.m, c.latest, func(plan []impl.Task) {
				if checkPlan(t, c.jobs, c.m, edges, before, plan) {
					plans++
					least = min(least, greatest(planEnds(c.jobs, plan)))
				}
			})
			// The plans that later tests compare with have the same least length.
			if length, _ := leastByHand(c.jobs, c.m, before); length != least {
				t.Errorf("%v on %d machines with %v: the shortest plan has %d, not %d", c.jobs, c.m, edges, least, length)
			}
			if bound, ok := impl.LengthBound(c.jobs, c.m, edges); !ok || bound > least {
				t.Errorf("LengthBound(%v, %d, %v) = %d, %v, but a plan has %d", c.jobs, c.m, edges, bound, ok, least)
			}
		}
		if plans == 0 {
			t.Errorf("%v on %d machines have no plans", c.jobs, c.m)
		}
	}
}

func TestPromise7KnownPlans(t *testing.T) {
	three := timed(3, 3, 2)
	one, follow := [][2]int{{0, 2}}, [][2]int{{0, 1}, {1, 2}}
	for _, c := range []struct {
		jobs  []impl.Job
		m     int
		edges [][2]int
		plan  []impl.Task
		want  bool
	}{
		{nil, 1, nil, nil, true},
		{nil, 4, nil, []impl.Task{}, true},
		{nil, 4, nil, []impl.Task{task(0, 0, 0)}, false},
		{timed(50), 1, nil, []impl.Task{task(0, 0, 500)}, true},
		{timed(1), 1, nil, []impl.Task{task(0, 0, 501)}, false},
		{timed(1), 1, nil, []impl.Task{task(0, 0, -1)}, false},
		{timed(1), 4, nil, []impl.Task{task(0, 3, 0)}, true},
		{timed(1), 4, nil, []impl.Task{task(0, 4, 0)}, false},
		{timed(1), 3, nil, []impl.Task{task(0, 3, 0)}, false},
		{timed(1), 4, nil, []impl.Task{task(0, -1, 0)}, false},
		{timed(1), 1, nil, nil, false},
		{timed(1), 1, nil, []impl.Task{task(1, 0, 0)}, false},
		{timed(1), 1, nil, []impl.Task{task(-1, 0, 0)}, false},
		{timed(1), 1, nil, []impl.Task{task(0, 0, 0), task(0, 0, 1)}, false},
		{timed(1), 1, nil, []impl.Task{task(0, 0, 0), task(1, 0, 1)}, false},
		{timed(1), 1, nil, []impl.Task{task(math.MaxInt, math.MaxInt, math.MaxInt)}, false},
		{timed(1), 1, nil, []impl.Task{task(0, 0, math.MaxInt)}, false},
		{timed(1), 1, nil, []impl.Task{task(0, 0, math.MinInt)}, false},
		{timed(1), 1, nil, []impl.Task{task(0, math.MinInt, 0)}, false},
		// on three machines at the same time, and two of them on one
		{three, 3, nil, []impl.Task{task(0, 0, 0), task(1, 1, 0), task(2, 2, 0)}, true},
		{three, 3, nil, []impl.Task{task(0, 2, 0), task(1, 0, 0), task(2, 1, 0)}, true},
		{three, 3, nil, []impl.Task{task(0, 0, 0), task(1, 0, 0), task(2, 2, 0)}, false},
		// in another order, too few and too many
		{three, 3, nil, []impl.Task{task(1, 1, 0), task(0, 0, 0), task(2, 2, 0)}, false},
		{three, 3, nil, []impl.Task{task(0, 0, 0), task(2, 2, 0), task(1, 1, 0)}, false},
		{three, 3, nil, []impl.Task{task(0, 0, 0), task(1, 1, 0)}, false},
		{three, 3, nil, []impl.Task{task(0, 0, 0), task(1, 1, 0), task(2, 2, 0), task(2, 2, 9)}, false},
		{three, 3, nil, []impl.Task{task(0, 0, 0), task(1, 1, 0), task(2, 2, 0), task(3, 0, 9)}, false},
		{three, 3, nil, []impl.Task{task(0, 0, 0), task(0, 1, 0), task(2, 2, 0)}, false},
		// just when the one ahead on the machine ends, and one earlier
		{three, 2, nil, []impl.Task{task(0, 0, 0), task(1, 1, 0), task(2, 1, 3)}, true},
		{three, 2, nil, []impl.Task{task(0, 0, 0), task(1, 1, 0), task(2, 1, 2)}, false},
		{three, 2, nil, []impl.Task{task(0, 0, 0), task(1, 1, 2), task(2, 1, 0)}, true},
		{three, 2, nil, []impl.Task{task(0, 0, 0), task(1, 1, 1), task(2, 1, 0)}, false},
		{three, 2, nil, []impl.Task{task(0, 0, 0), task(1, 1, 4), task(2, 1, 5)}, false},
		// just when the one before ends, on the same machine and on another one, and one earlier
		{three, 2, one, []impl.Task{task(0, 0, 0), task(1, 1, 0), task(2, 0, 3)}, true},
		{three, 2, one, []impl.Task{task(0, 0, 0), task(1, 1, 0), task(2, 1, 3)}, true},
		{three, 3, one, []impl.Task{task(0, 0, 0), task(1, 1, 0), task(2, 2, 3)}, true},
		{three, 3, one, []impl.Task{task(0, 0, 0), task(1, 1, 0), task(2, 2, 2)}, false},
		{three, 3, one, []impl.Task{task(0, 0, 9), task(1, 1, 0), task(2, 2, 0)}, false},
		{three, 3, [][2]int{{2, 0}}, []impl.Task{task(0, 0, 2), task(1, 1, 0), task(2, 2, 0)}, true},
		{three, 3, [][2]int{{2, 0}}, []impl.Task{task(0, 0, 1), task(1, 1, 0), task(2, 2, 0)}, false},
		// a chain that jumps over the machines, and one whose last job only waits for the first one
		{three, 2, follow, []impl.Task{task(0, 0, 0), task(1, 1, 3), task(2, 0, 6)}, true},
		{three, 2, follow, []impl.Task{task(0, 0, 0), task(1, 1, 3), task(2, 0, 5)}, false},
		{three, 3, follow, []impl.Task{task(0, 0, 0), task(1, 1, 3), task(2, 2, 3)}, false},
		{three, 1, nil, []impl.Task{task(0, 0, 494), task(1, 0, 497), task(2, 0, 500)}, true},
		{three, 1, nil, []impl.Task{task(0, 0, 495), task(1, 0, 498), task(2, 0, 501)}, false},
	} {
		if isPlanByHand(c.jobs, c.m, beforeByHand(len(c.jobs), c.edges), c.plan) != c.want {
			t.Errorf("the test is wrong about %v", c)
		}
		checkPlan(t, c.jobs, c.m, c.edges, beforeByHand(len(c.jobs), c.edges), c.plan)
	}
}

// drawnPlan is a plan that follows from drawn numbers; most of the machines wait now and then.
func drawnPlan(next func(below int) int, jobs []impl.Job, m int, before [][]bool) []impl.Task {
	plan, free, placed := make([]impl.Task, len(jobs)), make([]int, m), make([]bool, len(jobs))
	for count := 0; count < len(jobs); {
		i := next(len(jobs))
		start := 0
		waits := placed[i]
		for j := range jobs {
			waits = waits || before[j][i] && !placed[j]
			if before[j][i] {
				start = max(start, plan[j].Start+jobs[j].Time)
			}
		}
		if waits {
			continue
		}
		machine := next(m)
		start = max(start, free[machine]) + max(0, next(5)-2)
		plan[i], placed[i], free[machine] = task(i, machine, start), true, start+jobs[i].Time
		count++
	}
	return plan
}

// TestPromise7DrawnPlans checks plans, and lists of Tasks that differ from a plan in one number.
func TestPromise7DrawnPlans(t *testing.T) {
	valid, count := 0, 0
	eachWork(append(machineJobs(), longMachineJobs()...), func(jobs []impl.Job, edges [][2]int) {
		before := beforeByHand(len(jobs), edges)
		for m := 1; m <= 4; m++ {
			next := drawer(count)
			plan := drawnPlan(next, jobs, m, before)
			if !checkPlan(t, jobs, m, edges, before, plan) {
				t.Errorf("the test has made no plan: %v, %d, %v, %v", jobs, m, edges, plan)
			}
			for i := range plan {
				for _, change := range []impl.Task{task(0, 0, 1), task(0, 0, -1), task(0, 1, 0), task(0, -1, 0), task(1, 0, 0), task(-1, 0, 0), task(0, 0, -9), task(0, 0, 9), task(0, 0, 500)} {
					other := slices.Clone(plan)
					other[i].Job += change.Job
					other[i].Machine += change.Machine
					other[i].Start += change.Start
					if checkPlan(t, jobs, m, edges, before, other) {
						valid++
					}
					count++
				}
				if i > 0 {
					other := slices.Clone(plan)
					other[i-1], other[i] = other[i], other[i-1]
					checkPlan(t, jobs, m, edges, before, other)
				}
			}
		}
	})
	if valid < 500 || count-valid < 500 {
		t.Error(valid, "plans of", count)
	}
}

func TestPromise7NoPlansOfInvalidArguments(t *testing.T) {
	check := func(jobs []impl.Job, m int, edges [][2]int) {
		t.Helper()
		n := min(len(jobs), 9)
		plan := []impl.Task{}
		for i := range n {
			plan = append(plan, task(i, 0, 50*i))
		}
		for _, list := range [][]impl.Task{nil, plan} {
			is, one := impl.IsPlan(jobs, m, edges, list)
			length, two := impl.PlanLength(jobs, m, edges, list)
			if one || two || is || length != 0 {
				t.Errorf("%.200v on %d machines with %.200v: %v, %d", jobs, m, edges, is, length)
			}
		}
	}
	for _, jobs := range notPlain() {
		check(jobs, 2, nil)
	}
	for _, jobs := range [][]impl.Job{nil, timed(1), timed(3, 3, 2), longMachineJobs()[0]} {
		for _, m := range noMachineNumbers() {
			check(jobs, m, nil)
		}
		for _, edges := range noEdges(len(jobs)) {
			check(jobs, 3, edges)
		}
	}
}
