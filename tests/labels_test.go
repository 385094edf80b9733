package tests

import (
	"math"
	"slices"
	"testing"

	"loop.example/g01103/impl"
)

// checkLabels compares the labels, and the plan by them, with ones made by hand, and the plan's length with all plans.
func checkLabels(t *testing.T, n int, edges [][2]int) {
	t.Helper()
	before := beforeByHand(n, edges)
	want := labelsByHand(before)
	if labels, ok := impl.LabelsOf(n, edges); !ok || !slices.Equal(labels, want) {
		t.Errorf("LabelsOf(%d, %v) = %v, %v, not %v", n, edges, labels, ok, want)
	}
	units := repeated(job(1, 0, 0, 0), n)
	plan, ok := impl.LabelPlan(n, edges)
	if wanted := listPlanByHand(units, 2, before, fallingByHand(want)); !ok || !slices.Equal(plan, wanted) {
		t.Errorf("LabelPlan(%d, %v) = %v, %v, not %v", n, edges, plan, ok, wanted)
		return
	}
	if !checkPlan(t, units, 2, edges, before, plan) {
		t.Errorf("LabelPlan(%d, %v) = %v is no plan", n, edges, plan)
	}
	if length, least := greatest(planEnds(units, plan)), unitLengthByHand(2, before); length != least {
		t.Errorf("LabelPlan(%d, %v) has %d, but a plan has %d", n, edges, length, least)
	}
}

func TestPromise7LabelsOfAllPrecedences(t *testing.T) {
	for n := range 5 {
		for _, edges := range everyPrecedence(n) {
			checkLabels(t, n, edges)
		}
	}
}

func TestPromise7LabelsOfManyJobs(t *testing.T) {
	for n := range impl.MaxJobs + 1 {
		for _, edges := range machineEdges(n) {
			checkLabels(t, n, edges)
		}
		for number := range 30 {
			checkLabels(t, n, madeEdges(number+70*n, n, 1+number%6))
		}
	}
}

func TestPromise7KnownLabels(t *testing.T) {
	for _, c := range []struct {
		n     int
		edges [][2]int
		want  []int
	}{
		{0, nil, nil}, {1, nil, []int{1}}, {3, nil, []int{1, 2, 3}},
		{3, [][2]int{{0, 2}, {1, 2}}, []int{2, 3, 1}},
		{3, [][2]int{{0, 1}, {0, 2}}, []int{3, 1, 2}},
		{4, [][2]int{{0, 1}, {1, 2}, {2, 3}}, []int{4, 3, 2, 1}},
		{4, [][2]int{{1, 0}, {2, 1}, {3, 2}}, []int{1, 2, 3, 4}},
		// a pair that others tell makes no follower
		{4, [][2]int{{0, 1}, {0, 2}, {1, 2}}, []int{4, 3, 1, 2}},
		{5, [][2]int{{0, 4}, {1, 3}, {1, 4}, {3, 4}}, []int{3, 5, 1, 4, 2}},
		// the same followers
		{4, [][2]int{{0, 2}, {0, 3}, {1, 2}, {1, 3}}, []int{3, 4, 1, 2}},
		// a list that begins with another one is behind it, and the greatest label decides, not the number of followers
		{4, [][2]int{{0, 2}, {0, 3}, {1, 3}}, []int{4, 3, 1, 2}},
		{5, [][2]int{{0, 2}, {0, 3}, {1, 4}}, []int{4, 5, 1, 2, 3}},
		{5, [][2]int{{0, 4}, {1, 2}, {1, 3}}, []int{5, 4, 1, 2, 3}},
		{5, [][2]int{{0, 2}, {0, 4}, {1, 3}, {1, 4}}, []int{4, 5, 1, 2, 3}},
		{5, [][2]int{{0, 3}, {0, 4}, {1, 2}, {1, 4}}, []int{5, 4, 1, 2, 3}},
	} {
		if labels, ok := impl.LabelsOf(c.n, c.edges); !ok || !slices.Equal(labels, c.want) {
			t.Errorf("LabelsOf(%d, %v) = %v, %v, not %v", c.n, c.edges, labels, ok, c.want)
		}
	}
	for _, c := range []struct {
		n     int
		edges [][2]int
		want  []impl.Task
	}{
		{0, nil, nil}, {1, nil, []impl.Task{task(0, 0, 0)}}, {2, nil, []impl.Task{task(0, 1, 0), task(1, 0, 0)}},
		{3, [][2]int{{0, 2}, {1, 2}}, []impl.Task{task(0, 1, 0), task(1, 0, 0), task(2, 0, 1)}},
		{3, nil, []impl.Task{task(0, 0, 1), task(1, 1, 0), task(2, 0, 0)}},
		{3, [][2]int{{0, 1}, {0, 2}, {1, 2}}, []impl.Task{task(0, 0, 0), task(1, 0, 1), task(2, 0, 2)}},
	} {
		if plan, ok := impl.LabelPlan(c.n, c.edges); !ok || !slices.Equal(plan, c.want) {
			t.Errorf("LabelPlan(%d, %v) = %v, %v, not %v", c.n, c.edges, plan, ok, c.want)
		}
	}
}

func TestPromise7NoLabels(t *testing.T) {
	check := func(n int, edges [][2]int) {
		labels, one := impl.LabelsOf(n, edges)
		plan, two := impl.LabelPlan(n, edges)
		if one || two || len(labels) != 0 || len(plan) != 0 {
			t.Errorf("%d, %.200v: %v, %v", n, edges, labels, plan)
		}
	}
	for _, n := range []int{-1, -8, 9, 10, 64, 1000, math.MinInt, math.MaxInt} {
		check(n, nil)
		check(n, [][2]int{{0, 1}})
	}
	for n := range impl.MaxJobs + 1 {
		for _, edges := range noEdges(n) {
			check(n, edges)
		}
	}
}
