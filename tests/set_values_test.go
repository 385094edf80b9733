package tests

import (
	"slices"
	"testing"

	"loop.example/g01103/impl"
)

// setOrderByHand finds an order from its end by the values of all sets, as the document describes it.
func setOrderByHand(jobs []impl.Job, values []int, objective int) []int {
	order := []int{}
	for left := upTo(len(jobs)); len(left) > 0; {
		end := timeOf(jobs, left)
		place := slices.IndexFunc(left, func(i int) bool {
			adds := valueOfEndsByHand(jobs[i:i+1], []int{end}, objective)
			return values[maskOf(left)&^(1<<i)]+adds == values[maskOf(left)]
		})
		order = slices.Insert(order, 0, left[place])
		left = slices.Delete(left, place, place+1)
	}
	return order
}

// checkSetValues compares the table over sets, and the order found by it, with all orders of each set.
func checkSetValues(t *testing.T, jobs []impl.Job, objective int) {
	t.Helper()
	want := setValuesByHand(jobs, objective)
	values, ok := impl.SetValues(jobs, objective)
	if !ok || !slices.Equal(values, want) {
		t.Errorf("SetValues(%v, %d) = %v, %v, not %v", jobs, objective, values, ok, want)
		return
	}
	order, ok := impl.SetOrder(jobs, objective)
	if wanted := setOrderByHand(jobs, want, objective); !ok || !slices.Equal(order, wanted) {
		t.Errorf("SetOrder(%v, %d) = %v, %v, not %v", jobs, objective, order, ok, wanted)
		return
	}
	// The list of all jobs is one of the sets, so its value is that of the best ones of all orders.
	if value := valueByHand(jobs, order, objective); value != want[len(want)-1] {
		t.Errorf("SetOrder(%v, %d) = %v has the value %d, not %d", jobs, objective, order, value, want[len(want)-1])
	}
}

func TestPromise6SetValues(t *testing.T) {
	for _, jobs := range datedJobs() {
		for _, objective := range sumObjectives {
			checkSetValues(t, jobs, objective)
		}
	}
}

func TestPromise6SetValuesOfManyJobs(t *testing.T) {
	for _, jobs := range longDatedJobs() {
		for _, objective := range sumObjectives {
			checkSetValues(t, jobs, objective)
		}
	}
}

func TestPromise6KnownSetValues(t *testing.T) {
	three := []impl.Job{job(3, 2, 0, 4), job(2, 1, 0, 3), job(1, 3, 0, 6)}
	zero := []impl.Job{job(2, 0, 0, 0), job(1, 4, 0, 0)}
	for _, c := range []struct {
		jobs      []impl.Job
		objective int
		values    []int
		order     []int
	}{
		{nil, impl.ObjSum, []int{0}, nil},
		{nil, impl.ObjLateWeight, []int{0}, nil},
		{[]impl.Job{job(50, 50, 0, 0)}, impl.ObjWeightedTardiness, []int{0, 2500}, []int{0}},
		{[]impl.Job{job(50, 50, 0, 50)}, impl.ObjWeightedTardiness, []int{0, 0}, []int{0}},
		{three, impl.ObjSum, []int{0, 3, 2, 7, 1, 5, 4, 10}, []int{2, 1, 0}},
		{three, impl.ObjWeighted, []int{0, 6, 2, 11, 3, 11, 6, 17}, []int{2, 0, 1}},
		{three, impl.ObjTardiness, []int{0, 0, 0, 1, 0, 0, 0, 1}, []int{1, 0, 2}},
		{three, impl.ObjWeightedTardiness, []int{0, 0, 0, 2, 0, 0, 0, 2}, []int{1, 0, 2}},
		// one of two jobs is late; of the best orders, the one with the least last job is found
		{three, impl.ObjLate, []int{0, 0, 0, 1, 0, 0, 0, 1}, []int{2, 1, 0}},
		{three, impl.ObjLateWeight, []int{0, 0, 0, 1, 0, 0, 0, 1}, []int{2, 0, 1}},
		{zero, impl.ObjTardiness, []int{0, 2, 1, 4}, []int{1, 0}},
		{zero, impl.ObjWeightedTardiness, []int{0, 0, 4, 4}, []int{1, 0}},
		{zero, impl.ObjLate, []int{0, 1, 1, 2}, []int{1, 0}},
		{zero, impl.ObjLateWeight, []int{0, 0, 4, 4}, []int{1, 0}},
		// jobs that are equal end in descending order
		{repeated(job(1, 1, 0, 500), 3), impl.ObjSum, []int{0, 1, 1, 3, 1, 3, 3, 6}, []int{2, 1, 0}},
		{repeated(job(1, 1, 0, 500), 3), impl.ObjTardiness, make([]int, 8), []int{2, 1, 0}},
	} {
		values, one := impl.SetValues(c.jobs, c.objective)
		order, two := impl.SetOrder(c.jobs, c.objective)
		if !one || !two || !slices.Equal(values, c.values) || !slices.Equal(order, c.order) {
			t.Errorf("%v, objective %d: %v, %v", c.jobs, c.objective, values, order)
		}
	}
	values, ok := impl.SetValues(repeated(job(50, 50, 0, 0), 8), impl.ObjWeightedTardiness)
	if !ok || len(values) != 256 || values[255] != 50*50*36 || values[128] != 2500 || values[129] != 7500 {
		t.Errorf("the longest jobs have the values %v, %v", values, ok)
	}
}

func TestPromise6NoSetValuesOfOtherObjectives(t *testing.T) {
	for _, jobs := range [][]impl.Job{nil, {job(1, 0, 0, 0)}, {job(3, 2, 0, 4), job(2, 1, 0, 3)}, longDatedJobs()[0]} {
		for _, objective := range notSums() {
			values, one := impl.SetValues(jobs, objective)
			order, two := impl.SetOrder(jobs, objective)
			if one || two || len(values) != 0 || len(order) != 0 {
				t.Errorf("%v, objective %d: %v, %v", jobs, objective, values, order)
			}
		}
	}
}

func TestPromise6NoSetValuesOfInvalidLists(t *testing.T) {
	for _, jobs := range notPlain() {
		for _, objective := range sumObjectives {
			values, one := impl.SetValues(jobs, objective)
			order, two := impl.SetOrder(jobs, objective)
			if one || two || len(values) != 0 || len(order) != 0 {
				t.Errorf("%.200v, objective %d: %v, %v", jobs, objective, values, order)
			}
		}
	}
}
