package tests

import (
	"testing"

	"loop.example/g01103/impl"
)

// checkLongerWith compares whether one more machine makes a list plan longer with plans made by hand, and returns it.
func checkLongerWith(t *testing.T, jobs []impl.Job, m int, edges [][2]int, order []int) bool {
	t.Helper()
	longer, ok := impl.LongerWith(jobs, m, edges, order)
	if m == impl.MaxParallel {
		if ok || longer {
			t.Errorf("LongerWith(%v, %d, %v, %v) = %v, %v", jobs, m, edges, order, longer, ok)
		}
		return false
	}
	before := beforeByHand(len(jobs), edges)
	want := lengthByHand(jobs, m+1, before, order) > lengthByHand(jobs, m, before, order)
	if !ok || longer != want {
		t.Errorf("LongerWith(%v, %d, %v, %v) = %v, %v", jobs, m, edges, order, longer, ok)
	}
	return want
}

// checkLongerWithout compares the first pair without which a list plan is longer with plans made by hand, and returns the places of all such pairs.
func checkLongerWithout(t *testing.T, jobs []impl.Job, m int, edges [][2]int, order []int) []int {
	t.Helper()
	n := len(jobs)
	length := lengthByHand(jobs, m, beforeByHand(n, edges), order)
	places := []int{}
	for place := range edges {
		others := [][2]int{}
		for k, edge := range edges {
			if k != place {
				others = append(others, edge)
			}
		}
		if lengthByHand(jobs, m, beforeByHand(n, others), order) > length {
			places = append(places, place)
		}
	}
	pair, ok := impl.LongerWithout(jobs, m, edges, order)
	if len(places) == 0 {
		if ok || pair != [2]int{} {
			t.Errorf("LongerWithout(%v, %d, %v, %v) = %v, %v", jobs, m, edges, order, pair, ok)
		}
		return places
	}
	if !ok || pair != edges[places[0]] {
		t.Errorf("LongerWithout(%v, %d, %v, %v) = %v, %v, not %v", jobs, m, edges, order, pair, ok, edges[places[0]])
	}
	return places
}

func TestPromise7LongerPlans(t *testing.T) {
	number, none, first, later, several := 0, 0, 0, 0, 0
	eachWork(append(machineJobs(), longMachineJobs()...), func(jobs []impl.Job, edges [][2]int) {
		for _, m := range machineNumbers {
			for range 3 {
				number++
				order := madeOrder(drawer(number), len(jobs))
				checkLongerWith(t, jobs, m, edges, order)
				places := checkLongerWithout(t, jobs, m, edges, order)
				if len(places) > 1 {
					several++
				}
				switch {
				case len(places) == 0:
					none++
				case places[0] == 0:
					first++
				default:
					later++
				}
			}
		}
	})
	if none < 100 || first < 20 || later < 20 || several < 20 {
		t.Error(none, "plans are longer without no pair,", first, "without the first one,", later, "without a later one,", several, "without several ones")
	}
}

// TestPromise7LongerWithMachines has plans that are longer with one more machine, and a plan for which that is not so.
func TestPromise7LongerWithMachines(t *testing.T) {
	for _, c := range []struct {
		times []int
		m     int
		edges [][2]int
		order []int
		want  bool
	}{
		{[]int{1, 3, 7, 1, 4, 3}, 2, [][2]int{{1, 2}, {5, 0}, {5, 3}}, []int{0, 1, 3, 2, 4, 5}, true},
		{[]int{1, 5, 2, 4, 3, 2, 3}, 2, [][2]int{{0, 5}, {0, 6}, {1, 3}, {2, 1}, {2, 5}}, []int{2, 3, 5, 6, 4, 1, 0}, true},
		{[]int{2, 1, 3, 1, 1, 1, 4}, 3, [][2]int{{3, 6}, {5, 1}, {5, 4}}, []int{0, 4, 1, 6, 2, 3, 5}, true},
		{[]int{3, 6, 4, 2, 3, 4, 7}, 3, [][2]int{{3, 0}, {4, 0}, {4, 6}}, []int{0, 6, 5, 4, 1, 3, 2}, true},
		{[]int{2, 1, 3, 1, 1, 1, 1, 1}, 3, [][2]int{{3, 1}, {3, 4}, {3, 6}}, []int{7, 0, 1, 6, 5, 3, 4, 2}, true},
		{[]int{5, 4, 3, 4, 3, 1, 1, 3}, 3, [][2]int{{1, 5}, {6, 2}, {6, 4}, {7, 0}, {7, 2}}, []int{2, 3, 1, 7, 4, 0, 6, 5}, true},
		// as long, and shorter
		{[]int{5, 4, 3, 4, 3, 1, 1, 3}, 1, [][2]int{{1, 5}, {6, 2}, {6, 4}, {7, 0}, {7, 2}}, []int{2, 3, 1, 7, 4, 0, 6, 5}, false},
		{[]int{3, 3, 2}, 3, nil, []int{0, 1, 2}, false},
		{[]int{3, 3, 2}, 1, [][2]int{{0, 1}, {1, 2}}, []int{0, 1, 2}, false},
		{[]int{3, 3, 2}, 2, nil, []int{0, 1, 2}, false},
		{nil, 1, nil, nil, false}, {nil, 3, nil, nil, false}, {[]int{50}, 3, nil, []int{0}, false},
	} {
		longer, ok := impl.LongerWith(timed(c.times...), c.m, c.edges, c.order)
		if !ok || longer != c.want || checkLongerWith(t, timed(c.times...), c.m, c.edges, c.order) != c.want {
			t.Errorf("LongerWith(%v, %d, %v, %v) = %v, %v", c.times, c.m, c.edges, c.order, longer, ok)
		}
		for _, m := range []int{4, 5, 0, -1} {
			if longer, ok := impl.LongerWith(timed(c.times...), m, c.edges, c.order); ok || longer {
				t.Errorf("LongerWith(%v, %d, %v, %v) = %v, %v", c.times, m, c.edges, c.order, longer, ok)
			}
		}
	}
}

func TestPromise7LongerWithoutPairs(t *testing.T) {
	for _, c := range []struct {
		times []int
		m     int
		edges [][2]int
		order []int
		want  [2]int
		ok    bool
	}{
		{[]int{1, 1, 2, 2, 2}, 3, [][2]int{{0, 3}}, []int{0, 3, 4, 1, 2}, [2]int{0, 3}, true},
		{[]int{4, 2, 5, 1, 3}, 2, [][2]int{{0, 4}}, []int{1, 4, 0, 3, 2}, [2]int{0, 4}, true},
		{[]int{2, 3, 2, 2, 3}, 4, [][2]int{{3, 2}}, []int{1, 0, 2, 3, 4}, [2]int{3, 2}, true},
		{[]int{3, 1, 1, 3, 3}, 2, [][2]int{{0, 1}, {0, 4}, {2, 1}, {3, 4}}, []int{0, 4, 1, 2, 3}, [2]int{0, 1}, true},
		{[]int{2, 4, 3, 4, 2}, 2, [][2]int{{0, 1}, {0, 2}, {0, 4}, {3, 1}, {3, 2}}, []int{0, 4, 1, 2, 3}, [2]int{0, 4}, true},
		// on one machine, without pairs, with a pair that makes the plan shorter, and with pairs that others tell
		{[]int{4, 2, 5, 1, 3}, 1, [][2]int{{0, 4}}, []int{1, 4, 0, 3, 2}, [2]int{}, false},
		{[]int{4, 2, 5, 1, 3}, 2, nil, []int{1, 4, 0, 3, 2}, [2]int{}, false},
		{[]int{3, 3, 2}, 2, [][2]int{{0, 2}}, []int{0, 1, 2}, [2]int{}, false},
		{[]int{3, 3, 2}, 3, [][2]int{{0, 1}, {0, 2}, {1, 2}}, []int{0, 1, 2}, [2]int{}, false},
		{nil, 2, nil, nil, [2]int{}, false}, {[]int{50}, 4, nil, []int{0}, [2]int{}, false},
		// the same pair twice is no precedence
		{[]int{4, 2, 5, 1, 3}, 2, [][2]int{{0, 4}, {0, 4}}, []int{1, 4, 0, 3, 2}, [2]int{}, false},
	} {
		pair, ok := impl.LongerWithout(timed(c.times...), c.m, c.edges, c.order)
		if ok != c.ok || pair != c.want {
			t.Errorf("LongerWithout(%v, %d, %v, %v) = %v, %v", c.times, c.m, c.edges, c.order, pair, ok)
		}
	}
}
