package tests

import (
	"math"
	"slices"
	"testing"

	"loop.example/g01103/impl"
)

// checkRanks compares the ranks of all sets with those by hand, and checks that they are those of a matroid.
func checkRanks(t *testing.T, jobs []impl.Job, independent []bool) {
	t.Helper()
	ranks := make([]int, len(independent))
	for mask := range ranks {
		rank, ok := impl.UnitRank(jobs, setOf(mask))
		if want := rankByHand(independent, mask); !ok || rank != want {
			t.Errorf("UnitRank(%v, %v) = %d, %v, not %d", jobs, setOf(mask), rank, ok, want)
		}
		ranks[mask] = rank
	}
	for mask := range ranks {
		for i := range jobs {
			grown := ranks[mask|1<<i] - ranks[mask]
			if grown < 0 || grown > 1 {
				t.Errorf("UnitRank(%v, %v): with %d it grows by %d", jobs, setOf(mask), i, grown)
			}
			for j := range jobs {
				if more := mask | 1<<j; ranks[more|1<<i]-ranks[more] > grown {
					t.Errorf("UnitRank(%v, %v): with %d it grows by less than behind %d", jobs, setOf(mask), i, j)
				}
			}
		}
	}
}

// checkUnitGreedy compares the greedy set with the one by hand, and with all independent sets.
func checkUnitGreedy(t *testing.T, jobs []impl.Job, independent []bool) {
	t.Helper()
	set, ok := impl.UnitGreedy(jobs)
	if want := unitGreedyByHand(jobs, independent); !ok || !slices.Equal(set, want) {
		t.Errorf("UnitGreedy(%v) = %v, %v, not %v", jobs, set, ok, want)
	}
	if !independent[maskOf(set)] {
		t.Errorf("UnitGreedy(%v) = %v, which is not independent", jobs, set)
	}
	for mask, is := range independent {
		if is && weightOf(jobs, setOf(mask)) > weightOf(jobs, set) {
			t.Errorf("UnitGreedy(%v) = %v, but %v has a greater Weight", jobs, set, setOf(mask))
		}
	}
}

// checkCircuits compares the circuits of all sets and jobs with all sets, and returns how many there are, and how many have the job alone.
func checkCircuits(t *testing.T, jobs []impl.Job, independent []bool) (int, int) {
	t.Helper()
	count, loops := 0, 0
	for mask, is := range independent {
		for i := -1; i <= len(jobs); i++ {
			set := setOf(mask)
			circuit, ok := impl.UnitCircuit(jobs, set, i)
			if !is || i < 0 || i == len(jobs) || independent[mask|1<<i] {
				if ok || len(circuit) != 0 {
					t.Errorf("UnitCircuit(%v, %v, %d) = %v, %v", jobs, set, i, circuit, ok)
				}
				continue
			}
			want := 1 << i
			for _, j := range set {
				if independent[mask&^(1<<j)|1<<i] {
					want |= 1 << j
				}
			}
			if !ok || !slices.Equal(circuit, setOf(want)) {
				t.Errorf("UnitCircuit(%v, %v, %d) = %v, %v, not %v", jobs, set, i, circuit, ok, setOf(want))
				continue
			}
			// A circuit is not independent, but it is so without any single one of its jobs.
			isCircuit := !independent[want]
			for _, j := range circuit {
				isCircuit = isCircuit && independent[want&^(1<<j)]
			}
			if !isCircuit {
				t.Errorf("UnitCircuit(%v, %v, %d) = %v, which is no circuit", jobs, set, i, circuit)
			}
			count++
			if len(circuit) == 1 {
				loops++
			}
		}
	}
	return count, loops
}

// checkSlots compares the slots of all sets with those that are found by trying all moments.
func checkSlots(t *testing.T, jobs []impl.Job, independent []bool) {
	t.Helper()
	for mask, is := range independent {
		set := setOf(mask)
		slots, ok := impl.UnitSlots(jobs, set)
		if ok != is {
			t.Errorf("UnitSlots(%v, %v) = %v, %v", jobs, set, slots, ok)
			continue
		}
		if !ok {
			if len(slots) != 0 {
				t.Errorf("UnitSlots(%v, %v) failed with %v", jobs, set, slots)
			}
			continue
		}
		if want := slotsOfUnits(jobs, set); !slices.Equal(slots, want) {
			t.Errorf("UnitSlots(%v, %v) = %v, not %v", jobs, set, slots, want)
			continue
		}
		for place, i := range set {
			if slots[place] < 1 || slots[place] > jobs[i].Due || slices.Contains(slots[:place], slots[place]) {
				t.Errorf("UnitSlots(%v, %v) = %v", jobs, set, slots)
			}
		}
	}
}

// checkUnits checks all functions of unit jobs, and returns how many circuits there are, and how many have one job.
func checkUnits(t *testing.T, jobs []impl.Job) (int, int) {
	t.Helper()
	independent := timelyByHand(jobs)
	checkRanks(t, jobs, independent)
	checkUnitGreedy(t, jobs, independent)
	checkSlots(t, jobs, independent)
	return checkCircuits(t, jobs, independent)
}

func TestPromise10UnitJobs(t *testing.T) {
	count, loops := 0, 0
	for _, jobs := range append(unitJobs(), longUnitJobs()...) {
		circuits, single := checkUnits(t, jobs)
		count, loops = count+circuits, loops+single
	}
	if count == loops || loops == 0 {
		t.Errorf("of %d circuits, %d had one job", count, loops)
	}
}

// TestPromise10AllUnitJobs tries all Due dates of up to four unit jobs, and all small Weights of up to three.
func TestPromise10AllUnitJobs(t *testing.T) {
	for n := range 5 {
		everyNumbers(n, upTo(n+2), func(dates []int) { checkUnits(t, units(dates...)) })
	}
	for n := range 4 {
		everyNumbers(2*n, upTo(3), func(list []int) {
			jobs := []impl.Job{}
			for i := range n {
				jobs = append(jobs, job(1, list[i], 0, list[n+i]))
			}
			checkUnitGreedy(t, jobs, timelyByHand(jobs))
		})
	}
}

func TestPromise10KnownUnitJobs(t *testing.T) {
	given := []impl.Job{job(1, 5, 0, 1), job(1, 7, 0, 1), job(1, 3, 0, 2)}
	same := repeated(job(1, 4, 0, 3), 5)
	for _, c := range []struct {
		jobs   []impl.Job
		rank   int
		greedy []int
		slots  []int
	}{
		{nil, 0, nil, nil},
		{units(0), 0, nil, nil}, {units(1), 1, []int{0}, []int{1}}, {units(500), 1, []int{0}, []int{500}},
		{given, 2, []int{1, 2}, []int{1, 2}},
		// one date, and the same Weight: the first ones are taken, and end behind one another
		{same, 3, []int{0, 1, 2}, []int{1, 2, 3}},
		{repeated(job(1, 0, 0, 2), 4), 2, []int{0, 1}, []int{1, 2}},
		{repeated(job(1, 9, 0, 0), 4), 0, nil, nil},
		// moments that are left free at the beginning, and between two jobs
		{repeated(job(1, 9, 0, 9), 3), 3, []int{0, 1, 2}, []int{7, 8, 9}},
		{units(9, 2, 5), 3, []int{0, 1, 2}, []int{9, 2, 5}},
		// the Due dates fall: the slots stand by the numbers of the jobs
		{units(3, 2, 1), 3, []int{0, 1, 2}, []int{3, 2, 1}}, {units(3, 3, 2), 3, []int{0, 1, 2}, []int{2, 3, 1}}, {units(4, 2, 4, 2), 4, []int{0, 1, 2, 3}, []int{3, 1, 4, 2}},
		// a great Weight that is looked at first, but with which others have no moment
		{[]impl.Job{job(1, 1, 0, 2), job(1, 50, 0, 2), job(1, 2, 0, 2), job(1, 0, 0, 3)}, 3, []int{1, 2, 3}, []int{1, 2, 3}},
		{repeated(job(1, 50, 0, 500), 8), 8, upTo(8), []int{493, 494, 495, 496, 497, 498, 499, 500}},
	} {
		rank, one := impl.UnitRank(c.jobs, upTo(len(c.jobs)))
		greedy, two := impl.UnitGreedy(c.jobs)
		slots, three := impl.UnitSlots(c.jobs, greedy)
		if !one || !two || !three || rank != c.rank || !slices.Equal(greedy, c.greedy) || !slices.Equal(slots, c.slots) {
			t.Errorf("%v: %d, %v, %v", c.jobs, rank, greedy, slots)
		}
	}
	for _, c := range []struct {
		jobs []impl.Job
		set  []int
		job  int
		want []int
		ok   bool
	}{
		{given, []int{1, 2}, 0, []int{0, 1}, true}, {given, []int{0}, 1, []int{0, 1}, true}, {given, []int{0}, 2, nil, false}, {given, []int{0}, 0, nil, false},
		{given, []int{0, 1}, 2, nil, false}, {given, nil, 0, nil, false}, {given, []int{0}, 3, nil, false}, {given, []int{0}, -1, nil, false},
		{given, []int{0}, math.MaxInt, nil, false}, {given, []int{0}, math.MinInt, nil, false}, {given, []int{0}, 64, nil, false},
		{same, []int{1, 3, 4}, 2, []int{1, 2, 3, 4}, true}, {same, []int{0, 1, 2}, 4, []int{0, 1, 2, 4}, true}, {same, []int{0, 1}, 4, nil, false},
		// a job that is never independent
		{units(0), nil, 0, []int{0}, true}, {units(2, 0, 2), []int{0, 2}, 1, []int{1}, true},
		// only jobs that are done no later than the Due date that is missed are in the circuit
		{units(1, 3, 3, 1, 2), []int{0, 1, 2}, 3, []int{0, 3}, true}, {units(1, 3, 3, 1, 2), []int{0, 1, 2}, 4, []int{0, 1, 2, 4}, true},
		{nil, nil, 0, nil, false},
	} {
		if got, ok := impl.UnitCircuit(c.jobs, c.set, c.job); ok != c.ok || !slices.Equal(got, c.want) {
			t.Errorf("UnitCircuit(%v, %v, %d) = %v, %v", c.jobs, c.set, c.job, got, ok)
		}
	}
}

// checkNoUnits checks that all functions of sets of unit jobs fail.
func checkNoUnits(t *testing.T, jobs []impl.Job, set []int, i int) {
	t.Helper()
	rank, one := impl.UnitRank(jobs, set)
	circuit, two := impl.UnitCircuit(jobs, set, i)
	slots, three := impl.UnitSlots(jobs, set)
	if one || two || three || rank != 0 || len(circuit) != 0 || len(slots) != 0 {
		t.Errorf("%.200v, %.200v, %d: %d, %v, %v", jobs, set, i, rank, circuit, slots)
	}
}

func TestPromise10NoUnitJobs(t *testing.T) {
	for _, jobs := range notUnits() {
		for _, set := range [][]int{nil, {0}, upTo(len(jobs))} {
			for _, i := range []int{0, len(jobs) - 1} {
				checkNoUnits(t, jobs, set, i)
			}
		}
		if set, ok := impl.UnitGreedy(jobs); ok || len(set) != 0 {
			t.Errorf("UnitGreedy(%.200v) = %v, %v", jobs, set, ok)
		}
	}
	for n := range impl.MaxJobs + 1 {
		// All jobs but the first one could be done, so only the lists are wrong.
		jobs := append(units(0), repeated(job(1, 1, 0, 9), 8)...)[:n]
		for _, set := range [][]int{{-1}, {n}, {0, 0}, {1, 1}, {2, 1}, {1, n}, {math.MinInt}, {math.MaxInt}, {1, 64}, upTo(n + 1), make([]int, 1000)} {
			checkNoUnits(t, jobs, set, 0)
		}
	}
}
