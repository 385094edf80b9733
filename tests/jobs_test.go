package tests

import (
	"math"
	"reflect"
	"slices"
	"testing"

	"loop.example/g01103/impl"
)

func TestLimitsOfJobs(t *testing.T) {
	got := []int{impl.MaxJobs, impl.MaxTime, impl.MaxWeight, impl.MaxDate, impl.ObjEnd, impl.ObjSum, impl.ObjWeighted, impl.ObjLateness,
		impl.ObjTardiness, impl.ObjWeightedTardiness, impl.ObjLate, impl.ObjLateWeight}
	if !slices.Equal(got, []int{8, 50, 50, 500, 1, 2, 3, 4, 5, 6, 7, 8}) {
		t.Error("constants", got)
	}
}

func TestPromise2IsJobs(t *testing.T) {
	lists := append(knownJobs(), longJobs()...)
	for _, j := range []impl.Job{job(1, 0, 0, 0), job(50, 0, 0, 0), job(1, 50, 0, 0), job(1, 0, 500, 0), job(1, 0, 0, 500), job(50, 50, 500, 500)} {
		lists = append(lists, []impl.Job{j}, repeated(j, 8))
	}
	for _, jobs := range lists {
		if !impl.IsJobs(jobs) {
			t.Errorf("IsJobs(%v) is false", jobs)
		}
	}
	for _, jobs := range noJobs() {
		if impl.IsJobs(jobs) {
			t.Errorf("IsJobs(%.200v) is true", jobs)
		}
	}
}

// TestPromise2IsOrderOfAllLists tries all lists of up to four numbers in -1..4.
func TestPromise2IsOrderOfAllLists(t *testing.T) {
	lists := [][]int{{}}
	for from := 0; len(lists[from]) < 4; from++ {
		for i := -1; i <= 4; i++ {
			lists = append(lists, append(slices.Clone(lists[from]), i))
		}
	}
	for _, list := range lists {
		sorted := slices.Clone(list)
		slices.Sort(sorted)
		for n := -1; n <= 5; n++ {
			want := n == len(list) && slices.Equal(sorted, upTo(len(list)))
			if impl.IsOrder(n, list) != want {
				t.Errorf("IsOrder(%d, %v) is not %v", n, list, want)
			}
		}
	}
}

func TestPromise2IsOrderAtTheLimits(t *testing.T) {
	for n := range 9 {
		down := upTo(n)
		slices.Reverse(down)
		if !impl.IsOrder(n, upTo(n)) || !impl.IsOrder(n, down) {
			t.Errorf("orders of %d jobs are none", n)
		}
		for _, list := range noOrders(n) {
			if impl.IsOrder(n, list) {
				t.Errorf("IsOrder(%d, %.200v) is true", n, list)
			}
		}
	}
	if !impl.IsOrder(0, nil) {
		t.Error("no job has an order")
	}
	for _, n := range []int{9, 10, 100} {
		if impl.IsOrder(n, upTo(n)) {
			t.Errorf("IsOrder(%d, ..) is true", n)
		}
	}
	for _, n := range []int{-1, -8, math.MinInt, math.MaxInt} {
		if impl.IsOrder(n, nil) || impl.IsOrder(n, []int{0}) || impl.IsOrder(n, upTo(8)) {
			t.Errorf("IsOrder(%d, ..) is true", n)
		}
	}
}

// schedule is what the functions tell of the schedule of one order, with the values by objectives.
type schedule struct {
	jobs   []impl.Job
	order  []int
	starts []int
	ends   []int
	idle   int
	blocks [][]int
	late   []int
	values []int
}

// knownSchedules have been found by hand.
func knownSchedules() []schedule {
	three := []impl.Job{job(3, 2, 0, 4), job(2, 1, 0, 3), job(1, 3, 5, 6)}
	gaps := []impl.Job{job(2, 1, 3, 5), job(3, 0, 0, 3), job(4, 2, 7, 10), job(1, 5, 11, 20)}
	return []schedule{
		{nil, nil, []int{}, []int{}, 0, [][]int{}, []int{}, []int{0, 0, 0, 0, 0, 0, 0, 0}},
		{[]impl.Job{job(1, 0, 0, 500)}, []int{0}, []int{0}, []int{1}, 0, [][]int{{0}}, []int{}, []int{1, 1, 0, -499, 0, 0, 0, 0}},
		{[]impl.Job{job(1, 1, 0, 1)}, []int{0}, []int{0}, []int{1}, 0, [][]int{{0}}, []int{}, []int{1, 1, 1, 0, 0, 0, 0, 0}},
		{[]impl.Job{job(1, 1, 0, 0)}, []int{0}, []int{0}, []int{1}, 0, [][]int{{0}}, []int{0}, []int{1, 1, 1, 1, 1, 1, 1, 1}},
		{[]impl.Job{job(50, 50, 500, 0)}, []int{0}, []int{500}, []int{550}, 500, [][]int{{0}}, []int{0}, []int{550, 550, 27500, 550, 550, 27500, 1, 50}},
		{three, []int{0, 1, 2}, []int{0, 3, 5}, []int{3, 5, 6}, 0, [][]int{{0, 1, 2}}, []int{1}, []int{6, 14, 29, 2, 2, 2, 1, 1}},
		{three, []int{2, 0, 1}, []int{6, 9, 5}, []int{9, 11, 6}, 5, [][]int{{2, 0, 1}}, []int{0, 1}, []int{11, 26, 47, 8, 13, 18, 2, 3}},
		{three, []int{1, 2, 0}, []int{6, 0, 5}, []int{9, 2, 6}, 3, [][]int{{1}, {2, 0}}, []int{0}, []int{9, 17, 38, 5, 5, 10, 1, 2}},
		// job 0 is released at the end of job 1, and so in one block with it; job 2 and job 3 are not
		{gaps, []int{1, 0, 2, 3}, []int{3, 0, 7, 11}, []int{5, 3, 11, 12}, 2, [][]int{{1, 0}, {2, 3}}, []int{2}, []int{12, 31, 87, 1, 1, 2, 1, 2}},
		{gaps, []int{1, 0, 3, 2}, []int{3, 0, 12, 11}, []int{5, 3, 16, 12}, 6, [][]int{{1, 0}, {3, 2}}, []int{2}, []int{16, 36, 97, 6, 6, 12, 1, 2}},
		{gaps, []int{0, 3, 1, 2}, []int{3, 12, 15, 11}, []int{5, 15, 19, 12}, 9, [][]int{{0}, {3, 1, 2}}, []int{1, 2}, []int{19, 51, 103, 12, 21, 18, 2, 2}},
		{repeated(job(50, 50, 500, 0), 8), []int{7, 6, 5, 4, 3, 2, 1, 0}, []int{850, 800, 750, 700, 650, 600, 550, 500}, []int{900, 850, 800, 750, 700, 650, 600, 550},
			500, [][]int{{7, 6, 5, 4, 3, 2, 1, 0}}, []int{0, 1, 2, 3, 4, 5, 6, 7}, []int{900, 5800, 290000, 900, 5800, 290000, 8, 400}},
	}
}

func TestPromise2KnownSchedules(t *testing.T) {
	for _, c := range knownSchedules() {
		starts, one := impl.StartsOf(c.jobs, c.order)
		ends, two := impl.EndsOf(c.jobs, c.order)
		if !one || !two || !slices.Equal(starts, c.starts) || !slices.Equal(ends, c.ends) {
			t.Errorf("%v in order %v: starts %v, ends %v", c.jobs, c.order, starts, ends)
		}
		idle, one := impl.IdleTime(c.jobs, c.order)
		late, two := impl.LateJobs(c.jobs, c.order)
		if !one || !two || idle != c.idle || !slices.Equal(late, c.late) {
			t.Errorf("%v in order %v: idle for %d, late %v", c.jobs, c.order, idle, late)
		}
		blocks, ok := impl.BlocksOf(c.jobs, c.order)
		if !ok || len(blocks) != len(c.blocks) || len(blocks) > 0 && !reflect.DeepEqual(blocks, c.blocks) {
			t.Errorf("%v in order %v: blocks %v", c.jobs, c.order, blocks)
		}
		for _, objective := range objectives {
			if value, ok := impl.ValueOf(c.jobs, c.order, objective); !ok || value != c.values[objective-1] {
				t.Errorf("%v in order %v: objective %d is %d, %v", c.jobs, c.order, objective, value, ok)
			}
		}
	}
}

// checkSchedule compares what the functions tell of one order with the document's definitions.
func checkSchedule(t *testing.T, jobs []impl.Job, order []int) {
	t.Helper()
	ends := endsByHand(jobs, order)
	starts, late, work := make([]int, len(jobs)), []int{}, 0
	for i, j := range jobs {
		starts[i] = ends[i] - j.Time
		work += j.Time
		if ends[i] > j.Due {
			late = append(late, i)
		}
	}
	if got, ok := impl.EndsOf(jobs, order); !ok || !slices.Equal(got, ends) {
		t.Errorf("EndsOf(%v, %v) = %v, %v", jobs, order, got, ok)
	}
	if got, ok := impl.StartsOf(jobs, order); !ok || !slices.Equal(got, starts) {
		t.Errorf("StartsOf(%v, %v) = %v, %v", jobs, order, got, ok)
	}
	if got, ok := impl.LateJobs(jobs, order); !ok || !slices.Equal(got, late) {
		t.Errorf("LateJobs(%v, %v) = %v, %v", jobs, order, got, ok)
	}
	for _, objective := range objectives {
		if got, ok := impl.ValueOf(jobs, order, objective); !ok || got != valueByHand(jobs, order, objective) {
			t.Errorf("ValueOf(%v, %v, %d) = %d, %v", jobs, order, objective, got, ok)
		}
	}
	idle, ok := impl.IdleTime(jobs, order)
	end, fine := impl.ValueOf(jobs, order, impl.ObjEnd)
	if !ok || !fine || idle < 0 || end < work || end != work+idle {
		t.Errorf("%v in order %v: work %d, idle for %d, end %d", jobs, order, work, idle, end)
	}
	checkBlocks(t, jobs, order, starts, ends)
}

// checkBlocks checks that the blocks are the order, cut just where a job starts later than the end of the one before it.
func checkBlocks(t *testing.T, jobs []impl.Job, order, starts, ends []int) {
	t.Helper()
	blocks, ok := impl.BlocksOf(jobs, order)
	if !ok || !slices.Equal(slices.Concat(blocks...), order) {
		t.Errorf("BlocksOf(%v, %v) = %v, %v", jobs, order, blocks, ok)
		return
	}
	place := 0
	for _, block := range blocks {
		if len(block) == 0 {
			t.Errorf("BlocksOf(%v, %v) = %v with an empty block", jobs, order, blocks)
		}
		for k := range block {
			if place > 0 && (starts[order[place]] == ends[order[place-1]]) != (k > 0) {
				t.Errorf("BlocksOf(%v, %v) = %v is cut at a wrong place %d", jobs, order, blocks, place)
			}
			place++
		}
	}
}

func TestPromise2SchedulesOfAllOrders(t *testing.T) {
	for _, jobs := range knownJobs() {
		for _, order := range allOrders(len(jobs)) {
			checkSchedule(t, jobs, order)
		}
	}
}

func TestPromise2SchedulesOfManyJobs(t *testing.T) {
	for _, jobs := range longJobs() {
		orders := allOrders(len(jobs))
		for i := 0; i < len(orders); i += 97 {
			checkSchedule(t, jobs, orders[i])
		}
		checkSchedule(t, jobs, orders[len(orders)-1])
	}
}

// rejectsSchedule fails the test if a function tells anything of a schedule that there is not.
func rejectsSchedule(t *testing.T, jobs []impl.Job, order []int) {
	t.Helper()
	starts, one := impl.StartsOf(jobs, order)
	ends, two := impl.EndsOf(jobs, order)
	late, three := impl.LateJobs(jobs, order)
	blocks, four := impl.BlocksOf(jobs, order)
	if one || two || three || four || len(starts) != 0 || len(ends) != 0 || len(late) != 0 || len(blocks) != 0 {
		t.Errorf("%.200v in order %.200v: starts %v, ends %v, late %v, blocks %v", jobs, order, starts, ends, late, blocks)
	}
	if idle, ok := impl.IdleTime(jobs, order); ok || idle != 0 {
		t.Errorf("%.200v in order %.200v: idle for %d, %v", jobs, order, idle, ok)
	}
	for _, objective := range objectives {
		value, one := impl.ValueOf(jobs, order, objective)
		best, two := impl.IsBestOrder(jobs, order, objective)
		gain, three := impl.ExchangeGain(jobs, order, 0, objective)
		next, four := impl.NextExchange(jobs, order, objective)
		down, steps, five := impl.ExchangeDown(jobs, order, objective)
		if one || two || three || four || five || value != 0 || best || gain != 0 || next != 0 || len(down) != 0 || steps != 0 {
			t.Errorf("%.200v in order %.200v, objective %d: %v %v %v %v %v %v", jobs, order, objective, value, best, gain, next, down, steps)
		}
	}
}

func TestPromise2NoSchedulesOfInvalidLists(t *testing.T) {
	for _, jobs := range noJobs() {
		rejectsSchedule(t, jobs, upTo(len(jobs)))
	}
	for _, jobs := range append(knownJobs()[:20], longJobs()...) {
		for _, order := range noOrders(len(jobs)) {
			rejectsSchedule(t, jobs, order)
		}
	}
}

func TestPromise2NoValuesOfInvalidObjectives(t *testing.T) {
	for _, objective := range noObjectives() {
		for _, jobs := range append(knownJobs()[:20], longJobs()...) {
			order := upTo(len(jobs))
			slices.Reverse(order)
			value, one := impl.ValueOf(jobs, order, objective)
			least, two := impl.BestValue(jobs, objective)
			count, three := impl.CountBest(jobs, objective)
			first, four := impl.BestOrder(jobs, objective)
			best, five := impl.IsBestOrder(jobs, order, objective)
			if one || two || three || four || five || value != 0 || least != 0 || count != 0 || len(first) != 0 || best {
				t.Errorf("objective %d: %v %v %v %v %v", objective, value, least, count, first, best)
			}
			gain, one := impl.ExchangeGain(jobs, order, 0, objective)
			next, two := impl.NextExchange(jobs, order, objective)
			down, steps, three := impl.ExchangeDown(jobs, order, objective)
			if one || two || three || gain != 0 || next != 0 || len(down) != 0 || steps != 0 {
				t.Errorf("objective %d: %v %v %v %v", objective, gain, next, down, steps)
			}
		}
	}
}
