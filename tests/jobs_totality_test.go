package tests

import (
	"fmt"
	"math"
	"slices"
	"testing"

	"loop.example/g01103/impl"
)

// answer is what a function returned: all results but the last one as a text, and the last one.
type answer struct {
	results string
	ok      bool
}

// newAnswers returns no answers yet, and a function that notes one.
func newAnswers() (map[string]answer, func(name string, ok bool, results ...any)) {
	answers := map[string]answer{}
	return answers, func(name string, ok bool, results ...any) {
		answers[name] = answer{fmt.Sprint(results...), ok}
	}
}

// answersOfJobs calls each function of chapter 2 that takes numbers or lists.
func answersOfJobs(jobs []impl.Job, order []int, a, b int) map[string]answer {
	answers, note := newAnswers()
	starts, ok := impl.StartsOf(jobs, order)
	note("StartsOf", ok, starts)
	ends, ok := impl.EndsOf(jobs, order)
	note("EndsOf", ok, ends)
	value, ok := impl.ValueOf(jobs, order, a)
	note("ValueOf", ok, value)
	idle, ok := impl.IdleTime(jobs, order)
	note("IdleTime", ok, idle)
	blocks, ok := impl.BlocksOf(jobs, order)
	note("BlocksOf", ok, blocks)
	late, ok := impl.LateJobs(jobs, order)
	note("LateJobs", ok, late)
	first, ok := impl.BestOrder(jobs, a)
	note("BestOrder", ok, first)
	least, ok := impl.BestValue(jobs, a)
	note("BestValue", ok, least)
	best, ok := impl.IsBestOrder(jobs, order, a)
	note("IsBestOrder", ok, best)
	count, ok := impl.CountBest(jobs, a)
	note("CountBest", ok, count)
	gain, ok := impl.ExchangeGain(jobs, order, b, a)
	note("ExchangeGain", ok, gain)
	next, ok := impl.NextExchange(jobs, order, a)
	note("NextExchange", ok, next)
	down, steps, ok := impl.ExchangeDown(jobs, order, a)
	note("ExchangeDown", ok, down, steps)
	inserted, ok := impl.InsertJob(order, a, b)
	note("InsertJob", ok, inserted)
	mirrored, ok := impl.MirrorJobs(jobs, b)
	note("MirrorJobs", ok, mirrored)
	text, ok := impl.JobsText(jobs)
	note("JobsText", ok, text)
	note("IsJobs", impl.IsJobs(jobs))
	note("IsOrder", impl.IsOrder(a, order))
	return answers
}

// nothing tells whether results are zero values only.
func nothing(results string) bool {
	return slices.Contains([]string{"", "0", "false", "[]", "[] 0", "[] []", "0 0", "0 []"}, results)
}

// caller calls functions of one chapter, and tells by their names what they returned.
type caller func(jobs []impl.Job, order []int, a, b int) map[string]answer

// checkTotal calls all functions twice, and checks that both calls return the same and change nothing.
func checkTotal(t *testing.T, call caller, jobs []impl.Job, order []int, a, b int) {
	t.Helper()
	// The room behind the lists shows whether something is written there.
	moreJobs := append(slices.Clone(jobs), job(7, 7, 7, 7), job(6, 6, 6, 6))
	moreOrder := append(slices.Clone(order), 77, 66)
	keptJobs, keptOrder := slices.Clone(moreJobs), slices.Clone(moreOrder)
	first := call(moreJobs[:len(jobs)], moreOrder[:len(order)], a, b)
	second := call(moreJobs[:len(jobs)], moreOrder[:len(order)], a, b)
	if !slices.Equal(moreJobs, keptJobs) || !slices.Equal(moreOrder, keptOrder) {
		t.Errorf("%.200v, %.200v, %d, %d was changed to %.200v, %.200v", jobs, order, a, b, moreJobs, moreOrder)
	}
	for name, got := range first {
		if second[name] != got {
			t.Errorf("%s of %.200v, %.200v, %d, %d: %v, then %v", name, jobs, order, a, b, got, second[name])
		}
		if !got.ok && !nothing(got.results) {
			t.Errorf("%s of %.200v, %.200v, %d, %d failed with %v", name, jobs, order, a, b, got)
		}
	}
}

func TestPromise13JobsOfAllKinds(t *testing.T) {
	numbers := []int{math.MinInt, -1, 0, 1, 4, 8, 9, 500, 1000, 1001, math.MaxInt - 1, math.MaxInt}
	lists := append(knownJobs()[:25], noJobs()...)
	for _, jobs := range lists {
		for _, order := range [][]int{nil, {0}, upTo(len(jobs)), upTo(9), {math.MaxInt, math.MinInt}, {0, 0, 0}} {
			for i, a := range numbers {
				checkTotal(t, answersOfJobs, jobs, order, a, numbers[len(numbers)-1-i])
				checkTotal(t, answersOfJobs, jobs, order, a, 0)
			}
		}
	}
}

func TestPromise13OrdersOfAllKinds(t *testing.T) {
	for _, jobs := range [][]impl.Job{{}, {job(1, 0, 0, 0)}, madeJobs(5, 3, 9, 9, 9, 20), madeJobs(6, 6, 9, 9, 9, 30), madeJobs(7, 8, 50, 50, 500, 500)} {
		down := upTo(len(jobs))
		slices.Reverse(down)
		for _, order := range [][]int{upTo(len(jobs)), down} {
			for a := range 10 {
				checkTotal(t, answersOfJobs, jobs, order, a, a/2)
			}
		}
		for i, order := range noOrders(len(jobs)) {
			checkTotal(t, answersOfJobs, jobs, order, i%10, 0)
		}
	}
}

func TestPromise13TextsOfJobsOfAllKinds(t *testing.T) {
	for _, s := range append(oddTexts(), "none", "3/2/0/4 2/1/0/3", "1/0/0/0 ", "1/0/0/501") {
		jobs, ok := impl.ParseJobs(s)
		again, fine := impl.ParseJobs(s)
		if ok != fine || !slices.Equal(jobs, again) || !ok && len(jobs) != 0 {
			t.Errorf("ParseJobs(%.40q) = %v, then %v", s, jobs, again)
		}
		clear(jobs[:cap(jobs)])
		if third, fine := impl.ParseJobs(s); fine != ok || !slices.Equal(third, again) {
			t.Errorf("ParseJobs(%.40q) = %v, then %v", s, again, third)
		}
	}
}

// scribble writes all over a list, and the room behind it.
func scribble(list []int) {
	for i := range list[:cap(list)] {
		list[:cap(list)][i] = -9
	}
}

// checkApart writes all over a result and checks that no result before or after it shows it.
func checkApart(t *testing.T, name string, f func() ([]int, bool)) {
	t.Helper()
	one, ok := f()
	two, fine := f()
	kept := slices.Clone(two)
	scribble(one)
	three, fair := f()
	if !ok || !fine || !fair || !slices.Equal(two, kept) || !slices.Equal(three, kept) {
		t.Errorf("%s: a result changed another: %v, %v, %v", name, kept, two, three)
	}
}

// TestPromise13ListsOfOrdersAreApart writes all over results and checks that no argument and no later result shows it.
func TestPromise13ListsOfOrdersAreApart(t *testing.T) {
	for _, jobs := range append(knownJobs(), madeJobs(8, 8, 9, 9, 20, 40)) {
		order := upTo(len(jobs))
		keptJobs := slices.Clone(jobs)
		for name, f := range map[string]func() ([]int, bool){
			"StartsOf":  func() ([]int, bool) { return impl.StartsOf(jobs, order) },
			"EndsOf":    func() ([]int, bool) { return impl.EndsOf(jobs, order) },
			"LateJobs":  func() ([]int, bool) { return impl.LateJobs(jobs, order) },
			"BestOrder": func() ([]int, bool) { return impl.BestOrder(jobs, impl.ObjEnd) },
			"ExchangeDown": func() ([]int, bool) {
				down, _, ok := impl.ExchangeDown(jobs, order, impl.ObjEnd)
				return down, ok
			},
			"InsertJob": func() ([]int, bool) { return impl.InsertJob(order, len(order)-1, len(order)-1) },
			"InsertJob at the first place": func() ([]int, bool) {
				return impl.InsertJob(order, 0, 0)
			},
		} {
			if _, ok := f(); !ok && len(jobs) == 0 {
				continue // there is no place to insert a job at
			}
			checkApart(t, fmt.Sprintf("%s of %v", name, jobs), f)
			if !slices.Equal(jobs, keptJobs) || !slices.Equal(order, upTo(len(jobs))) {
				t.Fatalf("%s of %v: a result changed an argument: %v, %v", name, keptJobs, jobs, order)
			}
		}
	}
}

func TestPromise13BlocksAreApart(t *testing.T) {
	for _, jobs := range append(knownJobs(), madeJobs(9, 8, 9, 9, 200, 40)) {
		order := upTo(len(jobs))
		slices.SortFunc(order, func(i, j int) int { return jobs[i].Release - jobs[j].Release })
		keptOrder := slices.Clone(order)
		blocks, ok := impl.BlocksOf(jobs, order)
		if !ok {
			t.Fatalf("BlocksOf(%v, %v) failed", jobs, order)
		}
		for i := range blocks {
			others := slices.Concat(blocks[i+1:]...)
			scribble(blocks[i])
			if !slices.Equal(slices.Concat(blocks[i+1:]...), others) || !slices.Equal(order, keptOrder) {
				t.Fatalf("BlocksOf(%v, %v): a block shares memory", jobs, keptOrder)
			}
		}
	}
}

func TestPromise13MirroredJobsAreApart(t *testing.T) {
	jobs := []impl.Job{job(3, 2, 5, 5), job(2, 1, 4, 6)}
	mirrored, ok := impl.MirrorJobs(jobs, 10)
	if !ok || !slices.Equal(mirrored, []impl.Job{job(3, 2, 5, 5), job(2, 1, 4, 6)}) {
		t.Fatalf("mirrored to %v, %v", mirrored, ok)
	}
	clear(mirrored[:cap(mirrored)])
	if !slices.Equal(jobs, []impl.Job{job(3, 2, 5, 5), job(2, 1, 4, 6)}) {
		t.Errorf("a result changed an argument: %v", jobs)
	}
}
