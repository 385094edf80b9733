package tests

import (
	"fmt"
	"math"
	"slices"
	"testing"

	"loop.example/g01103/impl"
)

// parallelLists are the lists that functions of chapter 7 take beside jobs and orders.
type parallelLists struct {
	edges [][2]int
	plan  []impl.Task
	spans [][]impl.Span
}

// What is written in the room behind lists.
var (
	roomEdge  = [2]int{7, 6}
	roomTask  = task(7, 7, 7)
	roomSpan  = span(7, 7, 8)
	roomSpans = []impl.Span{span(6, 6, 7)}
)

// withRoom returns copies of the lists behind each of which something is written.
func (l parallelLists) withRoom() parallelLists {
	spans := [][]impl.Span{}
	for _, list := range l.spans {
		spans = append(spans, append(slices.Clone(list), roomSpan)[:len(list)])
	}
	return parallelLists{
		edges: append(slices.Clone(l.edges), roomEdge)[:len(l.edges)],
		plan:  append(slices.Clone(l.plan), roomTask)[:len(l.plan)],
		spans: append(spans, roomSpans)[:len(spans)],
	}
}

// isWithRoom tells whether lists are still what withRoom returned.
func (l parallelLists) isWithRoom(given parallelLists) bool {
	edges, plan, spans := given.edges, given.plan, given.spans
	if !slices.Equal(edges, l.edges) || !slices.Equal(plan, l.plan) || !slices.EqualFunc(spans, l.spans, slices.Equal[[]impl.Span]) {
		return false
	}
	for _, list := range spans {
		if list[:len(list)+1][len(list)] != roomSpan {
			return false
		}
	}
	behind := spans[:len(spans)+1][len(spans)]
	return edges[:len(edges)+1][len(edges)] == roomEdge && plan[:len(plan)+1][len(plan)] == roomTask && slices.Equal(behind, roomSpans)
}

// answersOfParallel calls each function of chapter 7 for a machines, and for b jobs where there is only their number.
func answersOfParallel(l parallelLists) caller {
	return func(jobs []impl.Job, order []int, a, b int) map[string]answer {
		answers, note := newAnswers()
		is, ok := impl.IsPlan(jobs, a, l.edges, l.plan)
		note("IsPlan", ok, is)
		length, ok := impl.PlanLength(jobs, a, l.edges, l.plan)
		note("PlanLength", ok, length)
		plan, ok := impl.ListPlan(jobs, a, l.edges, order)
		note("ListPlan", ok, plan)
		tails, ok := impl.TailsOf(jobs, l.edges)
		note("TailsOf", ok, tails)
		chain, ok := impl.LongestChain(jobs, l.edges)
		note("LongestChain", ok, chain)
		bound, ok := impl.LengthBound(jobs, a, l.edges)
		note("LengthBound", ok, bound)
		first, ok := impl.LongestFirst(jobs, a)
		note("LongestFirst", ok, first)
		byTails, ok := impl.TailsFirst(jobs, a, l.edges)
		note("TailsFirst", ok, byTails)
		best, ok := impl.BestListPlan(jobs, a, l.edges)
		note("BestListPlan", ok, best)
		load, ok := impl.LeastLoad(jobs, a)
		note("LeastLoad", ok, load)
		wrapped, ok := impl.WrapAround(jobs, a)
		note("WrapAround", ok, wrapped)
		shared, ok := impl.IsShared(jobs, a, l.spans)
		note("IsShared", ok, shared)
		longer, ok := impl.LongerWith(jobs, a, l.edges, order)
		note("LongerWith", ok, longer)
		pair, ok := impl.LongerWithout(jobs, a, l.edges, order)
		note("LongerWithout", ok, pair[0], pair[1])
		idle, ok := impl.IdleChain(jobs, a, l.edges, order)
		note("IdleChain", ok, idle)
		total, ok := impl.TotalEnd(jobs, a)
		note("TotalEnd", ok, total)
		labels, ok := impl.LabelsOf(b, l.edges)
		note("LabelsOf", ok, labels)
		byLabels, ok := impl.LabelPlan(b, l.edges)
		note("LabelPlan", ok, byLabels)
		return answers
	}
}

// These are the functions that fail if one of their arguments is not valid.
var (
	failWithoutJobs  = []string{"IsPlan", "PlanLength", "ListPlan", "TailsOf", "LongestChain", "LengthBound", "LongestFirst", "TailsFirst", "BestListPlan", "LeastLoad", "WrapAround", "IsShared", "LongerWith", "LongerWithout", "IdleChain", "TotalEnd"}
	failWithoutM     = []string{"IsPlan", "PlanLength", "ListPlan", "LengthBound", "LongestFirst", "TailsFirst", "BestListPlan", "LeastLoad", "WrapAround", "IsShared", "LongerWith", "LongerWithout", "IdleChain", "TotalEnd"}
	failWithoutEdges = []string{"IsPlan", "PlanLength", "ListPlan", "TailsOf", "LongestChain", "LengthBound", "TailsFirst", "BestListPlan", "LongerWith", "LongerWithout", "IdleChain", "LabelsOf", "LabelPlan"}
	failWithoutOrder = []string{"ListPlan", "LongerWith", "LongerWithout", "IdleChain"}
)

// checkTotalInParallel checks of all functions of chapter 7 what checkTotal does, that no list is changed, and that some functions fail and all others, but those that may, do not.
func checkTotalInParallel(t *testing.T, l parallelLists, jobs []impl.Job, order []int, a, b int, fail []string) {
	t.Helper()
	given := l.withRoom()
	call := answersOfParallel(given)
	checkTotal(t, call, jobs, order, a, b)
	if !l.isWithRoom(given) {
		t.Errorf("%.200v with %.200v, %.200v, %d, %d was changed to %.200v", l, jobs, order, a, b, given)
	}
	if fail == nil {
		return
	}
	mayFail := []string{"PlanLength", "LongestChain", "BestListPlan", "LongerWith", "LongerWithout", "IdleChain"}
	for name, got := range call(jobs, order, a, b) {
		if slices.Contains(fail, name) && (got.ok || !nothing(got.results)) {
			t.Errorf("%s of %.200v, %.200v, %d, %d, %.200v did not fail: %v", name, jobs, order, a, b, l, got)
		}
		if !slices.Contains(fail, name) && !slices.Contains(mayFail, name) && !got.ok {
			t.Errorf("%s of %.200v, %.200v, %d, %d, %.200v failed", name, jobs, order, a, b, l)
		}
	}
}

func TestPromise13ParallelMachinesOfAllKinds(t *testing.T) {
	numbers := []int{math.MinInt, -1, 0, 1, 2, 3, 4, 5, 8, 9, 64, math.MaxInt - 1, math.MaxInt}
	lists := []parallelLists{
		{},
		{[][2]int{{0, 1}}, []impl.Task{task(0, 0, 0)}, [][]impl.Span{{span(0, 0, 1)}}},
		{[][2]int{{0, 0}}, []impl.Task{task(0, 0, 0), task(1, 0, 50)}, [][]impl.Span{nil, {span(0, 0, 1), span(1, 1, 2)}}},
		{[][2]int{{math.MinInt, math.MaxInt}}, []impl.Task{task(math.MinInt, math.MaxInt, math.MaxInt)}, [][]impl.Span{{span(math.MaxInt, math.MinInt, math.MaxInt)}}},
		{make([][2]int, 1000), make([]impl.Task, 1000), make([][]impl.Span, 1000)},
		{nil, make([]impl.Task, 8), [][]impl.Span{make([]impl.Span, 1000), nil, nil, nil}},
	}
	for _, jobs := range slices.Concat(machineJobs()[:12], notPlain()) {
		for _, order := range [][]int{nil, {0}, upTo(min(len(jobs), 20)), {math.MaxInt, math.MinInt}} {
			for k, l := range lists {
				for i, a := range numbers {
					checkTotalInParallel(t, l, jobs, order, a, numbers[(i+k)%len(numbers)], nil)
				}
			}
		}
	}
}

// listsFor are a plan and a shared plan for jobs on m machines.
func listsFor(jobs []impl.Job, m int, edges [][2]int) parallelLists {
	before := beforeByHand(len(jobs), edges)
	plan := listPlanByHand(jobs, m, before, upTo(len(jobs)))
	spans := wrappedByHand(jobs, m, lengthBoundByHand(jobs, m, beforeByHand(len(jobs), nil)))
	return parallelLists{edges, plan, spans}
}

// TestPromise13FailuresInParallel checks for each function that it fails for each argument that is not valid, and for no other reason.
func TestPromise13FailuresInParallel(t *testing.T) {
	eachWork(append(machineJobs(), longMachineJobs()...), func(jobs []impl.Job, edges [][2]int) {
		for _, m := range machineNumbers {
			checkTotalInParallel(t, listsFor(jobs, m, edges), jobs, upTo(len(jobs)), m, len(jobs), []string{})
		}
	})
	for _, jobs := range [][]impl.Job{nil, timed(50), timed(3, 3, 2), timed(5, 1, 4, 2, 2, 3), longMachineJobs()[0]} {
		n := len(jobs)
		for _, m := range machineNumbers {
			l := listsFor(jobs, m, nil)
			for _, wrong := range noMachineNumbers() {
				checkTotalInParallel(t, l, jobs, upTo(n), wrong, n, failWithoutM)
			}
			for _, edges := range noEdges(n) {
				checkTotalInParallel(t, parallelLists{edges, l.plan, l.spans}, jobs, upTo(n), m, n, failWithoutEdges)
			}
			for _, order := range noOrders(n) {
				checkTotalInParallel(t, l, jobs, order, m, n, failWithoutOrder)
			}
			for _, wrong := range []int{-1, 9, math.MinInt, math.MaxInt} {
				checkTotalInParallel(t, l, jobs, upTo(n), m, wrong, []string{"LabelsOf", "LabelPlan"})
			}
		}
	}
	for _, jobs := range notPlain() {
		n := min(len(jobs), 8)
		order := upTo(len(jobs))
		for _, m := range machineNumbers {
			l := listsFor(repeated(job(50, 0, 0, 0), n), m, nil)
			checkTotalInParallel(t, l, jobs, order, m, n, failWithoutJobs)
			checkTotalInParallel(t, parallelLists{}, jobs, order, m, 0, failWithoutJobs)
		}
	}
}

// TestPromise13ListsOfChainsAreApart writes all over results and checks that no argument and no later result shows it.
func TestPromise13ListsOfChainsAreApart(t *testing.T) {
	eachWork(append(machineJobs(), longMachineJobs()...), func(jobs []impl.Job, edges [][2]int) {
		n := len(jobs)
		order := madeOrder(drawer(n), n)
		keptJobs, keptEdges, keptOrder := slices.Clone(jobs), slices.Clone(edges), slices.Clone(order)
		for name, f := range map[string]func() ([]int, bool){
			"TailsOf":      func() ([]int, bool) { return impl.TailsOf(jobs, edges) },
			"LongestChain": func() ([]int, bool) { return impl.LongestChain(jobs, edges) },
			"IdleChain":    func() ([]int, bool) { return impl.IdleChain(jobs, 2, edges, order) },
			"LabelsOf":     func() ([]int, bool) { return impl.LabelsOf(n, edges) },
		} {
			if _, ok := f(); !ok && n == 0 {
				continue // there is no chain without jobs
			}
			checkApart(t, fmt.Sprintf("%s of %v, %v", name, jobs, edges), f)
			if !slices.Equal(jobs, keptJobs) || !slices.Equal(edges, keptEdges) || !slices.Equal(order, keptOrder) {
				t.Fatalf("%s of %v, %v, %v: a result changed an argument: %v, %v, %v", name, keptJobs, keptEdges, keptOrder, jobs, edges, order)
			}
		}
	})
}

func TestPromise13PlansAreApart(t *testing.T) {
	eachWork(append(machineJobs(), longMachineJobs()...), func(jobs []impl.Job, edges [][2]int) {
		n := len(jobs)
		for name, f := range map[string]func() ([]impl.Task, bool){
			"ListPlan":     func() ([]impl.Task, bool) { return impl.ListPlan(jobs, 3, edges, upTo(n)) },
			"LongestFirst": func() ([]impl.Task, bool) { return impl.LongestFirst(jobs, 2) },
			"TailsFirst":   func() ([]impl.Task, bool) { return impl.TailsFirst(jobs, 2, edges) },
			"BestListPlan": func() ([]impl.Task, bool) { return impl.BestListPlan(jobs[:min(n, 5)], 2, nil) },
			"LabelPlan":    func() ([]impl.Task, bool) { return impl.LabelPlan(n, edges) },
		} {
			one, ok := f()
			two, fine := f()
			kept := slices.Clone(two)
			for i := range one[:cap(one)] {
				one[:cap(one)][i] = task(-9, -9, -9)
			}
			three, fair := f()
			if !ok || !fine || !fair || !slices.Equal(two, kept) || !slices.Equal(three, kept) {
				t.Errorf("%s of %v, %v: a result changed another: %v, %v, %v", name, jobs, edges, kept, two, three)
			}
		}
	})
}

func TestPromise13WrappedSpansAreApart(t *testing.T) {
	for _, jobs := range append(machineJobs(), longMachineJobs()...) {
		for _, m := range machineNumbers {
			spans, ok := impl.WrapAround(jobs, m)
			kept := fmt.Sprint(spans)
			if !ok || len(spans) != m {
				t.Fatalf("WrapAround(%v, %d) = %v, %v", jobs, m, spans, ok)
			}
			for machine, list := range spans {
				others := fmt.Sprint(spans[machine+1:])
				for k := range list[:cap(list)] {
					list[:cap(list)][k] = span(-9, -9, -9)
				}
				if fmt.Sprint(spans[machine+1:]) != others {
					t.Errorf("WrapAround(%v, %d): the Spans of machine %d share memory with others", jobs, m, machine)
				}
			}
			if again, ok := impl.WrapAround(jobs, m); !ok || fmt.Sprint(again) != kept {
				t.Errorf("WrapAround(%v, %d): a result changed another: %v", jobs, m, again)
			}
		}
	}
}
