package tests

import (
	"fmt"
	"math"
	"slices"
	"testing"

	"loop.example/g01103/impl"
)

// frontNumbers are the numbers that functions of chapter 11 take beside two objectives: an index of a point, two numbers of a mix and a limit.
type frontNumbers struct{ k, x, y, limit int }

// answersOfFronts calls each function of chapter 11 with two objectives; the first one is that of scenarios, too.
func answersOfFronts(lists [][]impl.Job, n frontNumbers) caller {
	return func(jobs []impl.Job, order []int, a, b int) map[string]answer {
		answers, note := newAnswers()
		point, ok := impl.PointOf(jobs, order, a, b)
		note("PointOf", ok, point[0], point[1])
		front, ok := impl.FrontOf(jobs, a, b)
		note("FrontOf", ok, front)
		first, ok := impl.FrontOrder(jobs, a, b, n.k)
		note("FrontOrder", ok, first)
		is, ok := impl.IsUndominated(jobs, order, a, b)
		note("IsUndominated", ok, is)
		supported, ok := impl.SupportedPoints(jobs, a, b)
		note("SupportedPoints", ok, supported)
		mix, ok := impl.LeastMix(jobs, a, b, n.x, n.y)
		note("LeastMix", ok, mix)
		under, ok := impl.BestUnder(jobs, a, b, n.limit)
		note("BestUnder", ok, under)
		backward, ok := impl.BackwardOrder(jobs, n.limit)
		note("BackwardOrder", ok, backward)
		fast, ok := impl.LatenessFront(jobs)
		note("LatenessFront", ok, fast)
		note("AreScenarios", impl.AreScenarios(lists))
		values, ok := impl.ScenarioValues(lists, order, a)
		note("ScenarioValues", ok, values)
		safe, worst, ok := impl.LeastWorst(lists, a)
		note("LeastWorst", ok, safe, worst)
		regret, scenario, ok := impl.GreatestRegret(lists, order, a)
		note("GreatestRegret", ok, regret, scenario)
		calm, least, ok := impl.LeastRegret(lists, a)
		note("LeastRegret", ok, calm, least)
		bound, ok := impl.RegretBound(lists, order, a)
		note("RegretBound", ok, bound)
		return answers
	}
}

// These are the functions that fail if the jobs, a Release, an objective, the order or the scenarios are not as they must be.
var (
	failWithoutPair       = []string{"PointOf", "FrontOf", "FrontOrder", "IsUndominated", "SupportedPoints", "LeastMix", "BestUnder"}
	failWithReleases      = []string{"BackwardOrder", "LatenessFront"}
	failWithoutObjective  = []string{"ScenarioValues", "LeastWorst", "GreatestRegret", "LeastRegret", "RegretBound"}
	failWithoutScenarios  = append([]string{"AreScenarios"}, failWithoutObjective...)
	failWithoutFrontOrder = []string{"PointOf", "IsUndominated", "ScenarioValues", "GreatestRegret", "RegretBound"}
)

// roomyScenarios are copies of lists of jobs, behind which and behind each of which something is written.
func roomyScenarios(lists [][]impl.Job) [][]impl.Job {
	others := [][]impl.Job{}
	for _, jobs := range lists {
		others = append(others, append(slices.Clone(jobs), job(7, 7, 7, 7))[:len(jobs)])
	}
	return append(others, repeated(job(6, 6, 6, 6), 2))[:len(lists)]
}

// scenariosText tells of the lists that roomyScenarios returned, and of what is written behind them.
func scenariosText(lists [][]impl.Job) string {
	behind := []impl.Job{}
	for _, jobs := range lists {
		behind = append(behind, jobs[:len(jobs)+1][len(jobs)])
	}
	return fmt.Sprint(lists[:len(lists)+1], behind)
}

// checkTotalInFronts checks of all functions of chapter 11 what checkTotal does, and that no scenario is changed; if some functions are named, that just these fail.
func checkTotalInFronts(t *testing.T, lists [][]impl.Job, n frontNumbers, jobs []impl.Job, order []int, a, b int, fail []string) {
	t.Helper()
	given := roomyScenarios(lists)
	kept := scenariosText(given)
	call := answersOfFronts(given, n)
	checkTotal(t, call, jobs, order, a, b)
	if text := scenariosText(given); text != kept {
		t.Errorf("%.200v, %.300s, %.200v, %d, %d was changed to %.300s", jobs, kept, order, a, b, text)
	}
	if fail == nil {
		return
	}
	for name, got := range call(jobs, order, a, b) {
		if failed := slices.Contains(fail, name); failed == got.ok || failed && !nothing(got.results) {
			t.Errorf("%s of %.200v, %.200v, %v, %.200v, %d, %d: %v", name, jobs, lists, n, order, a, b, got)
		}
	}
}

func TestPromise13FrontsOfAllKinds(t *testing.T) {
	scenarios := append(noScenarios(), knownScenarios()[:20]...)
	orders, _ := oddLists()
	numbers := []int{math.MinInt, -501, -500, -1, 0, 1, 2, 8, 9, 99, 100, 400, 401, math.MaxInt - 1, math.MaxInt}
	at := func(place int) int { return numbers[place%len(numbers)] }
	for number, jobs := range slices.Concat(frontJobs()[:24], notPlain()) {
		for k, order := range append(orders, upTo(len(jobs))) {
			lists := scenarios[(number+7*k)%len(scenarios)]
			for i := range 6 {
				n := frontNumbers{at(number + i), at(k + 5*i), at(number + k + 7*i), at(2*k + i)}
				checkTotalInFronts(t, lists, n, jobs, order, at(number+3*k+i), at(number+k+11*i), nil)
				checkTotalInFronts(t, lists, n, jobs, order, 1+(number+i)%8, 1+(k+3*i)%8, nil)
			}
		}
	}
	for number, lists := range scenarios {
		for k, order := range orders {
			n := frontNumbers{at(k), at(number), at(number + k), at(3*number + k)}
			checkTotalInFronts(t, lists, n, lineJobs(), order, 1+(number+k)%8, at(k), nil)
		}
	}
}

// knownFailuresInFronts tells which functions fail for valid jobs, scenarios, orders and objectives, because of the numbers or the Releases.
func knownFailuresInFronts(n frontNumbers, jobs []impl.Job, rows [][8]int, f, g int) []string {
	fail := []string{}
	points := pointsByHand(rows, f, g)
	if n.k < 0 || n.k >= len(frontByHand(points)) {
		fail = append(fail, "FrontOrder")
	}
	if min(n.x, n.y) < 0 || max(n.x, n.y) > 99 {
		fail = append(fail, "LeastMix")
	}
	if bestUnderByHand(points, n.limit) < 0 {
		fail = append(fail, "BestUnder")
	}
	if !isPlainByHand(jobs) {
		return append(fail, failWithReleases...)
	}
	if n.limit < -500 || n.limit > 400 {
		return append(fail, "BackwardOrder")
	}
	if _, found := backwardByHand(jobs, n.limit); !found {
		fail = append(fail, "BackwardOrder")
	}
	return fail
}

// scenariosBeside are known scenarios with as many jobs as a list has, or else the list beside another one.
func scenariosBeside(jobs []impl.Job) [][]impl.Job {
	all := knownScenarios()
	place := slices.IndexFunc(all, func(lists [][]impl.Job) bool { return len(lists[0]) == len(jobs) })
	if place < 0 {
		return [][]impl.Job{jobs, repeated(job(2, 1, 0, 9), len(jobs))}
	}
	return all[place]
}

// oddFrontNumbers are numbers of all sizes, one of them beside ones that are valid.
func oddFrontNumbers() []frontNumbers {
	list := []frontNumbers{{0, 99, 1, 400}, {0, 1, 2, math.MaxInt}, {0, 0, 0, -500}}
	for _, number := range []int{math.MinInt, -501, -1, 1, 2, 99, 100, 401, math.MaxInt} {
		list = append(list, frontNumbers{k: number}, frontNumbers{x: number}, frontNumbers{y: number, x: 99}, frontNumbers{limit: number})
	}
	return list
}

// TestPromise13FailuresInFronts checks for each function that it fails for each argument that is not valid, and for no other reason.
func TestPromise13FailuresInFronts(t *testing.T) {
	for number, jobs := range frontJobs()[:40] {
		n, lists := len(jobs), scenariosBeside(jobs)
		orders := allOrders(n)
		rows := valueRows(jobs, orders)
		f, g := 1+number%8, 1+number/3%8
		order := orders[number%len(orders)]
		for _, m := range oddFrontNumbers() {
			checkTotalInFronts(t, lists, m, jobs, order, f, g, knownFailuresInFronts(m, jobs, rows, f, g))
		}
		m := frontNumbers{0, 1, 2, math.MaxInt}
		known := knownFailuresInFronts(m, jobs, rows, f, g)
		for _, wrong := range noObjectives() {
			checkTotalInFronts(t, lists, m, jobs, order, wrong, g, slices.Concat(known, failWithoutPair, failWithoutObjective))
			checkTotalInFronts(t, lists, m, jobs, order, f, wrong, slices.Concat(known, failWithoutPair))
			checkTotalInFronts(t, lists, m, jobs, order, wrong, wrong, slices.Concat(known, failWithoutPair, failWithoutObjective))
		}
		for _, other := range noOrders(n) {
			checkTotalInFronts(t, lists, m, jobs, other, f, g, slices.Concat(known, failWithoutFrontOrder))
		}
		for _, other := range noScenarios() {
			checkTotalInFronts(t, other, m, jobs, order, f, g, slices.Concat(known, failWithoutScenarios))
		}
		for _, other := range noJobs() {
			checkTotalInFronts(t, lists, m, other, order, f, g, slices.Concat(failWithoutPair, failWithReleases))
		}
	}
}

func TestPromise13FailuresInFrontsOfManyJobs(t *testing.T) {
	eight := allOrders(8)
	for number, jobs := range longFrontJobs()[:5] {
		lists, rows := longScenarios()[3], valueRows(jobs, eight)
		f, g := 2+number, 4
		for _, m := range []frontNumbers{{0, 99, 99, 400}, {-1, -1, 0, -501}, {1, 100, 1, 401}} {
			checkTotalInFronts(t, lists, m, jobs, eight[9999*number], f, g, knownFailuresInFronts(m, jobs, rows, f, g))
		}
	}
}

// checkPointsApart writes all over points and checks that no points before or after it show it.
func checkPointsApart(t *testing.T, name string, f func() ([][2]int, bool)) {
	t.Helper()
	one, ok := f()
	two, fine := f()
	kept := slices.Clone(two)
	for k := range one[:cap(one)] {
		one[:cap(one)][k] = [2]int{-9, -9}
	}
	three, fair := f()
	if !ok || !fine || !fair || !slices.Equal(two, kept) || !slices.Equal(three, kept) {
		t.Errorf("%s: a result changed another: %v, %v, %v", name, kept, two, three)
	}
}

func TestPromise13PointsAreApart(t *testing.T) {
	for _, jobs := range append(frontJobs(), longPlainJobs()...) {
		kept := slices.Clone(jobs)
		checkPointsApart(t, fmt.Sprintf("FrontOf(%v)", jobs), func() ([][2]int, bool) { return impl.FrontOf(jobs, impl.ObjSum, impl.ObjLateness) })
		checkPointsApart(t, fmt.Sprintf("SupportedPoints(%v)", jobs), func() ([][2]int, bool) { return impl.SupportedPoints(jobs, impl.ObjWeighted, impl.ObjTardiness) })
		if isPlainByHand(jobs) {
			checkPointsApart(t, fmt.Sprintf("LatenessFront(%v)", jobs), func() ([][2]int, bool) { return impl.LatenessFront(jobs) })
		}
		if !slices.Equal(jobs, kept) {
			t.Fatalf("%v: a result changed an argument: %v", kept, jobs)
		}
	}
}

// TestPromise13OrdersOfFrontsAreApart writes all over results and checks that no argument and no later result shows it.
func TestPromise13OrdersOfFrontsAreApart(t *testing.T) {
	for _, jobs := range append(frontJobs(), longFrontJobs()[0], longPlainJobs()[3]) {
		lists := [][]impl.Job{jobs, slices.Clone(jobs)}
		slices.Reverse(lists[1])
		order := upTo(len(jobs))
		kept := fmt.Sprint(lists, order)
		for name, f := range map[string]func() ([]int, bool){
			"FrontOrder": func() ([]int, bool) { return impl.FrontOrder(jobs, impl.ObjSum, impl.ObjLateness, 0) },
			"BestUnder":  func() ([]int, bool) { return impl.BestUnder(jobs, impl.ObjWeighted, impl.ObjEnd, 1000) },
			"BackwardOrder": func() ([]int, bool) {
				if !isPlainByHand(jobs) {
					return nil, true
				}
				return impl.BackwardOrder(jobs, impl.MaxTotal)
			},
			"ScenarioValues": func() ([]int, bool) { return impl.ScenarioValues(lists, order, impl.ObjTardiness) },
			"LeastWorst": func() ([]int, bool) {
				safe, _, ok := impl.LeastWorst(lists, impl.ObjSum)
				return safe, ok
			},
			"LeastRegret": func() ([]int, bool) {
				calm, _, ok := impl.LeastRegret(lists, impl.ObjLateness)
				return calm, ok
			},
		} {
			checkApart(t, fmt.Sprintf("%s of %v", name, jobs), f)
			if text := fmt.Sprint(lists, order); text != kept {
				t.Fatalf("%s of %s: a result changed an argument: %s", name, kept, text)
			}
		}
	}
}
