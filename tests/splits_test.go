package tests

import (
	"math"
	"slices"
	"testing"

	"loop.example/g01103/impl"
)

func TestLimitsOfReleases(t *testing.T) {
	if impl.MaxCases != 800 || impl.MaxEnd != 1000 {
		t.Error("limits", impl.MaxCases, impl.MaxEnd)
	}
}

// checkSplit compares all that is told of Spans with the document's definitions.
func checkSplit(t *testing.T, jobs []impl.Job, spans []impl.Span) {
	t.Helper()
	want := isSplitByHand(jobs, spans)
	if is, ok := impl.IsSplit(jobs, spans); !ok || is != want {
		t.Errorf("IsSplit(%v, %v) = %v, %v, not %v", jobs, spans, is, ok, want)
	}
	if !want {
		rejectsSplit(t, jobs, spans)
		return
	}
	wantEnds := make([]int, len(jobs))
	for _, s := range spans {
		wantEnds[s.Job] = max(wantEnds[s.Job], s.To)
	}
	if ends, ok := impl.SplitEnds(jobs, spans); !ok || !slices.Equal(ends, wantEnds) {
		t.Errorf("SplitEnds(%v, %v) = %v, %v, not %v", jobs, spans, ends, ok, wantEnds)
	}
	for _, objective := range objectives {
		wantValue := valueOfEndsByHand(jobs, wantEnds, objective)
		if value, ok := impl.SplitValue(jobs, spans, objective); !ok || value != wantValue {
			t.Errorf("SplitValue(%v, %v, %d) = %d, %v, not %d", jobs, spans, objective, value, ok, wantValue)
		}
	}
	if breaks, ok := impl.CountBreaks(jobs, spans); !ok || breaks != len(spans)-len(jobs) {
		t.Errorf("CountBreaks(%v, %v) = %d, %v", jobs, spans, breaks, ok)
	}
}

// rejectsSplit checks that all that is told of a split schedule fails.
func rejectsSplit(t *testing.T, jobs []impl.Job, spans []impl.Span) {
	t.Helper()
	if ends, ok := impl.SplitEnds(jobs, spans); ok || len(ends) != 0 {
		t.Errorf("SplitEnds(%.200v, %.200v) = %v, %v", jobs, spans, ends, ok)
	}
	for _, objective := range objectives {
		if value, ok := impl.SplitValue(jobs, spans, objective); ok || value != 0 {
			t.Errorf("SplitValue(%.200v, %.200v, %d) = %d, %v", jobs, spans, objective, value, ok)
		}
	}
	if breaks, ok := impl.CountBreaks(jobs, spans); ok || breaks != 0 {
		t.Errorf("CountBreaks(%.200v, %.200v) = %d, %v", jobs, spans, breaks, ok)
	}
}

// fewSpans are all lists of at most a number of Spans with small numbers, most of which are no split schedules.
func fewSpans(most int) [][]impl.Span {
	lists, longest := [][]impl.Span{{}}, [][]impl.Span{{}}
	for range most {
		longer := [][]impl.Span{}
		for _, list := range longest {
			for mask := range 4 * 6 * 6 {
				longer = append(longer, append(slices.Clone(list), span(mask%4-1, mask/4%6-1, mask/24-1)))
			}
		}
		lists, longest = append(lists, longer...), longer
	}
	return lists
}

func TestPromise5EachListOfFewSpans(t *testing.T) {
	lists := fewSpans(2)
	for _, jobs := range [][]impl.Job{
		nil,
		{job(1, 0, 0, 0)},
		{job(2, 1, 1, 3)},
		{job(4, 1, 0, 3)},
		{job(1, 2, 0, 2), job(1, 1, 0, 1)},
		{job(1, 1, 2, 3), job(2, 2, 0, 2)},
		{job(2, 1, 0, 4), job(2, 2, 1, 3)},
	} {
		for _, spans := range lists {
			checkSplit(t, jobs, spans)
		}
	}
}

func TestPromise5ChangedSplits(t *testing.T) {
	for number, jobs := range append(releasedJobs(), longReleasedJobs()...) {
		next := drawer(number)
		spans := spansOfSlots(drawnSlots(next, jobs))
		checkSplit(t, jobs, spans)
		for k := range spans {
			checkSplit(t, jobs, slices.Delete(slices.Clone(spans), k, k+1))
			checkSplit(t, jobs, slices.Insert(slices.Clone(spans), k, spans[k]))
			for _, change := range []impl.Span{span(1, 0, 0), span(-1, 0, 0), span(0, 1, 0), span(0, -1, 0), span(0, 0, 1), span(0, 0, -1), span(0, 1, 1), span(0, -1, -1)} {
				changed := slices.Clone(spans)
				changed[k].Job += change.Job
				changed[k].From += change.From
				changed[k].To += change.To
				checkSplit(t, jobs, changed)
			}
			if k > 0 {
				exchanged := slices.Clone(spans)
				exchanged[k-1], exchanged[k] = spans[k], spans[k-1]
				checkSplit(t, jobs, exchanged)
			}
		}
	}
}

func TestPromise5EachSplitOfFewJobs(t *testing.T) {
	count := 0
	for _, jobs := range [][]impl.Job{nil, {job(3, 1, 1, 4)}, {job(2, 1, 0, 2), job(2, 3, 1, 3)}, {job(1, 1, 1, 4), job(2, 2, 0, 4), job(1, 3, 1, 4)}} {
		everySplit(jobs, 8, func(slots []int) {
			checkSplit(t, jobs, spansOfSlots(slots))
			count++
		})
	}
	if count < 500 {
		t.Error("only", count, "split schedules")
	}
}

func TestPromise5KnownSplits(t *testing.T) {
	one := []impl.Job{job(2, 1, 3, 4)}
	two := []impl.Job{job(3, 2, 0, 3), job(1, 1, 1, 1)}
	most := repeated(job(50, 1, 500, 500), 2)
	for _, c := range []struct {
		jobs  []impl.Job
		spans []impl.Span
		want  bool
	}{
		{nil, nil, true},
		{nil, []impl.Span{}, true},
		{nil, []impl.Span{span(0, 0, 1)}, false},
		{nil, []impl.Span{span(-1, 0, 1)}, false},
		{one, nil, false},
		{one, []impl.Span{span(0, 3, 5)}, true},
		{one, []impl.Span{span(0, 2, 4)}, false},
		{one, []impl.Span{span(0, 3, 4)}, false},
		{one, []impl.Span{span(0, 3, 6)}, false},
		{one, []impl.Span{span(0, 5, 3)}, false},
		{one, []impl.Span{span(0, 3, 3), span(0, 4, 6)}, false},
		{one, []impl.Span{span(0, 3, 4), span(0, 4, 5)}, false},
		{one, []impl.Span{span(0, 3, 4), span(0, 5, 6)}, true},
		{one, []impl.Span{span(0, 5, 6), span(0, 3, 4)}, false},
		{one, []impl.Span{span(0, 3, 5), span(0, 3, 5)}, false},
		{one, []impl.Span{span(0, 998, 1000)}, true},
		{one, []impl.Span{span(0, 999, 1001)}, false},
		{one, []impl.Span{span(0, 999, 1000), span(0, 1001, 1002)}, false},
		{one, []impl.Span{span(0, 3, 4), span(0, 1000, 1001)}, false},
		{one, []impl.Span{span(0, 3, 4), span(0, 999, 1000)}, true},
		{one, []impl.Span{span(0, math.MinInt, math.MaxInt)}, false},
		{one, []impl.Span{span(0, math.MaxInt, math.MinInt)}, false},
		{one, []impl.Span{span(0, math.MaxInt-1, math.MinInt)}, false},
		{two, []impl.Span{span(0, 0, 1), span(1, 1, 2), span(0, 2, 4)}, true},
		{two, []impl.Span{span(0, 0, 2), span(1, 1, 2), span(0, 2, 3)}, false},
		{two, []impl.Span{span(0, 0, 3), span(1, 3, 4)}, true},
		{two, []impl.Span{span(0, 0, 3), span(0, 5, 6), span(1, 6, 7)}, false},
		{two, []impl.Span{span(1, 1, 2), span(0, 2, 5)}, true},
		{two, []impl.Span{span(1, 0, 1), span(0, 1, 4)}, false},
		{two, []impl.Span{span(0, 0, 1), span(1, 1, 2), span(0, 2, 3)}, false},
		{two, []impl.Span{span(0, 0, 1), span(2, 1, 2), span(0, 2, 4)}, false},
		{two, []impl.Span{span(0, 0, 1), span(1, 2, 3), span(0, 3, 5)}, true},
		{most, []impl.Span{span(0, 500, 550), span(1, 950, 1000)}, true},
		{most, []impl.Span{span(0, 500, 550), span(1, 951, 1001)}, false},
		{most, []impl.Span{span(0, 500, 550), span(1, 499, 549)}, false},
	} {
		if isSplitByHand(c.jobs, c.spans) != c.want {
			t.Errorf("the test is wrong about %v, %v", c.jobs, c.spans)
		}
		checkSplit(t, c.jobs, c.spans)
	}
}

func TestPromise5ManySpans(t *testing.T) {
	jobs := repeated(job(50, 1, 0, 100), 8)
	slots := []int{}
	for time := range 400 {
		slots = append(slots, time%8)
	}
	spans := spansOfSlots(slots)
	checkSplit(t, jobs, spans)
	if breaks, ok := impl.CountBreaks(jobs, spans); !ok || breaks != 392 {
		t.Errorf("CountBreaks is %d, %v", breaks, ok)
	}
	checkSplit(t, jobs, slices.Concat(spans, spans))
	checkSplit(t, jobs, slices.Repeat(spans, 100))
	checkSplit(t, jobs, make([]impl.Span, 5000))
}

func TestPromise5SplitsOfOrders(t *testing.T) {
	check := func(jobs []impl.Job, order []int) {
		spans, ok := impl.SplitOf(jobs, order)
		ends := endsByHand(jobs, order)
		want := []impl.Span{}
		for _, i := range order {
			want = append(want, span(i, ends[i]-jobs[i].Time, ends[i]))
		}
		if !ok || !slices.Equal(spans, want) {
			t.Errorf("SplitOf(%v, %v) = %v, %v, not %v", jobs, order, spans, ok, want)
		}
		if is, ok := impl.IsSplit(jobs, spans); !ok || !is {
			t.Errorf("SplitOf(%v, %v) = %v is no split schedule", jobs, order, spans)
		}
		if breaks, ok := impl.CountBreaks(jobs, spans); !ok || breaks != 0 {
			t.Errorf("SplitOf(%v, %v) = %v has %d breaks", jobs, order, spans, breaks)
		}
		for _, objective := range objectives {
			value, ok := impl.SplitValue(jobs, spans, objective)
			if want := valueByHand(jobs, order, objective); !ok || value != want {
				t.Errorf("SplitOf(%v, %v): the value of %d is %d, %v, not %d", jobs, order, objective, value, ok, want)
			}
		}
	}
	for _, jobs := range releasedJobs() {
		for _, order := range allOrders(len(jobs)) {
			check(jobs, order)
		}
	}
	for number, jobs := range longReleasedJobs() {
		check(jobs, madeOrder(drawer(number), len(jobs)))
	}
}

func TestPromise5NoSplitsOfNoOrders(t *testing.T) {
	for _, jobs := range [][]impl.Job{nil, {job(1, 0, 0, 0)}, madeJobs(1, 3, 9, 9, 9, 9), repeated(job(2, 2, 0, 2), 8)} {
		for _, order := range noOrders(len(jobs)) {
			if spans, ok := impl.SplitOf(jobs, order); ok || len(spans) != 0 {
				t.Errorf("SplitOf(%v, %.200v) = %v, %v", jobs, order, spans, ok)
			}
		}
	}
	for _, jobs := range noJobs() {
		if spans, ok := impl.SplitOf(jobs, upTo(len(jobs))); ok || len(spans) != 0 {
			t.Errorf("SplitOf(%.200v, ascending) = %v, %v", jobs, spans, ok)
		}
	}
}

func TestPromise5NoSplitsOfNoJobs(t *testing.T) {
	for _, jobs := range noJobs() {
		spans, time := []impl.Span{}, 0
		for i, j := range jobs {
			from := max(time, min(max(j.Release, 0), 900))
			time = from + max(min(j.Time, 50), 1)
			spans = append(spans, span(i, from, time))
		}
		for _, list := range [][]impl.Span{nil, spans, {span(0, 0, 1)}} {
			if is, ok := impl.IsSplit(jobs, list); ok || is {
				t.Errorf("IsSplit(%.200v, %.200v) = %v, %v", jobs, list, is, ok)
			}
			rejectsSplit(t, jobs, list)
		}
	}
}

func TestPromise5NoValuesOfSplitsForNoObjectives(t *testing.T) {
	for _, objective := range noObjectives() {
		for _, c := range []struct {
			jobs  []impl.Job
			spans []impl.Span
		}{
			{nil, nil},
			{[]impl.Job{job(2, 1, 3, 4)}, []impl.Span{span(0, 3, 5)}},
			{[]impl.Job{job(2, 1, 3, 4)}, []impl.Span{span(0, 3, 4), span(0, 9, 10)}},
		} {
			if value, ok := impl.SplitValue(c.jobs, c.spans, objective); ok || value != 0 {
				t.Errorf("SplitValue(%v, %v, %d) = %d, %v", c.jobs, c.spans, objective, value, ok)
			}
		}
	}
}
