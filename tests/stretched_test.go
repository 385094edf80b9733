package tests

import (
	"math"
	"slices"
	"testing"

	"loop.example/g01103/impl"
)

// checkStretched compares the stretched jobs with the document's definition, and their rules with those of the jobs.
func checkStretched(t *testing.T, jobs []impl.Job, factor int) {
	t.Helper()
	want, valid := []impl.Job{}, true
	for _, j := range jobs {
		want = append(want, job(j.Time*factor, j.Weight, j.Release*factor, j.Due*factor))
		valid = valid && j.Time*factor <= 50 && j.Release*factor <= 500 && j.Due*factor <= 500
	}
	if !valid {
		want = nil
	}
	stretched, ok := impl.StretchedJobs(jobs, factor)
	if ok != valid || !slices.Equal(stretched, want) {
		t.Errorf("StretchedJobs(%v, %d) = %v, %v", jobs, factor, stretched, ok)
	}
	if !valid {
		return
	}
	for _, objective := range ruledFor(jobs) {
		one, _ := impl.TieGroups(jobs, objective)
		two, ok := impl.TieGroups(stretched, objective)
		if !ok || !slices.EqualFunc(one, two, slices.Equal[[]int]) {
			t.Errorf("%v stretched by %d: the groups for objective %d are %v, not %v", jobs, factor, objective, two, one)
		}
	}
}

func TestPromise3StretchedJobs(t *testing.T) {
	for _, jobs := range slices.Concat(knownJobs(), plainJobs(), notPlainJobs(), longJobs(), longPlainJobs()) {
		for factor := 1; factor <= 10; factor++ {
			checkStretched(t, jobs, factor)
		}
	}
}

func TestPromise3StretchedJobsAtTheLimits(t *testing.T) {
	for _, c := range []struct {
		jobs   []impl.Job
		factor int
		want   []impl.Job
	}{
		{nil, 1, nil},
		{nil, 10, nil},
		{[]impl.Job{job(5, 50, 50, 50)}, 10, []impl.Job{job(50, 50, 500, 500)}},
		{[]impl.Job{job(1, 50, 0, 0), job(2, 0, 3, 4)}, 10, []impl.Job{job(10, 50, 0, 0), job(20, 0, 30, 40)}},
		{[]impl.Job{job(50, 50, 500, 500)}, 1, []impl.Job{job(50, 50, 500, 500)}},
		{[]impl.Job{job(25, 7, 250, 250), job(1, 7, 0, 0)}, 2, []impl.Job{job(50, 7, 500, 500), job(2, 7, 0, 0)}},
	} {
		if got, ok := impl.StretchedJobs(c.jobs, c.factor); !ok || !slices.Equal(got, c.want) {
			t.Errorf("StretchedJobs(%v, %d) = %v, %v", c.jobs, c.factor, got, ok)
		}
	}
	for _, c := range []struct {
		jobs   []impl.Job
		factor int
	}{
		{[]impl.Job{job(6, 0, 0, 0)}, 10}, {[]impl.Job{job(1, 0, 51, 0)}, 10}, {[]impl.Job{job(1, 0, 0, 51)}, 10},
		{[]impl.Job{job(26, 0, 0, 0)}, 2}, {[]impl.Job{job(1, 0, 251, 0)}, 2}, {[]impl.Job{job(1, 0, 0, 251)}, 2}, {[]impl.Job{job(1, 0, 0, 0), job(17, 0, 0, 0)}, 3},
	} {
		if got, ok := impl.StretchedJobs(c.jobs, c.factor); ok || len(got) != 0 {
			t.Errorf("StretchedJobs(%v, %d) = %v, %v", c.jobs, c.factor, got, ok)
		}
	}
}

func TestPromise3StretchedJobsRejects(t *testing.T) {
	for _, jobs := range [][]impl.Job{nil, {job(1, 0, 0, 0)}, repeated(job(1, 1, 1, 1), 8)} {
		for _, factor := range []int{0, 11, -1, -10, 100, math.MinInt, math.MaxInt, 1 << 62} {
			if got, ok := impl.StretchedJobs(jobs, factor); ok || len(got) != 0 {
				t.Errorf("StretchedJobs(%v, %d) = %v, %v", jobs, factor, got, ok)
			}
		}
	}
	for _, jobs := range noJobs() {
		for factor := range 12 {
			if got, ok := impl.StretchedJobs(jobs, factor); ok || len(got) != 0 {
				t.Errorf("StretchedJobs(%.200v, %d) = %v, %v", jobs, factor, got, ok)
			}
		}
	}
}
