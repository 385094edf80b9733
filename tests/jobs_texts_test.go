package tests

import (
	"fmt"
	"math"
	"regexp"
	"slices"
	"strings"
	"testing"

	"loop.example/g01103/impl"
)

// mirroredByHand is MirrorJobs without the limits of its result.
func mirroredByHand(jobs []impl.Job, end int) []impl.Job {
	mirrored := []impl.Job{}
	for _, j := range jobs {
		mirrored = append(mirrored, job(j.Time, j.Weight, end-j.Due, end-j.Release))
	}
	return mirrored
}

// inDates tells whether all Releases and Due dates are in 0..MaxDate.
func inDates(jobs []impl.Job) bool {
	for _, j := range jobs {
		if min(j.Release, j.Due) < 0 || max(j.Release, j.Due) > 500 {
			return false
		}
	}
	return true
}

func TestPromise2MirrorJobsForAllEnds(t *testing.T) {
	for _, jobs := range append(knownJobs(), longJobs()...) {
		for end := -1; end <= 1001; end++ {
			want := mirroredByHand(jobs, end)
			valid := end >= 0 && end <= 1000 && inDates(want)
			if !valid {
				want = nil
			}
			got, ok := impl.MirrorJobs(jobs, end)
			if ok != valid || !slices.Equal(got, want) {
				t.Fatalf("MirrorJobs(%v, %d) = %v, %v", jobs, end, got, ok)
			}
			if !valid {
				continue
			}
			if back, ok := impl.MirrorJobs(got, end); !ok || !slices.Equal(back, jobs) {
				t.Fatalf("MirrorJobs(%v, %d) = %v, %v", got, end, back, ok)
			}
		}
	}
}

func TestPromise2MirrorJobsAtTheLimits(t *testing.T) {
	for _, c := range []struct {
		jobs []impl.Job
		end  int
		want []impl.Job
		ok   bool
	}{
		{nil, 0, nil, true},
		{nil, 1000, nil, true},
		{nil, -1, nil, false},
		{nil, 1001, nil, false},
		{nil, math.MinInt, nil, false},
		{nil, math.MaxInt, nil, false},
		{[]impl.Job{job(3, 2, 0, 4)}, 10, []impl.Job{job(3, 2, 6, 10)}, true},
		{[]impl.Job{job(50, 50, 0, 0)}, 0, []impl.Job{job(50, 50, 0, 0)}, true},
		{[]impl.Job{job(1, 0, 500, 500)}, 1000, []impl.Job{job(1, 0, 500, 500)}, true},
		{[]impl.Job{job(1, 0, 500, 500)}, 1001, nil, false},
		{[]impl.Job{job(1, 0, 0, 0)}, -1, nil, false},
		{[]impl.Job{job(1, 0, 0, 500)}, 500, []impl.Job{job(1, 0, 0, 500)}, true},
		{[]impl.Job{job(1, 0, 0, 500)}, 499, nil, false},
		{[]impl.Job{job(1, 0, 0, 500)}, 501, nil, false},
		{[]impl.Job{job(1, 0, 500, 0)}, 500, []impl.Job{job(1, 0, 500, 0)}, true},
		{[]impl.Job{job(1, 0, 500, 0)}, 499, nil, false},
		{[]impl.Job{job(1, 0, 500, 0)}, 501, nil, false},
		// only one date of one job is beyond
		{[]impl.Job{job(1, 0, 5, 5), job(1, 0, 0, 11)}, 10, nil, false},
		{[]impl.Job{job(1, 0, 11, 0), job(1, 0, 5, 5)}, 10, nil, false},
		{[]impl.Job{job(1, 0, 99, 99), job(1, 0, 100, 99)}, 600, nil, false},
		{[]impl.Job{job(1, 0, 99, 100), job(1, 0, 100, 100)}, 600, nil, false},
		// the result would be a list of jobs, but the argument is none
		{[]impl.Job{job(1, 0, 100, 501)}, 600, nil, false},
		{[]impl.Job{job(1, 0, 501, 100)}, 600, nil, false},
		{[]impl.Job{job(1, 0, -1, 3)}, 10, nil, false},
		{[]impl.Job{job(1, 0, 3, -1)}, 10, nil, false},
	} {
		if got, ok := impl.MirrorJobs(c.jobs, c.end); ok != c.ok || !slices.Equal(got, c.want) {
			t.Errorf("MirrorJobs(%v, %d) = %v, %v", c.jobs, c.end, got, ok)
		}
	}
	for _, jobs := range noJobs() {
		for _, end := range []int{0, 5, 500, 1000} {
			if got, ok := impl.MirrorJobs(jobs, end); ok || len(got) != 0 {
				t.Errorf("MirrorJobs(%.200v, %d) = %v, %v", jobs, end, got, ok)
			}
		}
	}
}

func TestPromise2JobsTextAndBack(t *testing.T) {
	for _, jobs := range append(knownJobs(), longJobs()...) {
		parts := []string{}
		for _, j := range jobs {
			parts = append(parts, fmt.Sprintf("%d/%d/%d/%d", j.Time, j.Weight, j.Release, j.Due))
		}
		want := strings.Join(parts, " ")
		if len(jobs) == 0 {
			want = "none"
		}
		if text, ok := impl.JobsText(jobs); !ok || text != want {
			t.Errorf("JobsText(%v) = %q, %v", jobs, text, ok)
		}
		if back, ok := impl.ParseJobs(want); !ok || !slices.Equal(back, jobs) {
			t.Errorf("ParseJobs(%q) = %v, %v", want, back, ok)
		}
	}
	for _, jobs := range noJobs() {
		if text, ok := impl.JobsText(jobs); ok || text != "" {
			t.Errorf("JobsText(%.200v) = %q, %v", jobs, text, ok)
		}
	}
}

func TestPromise2ParseJobsRejects(t *testing.T) {
	for _, s := range []string{
		"", " ", "/", "///", "   ", "None", "NONE", "non", "nonee", " none", "none ", "none\n", "none none", "none 1/0/0/0", "1/0/0/0 none",
		"01/0/0/0", "1/00/0/0", "1/0/00/0", "1/0/0/00", "1/01/0/0", "1/0/010/0", "1/0/0/05", "+1/0/0/0", "1/-0/0/0", "1/0/+0/0", "1/0/0/-0",
		"1/0/0/0 ", " 1/0/0/0", "1/0/0/0  1/0/0/0", "1/0/0/0\t1/0/0/0", "1/0/0/0\n", "1/0/0/0\n1/0/0/0", "1/0/0/0,1/0/0/0", "1/0/0/0\x001/0/0/0",
		"1", "1/0", "1/0/0", "1/0/0/", "/0/0/0", "1//0/0", "1/0/0/0/", "1/0/0/0/0", "/1/0/0/0", "1/0/0/0/1/0/0/0", "1 0 0 0", "1/ 0/0/0", "1/0/0 /0",
		"0/0/0/0", "51/0/0/0", "-1/0/0/0", "1/-1/0/0", "1/51/0/0", "1/0/-1/0", "1/0/501/0", "1/0/0/-1", "1/0/0/501", "1/0/0/0 0/0/0/0", "0/0/0/0 1/0/0/0",
		"1/0/0/0 1/0/0/501", "1/0/1000000/0", "1/0/0/9223372036854775808", "18446744073709551617/0/0/0", "1.0/0/0/0", "1e0/0/0/0", "0x1/0/0/0", "1/0/0/a",
		"１/0/0/0", "1/0/0/0\xff", "\xff", strings.Repeat("1/0/0/0 ", 8), strings.Repeat("1/0/0/0 ", 8) + "1/0/0/0", strings.Repeat("1/0/0/0 ", 600) + "1/0/0/0",
		strings.Repeat(" ", 4000), strings.Repeat("/", 4000), strings.Repeat("1", 4001),
	} {
		if jobs, ok := impl.ParseJobs(s); ok || len(jobs) != 0 {
			t.Errorf("ParseJobs(%.100q) = %v, %v", s, jobs, ok)
		}
	}
}

// jobsTextForm matches all texts that JobsText can return, and no others.
func jobsTextForm() *regexp.Regexp {
	weight, date := `(\d|[1-4]\d|50)`, `(\d|[1-9]\d|[1-4]\d\d|500)`
	one := `([1-9]|[1-4]\d|50)/` + weight + `/` + date + `/` + date
	return regexp.MustCompile(`\A(none|` + one + `( ` + one + `){0,7})\z`)
}

// TestPromise2ParseJobsOfChangedTexts takes out, puts in and changes each byte of some texts.
func TestPromise2ParseJobsOfChangedTexts(t *testing.T) {
	form := jobsTextForm()
	check := func(s string) {
		t.Helper()
		jobs, ok := impl.ParseJobs(s)
		if ok != form.MatchString(s) || !ok && len(jobs) != 0 {
			t.Fatalf("ParseJobs(%q) = %v, %v", s, jobs, ok)
		}
		if !ok {
			return
		}
		if text, ok := impl.JobsText(jobs); !ok || text != s {
			t.Fatalf("ParseJobs(%q) = %v, which is %q", s, jobs, text)
		}
	}
	for _, s := range []string{"", "none", "1/0/0/0", "50/50/500/500", "3/2/0/4 2/1/0/3 1/3/5/6", "10/9/49/123 5/50/499/50 1/0/500/0",
		"1/2/3/4 5/6/7/8 9/10/11/12 13/14/15/16 17/18/19/20 21/22/23/24 25/26/27/28 29/30/31/32"} {
		check(s)
		for place := range len(s) + 1 {
			for c := range 256 {
				put := string([]byte{byte(c)})
				check(s[:place] + put + s[place:])
				if place < len(s) {
					check(s[:place] + put + s[place+1:])
				}
			}
			if place < len(s) {
				check(s[:place] + s[place+1:])
			}
		}
	}
}
