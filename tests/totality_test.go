package tests

import (
	"math"
	"slices"
	"strings"
	"testing"

	"loop.example/g01103/impl"
)

// oddTexts are texts and separators of all kinds, most of which are not valid for most functions.
func oddTexts() []string {
	return []string{"", "-", "0", "-0", "a", ",", "#", "##", "a,,b", "a#385", "a#384", "\x00", "\xff", "\xc3", "é", "\ufffd", "\n",
		"999999", "1000000", "-999999999999999999999", everyByte(),
		strings.Repeat("9", 3999), strings.Repeat("a", 4000), strings.Repeat("#", 4001), strings.Repeat("\xff,", 50000)}
}

func TestPromise13NumbersOfAllSizes(t *testing.T) {
	for shift := range 64 {
		for _, n := range []int{1 << shift, 1<<shift - 1, -1 << shift, -1<<shift - 1, math.MaxInt >> shift, math.MinInt >> shift} {
			s, ok := impl.FormatInt(n)
			if ok != (n >= -999999 && n <= 999999) || ok != (s != "") {
				t.Errorf("FormatInt(%d) = %q, %v", n, s, ok)
			}
			if again, fine := impl.FormatInt(n); again != s || fine != ok {
				t.Errorf("FormatInt(%d) = %q, then %q", n, s, again)
			}
		}
	}
}

func TestPromise13TextsOfAllKinds(t *testing.T) {
	for _, s := range oddTexts() {
		n, ok := impl.ParseInt(s)
		if m, again := impl.ParseInt(s); m != n || again != ok || !ok && n != 0 {
			t.Errorf("ParseInt(%.40q) = %d, then %d", s, n, m)
		}
		n, ok = impl.Checksum(s)
		if m, again := impl.Checksum(s); m != n || again != ok || !ok && n != 0 {
			t.Errorf("Checksum(%.40q) = %d, then %d", s, n, m)
		}
		for _, f := range []func(string) (string, bool){impl.AppendChecksum, impl.VerifyChecksum} {
			r, ok := f(s)
			if q, again := f(s); q != r || again != ok || !ok && r != "" {
				t.Errorf("%.40q gave %.40q, then %.40q", s, r, q)
			}
		}
	}
}

func TestPromise13PairsOfTexts(t *testing.T) {
	for _, a := range oddTexts() {
		for _, b := range oddTexts() {
			if impl.LessString(a, b) != (strings.Compare(a, b) < 0) {
				t.Errorf("LessString(%.40q, %.40q)", a, b)
			}
			l, ok := impl.SplitString(a, b)
			if ok != (len(a) <= 4000 && len(b) == 1) || ok != (len(l) > 0) {
				t.Errorf("SplitString(%.40q, %.40q) has %d parts, %v", a, b, len(l), ok)
			}
		}
	}
}

func TestPromise13JoinStringsKeepsItsParts(t *testing.T) {
	for _, parts := range [][]string{nil, {}, {""}, {"a", "b"}, {"a", "", "b"}, {"a,b"}, {"é", "\xff"}, make([]string, 5000), oddTexts()} {
		for _, sep := range oddTexts() {
			// The room behind the parts shows whether something is written there.
			room := append(slices.Clone(parts), "x", "y")
			given := room[:len(parts)]
			s, ok := impl.JoinStrings(given, sep)
			if !slices.Equal(given, parts) || !slices.Equal(room[len(parts):], []string{"x", "y"}) {
				t.Errorf("JoinStrings(%.40q, %.40q) changed its parts", parts, sep)
			}
			if again, fine := impl.JoinStrings(given, sep); again != s || fine != ok || !ok && s != "" {
				t.Errorf("JoinStrings(%.40q, %.40q) = %.40q, then %.40q", parts, sep, s, again)
			}
		}
	}
}

func TestPromise13JoinedStringIsApart(t *testing.T) {
	parts := []string{"a", "b"}
	s, ok := impl.JoinStrings(parts, ",")
	parts[0], parts[1] = "c", "d"
	if !ok || s != "a,b" {
		t.Errorf("the result became %q", s)
	}
}

func TestPromise13SplitStringGivesNewLists(t *testing.T) {
	first, ok := impl.SplitString("a,b,c", ",")
	second, fine := impl.SplitString("a,b,c", ",")
	if !ok || !fine || len(first) != 3 {
		t.Fatal("not split")
	}
	clear(first)
	_ = append(first[:0], "x", "y", "z")
	if !slices.Equal(second, []string{"a", "b", "c"}) {
		t.Errorf("one result changed another: %q", second)
	}
	if third, ok := impl.SplitString("a,b,c", ","); !ok || !slices.Equal(third, []string{"a", "b", "c"}) {
		t.Errorf("a result changed a later one: %q", third)
	}
}
