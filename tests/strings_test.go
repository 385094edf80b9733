package tests

import (
	"math"
	"slices"
	"strings"
	"testing"

	"loop.example/g01103/impl"
)

// everyByte has each of the 256 bytes once, and so is no valid UTF-8.
func everyByte() string {
	b := make([]byte, 256)
	for i := range b {
		b[i] = byte(i)
	}
	return string(b)
}

func TestLimitsOfStrings(t *testing.T) {
	if impl.MaxString != 4000 || impl.MaxDecimal != 999999 {
		t.Error("limits", impl.MaxString, impl.MaxDecimal)
	}
}

func TestPromise1FormatInt(t *testing.T) {
	for _, c := range []struct {
		n    int
		want string
	}{
		{0, "0"}, {7, "7"}, {-1, "-1"}, {10, "10"}, {-12, "-12"}, {120034, "120034"},
		{-100000, "-100000"}, {999999, "999999"}, {-999999, "-999999"},
	} {
		if s, ok := impl.FormatInt(c.n); !ok || s != c.want {
			t.Errorf("FormatInt(%d) = %q, %v", c.n, s, ok)
		}
	}
	for _, n := range []int{1000000, -1000000, 1000001, 1 << 32, -1 << 32, math.MaxInt, math.MinInt} {
		if s, ok := impl.FormatInt(n); ok || s != "" {
			t.Errorf("FormatInt(%d) = %q, %v", n, s, ok)
		}
	}
}

func TestPromise1EveryNumberRoundTrips(t *testing.T) {
	seen := make(map[string]bool, 2*impl.MaxDecimal+1)
	for n := -impl.MaxDecimal; n <= impl.MaxDecimal; n++ {
		s, ok := impl.FormatInt(n)
		if !ok || seen[s] {
			t.Fatalf("FormatInt(%d) = %q, %v", n, s, ok)
		}
		seen[s] = true
		if m, fine := impl.ParseInt(s); !fine || m != n {
			t.Fatalf("ParseInt(%q) = %d, %v", s, m, fine)
		}
	}
}

// TestPromise1ParseIntIsStrict tries all texts of up to four bytes of a small alphabet.
func TestPromise1ParseIntIsStrict(t *testing.T) {
	written := map[string]int{}
	for n := -9999; n <= 9999; n++ {
		if s, ok := impl.FormatInt(n); ok {
			written[s] = n
		}
	}
	texts := []string{""}
	for from := 0; len(texts[from]) < 4; from++ {
		for _, c := range []byte("-+0129 _.,xe\x00\xb2\n") {
			texts = append(texts, texts[from]+string([]byte{c}))
		}
	}
	for _, s := range texts {
		want, valid := written[s]
		if n, ok := impl.ParseInt(s); ok != valid || n != want {
			t.Errorf("ParseInt(%q) = %d, %v", s, n, ok)
		}
	}
}

func TestPromise1ParseIntRejects(t *testing.T) {
	for _, s := range []string{
		"", "-", "--1", "-0", "-01", "00", "01", "0000001", "+1", "+0", " 1", "1 ", "1\n", "\t1", "1-", "1-2",
		"0x1", "1e3", "1_000", "1.0", "1,000", "١", "１", "−1", "1\x00", "\xff", "1\xff",
		"1000000", "-1000000", "0999999", "-0999999", "9999999", "10000000",
		"9223372036854775807", "-9223372036854775808", "9223372036854775808",
		"18446744073709551616", "18446744073709551617", "-18446744073709551615",
		strings.Repeat("0", 5000) + "1", "1" + strings.Repeat("0", 5000), strings.Repeat("9", 5000), strings.Repeat("-", 5000),
	} {
		if n, ok := impl.ParseInt(s); ok || n != 0 {
			t.Errorf("ParseInt(%.40q) = %d, %v", s, n, ok)
		}
	}
}

func TestPromise1SplitString(t *testing.T) {
	for _, c := range []struct {
		s, sep string
		want   []string
	}{
		{"a,,b", ",", []string{"a", "", "b"}},
		{"", ",", []string{""}},
		{",", ",", []string{"", ""}},
		{",,", ",", []string{"", "", ""}},
		{"abc", ",", []string{"abc"}},
		{",a", ",", []string{"", "a"}},
		{"a,", ",", []string{"a", ""}},
		{"a,b c,d", ",", []string{"a", "b c", "d"}},
		{"a#b#c", "#", []string{"a", "b", "c"}},
		{"a\nb\n", "\n", []string{"a", "b", ""}},
		{"a\x00b", "\x00", []string{"a", "b"}},
		{"\xff\xfea\xff", "\xff", []string{"", "\xfea", ""}},
		{"a\xffb", ",", []string{"a\xffb"}},
		{"xéy", "\xc3", []string{"x", "\xa9y"}},
		{"xéy", "\xa9", []string{"x\xc3", "y"}},
		{"\ufffd", "\xff", []string{"\ufffd"}},
	} {
		if l, ok := impl.SplitString(c.s, c.sep); !ok || !slices.Equal(l, c.want) {
			t.Errorf("SplitString(%q, %q) = %q, %v", c.s, c.sep, l, ok)
		}
	}
}

func TestPromise1SplitStringRejects(t *testing.T) {
	for _, sep := range []string{"", ",,", "ab", "é", "\xff\xff", ", ", strings.Repeat(",", 5000)} {
		for _, s := range []string{"", ",", "a,,b", "aéb", strings.Repeat(",", 4001)} {
			if l, ok := impl.SplitString(s, sep); ok || len(l) != 0 {
				t.Errorf("SplitString(%.40q, %.40q) = %.40q, %v", s, sep, l, ok)
			}
		}
	}
	for _, s := range []string{strings.Repeat("a", 4001), strings.Repeat(",", 4001), strings.Repeat("a,", 2000) + "b", strings.Repeat("é", 2001)} {
		if l, ok := impl.SplitString(s, ","); ok || len(l) != 0 {
			t.Errorf("SplitString of %d bytes has %d parts, %v", len(s), len(l), ok)
		}
	}
}

func TestPromise1SplitStringAtTheLimit(t *testing.T) {
	if l, ok := impl.SplitString(strings.Repeat(",", 4000), ","); !ok || len(l) != 4001 || strings.Join(l, "") != "" {
		t.Error("separators only", len(l), ok)
	}
	long := strings.Repeat("a", 4000)
	if l, ok := impl.SplitString(long, ","); !ok || len(l) != 1 || l[0] != long {
		t.Error("no separator", len(l), ok)
	}
	if l, ok := impl.SplitString(long[1:]+",", ","); !ok || len(l) != 2 || l[0] != long[1:] || l[1] != "" {
		t.Error("separator at the end", len(l), ok)
	}
}

func TestPromise1JoinStrings(t *testing.T) {
	for _, c := range []struct {
		parts []string
		sep   string
		want  string
	}{
		{[]string{"a", "", "b"}, ";", "a;;b"},
		{[]string{""}, ";", ""},
		{[]string{"", ""}, ";", ";"},
		{[]string{"a"}, ";", "a"},
		{[]string{"a", "b", "c", "d"}, " ", "a b c d"},
		{[]string{"a,b", "#"}, ";", "a,b;#"},
		{[]string{"a", "b"}, "#", "a#b"},
		{[]string{"a", "b"}, "\x00", "a\x00b"},
		{[]string{"\xfe", "é"}, "\xff", "\xfe\xffé"},
		{[]string{"\ufffd", "x"}, "\xff", "\ufffd\xffx"},
	} {
		if s, ok := impl.JoinStrings(c.parts, c.sep); !ok || s != c.want {
			t.Errorf("JoinStrings(%q, %q) = %q, %v", c.parts, c.sep, s, ok)
		}
	}
}

func TestPromise1JoinStringsRejects(t *testing.T) {
	for _, c := range []struct {
		parts []string
		sep   string
	}{
		{nil, ";"},
		{[]string{}, ";"},
		{nil, ""},
		{[]string{"a", "b"}, ""},
		{[]string{""}, ""},
		{[]string{"a", "b"}, ";;"},
		{[]string{"a"}, "ab"},
		{[]string{"a", "b"}, "é"},
		{[]string{"a;b"}, ";"},
		{[]string{";"}, ";"},
		{[]string{";a", "b"}, ";"},
		{[]string{"a", "b;"}, ";"},
		{[]string{"a", "b", "", "x;y", "c"}, ";"},
		{[]string{"a", "b#"}, "#"},
		{[]string{"a", "\x00"}, "\x00"},
		{[]string{"a", "\xfe\xff"}, "\xff"},
		{[]string{"é", "a"}, "\xa9"},
		{[]string{"é", "a"}, "\xc3"},
	} {
		if s, ok := impl.JoinStrings(c.parts, c.sep); ok || s != "" {
			t.Errorf("JoinStrings(%q, %q) = %q, %v", c.parts, c.sep, s, ok)
		}
	}
}

func TestPromise1JoinStringsAtTheLimit(t *testing.T) {
	a := strings.Repeat("a", 4000)
	for _, parts := range [][]string{{a}, {a[:1999], a[:2000]}, {"", a[:3999]}, {a[:3999], ""}, make([]string, 4001), {a[:2000], "", a[:1998]}} {
		s, ok := impl.JoinStrings(parts, ",")
		if !ok || len(s) != 4000 {
			t.Errorf("%d parts have %d bytes, %v", len(parts), len(s), ok)
		}
		if l, ok := impl.SplitString(s, ","); !ok || !slices.Equal(l, parts) {
			t.Errorf("%d parts came back as %d, %v", len(parts), len(l), ok)
		}
	}
	for _, parts := range [][]string{{a + "a"}, {a[:2000], a[:2000]}, {"", a}, {a, ""}, make([]string, 4002), {a[:2000], "", a[:1999]}, {a, a, a}} {
		if s, ok := impl.JoinStrings(parts, ","); ok || s != "" {
			t.Errorf("%d parts have %d bytes, %v", len(parts), len(s), ok)
		}
	}
}

// TestPromise1SplitAndJoinAreInverse tries all texts of up to six bytes of a small alphabet.
func TestPromise1SplitAndJoinAreInverse(t *testing.T) {
	texts := []string{""}
	for from := 0; len(texts[from]) < 6; from++ {
		for _, c := range []byte("a,#\xff") {
			texts = append(texts, texts[from]+string([]byte{c}))
		}
	}
	texts = append(texts, everyByte())
	for _, s := range texts {
		for _, sep := range []string{",", "#", "\xff", "b"} {
			l, ok := impl.SplitString(s, sep)
			if !ok || len(l) != strings.Count(s, sep)+1 {
				t.Fatalf("SplitString(%q, %q) = %q, %v", s, sep, l, ok)
			}
			if back, ok := impl.JoinStrings(l, sep); !ok || back != s {
				t.Fatalf("JoinStrings(%q, %q) = %q, %v", l, sep, back, ok)
			}
		}
	}
}

func TestPromise1EverySeparator(t *testing.T) {
	all := everyByte()
	for i := range len(all) {
		sep := all[i : i+1]
		l, ok := impl.SplitString(all, sep)
		if !ok || len(l) != 2 || l[0] != all[:i] || l[1] != all[i+1:] {
			t.Errorf("SplitString at byte %d = %q, %v", i, l, ok)
		}
		if s, ok := impl.JoinStrings(l, sep); !ok || s != all {
			t.Errorf("JoinStrings at byte %d = %q, %v", i, s, ok)
		}
		if s, ok := impl.JoinStrings([]string{"", all}, sep); ok || s != "" {
			t.Errorf("JoinStrings with byte %d inside = %q, %v", i, s, ok)
		}
	}
}

// TestLessString has strings in ascending order by bytes.
func TestLessString(t *testing.T) {
	ascending := []string{"", "\x00", "\x00\x00", "\x00a", " ", "#", "A", "Z", "Zz", "a", "a\x00", "aa", "ab", "b", "ba", "z", "\x7f", "\x80", "é", "\ufffd", "\xff", "\xff\x00", "\xff\xff"}
	for i, a := range ascending {
		for j, b := range ascending {
			if impl.LessString(a, b) != (i < j) {
				t.Errorf("LessString(%q, %q)", a, b)
			}
		}
	}
	long := strings.Repeat("a", 5000)
	if !impl.LessString(long, long+"a") || impl.LessString(long+"a", long) || !impl.LessString(long+"a", long+"b") || impl.LessString(long, long) {
		t.Error("strings longer than MaxString")
	}
}
