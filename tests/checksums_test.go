package tests

import (
	"strconv"
	"strings"
	"testing"

	"loop.example/g01103/impl"
)

// nextSum is one step of the checksum, as the document defines it.
func nextSum(h int, c byte) int {
	return (41*h + int(c) + 1) % 999979
}

// sumOf is the checksum of a text of any length.
func sumOf(s string) int {
	h := 7
	for _, c := range []byte(s) {
		h = nextSum(h, c)
	}
	return h
}

// textWithDigits returns a text without # of a length of at least 4, whose checksum has so many digits.
func textWithDigits(t *testing.T, length int, digits int) string {
	start := strings.Repeat("a", length-4)
	h := sumOf(start)
	// Four bytes with 41 choices each reach every remainder, for 41 is the factor of the checksum.
	for n := range 41 * 41 * 41 * 41 {
		end := []byte{'A' + byte(n/68921), 'A' + byte(n/1681%41), 'A' + byte(n/41%41), 'A' + byte(n%41)}
		sum := h
		for _, c := range end {
			sum = nextSum(sum, c)
		}
		if len(strconv.Itoa(sum)) == digits {
			return start + string(end)
		}
	}
	t.Fatalf("no text of %d bytes has a checksum of %d digits", length, digits)
	return ""
}

// sealable are texts of which each one has a checksummed string.
func sealable() []string {
	return []string{"", "a", "ab", "ba", "0", "385", "@", "\n", "\x00", "\x00\x00", "\xff", "\xc3\xa9", "é", "add 1 2 3 4@0",
		strings.ReplaceAll(everyByte(), "#", ""), strings.Repeat("a", 300), strings.Repeat("\xff", 200), strings.Repeat("\x00", 200)}
}

func TestPromise1Checksum(t *testing.T) {
	for _, c := range []struct {
		s    string
		want int
	}{
		{"", 7}, {"a", 385}, {"ab", 15884}, {"ba", 15924}, {"#", 323}, {"\x00", 288}, {"\xff", 543},
		{"\xc3\xa9", 19973}, {"é", 19973}, {"add 1 2 3 4@0", 799895}, {everyByte(), 750103}, {strings.Repeat("x", 4000), 185545},
	} {
		if n, ok := impl.Checksum(c.s); !ok || n != c.want {
			t.Errorf("Checksum(%.40q) = %d, %v", c.s, n, ok)
		}
	}
	for length := range 4001 {
		s := strings.Repeat("z\xff", 2000)[:length]
		if n, ok := impl.Checksum(s); !ok || n != sumOf(s) {
			t.Fatalf("Checksum of %d bytes = %d, %v", length, n, ok)
		}
	}
	for _, length := range []int{4001, 4002, 8000, 100000} {
		if n, ok := impl.Checksum(strings.Repeat("x", length)); ok || n != 0 {
			t.Errorf("Checksum of %d bytes = %d, %v", length, n, ok)
		}
	}
}

func TestPromise1ChecksummedStringsRoundTrip(t *testing.T) {
	for _, s := range sealable() {
		want := s + "#" + strconv.Itoa(sumOf(s))
		sealed, ok := impl.AppendChecksum(s)
		if !ok || sealed != want {
			t.Errorf("AppendChecksum(%.40q) = %.40q, %v", s, sealed, ok)
		}
		if text, ok := impl.VerifyChecksum(sealed); !ok || text != s {
			t.Errorf("VerifyChecksum(%.40q) = %.40q, %v", sealed, text, ok)
		}
	}
}

func TestPromise1AppendChecksumRejects(t *testing.T) {
	for _, s := range []string{"#", "##", "a#", "#a", "a#b", "a#385", strings.Repeat("a", 500) + "#", "#" + strings.Repeat("a", 500), everyByte()} {
		if sealed, ok := impl.AppendChecksum(s); ok || sealed != "" {
			t.Errorf("AppendChecksum(%.40q) = %.40q, %v", s, sealed, ok)
		}
	}
}

// TestPromise1ChecksumAtTheLimit has results of just MaxString bytes and of one byte more, for
// each number of digits of the checksum.
func TestPromise1ChecksumAtTheLimit(t *testing.T) {
	for digits := 1; digits <= 6; digits++ {
		s := textWithDigits(t, 3999-digits, digits)
		want := s + "#" + strconv.Itoa(sumOf(s))
		sealed, ok := impl.AppendChecksum(s)
		if !ok || sealed != want || len(sealed) != 4000 {
			t.Errorf("%d digits, 4000 bytes: %d bytes, %v", digits, len(sealed), ok)
		}
		if text, ok := impl.VerifyChecksum(want); !ok || text != s {
			t.Errorf("%d digits, 4000 bytes: not verified", digits)
		}
		s = textWithDigits(t, 4000-digits, digits)
		if sealed, ok := impl.AppendChecksum(s); ok || sealed != "" {
			t.Errorf("%d digits, 4001 bytes: %d bytes, %v", digits, len(sealed), ok)
		}
		if text, ok := impl.VerifyChecksum(s + "#" + strconv.Itoa(sumOf(s))); ok || text != "" {
			t.Errorf("%d digits, 4001 bytes: %d bytes verified", digits, len(text))
		}
	}
	for _, length := range []int{4000, 4001, 5000, 100000} {
		s := strings.Repeat("a", length)
		if sealed, ok := impl.AppendChecksum(s); ok || sealed != "" {
			t.Errorf("text of %d bytes: %d bytes", length, len(sealed))
		}
		if text, ok := impl.VerifyChecksum(s + "#" + strconv.Itoa(sumOf(s))); ok || text != "" {
			t.Errorf("text of %d bytes: %d bytes verified", length, len(text))
		}
	}
}

func TestPromise1VerifyChecksumRejects(t *testing.T) {
	for _, s := range []string{
		"", "#", "a", "7", "#8", "#07", "#+7", "#-7", "# 7", "#7 ", "#7\n", "##7", "#7#", "#7#7", "#999986", "#-999972",
		"a#", "#385", "a#384", "a#386", "b#385", "A#385", "a#0385", "a#+385", "a# 385", "a#385 ", "a#385\n", "a#38", "a#3850",
		"a385", "a##385", "a#385#", "a#385#1", "a#385#385", "a#1000364", "a#-999594", "a#0x181", "a#385.0", "a#\xff",
		// the checksum of a text with # is no excuse
		"##323", "a#b#" + strconv.Itoa(sumOf("a#b")), "a#385#" + strconv.Itoa(sumOf("a#385")),
	} {
		if text, ok := impl.VerifyChecksum(s); ok || text != "" {
			t.Errorf("VerifyChecksum(%q) = %q, %v", s, text, ok)
		}
	}
}

// rejectsChange fails the test if one other byte at a place of a checksummed string goes unseen.
func rejectsChange(t *testing.T, sealed string, place int) {
	changed := []byte(sealed)
	for c := range 256 {
		if byte(c) == sealed[place] {
			continue
		}
		changed[place] = byte(c)
		if text, ok := impl.VerifyChecksum(string(changed)); ok || text != "" {
			t.Fatalf("%.40q with byte %d at place %d was verified as %.40q", sealed, c, place, text)
		}
	}
}

func TestPromise1EverySingleChangeIsDetected(t *testing.T) {
	texts := sealable()
	for digits := 1; digits <= 6; digits++ {
		texts = append(texts, textWithDigits(t, 20, digits))
	}
	for _, s := range texts {
		sealed, ok := impl.AppendChecksum(s)
		if !ok {
			t.Fatalf("AppendChecksum(%.40q) failed", s)
		}
		for place := range len(sealed) {
			rejectsChange(t, sealed, place)
		}
	}
}

func TestPromise1SingleChangesOfLongStringsAreDetected(t *testing.T) {
	sealed, ok := impl.AppendChecksum(textWithDigits(t, 3993, 6))
	if !ok {
		t.Fatal("AppendChecksum failed")
	}
	for place := 0; place < len(sealed); place += 101 {
		rejectsChange(t, sealed, place)
	}
	for place := 3990; place < len(sealed); place++ {
		rejectsChange(t, sealed, place)
	}
}
