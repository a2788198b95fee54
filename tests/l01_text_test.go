package tests

import (
	"encoding/hex"
	"fmt"
	"math"
	"slices"
	"strconv"
	"strings"
	"testing"

	"loop.example/g00991/impl"
)

func TestTextLimits(t *testing.T) {
	if impl.MaxInputLen != 20000 || impl.MaxUint != 1000000000 || impl.MaxLineLen != 600 || impl.MaxFieldsPerLine != 24 {
		t.Error("a limit of chapter 1 differs from the document")
	}
}

func TestEncodeHex(t *testing.T) {
	for _, c := range []struct{ s, want string }{
		{"", ""},
		{"az", "617a"},
		{"\x00", "00"},
		{"\x0f\xf0", "0ff0"},
		{"\xab\xcd\xef", "abcdef"},
		{"\xff", "ff"},
		{"é", "c3a9"},
		{"a\nb c", "610a622063"},
	} {
		if got, ok := impl.EncodeHex(c.s); got != c.want || !ok {
			t.Errorf("EncodeHex(%q) = %q, %v; want %q, true", c.s, got, ok, c.want)
		}
	}
}

func TestEncodeHexLength(t *testing.T) {
	for _, n := range []int{impl.MaxInputLen - 1, impl.MaxInputLen} {
		if got, ok := impl.EncodeHex(strings.Repeat("z", n)); got != strings.Repeat("7a", n) || !ok {
			t.Errorf("EncodeHex of %d bytes has %d digits, %v", n, len(got), ok)
		}
	}
	for _, n := range []int{impl.MaxInputLen + 1, 2 * impl.MaxInputLen} {
		if got, ok := impl.EncodeHex(strings.Repeat("z", n)); got != "" || ok {
			t.Errorf("EncodeHex of %d bytes has %d digits, %v; want none, false", n, len(got), ok)
		}
	}
	// The limit is in bytes: these are fewer runes than MaxInputLen.
	if got, ok := impl.EncodeHex(strings.Repeat("é", impl.MaxInputLen/2+1)); got != "" || ok {
		t.Errorf("EncodeHex counts runes: %d digits, %v", len(got), ok)
	}
}

func TestDecodeHex(t *testing.T) {
	for _, c := range []struct{ s, want string }{
		{"", ""},
		{"617a", "az"},
		{"00", "\x00"},
		{"0ff0", "\x0f\xf0"},
		{"abcdef", "\xab\xcd\xef"},
		{"0123456789abcdef", "\x01\x23\x45\x67\x89\xab\xcd\xef"},
	} {
		if got, ok := impl.DecodeHex(c.s); got != c.want || !ok {
			t.Errorf("DecodeHex(%q) = %q, %v; want %q, true", c.s, got, ok, c.want)
		}
	}
}

func TestDecodeHexInvalid(t *testing.T) {
	for _, s := range []string{
		"6", "617", "617a0", "0x61", "6 1", " 61", "61 ", "61\n", "6A", "A6", "FF", "617A", "-1", "+1", "é", "6é1",
	} {
		if got, ok := impl.DecodeHex(s); got != "" || ok {
			t.Errorf("DecodeHex(%q) = %q, %v; want \"\", false", s, got, ok)
		}
	}
}

// Every pair of bytes is tried, so that a wrong bound of the digits shows in either half.
func TestDecodeHexBytes(t *testing.T) {
	const digits = "0123456789abcdef"
	for high := range 256 {
		for low := range 256 {
			s := string([]byte{byte(high), byte(low)})
			h, l := strings.IndexByte(digits, byte(high)), strings.IndexByte(digits, byte(low))
			right := h >= 0 && l >= 0
			want := ""
			if right {
				want = string([]byte{byte(16*h + l)})
			}
			if got, ok := impl.DecodeHex(s); got != want || ok != right {
				t.Fatalf("DecodeHex(%q) = %q, %v; want %q, %v", s, got, ok, want, right)
			}
		}
	}
}

func TestDecodeHexLength(t *testing.T) {
	for _, n := range []int{impl.MaxInputLen - 1, impl.MaxInputLen} {
		if got, ok := impl.DecodeHex(strings.Repeat("7a", n)); got != strings.Repeat("z", n) || !ok {
			t.Errorf("DecodeHex of %d pairs has %d bytes, %v", n, len(got), ok)
		}
	}
	for _, n := range []int{2*impl.MaxInputLen - 1, 2*impl.MaxInputLen + 1, 2*impl.MaxInputLen + 2, 4 * impl.MaxInputLen} {
		if got, ok := impl.DecodeHex(strings.Repeat("7", n)); got != "" || ok {
			t.Errorf("DecodeHex of %d digits has %d bytes, %v; want none, false", n, len(got), ok)
		}
	}
}

func TestHexRoundTrip(t *testing.T) {
	all := make([]byte, 256)
	for i := range all {
		all[i] = byte(i)
	}
	texts := []string{"", string(all), strings.Repeat(string(all), 78), strings.Repeat("\x00", impl.MaxInputLen)}
	for _, b := range all {
		texts = append(texts, string([]byte{b}), string([]byte{b, 'a'}), string([]byte{'0', b}))
	}
	for _, s := range texts {
		h, ok := impl.EncodeHex(s)
		if !ok || h != hex.EncodeToString([]byte(s)) {
			t.Fatalf("EncodeHex(%q) = %q, %v", s, h, ok)
		}
		if back, ok := impl.DecodeHex(h); back != s || !ok {
			t.Fatalf("DecodeHex(%q) = %q, %v; want %q, true", h, back, ok, s)
		}
	}
}

func TestFormatInt(t *testing.T) {
	for _, c := range []struct {
		n    int
		want string
	}{
		{0, "0"},
		{7, "7"},
		{10, "10"},
		{100, "100"},
		{-1, "-1"},
		{-5, "-5"},
		{-10, "-10"},
		{1000000000, "1000000000"},
		{1000000001, "1000000001"},
		{math.MaxInt, "9223372036854775807"},
		{math.MaxInt - 1, "9223372036854775806"},
		{math.MinInt, "-9223372036854775808"},
		{math.MinInt + 1, "-9223372036854775807"},
	} {
		if got := impl.FormatInt(c.n); got != c.want {
			t.Errorf("FormatInt(%d) = %q; want %q", c.n, got, c.want)
		}
	}
	for n := -2000; n <= 2000; n++ {
		if got := impl.FormatInt(n); got != fmt.Sprint(n) {
			t.Errorf("FormatInt(%d) = %q", n, got)
		}
	}
}

func TestParseUint(t *testing.T) {
	for _, c := range []struct {
		s    string
		want int
	}{
		{"0", 0},
		{"1", 1},
		{"9", 9},
		{"10", 10},
		{"100", 100},
		{"123456789", 123456789},
		{"999999999", 999999999},
		{"1000000000", 1000000000},
	} {
		if got, ok := impl.ParseUint(c.s); got != c.want || !ok {
			t.Errorf("ParseUint(%q) = %d, %v; want %d, true", c.s, got, ok, c.want)
		}
	}
}

func TestParseUintInvalid(t *testing.T) {
	for _, s := range []string{
		"", " ", "-", "+",
		"00", "01", "007", "0000000001", "01000000000", "000",
		"-0", "+0", "-1", "+1", "-1000000000", "--1", "-01",
		"1000000001", "1000000010", "9999999999", "10000000000",
		"9223372036854775807", "9223372036854775808", "18446744073709551616", "18446744073709551617",
		"-9223372036854775808", "-9223372036854775809",
		strings.Repeat("9", 1000), strings.Repeat("0", 1000), "1" + strings.Repeat("0", 1000),
		" 1", "1 ", "1 2", "1\n", "\t1", "1\x00",
		"1_000", "1,000", "1.0", "1e3", "0x1", "0b1", "0o1", "1a", "a", "a1", "/", ":", "1/", "1:",
		"\xb2", "²", "１", "٣",
	} {
		if got, ok := impl.ParseUint(s); got != 0 || ok {
			t.Errorf("ParseUint(%q) = %d, %v; want 0, false", s, got, ok)
		}
	}
}

func TestParseUintBytes(t *testing.T) {
	for b := range 256 {
		isDigit := b >= '0' && b <= '9'
		for _, s := range []string{string([]byte{byte(b)}), string([]byte{'1', byte(b)})} {
			want, right := 0, isDigit
			if right {
				want, _ = strconv.Atoi(s)
			}
			if got, ok := impl.ParseUint(s); got != want || ok != right {
				t.Errorf("ParseUint(%q) = %d, %v; want %d, %v", s, got, ok, want, right)
			}
		}
	}
}

func TestNumberRoundTrip(t *testing.T) {
	numbers := []int{999999998, 999999999, 1000000000, 123456789, 100000000, 99999999}
	for n := range 3000 {
		numbers = append(numbers, n, 333333*n)
	}
	for _, n := range numbers {
		text := impl.FormatInt(n)
		if got, ok := impl.ParseUint(text); got != n || !ok {
			t.Errorf("ParseUint(%q) = %d, %v; want %d, true", text, got, ok, n)
		}
		if got, ok := impl.ParseUint("0" + text); got != 0 || ok {
			t.Errorf("ParseUint(%q) = %d, %v; want 0, false", "0"+text, got, ok)
		}
	}
	for _, n := range []int{math.MinInt, -1000000000, -1, 1000000001, 1 << 32, math.MaxInt} {
		if got, ok := impl.ParseUint(impl.FormatInt(n)); got != 0 || ok {
			t.Errorf("ParseUint(FormatInt(%d)) = %d, %v; want 0, false", n, got, ok)
		}
	}
}

func TestSplitFields(t *testing.T) {
	for _, c := range []struct {
		line string
		want []string
	}{
		{"", nil},
		{" ", nil},
		{"     ", nil},
		{"a", []string{"a"}},
		{" a", []string{"a"}},
		{"a ", []string{"a"}},
		{" days  1 ", []string{"days", "1"}},
		{"move 1 2 3 4", []string{"move", "1", "2", "3", "4"}},
		{"a   b  c", []string{"a", "b", "c"}},
		{"ab a abc", []string{"ab", "a", "abc"}},
		{"a a a", []string{"a", "a", "a"}},
		{"! ~ !~", []string{"!", "~", "!~"}},
		{"a,b;c_d", []string{"a,b;c_d"}},
	} {
		if got, ok := impl.SplitFields(c.line); !slices.Equal(got, c.want) || !ok {
			t.Errorf("SplitFields(%q) = %q, %v; want %q, true", c.line, got, ok, c.want)
		}
	}
}

// A byte is tried alone and at the start, in the middle and at the end of a line, beside bytes and beside spaces.
func TestSplitFieldsBytes(t *testing.T) {
	for b := range 256 {
		x := string([]byte{byte(b)})
		for _, line := range []string{x, x + "a", "a" + x, "a" + x + "b", "a " + x + " b", " " + x + " ", "a b" + x + "c d"} {
			right := b >= 32 && b <= 126
			var want []string
			if right {
				want = strings.FieldsFunc(line, func(r rune) bool { return r == ' ' })
			}
			if got, ok := impl.SplitFields(line); !slices.Equal(got, want) || ok != right {
				t.Errorf("SplitFields(%q) = %q, %v; want %q, %v", line, got, ok, want, right)
			}
		}
	}
}

func TestSplitFieldsInvalid(t *testing.T) {
	for _, line := range []string{
		"a\tb", "a\nb", "a\n", "\r", "a\x00", "\x1f", "\x7f", "\x80", "\xff", "é", "a\u00a0b",
		strings.Repeat("a ", impl.MaxFieldsPerLine) + "\t",
		strings.Repeat(" ", impl.MaxLineLen-1) + "\x7f",
		strings.Repeat(" ", impl.MaxLineLen) + "\x1f",
	} {
		if got, ok := impl.SplitFields(line); len(got) != 0 || ok {
			t.Errorf("SplitFields(%q) = %q, %v; want none, false", line, got, ok)
		}
	}
}

func TestSplitFieldsLength(t *testing.T) {
	for _, n := range []int{impl.MaxLineLen - 1, impl.MaxLineLen} {
		long := strings.Repeat("a", n)
		if got, ok := impl.SplitFields(long); !slices.Equal(got, []string{long}) || !ok {
			t.Errorf("SplitFields of one field of %d bytes has %d fields, %v", n, len(got), ok)
		}
		if got, ok := impl.SplitFields(strings.Repeat(" ", n)); len(got) != 0 || !ok {
			t.Errorf("SplitFields of %d spaces has %d fields, %v", n, len(got), ok)
		}
		if got, ok := impl.SplitFields("b" + strings.Repeat(" ", n-2) + "c"); !slices.Equal(got, []string{"b", "c"}) || !ok {
			t.Errorf("SplitFields of two fields in %d bytes = %q, %v", n, got, ok)
		}
	}
	for _, n := range []int{impl.MaxLineLen + 1, 2 * impl.MaxLineLen, impl.MaxInputLen} {
		for _, line := range []string{strings.Repeat("a", n), strings.Repeat(" ", n), "a" + strings.Repeat(" ", n-1)} {
			if got, ok := impl.SplitFields(line); len(got) != 0 || ok {
				t.Errorf("SplitFields of %d bytes has %d fields, %v; want none, false", n, len(got), ok)
			}
		}
	}
}

func TestSplitFieldsCount(t *testing.T) {
	for n := range 61 {
		var want []string
		for i := range n {
			want = append(want, strconv.Itoa(i))
		}
		for _, line := range []string{strings.Join(want, " "), "  " + strings.Join(want, "  ") + " "} {
			got, ok := impl.SplitFields(line)
			if n > impl.MaxFieldsPerLine {
				if len(got) != 0 || ok {
					t.Errorf("SplitFields of %d fields has %d fields, %v; want none, false", n, len(got), ok)
				}
			} else if !slices.Equal(got, want) || !ok {
				t.Errorf("SplitFields(%q) = %q, %v; want %q, true", line, got, ok, want)
			}
		}
	}
}

func TestSplitFieldsIsNew(t *testing.T) {
	first, _ := impl.SplitFields("a b c")
	first[0], first[1] = "x", "y"
	if second, ok := impl.SplitFields("a b c"); !slices.Equal(second, []string{"a", "b", "c"}) || !ok {
		t.Errorf("a call returns memory of an earlier one: %q, %v", second, ok)
	}
}

func TestClamp(t *testing.T) {
	for _, c := range []struct{ n, low, high, want int }{
		{9, 1, 5, 5},
		{-9, 1, 5, 1},
		{3, 1, 5, 3},
		{1, 1, 5, 1},
		{5, 1, 5, 5},
		{0, 1, 5, 1},
		{6, 1, 5, 5},
		{7, 4, 4, 4},
		{4, 4, 4, 4},
		{1, 4, 4, 4},
		{-3, -5, -1, -3},
		{-7, -5, -1, -5},
		{0, -5, -1, -1},
		{0, 5, 1, 5},
		{3, 5, 1, 5},
		{9, 5, 1, 5},
		{5, 5, 4, 5},
		{4, 5, 4, 5},
		{math.MaxInt, math.MinInt, math.MaxInt, math.MaxInt},
		{math.MinInt, math.MinInt, math.MaxInt, math.MinInt},
		{math.MinInt, 0, math.MaxInt, 0},
		{math.MaxInt, math.MinInt, 0, 0},
		{0, math.MaxInt, math.MinInt, math.MaxInt},
		{math.MaxInt, 0, math.MinInt, 0},
	} {
		if got := impl.Clamp(c.n, c.low, c.high); got != c.want {
			t.Errorf("Clamp(%d, %d, %d) = %d; want %d", c.n, c.low, c.high, got, c.want)
		}
	}
}

func TestClampRange(t *testing.T) {
	for low := -6; low <= 6; low++ {
		for high := -6; high <= 6; high++ {
			for n := -8; n <= 8; n++ {
				want := n
				switch {
				case high < low || n < low:
					want = low
				case n > high:
					want = high
				}
				if got := impl.Clamp(n, low, high); got != want {
					t.Errorf("Clamp(%d, %d, %d) = %d; want %d", n, low, high, got, want)
				}
			}
		}
	}
}
