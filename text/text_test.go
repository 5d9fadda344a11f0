package text

import (
	"math"
	"slices"
	"strings"
	"testing"

	"stet/api"
)

const fffd = "\xef\xbf\xbd"

// P1.1, Clean.
func TestClean(t *testing.T) {
	for _, c := range []struct{ name, s, want string }{
		{"an empty text", "", ""},
		{"letters", "abc", "abc"},
		{"characters of one to four bytes", "a\u00e9\u20ac\U0001f600", "a\u00e9\u20ac\U0001f600"},
		{"the chapter's example", "a\xffb", "a" + fffd + "b"},
		{"a byte 0", "\x00", fffd},
		{"a byte 0 between others", "a\x00b\x00", "a" + fffd + "b" + fffd},
		{"FFFD itself stays", fffd, fffd},
		{"line's ends stay", "a\r\nb\rc\n", "a\r\nb\rc\n"},
		{"other controls stay", "\x01\t\x1f\x7f", "\x01\t\x1f\x7f"},
		{"a lone byte that only goes on", "\x80", fffd},
		{"a longer form of byte 0", "\xc0\x80", fffd + fffd},
		{"a longer form of three bytes", "\xe0\x80\xaf", fffd + fffd + fffd},
		{"a longer form of four bytes", "\xf0\x8f\xbf\xbf", fffd + fffd + fffd + fffd},
		{"D800", "\xed\xa0\x80", fffd + fffd + fffd},
		{"DFFF", "\xed\xbf\xbf", fffd + fffd + fffd},
		{"the neighbours of D800 and DFFF", "\xed\x9f\xbf\xee\x80\x80", "\xed\x9f\xbf\xee\x80\x80"},
		{"110000", "\xf4\x90\x80\x80", fffd + fffd + fffd + fffd},
		{"10FFFF", "\xf4\x8f\xbf\xbf", "\xf4\x8f\xbf\xbf"},
		{"a character cut short, each byte by itself", "\xe2\x82", fffd + fffd},
		{"a character cut short by another", "\xf0\x9f\x98a", fffd + fffd + fffd + "a"},
	} {
		if got := Clean(c.s); got != c.want {
			t.Errorf("%s: %q: %q, not %q", c.name, c.s, got, c.want)
		}
	}
}

// P1.1, Lines.
func TestLines(t *testing.T) {
	for _, c := range []struct {
		s    string
		want []api.Line
	}{
		{"", nil},
		{"a", []api.Line{{From: 0, To: 1, End: 1}}},
		{"a\n", []api.Line{{From: 0, To: 1, End: 2}}},
		{"a\r", []api.Line{{From: 0, To: 1, End: 2}}},
		{"a\r\n", []api.Line{{From: 0, To: 1, End: 3}}},
		{"\n", []api.Line{{From: 0, To: 0, End: 1}}},
		{"\r", []api.Line{{From: 0, To: 0, End: 1}}},
		{"\r\n", []api.Line{{From: 0, To: 0, End: 2}}},
		{"\n\r", []api.Line{{From: 0, To: 0, End: 1}, {From: 1, To: 1, End: 2}}},
		{"\r\r\n", []api.Line{{From: 0, To: 0, End: 1}, {From: 1, To: 1, End: 3}}},
		{"\r\n\n", []api.Line{{From: 0, To: 0, End: 2}, {From: 2, To: 2, End: 3}}},
		{"a\r\nb\r", []api.Line{{From: 0, To: 1, End: 3}, {From: 3, To: 4, End: 5}}},
		{"a\rb", []api.Line{{From: 0, To: 1, End: 2}, {From: 2, To: 3, End: 3}}},
		{"a\n ", []api.Line{{From: 0, To: 1, End: 2}, {From: 2, To: 3, End: 3}}},
		{"\x00\n\xff", []api.Line{{From: 0, To: 1, End: 2}, {From: 2, To: 3, End: 3}}},
		{"a\v\f\u0085\u2028b", []api.Line{{From: 0, To: 9, End: 9}}},
	} {
		if got := Lines(c.s); !slices.Equal(got, c.want) {
			t.Errorf("%q: %v, not %v", c.s, got, c.want)
		}
	}
}

// P1.1, At: every offset of a text, from 0 to its length.
func TestAtEveryOffset(t *testing.T) {
	for _, c := range []struct {
		s    string
		want []api.Place
	}{
		{"", []api.Place{{Line: 1, Col: 1}}},
		{"ab", []api.Place{{Line: 1, Col: 1}, {Line: 1, Col: 2}, {Line: 1, Col: 3}}},
		{"a\n", []api.Place{{Line: 1, Col: 1}, {Line: 1, Col: 2}, {Line: 2, Col: 1}}},
		{"a\r", []api.Place{{Line: 1, Col: 1}, {Line: 1, Col: 2}, {Line: 2, Col: 1}}},
		{"\r\nb", []api.Place{{Line: 1, Col: 1}, {Line: 1, Col: 2}, {Line: 2, Col: 1}, {Line: 2, Col: 2}}},
		{"\n\r", []api.Place{{Line: 1, Col: 1}, {Line: 2, Col: 1}, {Line: 3, Col: 1}}},
		{"\u20acb", []api.Place{{Line: 1, Col: 1}, {Line: 1, Col: 2}, {Line: 1, Col: 2}, {Line: 1, Col: 2}, {Line: 1, Col: 3}}},
		{"\xe2\x82b", []api.Place{{Line: 1, Col: 1}, {Line: 1, Col: 2}, {Line: 1, Col: 3}, {Line: 1, Col: 4}}},
		{"\x00\xff\n", []api.Place{{Line: 1, Col: 1}, {Line: 1, Col: 2}, {Line: 1, Col: 3}, {Line: 2, Col: 1}}},
	} {
		for offset, want := range c.want {
			if got, err := At(c.s, offset); got != want || err != api.OK {
				t.Errorf("%q at %d: %v %v, not %v", c.s, offset, got, err, want)
			}
		}
	}
}

// P1.1, At: offsets beyond both ends.
func TestAtWrongOffsets(t *testing.T) {
	for _, s := range []string{"", "a", "a\n", "\u20ac", "\xff\r\n"} {
		for _, offset := range []int{-1, len(s) + 1, len(s) + 4, math.MinInt, math.MaxInt} {
			if got, err := At(s, offset); got != (api.Place{}) || err != api.ErrPlace {
				t.Errorf("%q at %d: %v %v", s, offset, got, err)
			}
		}
	}
}

// P1.1, Offset: the least one, even within a character.
func TestOffset(t *testing.T) {
	for _, c := range []struct {
		s         string
		line, col int
		want      int
	}{
		{"", 1, 1, 0},
		{"a", 1, 1, 0},
		{"a", 1, 2, 1},
		{"a\n", 1, 2, 1},
		{"a\n", 2, 1, 2},
		{"a\r\nb", 1, 3, 2},
		{"a\r\nb", 2, 1, 3},
		{"a\r\nb", 2, 2, 4},
		{"a\rb", 2, 1, 2},
		{"\n\n", 3, 1, 2},
		{"\u20acb", 1, 2, 1},
		{"\u20acb", 1, 3, 4},
		{"\U0001f600", 1, 2, 1},
		{"\xe2\x82b", 1, 3, 2},
		{"\x00\xff", 1, 3, 2},
	} {
		if got, err := Offset(c.s, api.Place{Line: c.line, Col: c.col}); got != c.want || err != api.OK {
			t.Errorf("%q, line %d, column %d: %d %v, not %d", c.s, c.line, c.col, got, err, c.want)
		}
	}
}

// P1.1, Offset: places that no offset has.
func TestOffsetWrongPlaces(t *testing.T) {
	for _, c := range []struct {
		s         string
		line, col int
	}{
		{"", 0, 0},
		{"", 0, 1},
		{"", 1, 0},
		{"", 1, 2},
		{"", 2, 1},
		{"a", 1, 3},
		{"a", 2, 1},
		{"a\n", 1, 3},
		{"a\n", 2, 2},
		{"a\n", 3, 1},
		{"a\r\n", 1, 4},
		{"a\r\nb", 1, 4},
		{"a\r\nb", 2, 3},
		{"\u20ac", 1, 3},
		{"\xff", 1, 3},
		{"a\nb", -1, 1},
		{"a\nb", 1, -1},
		{"a\nb", math.MinInt, 1},
		{"a\nb", 1, math.MinInt},
		{"a\nb", math.MaxInt, 1},
		{"a\nb", 1, math.MaxInt},
		{"a\nb", math.MaxInt, math.MaxInt},
		{"a\nb", math.MinInt, math.MinInt},
	} {
		if got, err := Offset(c.s, api.Place{Line: c.line, Col: c.col}); got != 0 || err != api.ErrPlace {
			t.Errorf("%q, line %d, column %d: %d %v", c.s, c.line, c.col, got, err)
		}
	}
}

// P1.2, Rune.
func TestRune(t *testing.T) {
	for _, c := range []struct {
		s                string
		at, number, size int
	}{
		{"ab", 1, 'b', 1},
		{"\x00", 0, 0, 1},
		{"\x7f", 0, 0x7f, 1},
		{"\xc2\x80", 0, 0x80, 2},
		{"\xdf\xbf", 0, 0x7ff, 2},
		{"\xe0\xa0\x80", 0, 0x800, 3},
		{"\xed\x9f\xbf", 0, 0xd7ff, 3},
		{"\xee\x80\x80", 0, 0xe000, 3},
		{"\xef\xbf\xbf", 0, 0xffff, 3},
		{"\xf0\x90\x80\x80", 0, 0x10000, 4},
		{"\xf4\x8f\xbf\xbf", 0, 0x10ffff, 4},
		{fffd, 0, 0xfffd, 3},
		{"a\u20acb", 1, 0x20ac, 3},
		{"a\u20acb", 2, 0xfffd, 1},
		{"a\u20acb", 4, 'b', 1},
		{"\xc0\x80", 0, 0xfffd, 1},
		{"\xc1\xbf", 0, 0xfffd, 1},
		{"\xe0\x9f\xbf", 0, 0xfffd, 1},
		{"\xf0\x8f\xbf\xbf", 0, 0xfffd, 1},
		{"\xed\xa0\x80", 0, 0xfffd, 1},
		{"\xf4\x90\x80\x80", 0, 0xfffd, 1},
		{"\xf5\x80\x80\x80", 0, 0xfffd, 1},
		{"\xff", 0, 0xfffd, 1},
		{"\xc3", 0, 0xfffd, 1},
		{"\xe2\x82a", 0, 0xfffd, 1},
	} {
		if number, size := Rune(c.s, c.at); number != c.number || size != c.size {
			t.Errorf("%q at %d: %x %d, not %x %d", c.s, c.at, number, size, c.number, c.size)
		}
	}
}

// P1.2, Rune: what is no offset below the length.
func TestRuneWrongOffsets(t *testing.T) {
	for _, s := range []string{"", "a", "\u20ac", "\xff"} {
		for _, at := range []int{-1, len(s), len(s) + 1, math.MinInt, math.MaxInt} {
			if number, size := Rune(s, at); number != 0 || size != 0 {
				t.Errorf("%q at %d: %d %d", s, at, number, size)
			}
		}
	}
}

// P1.2, Before.
func TestBefore(t *testing.T) {
	for _, c := range []struct {
		s        string
		at, want int
	}{
		{"a", 1, 'a'},
		{"abcdef", 6, 'f'},
		{"\x00", 1, 0},
		{"a\u00e9", 3, 0xe9},
		{"a\u00e9", 2, 0xfffd},
		{"\u20ac", 3, 0x20ac},
		{"\u20ac", 2, 0xfffd},
		{"\U0001f600", 4, 0x1f600},
		{"\U0001f600", 3, 0xfffd},
		{"abc\U0001f600d", 7, 0x1f600},
		{"\U0001f600d", 5, 'd'},
		{"\xff", 1, 0xfffd},
		{"a\x80\x80\x80\x80\x80", 6, 0xfffd},
		{"\xe2\x82a", 3, 'a'},
		{"a\r\n", 3, '\n'},
		{"", 0, -1},
		{"", 1, -1},
		{"a", 0, -1},
		{"a", -1, -1},
		{"a", 2, -1},
		{"a", math.MinInt, -1},
		{"a", math.MaxInt, -1},
	} {
		if got := Before(c.s, c.at); got != c.want {
			t.Errorf("%q before %d: %x, not %x", c.s, c.at, got, c.want)
		}
	}
}

// Rule 4: what is answered is new memory, spare room too.
func TestLinesAreNewEachTime(t *testing.T) {
	s := strings.Repeat("a\n", 5)
	first, second := Lines(s), Lines(s)
	kept := slices.Clone(second)
	for i := range first[:cap(first)] {
		first[:cap(first)][i] = api.Line{From: -1}
	}
	if !slices.Equal(second, kept) || !slices.Equal(Lines(s), kept) {
		t.Error("two answers share memory")
	}
}

// P1: the greatest text that is read, at its worst, is answered at once.
func TestGreatTexts(t *testing.T) {
	for _, part := range []string{"\n", "\r", "a", "\x80", "\xf0\x9f\x98"} {
		s := strings.Repeat(part, api.MaxText/len(part))
		lines := Lines(s)
		end := 0
		for _, line := range lines {
			if line.From != end {
				t.Fatal(part, line)
			}
			end = line.End
		}
		if end != len(s) {
			t.Error(part, end)
		}
		place, err := At(s, len(s))
		if err != api.OK {
			t.Error(part, err)
		}
		if got, err := Offset(s, place); got != len(s) || err != api.OK {
			t.Error(part, place, got, err)
		}
		Clean(s)
	}
}
