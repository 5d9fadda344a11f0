package runs

import (
	"math"
	"strconv"
	"strings"
	"testing"

	"stet/api"
)

// ways: what a row may do.
func ways(mark byte, n int, words string) api.Run {
	return api.Run{Mark: mark, N: n, Open: strings.Contains(words, "opens"), Close: strings.Contains(words, "closes")}
}

func hold(t *testing.T, s string, at int, want api.Run) {
	t.Helper()
	if got, ok := Scan(s, at); got != want || !ok {
		t.Errorf("Scan of %s at %d: %+v %v, not %+v", shown(s), at, got, ok, want)
	}
}

func holdNothing(t *testing.T, s string, at int) {
	t.Helper()
	if got, ok := Scan(s, at); got != (api.Run{}) || ok {
		t.Errorf("Scan of %s at %d: %+v %v, not nothing", shown(s), at, got, ok)
	}
}

// shown: a text as a fault tells it; of a long one, its beginning.
func shown(s string) string {
	if len(s) > 40 {
		return strconv.Quote(s[:40]) + ".."
	}
	return strconv.Quote(s)
}

// P11.1: ordinary texts, and the chapter's examples.
func TestScan(t *testing.T) {
	for _, c := range []struct {
		name string
		s    string
		at   int
		n    int
		want string
	}{
		{"the chapter's first example", "a**b", 1, 2, "opens, closes"},
		{"the chapter's second example", "a_b", 1, 1, ""},
		{"an emphasis's beginning", "a *b* c", 2, 1, "opens"},
		{"an emphasis's end", "a *b* c", 4, 1, "closes"},
		{"an emphasis's beginning, by the other mark", "a _b_ c", 2, 1, "opens"},
		{"an emphasis's end, by the other mark", "a _b_ c", 4, 1, "closes"},
		{"a strong emphasis's beginning", "a __b__ c", 2, 2, "opens"},
		{"a strong emphasis's end", "a __b__ c", 5, 2, "closes"},
		{"blanks about it", "2 * 3", 2, 1, ""},
		{"blanks about the other mark", "2 _ 3", 2, 1, ""},
		{"within a name", "a_long_name", 6, 1, ""},
		{"within a word", "un*believ*able", 2, 1, "opens, closes"},
		{"ahead of a quotation mark, behind a letter", `a*"b"*`, 1, 1, "closes"},
		{"behind a quotation mark, at the end", `a*"b"*`, 5, 1, "closes"},
		{"behind an opening parenthesis", "a (*b*)", 3, 1, "opens"},
		{"ahead of a closing parenthesis", "a (*b*)", 5, 1, "closes"},
		{"the other mark behind a hyphen", "foo-_(bar)_", 4, 1, "opens, closes"},
		{"the other mark at the end behind a parenthesis", "foo-_(bar)_", 10, 1, "closes"},
		{"the other mark ahead of a parenthesis, behind a letter", "foo_(bar)_", 3, 1, "closes"},
		{"ahead of a byte 0", " *\x00", 1, 1, "opens"},
		{"behind a byte 0", "\x00* ", 1, 1, "closes"},
		{"the other mark between bytes 0", "\x00_\x00", 1, 1, ""},
		{"ahead of a backslash", "a*\\*", 1, 1, "closes"},
		{"behind a backslash, which counts as a mark alone", "a\\*b", 2, 1, "opens"},
		{"between lines' ends", "\n*\n", 1, 1, ""},
		{"ahead of a line's end of two bytes", "a*\r\n", 1, 1, "closes"},
		{"behind a line's end of two bytes", "\r\n*a", 2, 1, "opens"},
		{"ahead of an entity, which counts as its first byte", "a*&nbsp;", 1, 1, "closes"},
	} {
		if got, ok := Scan(c.s, c.at); got != ways(c.s[c.at], c.n, c.want) || !ok {
			t.Errorf("%s: Scan of %q at %d: %+v %v, not %d, %q", c.name, c.s, c.at, got, ok, c.n, c.want)
		}
	}
}

// P11.1: places at which no row is, since none is in the text.
func TestScanBeyondTheText(t *testing.T) {
	for _, s := range []string{"", "*", "_", "**", "__", "a", "a*", "*a", "_a_", "\xff*", "\u20ac", strings.Repeat("*", 300)} {
		for _, past := range []int{0, 1, 2, 3, 4, 1 << 8, 1 << 16, 1 << 31, 1 << 32, 1<<32 + 1, 1 << 62} {
			holdNothing(t, s, len(s)+past)
			holdNothing(t, s, -1-past)
			// A number of which only its lowest bits are asked for would be a place of the text.
			holdNothing(t, s, math.MinInt64+past)
			holdNothing(t, s, math.MaxInt64-past)
		}
	}
}

// P11.1: every byte but "*" and "_", alone and next to these.
func TestScanOfOtherBytes(t *testing.T) {
	for b := range 256 {
		if b == '*' || b == '_' {
			continue
		}
		for _, ahead := range []string{"", "*", "_", "a", " ", "\xe2\x80"} {
			for _, behind := range []string{"", "*", "_", "**", "a", " ", "\x80*"} {
				holdNothing(t, ahead+string([]byte{byte(b)})+behind, len(ahead))
			}
		}
	}
	// Characters whose number ends in the bits of "*" or "_".
	for _, s := range []string{"\u012a", "\u015f", "\u2f2a", "\u205f", "\uff0a", "\uff3f", "\U0001002a", "\U0001005f"} {
		for at := range len(s) {
			holdNothing(t, s, at)
		}
	}
}

// P11.1: a place in the middle of a character has no row, nor is one told that begins behind it.
func TestScanWithinCharacters(t *testing.T) {
	for _, c := range []string{"\u00e9", "\u00a0", "\u00ab", "\u20ac", "\u3000", "\u2014", "\U0001f600", "\U0010ffff"} {
		for _, mark := range []string{"*", "_", "***", "__"} {
			s := mark + c + mark
			for i := range len(c) {
				holdNothing(t, s, len(mark)+i)
			}
		}
	}
}

// P11.1: how many marks a row has, asked at its first mark and within it: from the place on they are counted, and the mark ahead of the place counts as one.
func TestRowsOfManyMarks(t *testing.T) {
	for _, mark := range []byte("*_") {
		for _, n := range []int{1, 2, 3, 4, 5, 7, 64, 255, 256, 257, 1000} {
			row := strings.Repeat(string(mark), n)
			for i := range n {
				within := i > 0
				hold(t, "a "+row+"b", 2+i, ways(mark, n-i, "opens"))
				hold(t, row, i, wholeText(mark, n-i, within))
				hold(t, "a"+row+" b", 1+i, ways(mark, n-i, "closes"))
				hold(t, "a "+row+" b", 2+i, wholeText(mark, n-i, within))
				hold(t, "a"+row+"b", 1+i, inWord(mark, n-i, within))
				hold(t, "a."+row+".b", 2+i, ways(mark, n-i, "opens, closes"))
			}
			holdNothing(t, row, n)
			holdNothing(t, row+"a", n)
		}
	}
}

// wholeText: a row between blanks, or what is left of it, behind its first mark.
func wholeText(mark byte, n int, within bool) api.Run {
	if within {
		return ways(mark, n, "closes")
	}
	return ways(mark, n, "")
}

// inWord: likewise between letters.
func inWord(mark byte, n int, within bool) api.Run {
	if within {
		return ways(mark, n, "opens")
	}
	if mark == '*' {
		return ways(mark, n, "opens, closes")
	}
	return ways(mark, n, "")
}

// P11.1: rows of the one mark directly ahead of and behind rows of the other, each of which counts as a mark to the other.
func TestRowsNextToOthers(t *testing.T) {
	for _, c := range []struct{ one, other byte }{{'*', '_'}, {'_', '*'}} {
		for n := 1; n <= 4; n++ {
			for m := 1; m <= 4; m++ {
				one, other := strings.Repeat(string(c.one), n), strings.Repeat(string(c.other), m)
				hold(t, one+other, 0, ways(c.one, n, "opens"))
				hold(t, one+other, n, ways(c.other, m, "closes"))
				hold(t, "a"+one+other+"b", 1, ways(c.one, n, "closes"))
				hold(t, "a"+one+other+"b", 1+n, ways(c.other, m, "opens"))
				hold(t, "a "+one+other+"b", 2, ways(c.one, n, "opens"))
				hold(t, "a "+one+other+"b", 2+n, ways(c.other, m, "opens"))
				hold(t, "a"+one+other+" b", 1, ways(c.one, n, "closes"))
				hold(t, "a"+one+other+" b", 1+n, ways(c.other, m, "closes"))
				hold(t, "a"+one+other+one+"b", 1+n, ways(c.other, m, "opens, closes"))
				hold(t, "a "+one+other+one+" b", 2+n, ways(c.other, m, "opens, closes"))
			}
		}
	}
}

// P11.1: the text's beginning and its end count as blanks, and nothing else of the row hangs on them.
func TestRowsAtTheTextsEnds(t *testing.T) {
	for _, mark := range []byte("*_") {
		for n := 1; n <= 4; n++ {
			row := strings.Repeat(string(mark), n)
			hold(t, row, 0, ways(mark, n, ""))
			for _, next := range []string{"a", "7", ".", "\u00e9", "\u2014", "\U0001f600", "\xff", "\x00"} {
				hold(t, row+next, 0, ways(mark, n, "opens"))
				hold(t, next+row, len(next), ways(mark, n, "closes"))
			}
			for _, next := range []string{" ", "\t", "\n", "\r", "\u00a0", "\u3000"} {
				hold(t, row+next, 0, ways(mark, n, ""))
				hold(t, next+row, len(next), ways(mark, n, ""))
			}
		}
	}
}

// P11.1 and P1: long texts and long rows.
func TestLongTexts(t *testing.T) {
	const many = api.MaxText + 1
	for _, mark := range []byte("*_") {
		row := strings.Repeat(string(mark), many)
		for _, i := range []int{0, 1, 2, 255, 256, 65535, 65536, many - 2, many - 1} {
			hold(t, row, i, wholeText(mark, many-i, i > 0))
			hold(t, "a"+row+"b", 1+i, inWord(mark, many-i, i > 0))
		}
		holdNothing(t, row, many)
		for _, c := range []string{"a", " ", ".", "\u00a0", "\u20ac", "\U0001f600", "\xff", "\x80"} {
			text := strings.Repeat(c, many)
			at := len(text)
			hold(t, text+string(mark)+text, at, one(mark, kindOf(c), kindOf(c)))
			holdNothing(t, text, at/2)
			holdNothing(t, text+string(mark)+text, at-1)
			holdNothing(t, text+string(mark)+text, at+1)
		}
	}
}
