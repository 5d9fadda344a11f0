package runs

import (
	"math"
	"regexp"
	"strconv"
	"strings"
	"testing"
	"unicode/utf8"

	"stet/api"
)

// This file holds Scan against a second telling of the chapter: layer 3's lists as they stand there, rows by regular expressions, and what a row may do written out for each pair of kinds of characters.

const (
	blankWords = "9, 10, 12, 13, 32, 160, 5760, 8192 to 8202, 8239, 8287, 12288"
	markWords  = "33 to 47, 58 to 64, 91 to 96, 123 to 126, 161 to 169, 171, 172, 174 to 177, 180, 182 to 184, 187, 191, 215, 247, 8208 to 8231, 8240 to 8286, 8352 to 8384, 8592 to 8703, 12289 to 12291, 12296 to 12305"
)

// The kinds of characters.
const (
	other = iota
	blank
	mark
)

// kinds: of each character of the two lists, which kind it is.
var kinds = listed()

var rowForm = regexp.MustCompile(`^(?:\*+|_+)`)

func listed() map[rune]int {
	out := map[rune]int{}
	for kind, words := range map[int]string{blank: blankWords, mark: markWords} {
		for _, item := range strings.Split(words, ", ") {
			first, last, wide := strings.Cut(item, " to ")
			if !wide {
				last = first
			}
			from, _ := strconv.Atoi(first)
			to, _ := strconv.Atoi(last)
			for r := from; r <= to; r++ {
				out[rune(r)] = kind
			}
		}
	}
	return out
}

// kindOf: that of a text's first character; the kind of an empty text is that of a text's end.
func kindOf(s string) int {
	if s == "" {
		return blank
	}
	r, _ := utf8.DecodeRuneInString(s)
	return kinds[r]
}

// kindBefore: that of a text's last character.
func kindBefore(s string) int {
	if s == "" {
		return blank
	}
	r, _ := utf8.DecodeLastRuneInString(s)
	return kinds[r]
}

// one: a row of one mark, by the kinds of what is ahead of it and behind it.
func one(sign byte, ahead, behind int) api.Run {
	within := ""
	if sign == '*' {
		within = "opens, closes"
	}
	return ways(sign, 1, [3][3]string{
		other: {other: within, blank: "closes", mark: "closes"},
		blank: {other: "opens", blank: "", mark: "opens"},
		mark:  {other: "opens", blank: "closes", mark: "opens, closes"},
	}[ahead][behind])
}

func model(s string, at int) (api.Run, bool) {
	if at < 0 || at > len(s) {
		return api.Run{}, false
	}
	row := rowForm.FindString(s[at:])
	if row == "" {
		return api.Run{}, false
	}
	want := one(row[0], kindBefore(s[:at]), kindOf(s[at+len(row):]))
	want.N = len(row)
	return want, true
}

func holdAgainstModel(t *testing.T, s string, at int) {
	t.Helper()
	want, found := model(s, at)
	if got, ok := Scan(s, at); got != want || ok != found {
		t.Fatalf("Scan of %q at %d: %+v %v, not %+v %v", s, at, got, ok, want, found)
	}
}

func holdAllPlaces(t *testing.T, s string) {
	t.Helper()
	for at := -1; at <= len(s)+1; at++ {
		holdAgainstModel(t, s, at)
	}
}

// neighbours: what may stand next to a row, by name: of each kind of layer 3's blanks and marks, others, and the text's end.
func neighbours() map[string]string {
	out := map[string]string{
		"the text's end": "", "a small letter": "a", "a capital letter": "Z", "a digit": "0", "another digit": "9",
		"a byte 0": "\x00", "a byte 11": "\v", "a byte 127": "\x7f", "a byte 31": "\x1f",
		"two bytes": "\u00e9", "two bytes, the first such": "\u0080", "two bytes, 133": "\u0085", "two bytes, the last such": "\u07ff", "a soft hyphen": "\u00ad",
		"three bytes": "\u6f22", "three bytes, the first such": "\u0800", "a blank of no width": "\u200b", "a line's end to others": "\u2028", "a byte order mark": "\ufeff", "FFFD": "\ufffd", "three bytes, the last such": "\uffff",
		"four bytes": "\U0001f600", "four bytes, the first such": "\U00010000", "four bytes, the last such": "\U0010ffff",
		"a line's end of two bytes": "\r\n",
		"a byte that begins none":   "\xff", "a byte that goes on": "\x80", "a byte as a blank's number": "\xa0", "a byte as a mark's number": "\xab",
		"a beginning of two bytes": "\xc2", "a beginning of three bytes": "\xe2\x80", "a beginning of four bytes": "\xf0\x9f\x98",
		"a longer form of 32": "\xc0\xa0", "a longer form of 46": "\xe0\x80\xae", "D800": "\xed\xa0\x80", "110000": "\xf4\x90\x80\x80",
		"a character and a byte that goes on": "\u00e9\x80",
	}
	for r, kind := range kinds {
		out[strconv.Itoa(int(r))+", of kind "+strconv.Itoa(kind)] = string(r)
	}
	return out
}

// P11.1: for each of the two marks, each neighbour ahead of it and each behind it, each with each.
func TestEachNeighbourWithEach(t *testing.T) {
	all := neighbours()
	for aheadName, ahead := range all {
		for behindName, behind := range all {
			for _, sign := range []byte("*_") {
				if ahead == string(sign) || behind == string(sign) {
					continue // it is part of the row then: TestShortTexts has such
				}
				want := one(sign, kindBefore(ahead), kindOf(behind))
				s := ahead + string(sign) + behind
				if got, ok := Scan(s, len(ahead)); got != want || !ok {
					t.Fatalf("%s ahead, %s behind: Scan of %q: %+v %v, not %+v", aheadName, behindName, s, got, ok, want)
				}
			}
		}
	}
}

// P11.1: every character there is, ahead of a row and behind it, with one of each kind on its other side.
func TestEveryCharacter(t *testing.T) {
	for r := rune(0); r <= utf8.MaxRune; r++ {
		if !utf8.ValidRune(r) {
			continue
		}
		c := string(r)
		for _, far := range []string{"a", " ", "."} {
			for _, row := range []string{"*", "_"} {
				holdAgainstModel(t, c+row+far, len(c))
				holdAgainstModel(t, far+row+c, len(far))
			}
		}
	}
}

// P11.1: every two bytes ahead of a row and behind it, alone and where bytes further off may make a character with them.
func TestEveryTwoBytes(t *testing.T) {
	for first := range 256 {
		for second := range 256 {
			two := string([]byte{byte(first), byte(second)})
			for _, row := range []string{"*", "__"} {
				for _, ahead := range []string{"", "\xe2", "\xe3", "\xf0\x9f", "a"} {
					holdAgainstModel(t, ahead+two+row+"a", len(ahead)+2)
				}
				for _, behind := range []string{"", "\x80", "\xa0", "\x80\x80", "a"} {
					holdAgainstModel(t, "a"+row+two+behind, 1)
				}
			}
		}
	}
}

// P11.1 at all places of all short texts of what matters.
func TestShortTexts(t *testing.T) {
	for _, c := range []struct {
		parts   []string
		longest int
	}{
		{[]string{"*", "_", "a", " ", "."}, 6},
		{[]string{"*", "_", "\u00e9", "\u00a0", "\u2014", "\n", "\xff"}, 5},
		{[]string{"*", "_", "\xe2", "\x80", "\x83", "\xa2"}, 5},
	} {
		texts(c.parts, c.longest, func(s string) { holdAllPlaces(t, s) })
	}
}

// texts: all texts of at most so many of these parts.
func texts(parts []string, longest int, yield func(string)) {
	var grow func(s string, left int)
	grow = func(s string, left int) {
		yield(s)
		if left == 0 {
			return
		}
		for _, part := range parts {
			grow(s+part, left-1)
		}
	}
	grow("", longest)
}

// P11.1: what a row is hangs on the characters next to it alone, not on what stands further off, and not on how many marks it has.
func TestNothingElseCounts(t *testing.T) {
	far := []string{"", "a", " ", ".", "*a", "_ ", "\n", "\\", "`", "<b ", "\u3000", "\x00"}
	texts([]string{"a", " ", ".", "\u20ac"}, 1, func(ahead string) {
		texts([]string{"a", " ", ".", "\u20ac"}, 1, func(behind string) {
			if ahead == "" || behind == "" {
				return
			}
			for _, first := range far {
				for _, last := range far {
					for _, row := range []string{"*", "**", "***", "_", "__", "___"} {
						want := one(row[0], kindBefore(ahead), kindOf(behind))
						want.N = len(row)
						hold(t, first+ahead+row+behind+last, len(first)+len(ahead), want)
					}
				}
			}
		})
	})
}

// P1 and P2: any arguments are answered, and twice the same.
func FuzzAgainstModel(f *testing.F) {
	for _, s := range []string{"", "a**b", "a_b", "*", "___", ".*.", "\u00a0_\u2014", "\xe2\x80*", "*\xf0\x9f", "\r\n*a", "*_*_"} {
		for _, at := range []int{0, 1, 2, 3, -1, 1 << 32, math.MinInt64, math.MaxInt64} {
			f.Add(s, at)
		}
	}
	f.Fuzz(func(t *testing.T, s string, at int) {
		for range 2 {
			holdAgainstModel(t, s, at)
			holdAllPlaces(t, s)
		}
	})
}
