package text

import (
	"slices"
	"strings"
	"testing"

	"stet/api"
)

// This file holds the calls against a second telling of the chapter, which knows nothing of how Go reads a string, at all short texts of some bytes.

// span is what a byte must lie between.
type span struct{ least, greatest byte }

// forms: the bytes of which Unicode makes characters, form by form.
func forms() [][]span {
	more := span{0x80, 0xbf}
	return [][]span{
		{{0x00, 0x7f}},
		{{0xc2, 0xdf}, more},
		{{0xe0, 0xe0}, {0xa0, 0xbf}, more},
		{{0xe1, 0xec}, more, more},
		{{0xed, 0xed}, {0x80, 0x9f}, more},
		{{0xee, 0xef}, more, more},
		{{0xf0, 0xf0}, {0x90, 0xbf}, more, more},
		{{0xf1, 0xf3}, more, more, more},
		{{0xf4, 0xf4}, {0x80, 0x8f}, more, more},
	}
}

func fits(s string, form []span) bool {
	if len(s) < len(form) {
		return false
	}
	for i, f := range form {
		if s[i] < f.least || s[i] > f.greatest {
			return false
		}
	}
	return true
}

func modelRune(s string, at int) (int, int) {
	if at < 0 || at >= len(s) {
		return 0, 0
	}
	for _, form := range forms() {
		if !fits(s[at:], form) {
			continue
		}
		if len(form) == 1 {
			return int(s[at]), 1
		}
		number := int(s[at]) & (0x7f >> len(form))
		for i := 1; i < len(form); i++ {
			number = number<<6 | int(s[at+i])&0x3f
		}
		return number, len(form)
	}
	return 0xfffd, 1
}

func modelBefore(s string, at int) int {
	if at < 1 || at > len(s) {
		return -1
	}
	for ahead := 4; ahead > 0; ahead-- {
		if number, size := modelRune(s, at-ahead); size == ahead {
			return number
		}
	}
	return 0xfffd
}

func modelClean(s string) string {
	out := ""
	for at := 0; at < len(s); {
		number, size := modelRune(s, at)
		if number == 0 || number == 0xfffd {
			out += fffd
		} else {
			out += s[at : at+size]
		}
		at += size
	}
	return out
}

func modelLines(s string) []api.Line {
	var out []api.Line
	from := 0
	for at := 0; at < len(s); at++ {
		if s[at] != '\n' && s[at] != '\r' {
			continue
		}
		to := at
		if s[at] == '\r' && at+1 < len(s) && s[at+1] == '\n' {
			at++
		}
		out = append(out, api.Line{From: from, To: to, End: at + 1})
		from = at + 1
	}
	if from < len(s) {
		out = append(out, api.Line{From: from, To: len(s), End: len(s)})
	}
	return out
}

// begins: where the characters of a text begin.
func begins(s string) map[int]bool {
	out := map[int]bool{}
	for at := 0; at < len(s); {
		out[at] = true
		_, size := modelRune(s, at)
		at += size
	}
	return out
}

// modelPlaces: the places of all offsets of a text.
func modelPlaces(s string) []api.Place {
	var out []api.Place
	lines, begin := modelLines(s), begins(s)
	for offset := 0; offset <= len(s); offset++ {
		line := slices.IndexFunc(lines, func(l api.Line) bool {
			return l.From <= offset && (offset < l.End || l.To == l.End)
		})
		place := api.Place{Line: line + 1, Col: 1}
		if line < 0 {
			out = append(out, api.Place{Line: len(lines) + 1, Col: 1})
			continue
		}
		for at := lines[line].From; at < offset; at++ {
			if begin[at] {
				place.Col++
			}
		}
		out = append(out, place)
	}
	return out
}

// texts: all texts of at most so many of these bytes.
func texts(alphabet string, longest int, yield func(string)) {
	var grow func(string)
	grow = func(s string) {
		yield(s)
		if len(s) == longest {
			return
		}
		for i := 0; i < len(alphabet); i++ {
			grow(s + alphabet[i:i+1])
		}
	}
	grow("")
}

func holdAgainstModel(t *testing.T, s string) {
	t.Helper()
	if got, want := Clean(s), modelClean(s); got != want {
		t.Fatalf("Clean %q: %q, not %q", s, got, want)
	}
	if got, want := Lines(s), modelLines(s); !slices.Equal(got, want) {
		t.Fatalf("Lines %q: %v, not %v", s, got, want)
	}
	for at := -2; at <= len(s)+2; at++ {
		number, size := Rune(s, at)
		if wantNumber, wantSize := modelRune(s, at); number != wantNumber || size != wantSize {
			t.Fatalf("Rune %q at %d: %x %d, not %x %d", s, at, number, size, wantNumber, wantSize)
		}
		if got, want := Before(s, at), modelBefore(s, at); got != want {
			t.Fatalf("Before %q at %d: %x, not %x", s, at, got, want)
		}
	}
	holdPlaces(t, s)
}

func holdPlaces(t *testing.T, s string) {
	t.Helper()
	places := modelPlaces(s)
	for offset := -2; offset <= len(s)+2; offset++ {
		want, wantErr := api.Place{}, api.ErrPlace
		if offset >= 0 && offset <= len(s) {
			want, wantErr = places[offset], api.OK
		}
		if got, err := At(s, offset); got != want || err != wantErr {
			t.Fatalf("At %q, %d: %v %v, not %v", s, offset, got, err, want)
		}
	}
	for line := -1; line <= len(s)+3; line++ {
		for col := -1; col <= len(s)+3; col++ {
			p := api.Place{Line: line, Col: col}
			want, wantErr := slices.Index(places, p), api.OK
			if want < 0 {
				want, wantErr = 0, api.ErrPlace
			}
			if got, err := Offset(s, p); got != want || err != wantErr {
				t.Fatalf("Offset %q, %v: %d %v, not %d", s, p, got, err, want)
			}
		}
	}
}

// P1.1 and P1.2 at all short texts of bytes that meet each other at the edges.
func TestShortTextsAgainstModel(t *testing.T) {
	for alphabet, longest := range map[string]int{
		"a\r\n":                              6,
		"a\n\x00\xc3\xa9\xff":                4,
		"a\xe2\x82\xac\xf0\x9f":              4,
		"\xf0\x90\x80\xf4\x8f\xed\xa0\r":     4,
		"\x7f\xc0\xc1\xe0\xbf\xf5\xee\x80\n": 4,
	} {
		texts(alphabet, longest, func(s string) { holdAgainstModel(t, s) })
	}
}

// P1.2 at all texts of two bytes, and with bytes behind them that go on, or just do not.
func TestRuneAgainstModel(t *testing.T) {
	hold := func(s string) {
		number, size := Rune(s, 0)
		if wantNumber, wantSize := modelRune(s, 0); number != wantNumber || size != wantSize {
			t.Fatalf("%q: %x %d, not %x %d", s, number, size, wantNumber, wantSize)
		}
	}
	for first := range 256 {
		for second := range 256 {
			two := string([]byte{byte(first), byte(second)})
			hold(two)
			for _, rest := range []string{"\x80", "\xbf", "\x7f", "\xc0", "\x80\x80", "\xbf\xbf", "\x80\x7f", "\xbf\xc0", "\x7f\x80"} {
				hold(two + rest)
			}
		}
	}
}

// P1 and P2: any text is answered, and twice the same.
func FuzzAgainstModel(f *testing.F) {
	for _, s := range []string{"", "a\xffb", "a\r\nb\r", "\x00", "\u20ac\n", "\xf0\x9f\x98"} {
		f.Add(s)
	}
	f.Fuzz(func(t *testing.T, s string) {
		if len(s) > 64 {
			s = strings.Clone(s[:64])
		}
		holdAgainstModel(t, s)
		holdAgainstModel(t, s)
	})
}
