package class

import (
	"math"
	"strings"
	"testing"
)

// P3.1, Blank: the edges of each span, and the numbers next to them.
func TestBlank(t *testing.T) {
	yes := []int{9, 10, 12, 13, 32, 160, 5760, 8192, 8193, 8201, 8202, 8239, 8287, 12288}
	no := []int{0, 1, 8, 11, 14, 31, 33, 127, 133, 159, 161, 5759, 5761, 6158, 8191, 8203, 8232, 8233, 8238, 8240, 8286, 8288, 12287, 12289, 65279, 65533}
	asked(t, "Blank", Blank, yes, no)
}

// P3.1, Mark: likewise.
func TestMark(t *testing.T) {
	yes := []int{
		33, 34, 46, 47, 58, 59, 63, 64, 91, 92, 95, 96, 123, 124, 125, 126,
		161, 162, 168, 169, 171, 172, 174, 175, 176, 177, 180, 182, 183, 184, 187, 191, 215, 247,
		8208, 8209, 8230, 8231, 8240, 8241, 8285, 8286, 8352, 8353, 8383, 8384, 8592, 8593, 8702, 8703,
		12289, 12290, 12291, 12296, 12297, 12304, 12305,
	}
	no := []int{
		0, 9, 32, 48, 57, 65, 90, 97, 122, 127, 128,
		160, 170, 173, 178, 179, 181, 185, 186, 188, 189, 190, 192, 214, 216, 246, 248,
		8207, 8232, 8233, 8239, 8287, 8351, 8385, 8591, 8704, 12288, 12292, 12295, 12306, 65533,
	}
	asked(t, "Mark", Mark, yes, no)
}

// asked holds a question about characters against those that are to answer yes and no; those that are no characters are all no, some of them also where their lowest bits are a blank's or a mark's.
func asked(t *testing.T, name string, ask func(int) bool, yes, no []int) {
	t.Helper()
	for _, r := range yes {
		if !ask(r) {
			t.Errorf("%s of %d: false", name, r)
		}
	}
	for _, r := range no {
		if ask(r) {
			t.Errorf("%s of %d: true", name, r)
		}
	}
	for _, r := range []int{-1, -32, -33, -160, 0xd800, 0xdfff, 0x10ffff, 0x110000, 1<<8 + 32, 1<<8 + 33, 1<<16 + 32, 1<<16 + 33, 1<<32 + 32, 1<<32 + 33, -1<<32 + 32, -1<<32 + 33, math.MaxInt32, math.MinInt32, math.MaxInt64, math.MinInt64, math.MinInt64 + 32, math.MinInt64 + 33} {
		if ask(r) {
			t.Errorf("%s of %d: true", name, r)
		}
	}
}

// P3.1, Plain: the edges of each span, and the bytes that are marks only as characters.
func TestPlain(t *testing.T) {
	for _, b := range []byte("!/:@[`{~\\*_#&<>.-") {
		if !Plain(b) {
			t.Errorf("Plain of %d: false", b)
		}
	}
	for _, b := range []byte{0, 9, 32, '0', '9', 'A', 'Z', 'a', 'z', 127, 128, 160, 161, 169, 171, 180, 191, 215, 247, 255} {
		if Plain(b) {
			t.Errorf("Plain of %d: true", b)
		}
	}
}

// P3.1, Entity: every name of the chapter, with its number.
func TestEntity(t *testing.T) {
	listed := listedEntities()
	if len(listed) != 53 {
		t.Fatal(len(listed), "entities are listed")
	}
	for name, want := range listed {
		if got, ok := Entity(name); got != want || !ok {
			t.Errorf("Entity of %q: %d %v, not %d", name, got, ok, want)
		}
	}
}

// P3.1, Entity: names that are near to one, and none.
func TestEntityOfOtherNames(t *testing.T) {
	listed := listedEntities()
	for name := range listed {
		for _, near := range nearNames(name) {
			want, known := listed[near]
			if got, ok := Entity(near); got != want || ok != known {
				t.Errorf("Entity of %q: %d %v", near, got, ok)
			}
		}
	}
	for _, name := range []string{"", "a", "AMP", "Amp", "LT", "Lt", "NBSP", "Szlig", "AUML", "aUml", "Pi", "Alpha", "Beta", "frac14", "frac", "larr rarr", "amp,", "amp 38", "38", "\xff", "\u00e4uml", strings.Repeat("amp", 1000)} {
		if got, ok := Entity(name); got != 0 || ok {
			t.Errorf("Entity of %q: %d %v", name, got, ok)
		}
	}
}

// nearNames: a name with a byte more, less, or another one, and with other letters.
func nearNames(name string) []string {
	out := []string{name + " ", " " + name, name + ";", "&" + name, name + "\x00", strings.ToUpper(name), strings.ToLower(name), name + name}
	for i := range name {
		out = append(out, name[:i]+name[i+1:], name[:i]+"x"+name[i:], name[:i]+"\xff"+name[i+1:], name[:i]+strings.ToUpper(name[i:i+1])+name[i+1:])
	}
	return out
}

// P3.1, Block: every tag of the chapter, in small, capital and mixed letters.
func TestBlock(t *testing.T) {
	listed := listedBlocks()
	if len(listed) != 52 {
		t.Fatal(len(listed), "block tags are listed")
	}
	for name := range listed {
		mixed := strings.ToUpper(name[:1]) + name[1:]
		ends := name[:len(name)-1] + strings.ToUpper(name[len(name)-1:])
		for _, tag := range []string{name, strings.ToUpper(name), mixed, ends} {
			if !Block(tag) {
				t.Errorf("Block of %q: false", tag)
			}
		}
	}
}

// P3.1, Block: names that are near to one, and none.
func TestBlockOfOtherNames(t *testing.T) {
	listed := listedBlocks()
	for name := range listed {
		for _, near := range nearNames(name) {
			if got := Block(near); got != listed[lowered(near)] {
				t.Errorf("Block of %q: %v", near, got)
			}
		}
	}
	// The characters 304, 305, 383 and 8490 are those that a wider way of making letters small or capital takes for i, s and k; bytes that are 32 less than a digit or a small letter's neighbour are no letters.
	for _, tag := range []string{"", " ", "a", "b", "h", "h0", "h7", "H7", "h\x11", "h\x16", "h12", "span", "pre", "script", "style", "textarea", "dd details", "dd,", "p p", "<p>", "/p", "d\u0131v", "a\u017fide", "lin\u212a", "L\u0130", "\xff", "p\xff", "\x50\x00", "\x10", "@", "[", "{", strings.Repeat("div", 1000)} {
		if Block(tag) {
			t.Errorf("Block of %q: true", tag)
		}
	}
}

// P3.2, Fold: letters.
func TestFoldLetters(t *testing.T) {
	for s, want := range map[string]string{
		"":                     "",
		"@AZ[":                 "@az[",
		"`az{":                 "`az{",
		"\u00bf\u00c0\u00d6":   "\u00bf\u00e0\u00f6",
		"\u00d6\u00d7\u00d8":   "\u00f6\u00d7\u00f8",
		"\u00de\u00df\u00e0":   "\u00fess\u00e0",
		"\u00f7\u00fe\u00ff":   "\u00f7\u00fe\u00ff",
		"\u0390\u0391\u03a1":   "\u0390\u03b1\u03c1",
		"\u03a1\u03a2\u03a3":   "\u03c1\u03a2\u03c3",
		"\u03ab\u03ac\u03c2":   "\u03cb\u03ac\u03c2",
		"\u03ff\u0400\u040f":   "\u03ff\u0450\u045f",
		"\u0410\u042f\u0430":   "\u0430\u044f\u0430",
		"\u0460\u0100\u0130":   "\u0460\u0100\u0130",
		"\u1e9e":               "ss",
		"\u1e9d\u1e9e\u1e9f":   "\u1e9dss\u1e9f",
		"\u00dfS\u1e9es":       "ssssss",
		"\u212a\u2126\ufb00":   "\u212a\u2126\ufb00",
		"\U00010400\U0001f600": "\U00010400\U0001f600",
		"\x00\x7f":             "\x00\x7f",
	} {
		if got := Fold(s); got != want {
			t.Errorf("Fold of %q: %q, not %q", s, got, want)
		}
	}
}

// P3.2, Fold: rows of each kind of blanks, and of several kinds, at a label's beginning, within it, and at its end.
func TestFoldBlanks(t *testing.T) {
	rows := []string{"  ", "\t \n", "\r\n\r\n", "\u00a0\u3000", "\u2000\u200a \f"}
	for r := range numbers(blankWords) {
		rows = append(rows, string(rune(r)), strings.Repeat(string(rune(r)), 3))
	}
	for _, row := range rows {
		for s, want := range map[string]string{
			row:                               "",
			row + "A":                         "a",
			"A" + row:                         "a",
			"A" + row + "B":                   "a b",
			row + "A" + row + "\u00df" + row:  "a ss",
			row + "\x00" + row + "\xff" + row: "\x00 \ufffd",
		} {
			if got := Fold(s); got != want {
				t.Errorf("Fold of %q: %q, not %q", s, got, want)
			}
		}
	}
	for _, s := range []string{"a\vb", "a\u0085b", "a\u200bb", "a\u2028b", "a\ufeffb", "\v", "\u200b"} {
		if got := Fold(s); got != s {
			t.Errorf("Fold of %q, which has no blank: %q", s, got)
		}
	}
}

// P3.2, Fold: bytes that are no part of a character.
func TestFoldWrongBytes(t *testing.T) {
	for s, want := range map[string]string{
		"\xff":         "\ufffd",
		"\xff\xfe":     "\ufffd\ufffd",
		"\ufffd":       "\ufffd",
		"A\xc3":        "a\ufffd",
		"\x9fA":        "\ufffda",
		"\xc3 \x9f":    "\ufffd \ufffd",
		"\xe3\x80":     "\ufffd\ufffd",
		"\xe3\x80\x80": "",
		"\xa0":         "\ufffd",
		"\x85 ":        "\ufffd",
		"\xc1\x81":     "\ufffd\ufffd",
		"\xed\xa0\x80": "\ufffd\ufffd\ufffd",
		" \xf4\x90 ":   "\ufffd\ufffd",
	} {
		if got := Fold(s); got != want {
			t.Errorf("Fold of %q: %q, not %q", s, got, want)
		}
	}
}

// P3.2, Fold: the chapter's example, and a long label.
func TestFoldExamples(t *testing.T) {
	if got := Fold(" Foo\t\nBAR "); got != "foo bar" {
		t.Errorf("%q", got)
	}
	long := strings.Repeat(" A\u00df\n", 100000)
	if got, want := Fold(long), strings.Repeat("ass ", 100000); got+" " != want {
		t.Error("Fold of a long label")
	}
}
