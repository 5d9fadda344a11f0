package class

import (
	"strconv"
	"strings"
	"testing"

	"stet/text"
)

// This file holds the calls against the chapter's own lists, read as they stand there, and against a second telling of Fold.

const (
	blankWords  = "9, 10, 12, 13, 32, 160, 5760, 8192 to 8202, 8239, 8287, 12288"
	markWords   = "33 to 47, 58 to 64, 91 to 96, 123 to 126, 161 to 169, 171, 172, 174 to 177, 180, 182 to 184, 187, 191, 215, 247, 8208 to 8231, 8240 to 8286, 8352 to 8384, 8592 to 8703, 12289 to 12291, 12296 to 12305"
	more32Words = "65 to 90, 192 to 222, 913 to 939, 1040 to 1071"
	staysWords  = "215, 930"
	more80Words = "1024 to 1039"
	twoWords    = "223, 7838"
	entityWords = "amp 38, lt 60, gt 62, quot 34, apos 39, nbsp 160, copy 169, reg 174, trade 8482, hellip 8230, mdash 8212, ndash 8211, lsquo 8216, rsquo 8217, ldquo 8220, rdquo 8221, laquo 171, raquo 187, deg 176, plusmn 177, times 215, divide 247, frac12 189, sect 167, para 182, middot 183, bull 8226, euro 8364, pound 163, yen 165, cent 162, larr 8592, rarr 8594, uarr 8593, darr 8595, auml 228, ouml 246, uuml 252, Auml 196, Ouml 214, Uuml 220, szlig 223, eacute 233, egrave 232, ccedil 231, ntilde 241, alpha 945, beta 946, pi 960, infin 8734, ne 8800, le 8804, ge 8805"
	blockWords  = "address, article, aside, blockquote, body, center, col, dd, details, dialog, dir, div, dl, dt, fieldset, figure, footer, form, frame, h1, h2, h3, h4, h5, h6, head, header, hr, html, iframe, legend, li, link, main, menu, nav, ol, option, p, param, section, summary, table, tbody, td, tfoot, th, thead, title, tr, track, ul"
)

// numbers: those that a list of the chapter names.
func numbers(words string) map[int]bool {
	out := map[int]bool{}
	for _, item := range strings.Split(words, ", ") {
		first, last, wide := strings.Cut(item, " to ")
		if !wide {
			last = first
		}
		from, _ := strconv.Atoi(first)
		to, _ := strconv.Atoi(last)
		for r := from; r <= to; r++ {
			out[r] = true
		}
	}
	return out
}

// listedEntities: the chapter's entities by their names.
func listedEntities() map[string]int {
	out := map[string]int{}
	for _, item := range strings.Split(entityWords, ", ") {
		name, number, _ := strings.Cut(item, " ")
		out[name], _ = strconv.Atoi(number)
	}
	return out
}

// listedBlocks: the chapter's block tags.
func listedBlocks() map[string]bool {
	out := map[string]bool{}
	for _, name := range strings.Split(blockWords, ", ") {
		out[name] = true
	}
	return out
}

// folding is the second telling of Fold: it parts a text at its blanks, and folds what is between them.
type folding struct{ blanks, more32, stays, more80, two map[int]bool }

func newFolding() folding {
	return folding{numbers(blankWords), numbers(more32Words), numbers(staysWords), numbers(more80Words), numbers(twoWords)}
}

func (f folding) char(r int) string {
	switch {
	case f.two[r]:
		return "ss"
	case f.more32[r] && !f.stays[r]:
		return string(rune(r + 32))
	case f.more80[r]:
		return string(rune(r + 80))
	}
	return string(rune(r))
}

func (f folding) label(s string) string {
	words := []string{""}
	for at := 0; at < len(s); {
		r, size := text.Rune(s, at)
		if f.blanks[r] {
			words = append(words, "")
		} else {
			words[len(words)-1] += f.char(r)
		}
		at += size
	}
	out := ""
	for _, word := range words {
		if word != "" && out != "" {
			out += " "
		}
		out += word
	}
	return out
}

// all: numbers below 0, all that characters have, and some beyond.
func all(yield func(int)) {
	for r := -1000; r <= 0x110000+1000; r++ {
		yield(r)
	}
}

// P3.1, Blank and Mark, at all numbers.
func TestClassesOfAllCharacters(t *testing.T) {
	blanks, marks := numbers(blankWords), numbers(markWords)
	all(func(r int) {
		if got := Blank(r); got != blanks[r] {
			t.Errorf("Blank of %d: %v", r, got)
		}
		if got := Mark(r); got != marks[r] {
			t.Errorf("Mark of %d: %v", r, got)
		}
	})
}

// P3.1, Plain, at all bytes.
func TestPlainOfAllBytes(t *testing.T) {
	marks := numbers(markWords)
	for b := range 256 {
		if got, want := Plain(byte(b)), b < 128 && marks[b]; got != want {
			t.Errorf("Plain of %d: %v", b, got)
		}
	}
}

// P3.2, Fold, at all characters, each alone and between letters and blanks.
func TestFoldOfAllCharacters(t *testing.T) {
	f := newFolding()
	all(func(r int) {
		if r < 0 || r > 0x10ffff || r >= 0xd800 && r <= 0xdfff {
			return
		}
		for _, s := range []string{string(rune(r)), "A" + string(rune(r)) + "B", " " + string(rune(r)) + string(rune(r)) + "\t"} {
			if got, want := Fold(s), f.label(s); got != want {
				t.Errorf("Fold of %q (%d): %q, not %q", s, r, got, want)
			}
		}
	})
}

// P3.2, Fold, at all short texts of letters, blanks, and bytes of which some are no part of a character.
func TestFoldOfShortTexts(t *testing.T) {
	f := newFolding()
	parts := []string{"A", "z", "\x00", "\x0b", " ", "\t", "\r\n", "\u00a0", "\u3000", "\u00df", "\u00d7", "\u0400", "\xc3", "\x9f", "\xff", "\xe2\x80"}
	var grow func(s string, left int)
	grow = func(s string, left int) {
		if got, want := Fold(s), f.label(s); got != want {
			t.Fatalf("Fold of %q: %q, not %q", s, got, want)
		}
		if left == 0 {
			return
		}
		for _, part := range parts {
			grow(s+part, left-1)
		}
	}
	grow("", 4)
}

// FuzzAgainstModel: any text, as a label and as a name.
func FuzzAgainstModel(f *testing.F) {
	for _, s := range []string{"", " Foo\t\nBAR ", "amp", "DiV", "lin\u212a", "\u1e9e\xff\u2028"} {
		f.Add(s)
	}
	model, entities, blocks := newFolding(), listedEntities(), listedBlocks()
	f.Fuzz(func(t *testing.T, s string) {
		if got, want := Fold(s), model.label(s); got != want {
			t.Errorf("Fold of %q: %q, not %q", s, got, want)
		}
		if again := Fold(Fold(s)); again != Fold(s) {
			t.Errorf("Fold of %q, folded again: %q", s, again)
		}
		want, known := entities[s]
		if got, ok := Entity(s); got != want || ok != known {
			t.Errorf("Entity of %q: %d %v", s, got, ok)
		}
		if got := Block(s); got != blocks[lowered(s)] {
			t.Errorf("Block of %q: %v", s, got)
		}
	})
}

// lowered: a name with the bytes 65 to 90 as small letters.
func lowered(name string) string {
	out := []byte(name)
	for i, b := range out {
		if at := strings.IndexByte("ABCDEFGHIJKLMNOPQRSTUVWXYZ", b); at >= 0 {
			out[i] = "abcdefghijklmnopqrstuvwxyz"[at]
		}
	}
	return string(out)
}
