package link

import (
	"math"
	"regexp"
	"strings"
	"testing"

	"stet/api"
	"stet/class"
	"stet/escape"
)

// This file holds the calls against a second telling of the chapter, by regular expressions, at all short texts of some bytes.

// In labels, titles and between "<" and ">" a backslash may take any byte with it: one that is no plain mark has no meaning of its own there, but the line's end in a destination.
const (
	labelForm = `\[((?:[^\[\]\\]|\\.)*)\]`
	angleForm = `<((?:[^\n<>\\]|\\[^\n])*)>`
	titleForm = `(?:"((?:[^"\\]|\\.)*)"|'((?:[^'\\]|\\.)*)'|\(((?:[^()\\]|\\.)*)\))`
)

// What a bare destination is made of: a backslash with what it takes along, what is no parenthesis, and what may stand first.
const (
	takenForm = `\\[^\x00-\x20\x7f]`
	otherForm = `[^\x00-\x20\x7f()\\]|` + takenForm
	firstForm = `[^\x00-\x20\x7f()\\<]|` + takenForm
)

// What stands between a definition's parts: blanks with at most one line's end, likewise with one blank at least, and a line's end.
const (
	gapForm     = `[ \t]*\n?[ \t]*`
	leastForm   = `(?:[ \t]+\n?[ \t]*|\n[ \t]*)`
	lineEndForm = `[ \t]*(?:\n|\z)`
)

// pairs: parentheses in pairs, so many of them within each other at most.
func pairs(depth int) string {
	if depth == 0 {
		return `[^\s\S]`
	}
	return `\((?:` + otherForm + `|` + pairs(depth-1) + `)*\)`
}

// lastGroup: the empty one of a definition's form that stands where its last part ends.
const lastGroup = 7

// model: the second telling.
type model struct{ label, angle, bare, title, define *regexp.Regexp }

func newModel() model {
	pair := pairs(32)
	// A backslash that takes nothing along stands last, since what it would take can't stand there.
	bare := `(?:(?:` + firstForm + `|` + pair + `)(?:` + otherForm + `|` + pair + `)*\\?|\\)`
	form := func(parts ...string) *regexp.Regexp {
		return regexp.MustCompile(`(?s)^` + strings.Join(parts, ""))
	}
	return model{
		label:  form(labelForm),
		angle:  form(angleForm),
		bare:   form(bare),
		title:  form(titleForm),
		define: form(labelForm, `:`, gapForm, `(?:`, angleForm, `|(`, bare, `))(?:`, leastForm, titleForm, `)?()`, lineEndForm),
	}
}

func isLabel(inner string) bool {
	return len(inner) <= 999 && strings.Trim(inner, " \t\n") != ""
}

func (m model) labelOf(s string) (string, int) {
	found := m.label.FindStringSubmatch(s)
	if found == nil || !isLabel(found[1]) {
		return "", 0
	}
	return found[1], len(found[0])
}

func (m model) destOf(s string) (string, int) {
	if strings.HasPrefix(s, "<") {
		found := m.angle.FindStringSubmatch(s)
		if found == nil {
			return "", 0
		}
		return escape.Plain(found[1]), len(found[0])
	}
	found := m.bare.FindString(s)
	// Parentheses that are no pair, or stand too deep, are no part of what was found.
	if strings.HasPrefix(s[len(found):], "(") {
		return "", 0
	}
	return escape.Plain(found), len(found)
}

func (m model) titleOf(s string) (string, int) {
	found := m.title.FindStringSubmatch(s)
	if found == nil {
		return "", 0
	}
	return escape.Plain(found[1] + found[2] + found[3]), len(found[0])
}

func (m model) defineOf(s string, at int) (api.Def, int) {
	found := m.define.FindStringSubmatch(s)
	if found == nil || !isLabel(found[1]) {
		return api.Def{}, 0
	}
	places := m.define.FindStringSubmatchIndex(s)
	def := api.Def{
		Label: class.Fold(found[1]),
		Link:  escape.Plain(found[2] + found[3]),
		Title: escape.Plain(found[4] + found[5] + found[6]),
		From:  at,
		To:    at + places[2*lastGroup],
	}
	return def, len(found[0])
}

// hold: all calls at one place.
func (m model) hold(t *testing.T, s string, at int) {
	t.Helper()
	here := ""
	if at >= 0 && at < len(s) {
		here = s[at:]
	}
	for _, c := range []struct {
		name  string
		call  part
		model func(string) (string, int)
	}{
		{"Label", Label, m.labelOf},
		{"Dest", Dest, m.destOf},
		{"Title", Title, m.titleOf},
	} {
		want, size := c.model(here)
		if got, n := c.call(s, at); got != want || n != size {
			t.Fatalf("%s of %q at %d: %q %d, not %q %d", c.name, s, at, got, n, want, size)
		}
	}
	def, size := m.defineOf(here, at)
	if got, n := Define(s, at); got != def || n != size {
		t.Fatalf("Define of %q at %d: %+v %d, not %+v %d", s, at, got, n, def, size)
	}
}

// holdAll: all calls at each place, and at the first ones that the text hasn't.
func (m model) holdAll(t *testing.T, s string) {
	t.Helper()
	for at := -1; at <= len(s)+1; at++ {
		m.hold(t, s, at)
	}
}

// texts: all texts of at most so many of these bytes.
func texts(alphabet string, longest int, yield func(string)) {
	var grow func(string)
	grow = func(s string) {
		yield(s)
		if len(s) == longest {
			return
		}
		for i := range len(alphabet) {
			grow(s + alphabet[i:i+1])
		}
	}
	grow("")
}

// P8.1 and P8.2 at all short texts of the bytes that matter, behind what may stand ahead of them.
func TestShortTextsAgainstModel(t *testing.T) {
	m := newModel()
	for _, c := range []struct {
		begin    string
		alphabet string
		longest  int
	}{
		{"[", "[]\\a \n", 5},
		{"[", "]\\*\t\r\x00", 4},
		{"<", "<>\\a \n", 5},
		{"<", ">\\*&;\x7f", 4},
		{"", "()\\a <", 6},
		{"a", "()\\ \x7f\t", 5},
		{"(", "()\\a\xff", 6},
		{"", "&lt;\\)", 4},
		{"\"", "\"\\a'\n(", 5},
		{"'", "'\\a\"\n)", 5},
		{"(", "()\\'\" ", 5},
		{"", "[a]: b", 6},
		{"[a]", ": \nb<", 6},
		{"[a]:", " \t\nb'", 6},
		{"[a]: b", " \n'c\t", 6},
		{"[a]: b", "\n'\\ x", 6},
		{"[a]: b ", "\"(')\n", 6},
		{"[a]: <", "> \n'b", 6},
		{"[a]: <>", " \n'\"\r", 5},
		{"[a]:b 'c'", " \t\nd'\r", 4},
		{"[a]:b\n(c)", " \t\nd()", 4},
		{"[a]:b\n", "\"\n \\[]", 5},
		{"", "[]:\xff\xc3\x00\r", 4},
	} {
		texts(c.alphabet, c.longest, func(s string) {
			for at := range len(c.begin) {
				m.hold(t, c.begin+s, at)
			}
			m.hold(t, c.begin+s, len(c.begin))
		})
	}
}

// samples: texts of every form, from which texts near to them are made.
func samples() []string {
	return []string{
		"[a]", "[a\\]b]", "[A \n b]", "<a b>", "<>", "<\\>&lt;>", "a(b)c", "a\\)b", "((a))", "a&amp;b",
		"\"a\"", "'a\n\\'b'", "(a\\(b)", "''", "[a]:b", "[Foo]: <a b> 'c'\nx", "[a]:\n b \n 'c' \nd", "[a]: b\n'c' d\n", "[a]: b \t\n(c", "[a]: <>\n\n\"c\"",
	}
}

// P8.1 and P8.2: every byte in each place of the samples, instead of the one there or ahead of it; and samples that lack any part of them.
func TestEveryByteAgainstModel(t *testing.T) {
	m := newModel()
	for _, s := range samples() {
		for i := range len(s) + 1 {
			for j := i; j <= len(s); j++ {
				m.holdAll(t, s[:i]+s[j:])
			}
			for b := range 256 {
				one := string([]byte{byte(b)})
				m.hold(t, s[:i]+one+s[i:], 0)
				if i < len(s) {
					m.hold(t, s[:i]+one+s[i+1:], 0)
				}
			}
		}
	}
}

// P8.1 and P8.2: each sample behind each other one.
func TestTwoSamplesAgainstModel(t *testing.T) {
	m := newModel()
	for _, first := range samples() {
		for _, second := range samples() {
			for _, between := range []string{"", " ", "\n", "\n\n", ":", ": ", "\\", "(", "\xff", "\x00"} {
				m.holdAll(t, first+between+second)
			}
		}
	}
}

// P8.1 and P8.2: as many of a byte as may stand in a label, or be open, and more.
func TestManyAgainstModel(t *testing.T) {
	m := newModel()
	for _, n := range []int{31, 32, 33, 34, 497, 498, 499, 500, 996, 997, 998, 999, 1000, 1001} {
		for _, s := range []string{"x", " ", "\n", "\\]", "\\", "(", "()", "\u00e4", "\xff", "["} {
			row := strings.Repeat(s, n)
			closed := strings.Repeat(")", n)
			for _, whole := range []string{"[" + row + "]", "[" + row + "a]: b", "[" + row, "[a]: " + row + "\n", "[a]:b '" + row + "'", row + closed, "a" + row + closed + ") b", "<" + row + ">"} {
				for _, at := range []int{0, 1, 2, 5, len(whole) - 1} {
					m.hold(t, whole, at)
				}
			}
		}
	}
}

// P1: any arguments are answered; P8.1 and P8.2 at any texts.
func FuzzAgainstModel(f *testing.F) {
	for _, s := range append(samples(), "", " ", " \t\n", "\xff", "[\xff]", "\\\xff", "\x00", "\r") {
		for _, at := range []int{0, 1, 4, -1, 1 << 32, math.MinInt64, math.MaxInt64} {
			f.Add(s, at)
		}
	}
	m := newModel()
	f.Fuzz(func(t *testing.T, s string, at int) {
		// At all places of a long text the second telling takes too long.
		m.holdAll(t, s[:min(len(s), 100)])
		m.hold(t, s, at)
	})
}
