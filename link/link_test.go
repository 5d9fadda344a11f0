package link

import (
	"strings"
	"testing"
)

// part: a call that tells a part at a place.
type part func(s string, at int) (string, int)

// asked: a text at whose beginning a part is told, and how many bytes it has.
type asked struct {
	name, s, want string
	size          int
}

// none: there is no part at the text's beginning.
func none(name, s string) asked { return asked{name: name, s: s} }

// aheads: what may stand ahead of a place: it is no part of anything there.
func aheads() []string {
	return []string{"", "a", " ", "\n", "\\", "[", "]", "<", ">", "(", ")", "\"", "'", "[a]", "[a]: ", "&", "&lt;", "\u20ac", "\xff", "\x00", "\r", strings.Repeat("(", 40), strings.Repeat("x", 1500)}
}

// behinds: what may stand behind a part that has an end of its own.
func behinds() []string {
	return []string{"", "x", " ", "\t", "\n", "\r", "[", "]", "<", ">", "(", ")", "\"", "'", "\\", ":", "&lt;", "\u00e4", "\xff", "\x00", "\x7f", "]]", "))", strings.Repeat("x", 1500)}
}

// bareBehinds: what may stand behind a bare destination without being part of it.
func bareBehinds() []string {
	return []string{"", " ", "\t", "\n", "\r", "\x00", "\x01", "\x1f", "\x7f", " a", "\na", "\x00a", "\x7fa", " )", "\n(", "\t<"}
}

// holdPart: the part at this place of a text is this one.
func holdPart(t *testing.T, call part, name, s string, at int, want string, size int) {
	t.Helper()
	if got, n := call(s, at); got != want || n != size {
		t.Errorf("%s: %q at %d: %q %d, not %q %d", name, s, at, got, n, want, size)
	}
}

// holdParts: the parts are told at a text's beginning, within it and at its end.
func holdParts(t *testing.T, call part, after []string, cases []asked) {
	t.Helper()
	for _, c := range cases {
		for _, ahead := range aheads() {
			holdPart(t, call, c.name, ahead+c.s, len(ahead), c.want, c.size)
			if c.size == 0 {
				continue
			}
			for _, behind := range after {
				holdPart(t, call, c.name+", and more", ahead+c.s[:c.size]+behind, len(ahead), c.want, c.size)
			}
		}
	}
}

// whole: the whole text is a label.
func whole(name, s string) asked { return asked{name, s, s[1 : len(s)-1], len(s)} }

// P8.1, Label: ordinary ones, backslashes, blanks, and what is no label.
func TestLabel(t *testing.T) {
	holdParts(t, Label, behinds(), []asked{
		whole("a letter", "[a]"),
		whole("words", "[Foo  Bar]"),
		whole("lines", "[a\nb]"),
		whole("several lines", "[a\n\n b\n]"),
		whole("blanks around", "[ \t\na\n\t ]"),
		whole("other marks", "[<a> (b) \"c\" 'd' ! * _ ` & ; :]"),
		whole("an entity, as it stands", "[&lt;&#91;]"),
		whole("an open bracket behind a backslash", "[a\\[b]"),
		whole("a closing bracket behind a backslash", "[a\\]b]"),
		whole("both behind backslashes", "[\\[a\\]]"),
		whole("a backslash and a closing bracket alone", "[\\]]"),
		whole("a backslash and an open bracket alone", "[\\[]"),
		whole("two backslashes", "[\\\\]"),
		whole("three backslashes and a bracket", "[\\\\\\]]"),
		whole("four backslashes", "[\\\\\\\\]"),
		whole("two backslashes behind a letter", "[a\\\\]"),
		whole("a backslash ahead of a letter", "[\\a]"),
		whole("a backslash ahead of a digit", "[\\0]"),
		whole("a backslash ahead of a blank", "[\\ ]"),
		whole("a backslash ahead of a tab", "[\\\t]"),
		whole("a backslash ahead of a line's end", "[\\\n]"),
		whole("a backslash ahead of a byte 0", "[\\\x00]"),
		whole("a backslash ahead of a byte 127", "[\\\x7f]"),
		whole("a backslash ahead of a wrong byte", "[\\\xff]"),
		whole("a backslash ahead of a mark that isn't plain", "[\\\u00bf]"),
		whole("a backslash ahead of another plain mark", "[\\*\\&]"),
		whole("a byte 13", "[\r]"),
		whole("a byte 12", "[\f]"),
		whole("a byte 11", "[\v]"),
		whole("a byte 0", "[\x00]"),
		whole("a blank of two bytes", "[\u00a0]"),
		whole("a wrong byte", "[\xff]"),
		whole("characters", "[\u00e4\u20ac\U0001f600]"),
		none("nothing between", "[]"),
		none("a blank", "[ ]"),
		none("a tab", "[\t]"),
		none("a line's end", "[\n]"),
		none("all blanks", "[ \t\n \n\t ]"),
		none("an open bracket", "[a[b]"),
		none("an open bracket at once", "[[a]"),
		none("an open bracket at the end", "[a["),
		none("an open bracket behind two backslashes", "[a\\\\[b]"),
		none("an open bracket ahead of the end", "[a[]"),
		none("no end", "[a"),
		none("no end, and lines", "[a\nb\n"),
		none("a bracket alone", "["),
		none("a backslash at the end", "[\\"),
		none("a backslash behind a letter at the end", "[a\\"),
		none("an end behind a backslash", "[a\\]"),
		none("an end behind three backslashes", "[a\\\\\\]"),
		none("an end at once", "]"),
		none("an end behind a letter", "a]"),
		none("no bracket", "a"),
		none("a backslash ahead of it", "\\[a]"),
		none("a blank ahead of it", " [a]"),
		none("another bracket", "(a)"),
		none("a wide bracket", "\uff3ba\uff3d"),
	})
	// The first end ends it, whatever stands behind.
	holdPart(t, Label, "two ends", "[a]b]", 0, "a", 3)
	holdPart(t, Label, "an end, then a bracket", "[a]]", 0, "a", 3)
	holdPart(t, Label, "an end behind two backslashes, then another one", "[a\\\\]b]", 0, "a\\\\", 5)
	holdPart(t, Label, "an inner bracket", "[a[b]", 2, "b", 3)
}

// P8.1, Label: every byte alone, and behind a backslash.
func TestLabelBytes(t *testing.T) {
	for b := range 256 {
		one := string([]byte{byte(b)})
		want, size := one, 3
		if strings.Contains(" \t\n[]\\", one) {
			want, size = "", 0
		}
		holdPart(t, Label, "a byte", "["+one+"]", 0, want, size)
		want, size = "\\"+one+"a", 5
		holdPart(t, Label, "a byte behind a backslash", "[\\"+one+"a]", 0, want, size)
	}
}

// P8.1, Label: as many bytes as it may have, and one more.
func TestLabelLength(t *testing.T) {
	x := func(n int) string { return strings.Repeat("x", n) }
	for _, c := range []struct {
		name, inner string
		ok          bool
	}{
		{"998", x(998), true},
		{"999", x(999), true},
		{"1000", x(1000), false},
		{"1001", x(1001), false},
		{"998, a pair at the end", x(996) + "\\]", true},
		{"999, a pair at the end", x(997) + "\\]", true},
		{"1000, a pair at the end", x(998) + "\\]", false},
		{"1000, a pair that ends one beyond", x(998) + "\\[", false},
		{"999, a pair at the beginning", "\\[" + x(997), true},
		{"1000, a pair at the beginning", "\\[" + x(998), false},
		{"998, pairs alone", strings.Repeat("\\]", 499), true},
		{"1000, pairs alone", strings.Repeat("\\]", 500), false},
		{"999, pairs and a letter", strings.Repeat("\\\\", 499) + "x", true},
		{"999, a lone backslash", "\\" + x(998), true},
		{"1000, a lone backslash", "\\" + x(999), false},
		{"999, blanks around", " " + x(997) + "\n", true},
		{"1000, blanks around", " " + x(998) + "\n", false},
		{"999, one that is no blank", strings.Repeat(" ", 998) + "x", true},
		{"999, blanks alone", strings.Repeat(" ", 999), false},
		{"998, characters of two bytes", strings.Repeat("\u00e4", 499), true},
		{"1000, characters of two bytes", strings.Repeat("\u00e4", 500), false},
		{"999, wrong bytes", strings.Repeat("\xff", 999), true},
		{"1000, wrong bytes", strings.Repeat("\xff", 1000), false},
		{"very many", x(100000), false},
	} {
		want, size := c.inner, len(c.inner)+2
		if !c.ok {
			want, size = "", 0
		}
		for _, ahead := range []string{"", "a", strings.Repeat("[", 1000)} {
			for _, behind := range behinds() {
				holdPart(t, Label, c.name, ahead+"["+c.inner+"]"+behind, len(ahead), want, size)
			}
			holdPart(t, Label, c.name+", no end", ahead+"["+c.inner, len(ahead), "", 0)
		}
	}
}

// P8.1, Dest: destinations between "<" and ">".
func TestDestBetween(t *testing.T) {
	holdParts(t, Dest, behinds(), []asked{
		{"nothing between", "<>", "", 2},
		{"a letter", "<a>", "a", 3},
		{"a blank", "< >", " ", 3},
		{"blanks and tabs", "<a b\tc >", "a b\tc ", 8},
		{"parentheses in no pairs", "<a)b((>", "a)b((", 7},
		{"very many parentheses", "<" + strings.Repeat("(", 100) + ">", strings.Repeat("(", 100), 102},
		{"brackets and quotes", "<[a]\"'>", "[a]\"'", 7},
		{"an end behind a backslash", "<a\\>b>", "a>b", 6},
		{"a beginning behind a backslash", "<a\\<b>", "a<b", 6},
		{"an end behind a backslash alone", "<\\>>", ">", 4},
		{"two backslashes", "<\\\\>", "\\", 4},
		{"three backslashes and an end", "<\\\\\\>>", "\\>", 6},
		{"a backslash ahead of a letter", "<\\a>", "\\a", 4},
		{"a backslash ahead of a blank", "<\\ >", "\\ ", 4},
		{"a backslash ahead of a tab", "<\\\t>", "\\\t", 4},
		{"a backslash ahead of another plain mark", "<\\*>", "*", 4},
		{"a backslash ahead of a wrong byte", "<\\\xff>", "\\\xff", 4},
		{"entities", "<a&amp;&#60;&gt;>", "a&<>", 17},
		{"an entity of a line's end", "<&#10;>", "\n", 7},
		{"an entity of a backslash ahead of a mark", "<&#92;*>", "\\*", 8},
		{"an entity behind a backslash", "<\\&lt;>", "&lt;", 7},
		{"an unknown entity", "<&nope;>", "&nope;", 8},
		{"a byte 13", "<\r>", "\r", 3},
		{"a byte 0", "<\x00>", "\x00", 3},
		{"a byte 127", "<\x7f>", "\x7f", 3},
		{"a wrong byte", "<\xff>", "\xff", 3},
		{"characters", "<\u00e4\u20ac>", "\u00e4\u20ac", 7},
		none("a line's end", "<a\nb>"),
		none("a line's end alone", "<\n>"),
		none("a line's end ahead of the end", "<a\n>"),
		none("a line's end behind a backslash", "<a\\\nb>"),
		none("a line's end behind two backslashes", "<a\\\\\nb>"),
		none("a byte 13 and a line's end", "<a\r\n>"),
		none("a beginning", "<a<b>"),
		none("a beginning at once", "<<a>"),
		none("a beginning behind two backslashes", "<\\\\<>"),
		none("no end", "<a"),
		none("no end, and a blank", "<a b"),
		none("a beginning alone", "<"),
		none("a backslash at the end", "<\\"),
		none("an end behind a backslash, and no other", "<a\\>"),
		none("an end behind three backslashes, and no other", "<a\\\\\\>"),
		none("an end that is an entity", "<a&gt;"),
	})
	holdPart(t, Dest, "two ends", "<a>b>", 0, "a", 3)
	holdPart(t, Dest, "an end behind two backslashes", "<\\\\>b>", 0, "\\", 4)
	holdPart(t, Dest, "long", "<"+strings.Repeat("a ", 50000)+">", 0, strings.Repeat("a ", 50000), 100002)
	holdPart(t, Dest, "none of long", "<"+strings.Repeat("a ", 50000), 0, "", 0)
}

// all: the whole text is a destination, and is told as it stands.
func all(name, s string) asked { return asked{name, s, s, len(s)} }

// P8.1, Dest: bare ones.
func TestDestBare(t *testing.T) {
	holdParts(t, Dest, bareBehinds(), []asked{
		all("a letter", "a"),
		all("a URL", "http://x.y/a?b=c&d=e#f"),
		all("quotes and brackets", "a'b\"c[d]"),
		all("< within", "a<b>"),
		all("> at once", ">a"),
		all("a byte 33", "!"),
		all("a byte 126", "~"),
		all("a byte 128", "\x80"),
		all("a byte 255", "\xff"),
		all("wrong bytes", "a\xffb\xc3"),
		all("characters", "\u00e4\u20ac\U0001f600"),
		all("a blank of two bytes", "a\u00a0b"),
		all("an unknown entity", "&nope;"),
		all("a backslash ahead of a letter", "\\a"),
		all("a backslash alone", "\\"),
		all("a backslash at the end", "a\\"),
		all("a backslash ahead of a character", "\\\u00bf"),
		all("a pair", "()"),
		all("a pair within", "a(b)c"),
		all("pairs behind each other", "(a)(b)()"),
		all("pairs within each other", "a(b(c)(d(e)))f"),
		{"entities", "&lt;a&#41;&amp;", "<a)&", 15},
		{"an entity of a blank", "a&#32;b", "a b", 7},
		{"an entity of < at once", "&lt;a>", "<a>", 6},
		{"an entity behind a backslash", "\\&lt;", "&lt;", 5},
		{"a pair and an entity of a parenthesis", "(&#40;)", "(()", 7},
		{"a backslash ahead of <", "\\<a", "<a", 3},
		{"an open parenthesis behind a backslash", "a\\(b", "a(b", 4},
		{"a closing parenthesis behind a backslash", "a\\)b", "a)b", 4},
		{"a closing parenthesis behind a backslash at once", "\\)", ")", 2},
		{"both behind backslashes, turned round", "\\)\\(", ")(", 4},
		{"a pair with a parenthesis behind a backslash", "(\\()", "(()", 4},
		{"a pair with an end behind a backslash", "(\\))", "())", 4},
		{"a pair behind two backslashes", "\\\\()", "\\()", 4},
		{"a pair that ends behind two backslashes", "(\\\\)", "(\\)", 4},
		{"two backslashes", "\\\\", "\\", 2},
		{"three backslashes", "\\\\\\", "\\\\", 3},
		none("a closing parenthesis", ")"),
		none("a closing parenthesis ahead of a letter", ")a"),
		none("a closing parenthesis ahead of an open one", ")("),
		none("a blank", " "),
		none("a blank ahead of a letter", " a"),
		none("a tab ahead of a letter", "\ta"),
		none("a line's end ahead of a letter", "\na"),
		none("a byte 13 ahead of a letter", "\ra"),
		none("a byte 0 ahead of a letter", "\x00a"),
		none("a byte 31 ahead of a letter", "\x1fa"),
		none("a byte 127 ahead of a letter", "\x7fa"),
		none("an open parenthesis", "("),
		none("an open parenthesis at the end", "a("),
		none("an open parenthesis within", "a(b"),
		none("an open one ahead of a pair", "a((b)"),
		none("an open one behind a pair", "a(b)(c"),
		none("an open one up to a blank", "a(b c)"),
		none("an open one up to a line's end", "a(b\n)"),
		none("an open one up to a byte 127", "a(b\x7f)"),
		none("an open one up to a byte 0", "a(\x00)"),
		none("an open one up to a byte 13", "a(\r)"),
		none("an open one whose end is behind a backslash", "(\\)"),
		none("an open one whose end is behind three backslashes", "(a\\\\\\)"),
		none("an open one whose end is an entity", "(a&#41;"),
		none("an open one ahead of a backslash at the end", "(\\"),
		none("an open one behind two backslashes", "\\\\("),
	})
}

// P8.1, Dest: where a bare one ends, by every byte behind it.
func TestDestBareEnds(t *testing.T) {
	for b := range 256 {
		one := string([]byte{byte(b)})
		stands := b > 32 && b != 127
		pair := "a" + one
		want, size := pair, 2
		switch {
		case b == '(':
			want, size = "", 0
		case b == ')' || !stands:
			want, size = "a", 1
		}
		holdPart(t, Dest, "a byte behind a letter", pair, 0, want, size)
		holdPart(t, Dest, "a byte behind a letter, ahead of a blank", pair+" ", 0, want, size)
		want, size = one, 1
		if !stands || strings.Contains("()<", one) {
			want, size = "", 0
		}
		holdPart(t, Dest, "a byte alone", one, 0, want, size)
		want, size = "\\"+one, 2
		if strings.Contains("!\"#$%&'()*+,-./:;<=>?@[\\]^_`{|}~", one) {
			want = one
		} else if !stands {
			want, size = "\\", 1
		}
		holdPart(t, Dest, "a byte behind a backslash", "\\"+one, 0, want, size)
	}
	holdPart(t, Dest, "a closing parenthesis behind it", "a)", 0, "a", 1)
	holdPart(t, Dest, "a closing parenthesis behind a pair", "a(b)c) d", 0, "a(b)c", 5)
	holdPart(t, Dest, "what stands behind a closing parenthesis doesn't count", "a)(", 0, "a", 1)
	holdPart(t, Dest, "what stands behind a blank doesn't count", "a (", 0, "a", 1)
	holdPart(t, Dest, "a closing parenthesis behind a backslash's end", "a\\) b", 0, "a)", 3)
	holdPart(t, Dest, "a closing parenthesis behind two backslashes", "a\\\\)b", 0, "a\\", 3)
	holdPart(t, Dest, "a backslash ahead of a blank", "a\\ b", 0, "a\\", 2)
	holdPart(t, Dest, "a backslash ahead of a line's end", "a\\\nb", 0, "a\\", 2)
}

// P8.1, Dest: parentheses within each other, up to more than may be open.
func TestDestDeep(t *testing.T) {
	nest := func(n int, inner string) string {
		return strings.Repeat("(", n) + inner + strings.Repeat(")", n)
	}
	for n := range 70 {
		for _, inner := range []string{"", "a", "&nope;"} {
			s := "a" + nest(n, inner) + "b"
			want, size := s, len(s)
			if n > 32 {
				want, size = "", 0
			}
			for _, ahead := range aheads() {
				holdPart(t, Dest, "nested", ahead+s, len(ahead), want, size)
			}
			holdPart(t, Dest, "nested twice", s+s, 0, want+want, 2*size)
			holdPart(t, Dest, "nested, and an end", s+")", 0, want, size)
		}
		if n > 0 {
			holdPart(t, Dest, "nested, one open", "("+nest(n-1, ""), 0, "", 0)
		}
	}
	for _, s := range []string{
		nest(31, "a"), nest(32, "a"), nest(31, "()()(a)"), nest(31, "(a)") + nest(32, ""), strings.Repeat("()", 100),
	} {
		holdPart(t, Dest, "at most 32 open", s, 0, s, len(s))
	}
	holdPart(t, Dest, "a thirty-third one behind a backslash", nest(32, "\\("), 0, nest(32, "("), 66)
	holdPart(t, Dest, "a thirty-third one that is an entity", nest(32, "&#40;"), 0, nest(32, "("), 69)
	for _, s := range []string{
		nest(33, ""), nest(33, "a"), nest(34, ""), nest(32, "a()"), nest(31, "()(())"), "a" + nest(1000, ""), strings.Repeat("(", 32), strings.Repeat("(", 33), strings.Repeat("(", 33) + strings.Repeat(")", 32), strings.Repeat("(", 100000),
	} {
		holdPart(t, Dest, "more than 32 open", s, 0, "", 0)
	}
}

// P8.1, Title: all three kinds: their first and last bytes stand for "<" and ">".
func TestTitle(t *testing.T) {
	for _, marks := range []string{`""`, "''", "()"} {
		kind := strings.NewReplacer("<", marks[:1], ">", marks[1:]).Replace
		var cases []asked
		for _, c := range []asked{
			{"nothing between", "<>", "", 2},
			{"a letter", "<a>", "a", 3},
			{"a blank", "< >", " ", 3},
			{"words", "<a b\tc>", "a b\tc", 7},
			{"lines", "<a\nb>", "a\nb", 5},
			{"an empty line", "<a\n\nb\n>", "a\n\nb\n", 7},
			{"a line's end alone", "<\n>", "\n", 3},
			{"brackets", "<[a]{b}>", "[a]{b}", 8},
			{"its end behind a backslash", "<a\\>b>", "a>b", 6},
			{"its beginning behind a backslash", "<a\\<b>", "a<b", 6},
			{"its end behind a backslash alone", "<\\>>", ">", 4},
			{"two backslashes", "<\\\\>", "\\", 4},
			{"three backslashes and its end", "<\\\\\\>>", "\\>", 6},
			{"a backslash ahead of a letter", "<\\a>", "\\a", 4},
			{"a backslash ahead of a blank", "<\\ >", "\\ ", 4},
			{"a backslash ahead of a line's end", "<\\\n>", "\\\n", 4},
			{"a backslash ahead of another plain mark", "<\\*>", "*", 4},
			{"a backslash ahead of a wrong byte", "<\\\xff>", "\\\xff", 4},
			{"entities", "<&amp;&quot;&apos;&#40;&#41;>", "&\"'()", 29},
			{"an entity behind a backslash", "<\\&amp;>", "&amp;", 8},
			{"an entity of a backslash ahead of a mark", "<&#92;*>", "\\*", 8},
			{"an unknown entity", "<&nope;>", "&nope;", 8},
			{"a byte 13", "<\r\n>", "\r\n", 4},
			{"a byte 0", "<\x00>", "\x00", 3},
			{"a byte 127", "<\x7f>", "\x7f", 3},
			{"wrong bytes", "<\xff\xc3>", "\xff\xc3", 4},
			{"characters", "<\u00e4\u20ac\u201c>", "\u00e4\u20ac\u201c", 10},
			none("no end", "<a"),
			none("no end, and lines", "<a\nb\n"),
			none("a beginning alone", "<"),
			none("a backslash at the end", "<\\"),
			none("an end behind a backslash, and no other", "<a\\>"),
			none("an end behind three backslashes, and no other", "<\\\\\\>"),
			none("a letter ahead", "a>"),
			none("a blank ahead", " <a>"),
			none("a line's end ahead", "\n<a>"),
			none("a backslash ahead", "\\<a>"),
		} {
			want := kind(c.want)
			cases = append(cases, asked{c.name + " of " + marks, kind(c.s), want, len(kind(c.s))})
			if c.size == 0 {
				cases[len(cases)-1].size = 0
			}
		}
		holdParts(t, Title, behinds(), cases)
		holdPart(t, Title, "two ends", kind("<a>b>"), 0, "a", 3)
		holdPart(t, Title, "an end behind two backslashes", kind("<\\\\>b>"), 0, "\\", 4)
		long := strings.Repeat("a\n", 50000)
		holdPart(t, Title, "long", kind("<"+long+">"), 0, long, len(long)+2)
		holdPart(t, Title, "none of long", kind("<"+long), 0, "", 0)
	}
}

// P8.1, Title: the other kinds' marks between, and what is of no kind.
func TestTitleMarks(t *testing.T) {
	holdParts(t, Title, behinds(), []asked{
		{"other marks between double quotes", `"a'b(c)d"`, "a'b(c)d", 9},
		{"parentheses in no pairs between double quotes", `"(("`, "((", 4},
		{"a closing one between double quotes", `")"`, ")", 3},
		{"other marks between quotes", `'a"b(c)d'`, `a"b(c)d`, 9},
		{"parentheses in no pairs between quotes", `'(('`, "((", 4},
		{"a closing one between quotes", `')'`, ")", 3},
		{"other marks between parentheses", `(a"b'c)`, `a"b'c`, 7},
		{"an open one behind a backslash", `(a\(b)`, "a(b", 6},
		{"a pair behind backslashes", `(a\(b\)c)`, "a(b)c", 9},
		none("an open one between parentheses", "(a(b)"),
		none("a pair between parentheses", "(a(b)c)"),
		none("an open one at once", "((a)"),
		none("an open one behind two backslashes", `(\\()`),
		none("an open one ahead of the end", "(a()"),
		none("another end for double quotes", `"a'`),
		none("another end for quotes", `'a"`),
		none("another end for a parenthesis", `(a"`),
		none("an end of a parenthesis for double quotes", `"a)`),
		none("a closing parenthesis first", ")a("),
		none("brackets", "[a]"),
		none("angles", "<a>"),
		none("backquotes", "`a`"),
		none("wide quotes", "\u201ca\u201d"),
		none("a letter", "a"),
		none("an entity", "&quot;a&quot;"),
	})
	holdPart(t, Title, "the first end", `'a' 'b'`, 0, "a", 3)
	holdPart(t, Title, "the first end of parentheses", `(a))`, 0, "a", 3)
	for b := range 256 {
		one := string([]byte{byte(b)})
		holdPart(t, Title, "a byte alone", one, 0, "", 0)
		if !strings.Contains(`"'()`, one) {
			holdPart(t, Title, "a byte about a letter", one+"a"+one, 0, "", 0)
			holdPart(t, Title, "a byte about a letter and a parenthesis", one+"a)", 0, "", 0)
		}
	}
}
