package link

import (
	"math"
	"strings"
	"testing"
	"unsafe"

	"stet/api"
)

// defined: a text at whose beginning a definition stands; where its last part ends, and how many bytes it has.
type defined struct {
	name, s            string
	label, link, title string
	to, size           int
}

// undefined: there is no definition at the text's beginning.
func undefined(name, s string) defined { return defined{name: name, s: s} }

// def: the definition, if the text begins at this place.
func (d defined) def(at int) api.Def {
	if d.size == 0 {
		return api.Def{}
	}
	return api.Def{Label: d.label, Link: d.link, Title: d.title, From: at, To: at + d.to}
}

func holdDefine(t *testing.T, name, s string, at int, want api.Def, size int) {
	t.Helper()
	if got, n := Define(s, at); got != want || n != size {
		t.Errorf("%s: %q at %d: %+v %d, not %+v %d", name, s, at, got, n, want, size)
	}
}

// holdDefines: definitions at a text's beginning, within it and at its end.
func holdDefines(t *testing.T, cases []defined) {
	t.Helper()
	for _, d := range cases {
		for _, ahead := range aheads() {
			holdDefine(t, d.name, ahead+d.s, len(ahead), d.def(len(ahead)), d.size)
			// A title on the next line would be the definition's, so not all may stand behind one without.
			if d.size == 0 || d.title == "" || d.s[d.size-1] != '\n' {
				continue
			}
			for _, behind := range behinds() {
				holdDefine(t, d.name+", and more", ahead+d.s[:d.size]+behind, len(ahead), d.def(len(ahead)), d.size)
			}
		}
	}
}

// P8.2, Define: without a title.
func TestDefineWithoutTitle(t *testing.T) {
	holdDefines(t, []defined{
		{"at the text's end", "[a]: b", "a", "b", "", 6, 6},
		{"a line's end behind", "[a]: b\n", "a", "b", "", 6, 7},
		{"text behind", "[a]: b\nc", "a", "b", "", 6, 7},
		{"another one behind", "[a]: b\n[c]: d", "a", "b", "", 6, 7},
		{"an empty line behind", "[a]: b\n\nc", "a", "b", "", 6, 7},
		{"a line of blanks behind", "[a]: b\n \t\nc", "a", "b", "", 6, 7},
		{"no blank", "[a]:b", "a", "b", "", 5, 5},
		{"many blanks", "[a]: \t  b", "a", "b", "", 9, 9},
		{"on the next line", "[a]:\nb", "a", "b", "", 6, 6},
		{"on the next line, blanks around its end", "[a]: \t\n \tb\nc", "a", "b", "", 10, 11},
		{"between < and >", "[a]: <b c>", "a", "b c", "", 10, 10},
		{"between < and > at once", "[a]:<b>\nc", "a", "b", "", 7, 8},
		{"between < and > on the next line", "[a]:\n<b>", "a", "b", "", 8, 8},
		{"empty", "[a]: <>", "a", "", "", 7, 7},
		{"empty, at once", "[a]:<>", "a", "", "", 6, 6},
		{"empty, and text behind", "[a]: <>\nb", "a", "", "", 7, 8},
		{"blanks behind", "[a]: b \t ", "a", "b", "", 6, 9},
		{"blanks behind, and a line's end", "[a]: b \t\nc", "a", "b", "", 6, 9},
		{"blanks behind <>", "[a]: <> \n", "a", "", "", 7, 9},
		{"quotes in it", "[a]: b'c'", "a", "b'c'", "", 9, 9},
		{"double quotes in it", "[a]: b\"c\"\n", "a", "b\"c\"", "", 9, 10},
		{"quotes for it", "[a]: 'b'", "a", "'b'", "", 8, 8},
		{"parentheses for it", "[a]: (b)", "a", "(b)", "", 8, 8},
		{"parentheses in it", "[a]: b(c(d))\n", "a", "b(c(d))", "", 12, 13},
		{"backslashes and entities in it", "[a]: b\\)&amp;\n", "a", "b)&", "", 13, 14},
		{"a backslash ahead of a line's end", "[a]: b\\\nc", "a", "b\\", "", 7, 8},
		{"bytes of 128 and above", "[a]: \xff\u00e4\n", "a", "\xff\u00e4", "", 8, 9},
		{"a colon for it", "[a]:::", "a", "::", "", 6, 6},
		{"another definition for it", "[a]:[b]:c", "a", "[b]:c", "", 9, 9},
	})
}

// P8.2, Define: with a title.
func TestDefineWithTitle(t *testing.T) {
	holdDefines(t, []defined{
		{"the chapter's", "[Foo]: <a b> 'c'\nx", "foo", "a b", "c", 16, 17},
		{"at the text's end", "[a]: b 'c'", "a", "b", "c", 10, 10},
		{"a line's end behind", "[a]: b 'c'\n", "a", "b", "c", 10, 11},
		{"double quotes", "[a]: b \"c\"\nd", "a", "b", "c", 10, 11},
		{"parentheses", "[a]: b (c)\nd", "a", "b", "c", 10, 11},
		{"many blanks", "[a]: b \t  'c'", "a", "b", "c", 13, 13},
		{"a tab", "[a]: b\t'c'\n", "a", "b", "c", 10, 11},
		{"on the next line", "[a]: b\n'c'\nd", "a", "b", "c", 10, 11},
		{"on the next line, blanks around the end", "[a]: b \t\n \t'c'", "a", "b", "c", 14, 14},
		{"on the next line, double quotes", "[a]: b\n\"c\"\n", "a", "b", "c", 10, 11},
		{"on the next line, parentheses", "[a]: b\n(c)", "a", "b", "c", 10, 10},
		{"each on a line of its own", "[a]:\n b \n 'c' \nd", "a", "b", "c", 13, 15},
		{"behind <>", "[a]: <> 'c'\n", "a", "", "c", 11, 12},
		{"behind <>, on the next line", "[a]: <b>\n'c'", "a", "b", "c", 12, 12},
		{"blanks behind", "[a]: b 'c' \t ", "a", "b", "c", 10, 13},
		{"blanks behind, and a line's end", "[a]: b 'c' \t\nd", "a", "b", "c", 10, 13},
		{"blanks behind, on the next line", "[a]: b\n'c' \t\nd", "a", "b", "c", 10, 13},
		{"over several lines", "[a]: b 'c\nd\n\ne'\nf", "a", "b", "c\nd\n\ne", 15, 16},
		{"over several lines from the next one on", "[a]: b\n'c\nd'\n", "a", "b", "c\nd", 12, 13},
		{"backslashes and entities in it", "[a]: b 'c\\'&lt;'\n", "a", "b", "c'<", 16, 17},
		{"two empty lines behind", "[a]: b 'c'\n\n\nd", "a", "b", "c", 10, 11},
		{"another title behind", "[a]: b 'c'\n'd'", "a", "b", "c", 10, 11},
		{"blanks of a title", "[a]: b ' '\n", "a", "b", " ", 10, 11},
		{"empty", "[a]: b ''", "a", "b", "", 9, 9},
		{"empty, double quotes", "[a]: b \"\"\nc", "a", "b", "", 9, 10},
		{"empty, on the next line", "[a]: b\n() \nc", "a", "b", "", 9, 11},
		{"wrong bytes", "[a\xff]: \xff '\xff'\n", "a\ufffd", "\xff", "\xff", 11, 12},
	})
}

// P8.2, Define: what stands behind the title is something else, or there is no title.
func TestDefineFallsBack(t *testing.T) {
	holdDefines(t, []defined{
		{"something behind the title on a line of its own", "[a]: b\n'c' d\n", "a", "b", "", 6, 7},
		{"something directly behind it", "[a]: b\n'c'd", "a", "b", "", 6, 7},
		{"another title behind it", "[a]: b\n'c' 'd'", "a", "b", "", 6, 7},
		{"a byte 13 behind it", "[a]: b\n'c'\r\nd", "a", "b", "", 6, 7},
		{"something behind an empty one", "[a]: b\n''c", "a", "b", "", 6, 7},
		{"blanks behind the destination", "[a]: b \t\n 'c' d", "a", "b", "", 6, 9},
		{"something behind the last line of it", "[a]: b\n'c\nd' e\n", "a", "b", "", 6, 7},
		{"behind <>", "[a]: <>\n'c' d", "a", "", "", 7, 8},
		{"the destination on the next line", "[a]:\nb\n'c' d", "a", "b", "", 6, 7},
		{"no end of the title", "[a]: b\n'c", "a", "b", "", 6, 7},
		{"no end of one over several lines", "[a]: b\n'c\nd\n", "a", "b", "", 6, 7},
		{"no end of one in parentheses", "[a]: b\n(c(d)\n", "a", "b", "", 6, 7},
		{"two line's ends ahead of it", "[a]: b\n\n'c'", "a", "b", "", 6, 7},
		{"two line's ends with blanks", "[a]: b \n \n 'c'\n", "a", "b", "", 6, 8},
		{"three line's ends", "[a]: b\n\n\n'c'", "a", "b", "", 6, 7},
		{"a byte 13 ahead of it", "[a]: b\n\r'c'", "a", "b", "", 6, 7},
		undefined("something behind the title", "[a]: b 'c' d"),
		undefined("something behind the title, and lines", "[a]: b 'c' d\ne\n"),
		undefined("something directly behind the title", "[a]: b 'c'd"),
		undefined("two titles", "[a]: b 'c' 'd'"),
		undefined("something behind a title over lines", "[a]: b 'c\nd' e"),
		undefined("something behind an empty title", "[a]: b '' c"),
		undefined("a title without an end", "[a]: b 'c"),
		undefined("a title without an end, and lines", "[a]: b 'c\nd\n"),
		undefined("a title of two kinds", "[a]: b 'c\"\n"),
		undefined("a byte 13 behind the title", "[a]: b 'c'\r\n"),
		undefined("a blank of two bytes behind the title", "[a]: b 'c'\u00a0\n"),
		undefined("a byte 0 behind the title", "[a]: b 'c'\x00"),
		undefined("a byte 12 behind the title", "[a]: b 'c'\f\n"),
	})
}

// P8.2, Define: what is none, whatever title might be.
func TestDefineNone(t *testing.T) {
	holdDefines(t, []defined{
		undefined("a label alone", "[a]"),
		undefined("no colon", "[a] b"),
		undefined("no colon, and a line's end", "[a]\nb"),
		undefined("a blank ahead of the colon", "[a] : b"),
		undefined("a line's end ahead of the colon", "[a]\n: b"),
		undefined("another mark", "[a]; b"),
		undefined("a wide colon", "[a]\uff1a b"),
		undefined("parentheses", "[a](b)"),
		undefined("no destination", "[a]:"),
		undefined("blanks for it", "[a]: \t "),
		undefined("a line's end for it", "[a]:\n"),
		undefined("two line's ends ahead of it", "[a]:\n\nb"),
		undefined("two line's ends with blanks", "[a]: \n \n b"),
		undefined("a byte 13 ahead of it", "[a]:\r\nb"),
		undefined("a byte 12 ahead of it", "[a]:\fb"),
		undefined("a closing parenthesis for it", "[a]: )"),
		undefined("a closing parenthesis behind it", "[a]: b)"),
		undefined("an open parenthesis", "[a]: b(c"),
		undefined("more than 32 open ones", "[a]: "+strings.Repeat("(", 33)+strings.Repeat(")", 33)),
		undefined("no end of <", "[a]: <b"),
		undefined("no end of < on its line", "[a]: <b\n>"),
		undefined("two <", "[a]: <<b>"),
		undefined("a byte 127 in it", "[a]: b\x7fc"),
		undefined("a byte 0 in it", "[a]: b\x00"),
		undefined("a byte 13 behind it", "[a]: b\r\n"),
		undefined("a byte 13 at the end", "[a]: b\r"),
		undefined("something behind <>", "[a]: <b>c"),
		undefined("a title without a blank ahead of it", "[a]: <b>'c'"),
		undefined("a title in double quotes without one", "[a]: <b>\"c\"\n"),
		undefined("a title in parentheses without one", "[a]: <b>(c)"),
		undefined("a second word", "[a]: b c"),
		undefined("a second word, and lines", "[a]: b c\n'd'\n"),
		undefined("a second word behind <>", "[a]: <b> c"),
		undefined("an empty label", "[]: b"),
		undefined("a label of blanks", "[ \n\t]: b"),
		undefined("a label with a bracket", "[a[b]: c"),
		undefined("a label without an end", "[a: b"),
		undefined("a label whose end is behind a backslash", "[a\\]: b"),
		undefined("a label that is too long", "["+strings.Repeat("x", 1000)+"]: b"),
		undefined("a backslash ahead", "\\[a]: b"),
		undefined("a blank ahead", " [a]: b"),
		undefined("a line's end ahead", "\n[a]: b"),
		undefined("an image's mark ahead", "![a]: b"),
	})
}

// P8.2, Define: labels are folded, and told by nothing else.
func TestDefineLabels(t *testing.T) {
	for inner, folded := range map[string]string{
		"FOO":                      "foo",
		" Foo\t\nBAR ":             "foo bar",
		"\u00c4\u00df\u1e9e":       "\u00e4ssss",
		"\u0391\u0410\u0400":       "\u03b1\u0430\u0450",
		"a\u00a0\u3000b":           "a b",
		"A\\]B":                    "a\\]b",
		"\\[":                      "\\[",
		"\\*&AMP;":                 "\\*&amp;",
		"&lt;":                     "&lt;",
		"\xffA":                    "\ufffda",
		"\x00":                     "\x00",
		"\r":                       "",
		"\u00a0":                   "",
		"a:b":                      "a:b",
		strings.Repeat("X", 999):   strings.Repeat("x", 999),
		strings.Repeat("\\]", 499): strings.Repeat("\\]", 499),
	} {
		for _, ahead := range aheads() {
			at, size := len(ahead), len(inner)+2
			s := ahead + "[" + inner + "]: b\n"
			holdDefine(t, "a label", s, at, api.Def{Label: folded, Link: "b", From: at, To: at + size + 3}, size+4)
			s = ahead + "[" + inner + "]:<> '" + inner + "-'"
			title, _ := Title(s, at+size+4)
			holdDefine(t, "a label, and a title", s, at, api.Def{Label: folded, Title: title, From: at, To: len(s)}, len(s)-at)
		}
	}
}

// P8.2, Define: each byte behind the label, the colon, the destination and the title.
func TestDefineBytes(t *testing.T) {
	for b := range 256 {
		one := string([]byte{byte(b)})
		want, size := api.Def{}, 0
		if one == ":" {
			want, size = api.Def{Label: "a", Link: "b", To: 5}, 5
		}
		holdDefine(t, "a byte behind the label", "[a]"+one+"b", 0, want, size)
		want, size = api.Def{Label: "a", Link: "<b>", To: 8}, 8
		switch {
		case one == " ", one == "\t", one == "\n":
			want.Link = "b"
		case one == "\\":
			// It takes the "<" with it, and is gone.
		case b < 32, b == 127, one == "<", one == "(", one == ")":
			want, size = api.Def{}, 0
		default:
			want.Link = one + "<b>"
		}
		holdDefine(t, "a byte behind the colon", "[a]:"+one+"<b>", 0, want, size)
		want, size = api.Def{}, 0
		if strings.Contains(" \t\n", one) {
			want, size = api.Def{Label: "a", Link: "b", To: 7}, 8
		}
		holdDefine(t, "a byte behind the destination", "[a]:<b>"+one, 0, want, size)
		if size > 0 {
			want.Title, want.To, size = "c", 11, 11
		}
		holdDefine(t, "a byte between destination and title", "[a]:<b>"+one+"'c'", 0, want, size)
		want, size = api.Def{}, 0
		if strings.Contains(" \t\n", one) {
			want, size = api.Def{Label: "a", Link: "b", Title: "c", To: 9}, 10
		}
		holdDefine(t, "a byte behind the title", "[a]:b 'c'"+one, 0, want, size)
	}
}

// oddTexts: texts of which no place has anything but a bare destination.
func oddTexts() []string {
	return []string{
		"", " ", "\t", "\n", " \t\n ", "\r", "\r\n", "\x00", "\x00\x00", "\x7f", "\f\v",
		"\xff", "\x80", "\xc3", "\xe2\x82", "\xed\xa0\x80", "\xf4\x90\x80\x80", "a\xffb",
	}
}

// P8.1 and P8.2: at odd texts, and at places that a text hasn't.
func TestOddTextsAndPlaces(t *testing.T) {
	for _, s := range oddTexts() {
		for at := range len(s) + 1 {
			holdPart(t, Label, "an odd text", s, at, "", 0)
			holdPart(t, Title, "an odd text", s, at, "", 0)
			holdDefine(t, "an odd text", s, at, api.Def{}, 0)
			want := s[at:]
			if strings.Trim(s, " \t\n\r\f\v\x00\x7f") == "" {
				want = ""
			}
			holdPart(t, Dest, "an odd text", s, at, want, len(want))
		}
	}
	for _, s := range append(oddTexts(), "a", "[", "[a]", "<a>", "'a'", "(a)", "[a]: b", "[a]: b 'c'\n", "\\", "\\*") {
		for _, at := range []int{
			-1, -2, -len(s), -len(s) - 1, len(s), len(s) + 1, len(s) + 2, 1 << 20, 1 << 31, -1 << 31, 1 << 32, -1 << 32, 1<<32 + 1,
			math.MaxInt32, math.MinInt32, math.MaxInt64, math.MaxInt64 - 1, math.MaxInt64 - 999, math.MaxInt64 - 1002, math.MinInt64, math.MinInt64 + 1,
		} {
			if at >= 0 && at < len(s) || at == 0 {
				continue
			}
			holdPart(t, Label, "no place", s, at, "", 0)
			holdPart(t, Dest, "no place", s, at, "", 0)
			holdPart(t, Title, "no place", s, at, "", 0)
			holdDefine(t, "no place", s, at, api.Def{}, 0)
		}
	}
}

// P8.1 and P8.2: every place of a text.
func TestPlaces(t *testing.T) {
	s := "[a]: <b> 'c'\n[d]:\ne (f)\n"
	labels := map[int]asked{0: {want: "a", size: 3}, 13: {want: "d", size: 3}}
	titles := map[int]asked{9: {want: "c", size: 3}, 20: {want: "f", size: 3}}
	defs := map[int]defined{0: {label: "a", link: "b", title: "c", to: 12, size: 13}, 13: {label: "d", link: "e", title: "f", to: 10, size: 11}}
	for at := -3; at <= len(s)+3; at++ {
		holdPart(t, Label, "a place", s, at, labels[at].want, labels[at].size)
		holdPart(t, Title, "a place", s, at, titles[at].want, titles[at].size)
		holdDefine(t, "a place", s, at, defs[at].def(at), defs[at].size)
	}
	holdPart(t, Dest, "a place", s, 5, "b", 3)
	holdPart(t, Dest, "a place", s, 6, "b>", 2)
	holdPart(t, Dest, "a place", s, 18, "e", 1)
	holdPart(t, Dest, "a place", s, 20, "(f)", 3)
	holdPart(t, Dest, "a place", s, 21, "f", 1)
	holdPart(t, Dest, "a place", s, 22, "", 0)
}

// P8.1 and P8.2: what is answered is no piece of the text that was handed in, and stays as it is.
func TestAnswersAreNew(t *testing.T) {
	s := string([]byte("[abc]: defg 'hijk'\n"))
	inside := func(told string) bool {
		at, first := uintptr(unsafe.Pointer(unsafe.StringData(told))), uintptr(unsafe.Pointer(unsafe.StringData(s)))
		return at >= first && at < first+uintptr(len(s))
	}
	label, _ := Label(s, 0)
	dest, _ := Dest(s, 7)
	title, _ := Title(s, 12)
	def, size := Define(s, 0)
	for _, told := range []string{label, dest, title, def.Label, def.Link, def.Title} {
		if inside(told) {
			t.Errorf("%q is a piece of the text", told)
		}
	}
	for range 100 {
		Label("[xyz]", 0)
		Dest("uvwx", 0)
		Title("'uvwx'", 0)
		Define("[xyz]: uvwx 'uvwx'", 0)
	}
	if label != "abc" || dest != "defg" || title != "hijk" || size != 19 || def != (api.Def{Label: "abc", Link: "defg", Title: "hijk", To: 18}) {
		t.Errorf("%q %q %q %+v %d", label, dest, title, def, size)
	}
	holdDefine(t, "the second call", s, 0, def, size)
}

// P1: calls at all places of large texts end, and soon, where a part has no end.
func TestLargeTexts(t *testing.T) {
	for _, c := range []struct {
		name string
		call part
		s    string
	}{
		{"Label", Label, strings.Repeat("[", 1<<20)},
		{"Label", Label, strings.Repeat("[a", 1<<19)},
		{"Dest", Dest, strings.Repeat("(", 1<<20)},
		{"Dest", Dest, strings.Repeat("<", 1<<20)},
		{"Dest", Dest, strings.Repeat("(\\)", 1<<18)},
		{"Title", Title, strings.Repeat("(", 1<<20)},
	} {
		for at := range len(c.s) {
			if _, n := c.call(c.s, at); n > 2 {
				t.Fatalf("%s of many %q at %d: %d", c.name, c.s[:3], at, n)
			}
		}
	}
	long := strings.Repeat("\\]", 1<<19)
	holdPart(t, Label, "long", "["+long+"]", 0, "", 0)
	holdPart(t, Dest, "long", long, 0, strings.Repeat("]", 1<<19), 1<<20)
	holdPart(t, Title, "long", "("+long+")", 0, strings.Repeat("]", 1<<19), 1<<20+2)
}
