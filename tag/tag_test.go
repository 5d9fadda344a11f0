package tag

import (
	"math"
	"strings"
	"testing"
)

// asked: a text, and how many bytes of it are told.
type asked struct {
	name string
	s    string
	want int
}

// all: the whole text is told.
func all(name, s string) asked { return asked{name, s, len(s)} }

// none: nothing of the text is told.
func none(name, s string) asked { return asked{name, s, 0} }

// behinds: what may stand behind HTML without being part of it.
func behinds() []string {
	return []string{"", "x", " ", "\n", ">", "/>", "->", "-->", "?>", "]]>", "<a>", "<", "\xff", "\u00e4", "\x00"}
}

// holdTags: Open and Raw of tags are the same, and what stands behind a tag is no part of it.
func holdTags(t *testing.T, cases []asked) {
	t.Helper()
	for _, c := range cases {
		if got := Open(c.s); got != c.want {
			t.Errorf("%s: Open of %q: %d, not %d", c.name, c.s, got, c.want)
		}
		if got := Raw(c.s); got != c.want {
			t.Errorf("%s: Raw of %q: %d, not %d", c.name, c.s, got, c.want)
		}
		if c.want == 0 {
			continue
		}
		for _, behind := range behinds() {
			s := c.s[:c.want] + behind
			if Open(s) != c.want || Raw(s) != c.want {
				t.Errorf("%s, and more: %q: Open %d, Raw %d, not %d", c.name, s, Open(s), Raw(s), c.want)
			}
		}
	}
}

// nothings: texts that begin with no HTML at all, nor an HTML block.
func nothings() []string {
	return []string{
		"", " ", "\t", "\n", " \t\n ", "\r\n", "\x00", "a", ">", "/>", "a<b>", "&lt;a>", "\\<a>",
		" <a>", "\t<a>", "\n<a>", " <!-- -->", " <div>", "\t<pre>", " <?a?>", "\x00<a>", "\ufeff<a>",
		"\xff", "\xff<a>", "<\xff", "<\xffa>", "\xc2", "\xe2\x82", "\x80<div>", "\xed\xa0\x80", "<\x00>",
		"<", "<<", "<<a>", "< a>", "<\ta>", "<\na>", "<>", "</", "</>", "</ a>", "<//a>", "<1>", "<-a>", "<_a>", "<:a>", "</1>", "</-a>",
		"<!", "<!>", "<!-", "<!->", "<! a>", "<!1>", "<![", "<![cdata[]]>", "<![CDATA", "<![CDATA]]>", "<! [CDATA[]]>", "<!\xff>", "<!\u00e4>",
		"<\u00e4>", "<\u212a>", "\uff1ca\uff1e", "<a\x00>", "<a\r>", "<a\f>", "<a\u00a0b>", "<a\v>",
	}
}

// P6.1, P6.2 and P6.3: where there is nothing, 0 and false.
func TestNothing(t *testing.T) {
	for _, s := range nothings() {
		if got := Raw(s); got != 0 {
			t.Errorf("Raw of %q: %d", s, got)
		}
		if got := Open(s); got != 0 {
			t.Errorf("Open of %q: %d", s, got)
		}
		if got := Kind(s); got != 0 {
			t.Errorf("Kind of %q: %d", s, got)
		}
		for kind := range 10 {
			if s == strings.Trim(s, ">") && Ends(s, kind) {
				t.Errorf("Ends of %q and %d", s, kind)
			}
		}
	}
}

// P6.1, Raw and Open: names of tags.
func TestTagNames(t *testing.T) {
	holdTags(t, []asked{
		all("a small letter", "<a>"),
		all("a capital letter", "<A>"),
		all("the last letters", "<zZ>"),
		all("more letters", "<abc>"),
		all("digits", "<h1>"),
		all("a line in it", "<a-b>"),
		all("lines at its end", "<a-->"),
		all("digits and lines", "<a1-2b->"),
		all("closing", "</a>"),
		all("closing, all bytes of names", "</aZ09-b>"),
		all("a very long name", "<"+strings.Repeat("a", 5000)+">"),
		none("a digit first", "<1a>"),
		none("a line first", "<-a>"),
		none("no name", "<>"),
		none("no name, and an attribute", "< b>"),
		none("no name, and closed", "</>"),
		none("no name, and itself closed", "< />"),
		none("no end", "<a"),
		none("no end, closing", "</a"),
		none("no end, and blanks", "<a \t\n"),
		none("a bracket in its place", "<a<b>"),
		none("a dot in a name", "<a.b>"),
		none("an underscore in a name", "<a_b>"),
		none("a colon in a name, as in a URL", "<http://x>"),
		none("an address", "<a@b>"),
		none("a letter that isn't of ASCII", "<a\u00e4>"),
		none("a byte that is no character", "<a\xff>"),
	})
}

// P6.1, Raw and Open: what a tag's name may be made of, byte by byte.
func TestNameBytes(t *testing.T) {
	for b := range 256 {
		one := string([]byte{byte(b)})
		isLetter := b >= 'a' && b <= 'z' || b >= 'A' && b <= 'Z'
		isDigit := b >= '0' && b <= '9'
		isBlank := b == 32 || b == 9 || b == 10
		for _, c := range []struct {
			s  string
			ok bool
		}{
			{"<" + one + ">", isLetter},
			{"</" + one + ">", isLetter},
			{"<" + one + "a>", isLetter || b == '/'},
			{"<a" + one + "b>", isLetter || isDigit || b == '-' || isBlank},
			{"</a" + one + "b>", isLetter || isDigit || b == '-'},
			{"</a" + one + ">", isLetter || isDigit || b == '-' || isBlank},
		} {
			want := 0
			if c.ok {
				want = len(c.s)
			}
			if b == '>' {
				want = strings.Index(c.s, ">") + 1
				if want < len("<a>") || c.s[1:3] == "/>" {
					want = 0
				}
			}
			if got := Open(c.s); got != want {
				t.Errorf("Open of %q: %d, not %d", c.s, got, want)
			}
			if got := Raw(c.s); b != '!' && b != '?' && got != want {
				t.Errorf("Raw of %q: %d, not %d", c.s, got, want)
			}
		}
	}
}

// P6.1, Raw and Open: attributes without values, and blanks.
func TestAttributes(t *testing.T) {
	holdTags(t, []asked{
		all("one", "<a b>"),
		all("two", "<a b c>"),
		all("the same twice", "<a b b>"),
		all("many", "<a"+strings.Repeat(" b", 3000)+">"),
		all("capital", "<a B>"),
		all("of an underscore", "<a _>"),
		all("of a colon", "<a :>"),
		all("all bytes", "<a _:aZ09_.:->"),
		all("tabs ahead", "<a\t\tb>"),
		all("a line's end ahead", "<a\nb>"),
		all("all blanks ahead", "<a \t\n b>"),
		all("blanks behind", "<a b \n\t>"),
		all("blanks behind the name", "<a \t\n>"),
		all("one blank behind the name", "<a >"),
		all("itself closed", "<a/>"),
		all("itself closed, behind blanks", "<a \n/>"),
		all("itself closed, behind an attribute", "<a b/>"),
		all("itself closed, behind an attribute and blanks", "<a b\t/>"),
		none("closed twice", "<a//>"),
		none("a slash, and then blanks", "<a/ >"),
		none("a slash, and then an attribute", "<a /b>"),
		none("a slash within", "<a / b>"),
		none("a slash, and no end", "<a/"),
		none("a slash, blanks and no end", "<a b / "),
		none("a digit first", "<a 1>"),
		none("a dot first", "<a .b>"),
		none("a line first", "<a -b>"),
		none("an equals sign first", "<a =b>"),
		none("a quotation mark first", "<a 'b'>"),
		none("a slash instead of a blank", "<a/b>"),
		none("a byte 13 ahead", "<a\rb>"),
		none("a byte 12 ahead", "<a\fb>"),
		none("a blank of two bytes ahead", "<a\u00a0b>"),
		none("no end", "<a b"),
		none("no end, and blanks", "<a b "),
		none("a bracket in its place", "<a b<"),
		none("a byte that is no character in it", "<a b\xff>"),
	})
	holdTags(t, []asked{
		all("closing, one blank", "</a >"),
		all("closing, all blanks", "</a \t\n >"),
		none("closing, an attribute", "</a b>"),
		none("closing, an attribute with a value", "</a b='c'>"),
		none("closing, a slash", "</a/>"),
		none("closing, a blank ahead of its name", "</ a>"),
		none("closing, no name and blanks", "</ >"),
		none("closing, no end", "</a "),
	})
}

// P6.1, Raw and Open: what an attribute may begin with and go on with, byte by byte.
func TestAttributeBytes(t *testing.T) {
	for b := range 256 {
		one := string([]byte{byte(b)})
		isLetter := b >= 'a' && b <= 'z' || b >= 'A' && b <= 'Z'
		isDigit := b >= '0' && b <= '9'
		first := isLetter || b == '_' || b == ':'
		if s := "<a " + one + "=c>"; (Open(s) == len(s)) != first || (Raw(s) == len(s)) != first {
			t.Errorf("%q: %d", s, Open(s))
		}
		more := first || isDigit || b == '.' || b == '-'
		// A blank ends it, and another one begins; so the bytes that part two are asked by a value behind.
		if s := "<a b" + one + "=c>"; (Open(s) == len(s)) != (more || b == 32 || b == 9 || b == 10) || (Raw(s) == len(s)) != (Open(s) == len(s)) {
			t.Errorf("%q: %d", s, Open(s))
		}
	}
}

// P6.1, Raw and Open: values of attributes.
func TestValues(t *testing.T) {
	holdTags(t, []asked{
		all("bare", "<a b=c>"),
		all("bare, long", "<a b=cde12.?&;>"),
		all("bare, of another language", "<a b=\u00e4\u4e2d>"),
		all("bare, no character", "<a b=\xff\x00>"),
		all("bare, a slash", "<a b=/>"),
		all("bare, a slash at its end", "<a b=c/>"),
		all("bare, slashes", "<a b=/c//>"),
		all("bare, a slash and a blank", "<a b=c/ >"),
		all("bare, and itself closed", "<a b=c />"),
		all("bare, a backslash", "<a b=\\>"),
		all("bare, a byte 13", "<a b=c\r>"),
		all("between '", "<a b='c'>"),
		all("between \"", "<a b=\"c\">"),
		all("empty between '", "<a b=''>"),
		all("empty between \"", "<a b=\"\">"),
		all("between ', all the rest", "<a b='\"=<>` \t\n/\xff\x00'>"),
		all("between \", all the rest", "<a b=\"'=<>` \t\n/\xff\x00\">"),
		all("between ', a backslash ahead of it", "<a b='\\'>"),
		all("between \", itself closed", "<a b=\"c\"/>"),
		all("between \", blanks behind", "<a b=\"c\" \t\n>"),
		all("two, between ' and \"", "<a b='c' d=\"e\">"),
		all("bare ahead of bare", "<a b=c d=e>"),
		all("with and without values", "<a b c=d e f='g' h>"),
		all("blanks ahead of =", "<a b \t\n=c>"),
		all("blanks behind =", "<a b= \t\nc>"),
		all("blanks around =", "<a b\n=\t'c'>"),
		all("blanks around =, without the next attribute's", "<a b  c = d>"),
		all("a value like a tag", "<a b='<c d=\"e\">'>"),
		{"a text behind", "<a b='c' d>x", 11},
		{"a quotation mark behind", "<a b='c'>'>", 9},
		none("no value", "<a b=>"),
		none("no value, itself closed behind a blank", "<a b= >"),
		none("no value, blanks around =", "<a b = >"),
		none("two =", "<a b==c>"),
		none("two values", "<a b=c=d>"),
		none("bare, with '", "<a b=c'>"),
		none("bare, with \"", "<a b=c\">"),
		none("bare, with <", "<a b=c<>"),
		none("bare, with a backquote", "<a b=c`>"),
		none("bare, with =", "<a b=c=>"),
		none("a backquote about it", "<a b=`c`>"),
		none("' not closed", "<a b='c>"),
		none("\" not closed", "<a b=\"c>"),
		none("' closed by \"", "<a b='c\">"),
		none("\" closed by '", "<a b=\"c'>"),
		none("' alone", "<a b='>"),
		none("no blank between attributes", "<a b='c'd>"),
		none("no blank between attributes, \"", "<a b=\"c\"d='e'>"),
		none("no blank ahead of a second value", "<a b='c''d'>"),
		none("no =", "<a b'c'>"),
		none("no =, and a blank", "<a b 'c'>"),
		none("no attribute", "<a ='c'>"),
		none("no end", "<a b=c"),
		none("no end behind '", "<a b='c'"),
		none("no end behind a slash", "<a b='c'/"),
		none("ends behind =", "<a b="),
		none("ends behind = and a blank", "<a b= "),
		none("ends behind '", "<a b='"),
		none("a slash and a blank", "<a b='c'/ >"),
	})
}

// P6.1, Raw and Open: which bytes a bare value and one between marks may have, byte by byte.
func TestValueBytes(t *testing.T) {
	for b := range 256 {
		one := string([]byte{byte(b)})
		bare := strings.IndexByte(" \t\n\"'=<>`", byte(b)) < 0
		// A mark behind the byte makes it plain that none is taken for the value's beginning.
		if s := "<a b=" + one + "c>"; (Open(s) == len(s)) != (bare || strings.IndexByte(" \t\n", byte(b)) >= 0) {
			t.Errorf("Open of %q: %d", s, Open(s))
		}
		if s := "<a b=c" + one + "=>"; Open(s) == len(s) {
			t.Errorf("Open of %q: %d", s, Open(s))
		}
		if s := "<a b=c" + one + "d=e>"; (Open(s) == len(s)) != (strings.IndexByte(" \t\n", byte(b)) >= 0) {
			t.Errorf("Open of %q: %d", s, Open(s))
		}
		if s := "<a b=c" + one + "d>"; (Raw(s) == len(s)) != (bare || strings.IndexByte(" \t\n", byte(b)) >= 0) {
			t.Errorf("Raw of %q: %d", s, Raw(s))
		}
		for _, mark := range []string{"'", "\""} {
			s := "<a b=" + mark + "c" + one + "d" + mark + ">"
			if got := Raw(s); (got == len(s)) != (one != mark) || got != Open(s) {
				t.Errorf("Raw of %q: %d", s, got)
			}
		}
	}
}

// P6.1: blanks of all three kinds, none, one and more, at all places where a tag may have them.
func TestBlanksInTags(t *testing.T) {
	some := []string{"", " ", "\t", "\n", "  ", " \t\n"}
	for _, ahead := range some {
		for _, left := range some {
			for _, right := range some {
				for _, behind := range some {
					for _, value := range []string{"c", "'c'", "\"c\""} {
						for _, end := range []string{">", "/>"} {
							s := "<a" + ahead + "b" + left + "=" + right + value + behind + end
							want := len(s)
							if ahead == "" {
								want = 0
							}
							if got := Raw(s); got != want || Open(s) != want {
								t.Errorf("Raw of %q: %d, not %d", s, got, want)
							}
						}
					}
				}
			}
		}
	}
}

// P6.1, Raw: comments, instructions, declarations and sections. Open of them is 0.
func TestRawOfOthers(t *testing.T) {
	for _, c := range []asked{
		all("the shortest comment", "<!-->"),
		all("the second one", "<!--->"),
		{"the shortest one, and an end", "<!-->-->", 5},
		{"the second one, and an end", "<!--->-->", 6},
		all("a comment's end right behind", "<!---->"),
		all("and a line more", "<!----->"),
		all("two lines more", "<!------>"),
		all("a comment", "<!-- a -->"),
		all("lines in a comment", "<!-- a -- b -->"),
		all("a line ahead of its end", "<!--a--->"),
		all("a bracket right behind other bytes", "<!--a>-->"),
		all("a comment of lines' ends", "<!--\n\n-->"),
		all("a comment of no character", "<!--\xff\x00-->"),
		all("a comment in a comment", "<!-- <!-- -->"),
		{"twice", "<!--a-->b-->", 8},
		none("a comment without an end", "<!--"),
		none("with half an end", "<!--a--"),
		none("with a parted end", "<!--a-- >"),
		none("with another end", "<!--a->"),
		none("with others' ends", "<!--a?>]]>"),
		none("with a line", "<!--a-"),
		none("of a beginning and a line", "<!---"),
		none("of a beginning and lines", "<!-----"),
		none("of half a beginning", "<!-a-->"),
		none("of a parted beginning", "<!- -a-->"),
		all("an instruction's end right behind", "<??>"),
		all("an instruction", "<?php a ?>"),
		all("an instruction of one byte", "<?>?>"),
		all("question marks ahead of its end", "<????>"),
		{"an instruction twice", "<?a?>b?>", 5},
		all("an instruction of lines' ends", "<?\n\n?>"),
		all("an instruction of no character", "<?\xff?>"),
		none("an instruction that shares its end", "<?>"),
		none("without an end", "<?"),
		none("without an end, longer", "<?a? >"),
		none("with half an end", "<?a?"),
		none("with others' ends", "<?a-->]]>"),
		all("a declaration's end right behind", "<!D>"),
		all("a small letter's", "<!d>"),
		all("a declaration", "<!DOCTYPE html>"),
		{"a declaration twice", "<!D>>", 4},
		all("a declaration with a tag", "<!D <a>"),
		{"a declaration with quotes", "<!D '>'>", 6},
		all("a declaration of lines' ends", "<!D\n\n>"),
		all("a declaration of no character", "<!D\xff>"),
		none("a declaration without a letter", "<!>"),
		none("of a blank", "<! D>"),
		none("of a digit", "<!1D>"),
		none("of another letter", "<!\u00c4>"),
		none("without an end", "<!D"),
		none("without an end, longer", "<!D a\n"),
		all("a section's end right behind", "<![CDATA[]]>"),
		all("a section", "<![CDATA[ a ]]>"),
		all("brackets in a section", "<![CDATA[ ]] ]]>"),
		all("brackets ahead of its end", "<![CDATA[]]]]>"),
		all("a bracket ahead of its end", "<![CDATA[]]]>"),
		{"a section twice", "<![CDATA[a]]>b]]>", 13},
		all("a section of tags", "<![CDATA[<a>-->?>]]>"),
		all("a section of lines' ends", "<![CDATA[\n\n]]>"),
		all("a section of no character", "<![CDATA[\xff]]>"),
		none("a section without an end", "<![CDATA["),
		none("with half an end", "<![CDATA[]]"),
		none("with a parted end", "<![CDATA[] ]>"),
		none("of small letters", "<![cdata[]]>"),
		none("of one small letter", "<![CDATa[]]>"),
		none("without its second bracket", "<![CDATA]]>"),
		none("with a bracket for its beginning's", "<![CDATA>]]>"),
		none("of another name", "<![INCLUDE[]]>"),
	} {
		if got := Raw(c.s); got != c.want {
			t.Errorf("%s: Raw of %q: %d, not %d", c.name, c.s, got, c.want)
		}
		if got := Open(c.s); got != 0 {
			t.Errorf("%s: Open of %q: %d", c.name, c.s, got)
		}
		if c.want == 0 {
			continue
		}
		for _, behind := range behinds() {
			if s := c.s[:c.want] + behind; Raw(s) != c.want || Open(s) != 0 {
				t.Errorf("%s, and more: Raw of %q: %d, not %d", c.name, s, Raw(s), c.want)
			}
		}
	}
}

// P6.2, Kind.
func TestKind(t *testing.T) {
	for _, c := range []struct {
		s    string
		want int
	}{
		{"<pre", 1}, {"<pre>", 1}, {"<pre ", 1}, {"<pre\t", 1}, {"<pre x", 1}, {"<pre>x</pre>", 1}, {"<pre \xff", 1}, {"<pre><", 1},
		{"<PRE", 1}, {"<Pre>", 1}, {"<pRE b='c'>", 1},
		{"<script", 1}, {"<SCRIPT x", 1}, {"<script>", 1}, {"<scripT\tx", 1},
		{"<style", 1}, {"<style>", 1}, {"<STYLE>", 1}, {"<stYle a", 1},
		{"<textarea", 1}, {"<textarea>x", 1}, {"<TEXTAREA>", 1}, {"<TextArea ", 1},
		{"<pre/>", 7}, {"<pre/", 0}, {"<prex>", 7}, {"<prex", 0}, {"<pr", 0}, {"<pre1>", 7}, {"<pre-a>", 7}, {"<pre\n", 0}, {"<pre\n>", 7}, {"<pre\r", 0}, {"<pre\f>", 0},
		{"</pre", 0}, {"</pre>", 7}, {"</pre>x", 0}, {"</PRE >", 7}, {"</script>", 7}, {"</style >\t", 7}, {"</textarea", 0}, {"<pre\xff", 0}, {"<pre.", 0}, {"<pre<", 0},
		{"<\u017fcript>", 0}, {"<\u017ftyle", 0}, {"<scr\u0130pt>", 0}, {"<scr\u0131pt>", 0},
		{"<!--", 2}, {"<!---", 2}, {"<!-- x", 2}, {"<!-- x -->", 2}, {"<!-- x --> y", 2}, {"<!-->", 2}, {"<!--\xff", 2}, {"<!-", 0}, {"<!- -", 0},
		{"<?", 3}, {"<?>", 3}, {"<? x", 3}, {"<?php ?> x", 3}, {"<??>", 3}, {"<?\xff", 3}, {"< ?", 0},
		{"<!x", 4}, {"<!X", 4}, {"<!a", 4}, {"<!z", 4}, {"<!A", 4}, {"<!Z", 4}, {"<!DOCTYPE html> x", 4}, {"<!x>", 4},
		{"<!", 0}, {"<!>", 0}, {"<!1", 0}, {"<! x", 0}, {"<!@", 0}, {"<![", 0}, {"<!`", 0}, {"<!{", 0}, {"<!\u00e4", 0}, {"<!\xff", 0},
		{"<![CDATA[", 5}, {"<![CDATA[x", 5}, {"<![CDATA[]]> x", 5}, {"<![CDATA", 0}, {"<![cdata[", 0}, {"<![CDATa[", 0}, {"<!CDATA[", 4},
		{"<div", 6}, {"<DIV", 6}, {"<dIv>", 6}, {"</div>", 6}, {"</div", 6}, {"</DIV x", 6}, {"<div ", 6}, {"<div\t", 6}, {"<div/>", 6}, {"</div/>", 6},
		{"<div x", 6}, {"<div>x", 6}, {"<div/>x", 6}, {"<div '", 6}, {"<div \xff", 6}, {"<div><", 6}, {"</div \xff", 6},
		{"<h1", 6}, {"<h1/>", 6}, {"<h6>", 6}, {"</H6>", 6}, {"<p", 6}, {"<P>", 6}, {"</p>", 6}, {"<hr/>x", 6},
		{"<div/", 0}, {"<div/ >", 0}, {"<div.", 0}, {"<div'", 0}, {"<div=", 0}, {"<div\n", 0}, {"<div\n>", 7}, {"<div\r", 0}, {"<div\xff", 0}, {"<div\u00a0", 0}, {"<div<", 0},
		{"<divx", 0}, {"<divx>", 7}, {"<div1", 0}, {"<div1>", 7}, {"<div1> x", 0}, {"<div-x>", 7}, {"<div-x", 0}, {"<div-x> x", 0}, {"<div-", 0},
		{"<h", 0}, {"<h>", 7}, {"<h0>", 7}, {"<h7>", 7}, {"<h7", 0}, {"<h11>", 7}, {"<h1a", 0}, {"<p1", 0}, {"<pp", 0}, {"<di", 0}, {"< div>", 0}, {"<//div>", 0}, {"</ div>", 0}, {"<l\u0130", 0}, {"<1div>", 0},
		{"<b>", 7}, {"<b> \t", 7}, {"<b>\t", 7}, {"</b>", 7}, {"</b> ", 7}, {"</b >", 7}, {"<b/>", 7}, {"<b />", 7}, {"<b c='d'>", 7}, {"<b c='d' e=f />  ", 7}, {"<b c='\xff'>", 7}, {"<B>", 7},
		{"<b>x", 0}, {"<b> x", 0}, {"<b></b>", 0}, {"<b><i>", 0}, {"<b>\n", 0}, {"<b>\r", 0}, {"<b>\x00", 0}, {"<b>\xff", 0}, {"<b>\u00a0", 0}, {"<b>>", 0},
		{"<b", 0}, {"<b ", 0}, {"<b c=>", 0}, {"</b c>", 0}, {"</b/>", 0}, {"<b c", 0}, {"</b", 0}, {"<http://x>", 0}, {"<a@b>", 0},
		{"", 0}, {" ", 0}, {"\t", 0}, {"x", 0}, {"<", 0}, {"</", 0}, {">", 0}, {"\xff", 0}, {" <div>", 0}, {"\t<b>", 0}, {"pre", 0}, {"div>", 0}, {"/div>", 0},
	} {
		if got := Kind(c.s); got != c.want {
			t.Errorf("Kind of %q: %d, not %d", c.s, got, c.want)
		}
	}
}

// P6.2, Kind: every byte behind each name.
func TestKindBehindNames(t *testing.T) {
	for b := range 256 {
		one := string([]byte{byte(b)})
		ends := b == 32 || b == 9 || b == '>'
		for _, name := range []string{"<pre", "<SCRIPT", "<style", "<TextArea"} {
			if s := name + one + "x\x00"; (Kind(s) == 1) != ends {
				t.Errorf("Kind of %q: %d", s, Kind(s))
			}
		}
		for _, name := range []string{"<div", "</div", "<H1", "</ul"} {
			if s := name + one + "x\x00"; (Kind(s) == 6) != ends {
				t.Errorf("Kind of %q: %d", s, Kind(s))
			}
			// Behind "/" a block goes on with ">" alone.
			if s := name + "/" + one + "x"; (Kind(s) == 6) != (b == '>') {
				t.Errorf("Kind of %q: %d", s, Kind(s))
			}
		}
		isLetter := b >= 'a' && b <= 'z' || b >= 'A' && b <= 'Z'
		if s := "<!" + one; (Kind(s) == 4) != isLetter {
			t.Errorf("Kind of %q: %d", s, Kind(s))
		}
		if s := "<b>" + one; (Kind(s) == 7) != (b == 32 || b == 9) {
			t.Errorf("Kind of %q: %d", s, Kind(s))
		}
	}
}

// P6.3, Ends.
func TestEnds(t *testing.T) {
	for _, c := range []struct {
		s     string
		kinds []int
	}{
		{"</pre>", []int{1, 4}}, {"a</pre>", []int{1, 4}}, {"</pre>a", []int{1, 4}}, {"a</pre>b", []int{1, 4}},
		{"</PRE>", []int{1, 4}}, {"a</pRe>b", []int{1, 4}}, {"<</pre>>", []int{1, 4}}, {"</</pre>", []int{1, 4}}, {"\xff</pre>\xff", []int{1, 4}},
		{"</script>", []int{1, 4}}, {"a</SCRIPT>b", []int{1, 4}}, {"</Script>", []int{1, 4}},
		{"</style>", []int{1, 4}}, {"a</STYLE>b", []int{1, 4}}, {"</stylE>", []int{1, 4}},
		{"</textarea>", []int{1, 4}}, {"a</TEXTAREA>b", []int{1, 4}}, {"</TextArea>", []int{1, 4}},
		{"</pre >", []int{4}}, {"</pre/>", []int{4}}, {"< /pre>", []int{4}}, {"</ pre>", []int{4}}, {"<pre>", []int{4}}, {"</prex>", []int{4}}, {"</xpre>", []int{4}}, {"/pre>", []int{4}},
		{"</pre", nil}, {"</script", nil}, {"</pre\n>", []int{4}}, {"</div>", []int{4}}, {"</p re>", []int{4}}, {"</\x00pre>", []int{4}},
		{"</\u017fcript>", []int{4}}, {"</\u017ftyle>", []int{4}}, {"</scr\u0130pt>", []int{4}}, {"</scr\u0131pt>", []int{4}},
		{"-->", []int{2, 4}}, {"a-->", []int{2, 4}}, {"-->a", []int{2, 4}}, {"a-->b", []int{2, 4}}, {"--->", []int{2, 4}}, {"-->-->", []int{2, 4}}, {"<!-->", []int{2, 4}}, {"\xff-->", []int{2, 4}},
		{"->", []int{4}}, {"-- >", []int{4}}, {"- ->", []int{4}}, {"--", nil}, {"--\xff>", []int{4}}, {"--!>", []int{4}},
		{"?>", []int{3, 4}}, {"a?>", []int{3, 4}}, {"?>a", []int{3, 4}}, {"a?>b", []int{3, 4}}, {"??>", []int{3, 4}}, {"<?>", []int{3, 4}},
		{"? >", []int{4}}, {"?", nil}, {"?\x00>", []int{4}},
		{">", []int{4}}, {"a>", []int{4}}, {">a", []int{4}}, {"a>b", []int{4}}, {">>", []int{4}}, {"<a>", []int{4}}, {"\xff>", []int{4}},
		{"]]>", []int{4, 5}}, {"a]]>", []int{4, 5}}, {"]]>a", []int{4, 5}}, {"a]]>b", []int{4, 5}}, {"]]]>", []int{4, 5}}, {"<![CDATA[]]>", []int{4, 5}},
		{"]>", []int{4}}, {"]] >", []int{4}}, {"] ]>", []int{4}}, {"]]", nil},
		{"</pre>-->?>]]>", []int{1, 2, 3, 4, 5}},
		{"", nil}, {" ", nil}, {"\t ", nil}, {"a", nil}, {"<", nil}, {"<!--", nil}, {"<![CDATA[", nil}, {"<?", nil}, {"\xff", nil}, {"\xe2\x82", nil}, {"\u203a", nil}, {"\uff1e", nil},
	} {
		for kind := -2; kind < 12; kind++ {
			want := false
			for _, k := range c.kinds {
				want = want || k == kind
			}
			if got := Ends(c.s, kind); got != want {
				t.Errorf("Ends of %q and %d: %v", c.s, kind, got)
			}
		}
	}
}

// P6.3, Ends: kinds that have no last line by a mark, the greatest and least numbers too.
func TestEndsOfOtherKinds(t *testing.T) {
	const line = "<pre></pre></script></style></textarea>--> ?> > ]]> </div> </b>"
	for kind := 1; kind <= 5; kind++ {
		if !Ends(line, kind) {
			t.Errorf("Ends of %d", kind)
		}
	}
	for _, kind := range []int{0, -1, -2, -5, 6, 7, 8, 100, math.MinInt32, math.MaxInt32, math.MaxUint32, 1 << 32, 1<<32 + 1, 1<<63 - 1, -1 << 62, math.MinInt64, math.MinInt64 + 1, math.MinInt64 + 2, math.MinInt64 + 4, math.MaxInt64, math.MaxInt64 - 1} {
		for _, s := range []string{line, "", " ", "\xff"} {
			if Ends(s, kind) {
				t.Errorf("Ends of %q and %d", s, kind)
			}
		}
	}
}

// P1: great texts are answered, and soon.
func TestGreatTexts(t *testing.T) {
	const n = 1 << 20
	for _, c := range []struct {
		name       string
		s          string
		raw, kind  int
		lastOfKind int
	}{
		{"brackets", strings.Repeat("<", n), 0, 0, 0},
		{"a name", "<" + strings.Repeat("a", n), 0, 0, 0},
		{"blanks", "<a" + strings.Repeat(" ", n), 0, 0, 0},
		{"attributes", "<a" + strings.Repeat(" b = 'c'", n) + ">", 8*n + 3, 7, 4},
		{"attributes, not closed", "<a" + strings.Repeat("\tb", n), 0, 0, 0},
		{"attributes, a row of blanks", "<a b" + strings.Repeat("\n", n) + "c>", n + 6, 7, 4},
		{"a value", "<a b='" + strings.Repeat("\"", n) + "'>", n + 8, 7, 4},
		{"a value, not closed", "<a b='" + strings.Repeat("\"", n), 0, 0, 0},
		{"a comment", "<!--" + strings.Repeat("-", n) + "->", n + 6, 2, 2},
		{"a comment, not closed", "<!--" + strings.Repeat("- ", n), 0, 2, 0},
		{"a section", "<![CDATA[" + strings.Repeat("]", n) + ">", n + 10, 5, 5},
		{"instructions", strings.Repeat("<?", n), 0, 3, 0},
		{"capital letters", "<!" + strings.Repeat("A", n) + "</PRE>", n + 8, 4, 1},
	} {
		if got := Raw(c.s); got != c.raw {
			t.Errorf("%s: Raw: %d, not %d", c.name, got, c.raw)
		}
		if got := Kind(c.s); got != c.kind {
			t.Errorf("%s: Kind: %d, not %d", c.name, got, c.kind)
		}
		if c.lastOfKind > 0 && !Ends(c.s, c.lastOfKind) {
			t.Errorf("%s: Ends of %d", c.name, c.lastOfKind)
		}
	}
}
