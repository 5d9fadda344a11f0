package inline

import (
	"strings"
	"testing"

	"stet/api"
)

// P13.1: blanks at a text's ends are none of anything.
func TestBlanksAtTheEnds(t *testing.T) {
	holdAll(t, []asked{
		{"the empty text", "", ``},
		{"a blank", " ", ``},
		{"a tab", "\t", ``},
		{"a line's end", "\n", ``},
		{"blanks alone", " \t\n \n\t", ``},
		{"two blanks and a line's end", "  \n", ``},
		{"a letter", "a", `"a"0-1`},
		{"blanks ahead", " \t\na", `"a"3-4`},
		{"blanks behind", "a\n\t ", `"a"0-1`},
		{"blanks around", "\n  a b  \n", `"a b"3-6`},
		{"two blanks and a line's end ahead", "  \na", `"a"3-4`},
		{"two blanks and a line's end behind", "a  \n", `"a"0-1`},
		{"a backslash and a line's end behind", "a\\\n", `"a\\"0-2`},
		{"a row ahead of blanks", "*a* ", `em0-3{"a"1-2}`},
		{"a row behind blanks", " *a*", `em1-4{"a"2-3}`},
		{"a row and blanks", "a * ", `"a *"0-3`},
		{"code at the ends", " `a` ", `span1-4"a"`},
		{"blanks that are none here", "\ra\f", `"\ra\f"0-3`},
		{"a wide blank", "\u00a0a\u00a0", "\"\\u00a0a\\u00a0\"0-5"},
		{"a byte 11", "\v", `"\v"0-1`},
		{"a wrong byte", " \xff ", `"\xff"1-2`},
		{"a byte 0", "\x00", `"\x00"0-1`},
	})
}

// P13.1, 1: backslashes.
func TestBackslash(t *testing.T) {
	holdAll(t, []asked{
		{"ahead of a line's end", "a\\\nb", `"a"0-1 hard1-3 "b"3-4`},
		{"at the beginning", "\\\nb", `hard0-2 "b"2-3`},
		{"behind a blank", "a \\\nb", `"a "0-2 hard2-4 "b"4-5`},
		{"two ahead of a line's end", "a\\\\\nb", `"a\\"0-3 soft3-4 "b"4-5`},
		{"three ahead of a line's end", "\\\\\\\nb", `"\\"0-2 hard2-4 "b"4-5`},
		{"ahead of a blank", "a\\ b", `"a\\ b"0-4`},
		{"ahead of a blank and a line's end", "a\\ \nb", `"a\\"0-2 soft2-4 "b"4-5`},
		{"ahead of two blanks and a line's end", "a\\  \nb", `"a\\"0-2 hard2-5 "b"5-6`},
		{"ahead of a tab", "a\\\tb", `"a\\\tb"0-4`},
		{"ahead of a letter", "\\a", `"\\a"0-2`},
		{"ahead of a digit", "\\1", `"\\1"0-2`},
		{"ahead of a mark that isn't plain", "\\\u00bf", `"\\¿"0-3`},
		{"ahead of a wrong byte", "\\\xff", `"\\\xff"0-2`},
		{"ahead of a byte 0", "\\\x00", `"\\\x00"0-2`},
		{"at the end", "a\\", `"a\\"0-2`},
		{"alone", "\\", `"\\"0-1`},
		{"two", "\\\\", `"\\"0-2`},
		{"a row's first mark", "\\*a*", `"*a*"0-4`},
		{"a row's first mark of two", "\\**a*", `"*"0-2 em2-5{"a"3-4}`},
		{"both ends of emphasis", "\\*a\\*", `"*a*"0-5`},
		{"within emphasis", "*a\\*b*", `em0-6{"a*b"1-5}`},
		{"a backquote", "\\`a`", "\"`a`\"0-4"},
		{"a backquote of two", "\\``a`", "\"`\"0-2 span2-5\"a\""},
		{"no meaning in code", "`a\\`b`", "span0-4\"a\\\\\" \"b`\"4-6"},
		{"an open bracket", "\\[a]", `"[a]"0-4`},
		{"a closing bracket", "[a\\]", `"[a]"0-4`},
		{"the mark of an image", "\\![a]", `"!"0-2 link2-5#2(u|t){"a"3-4}`},
		{"the bracket of an image", "!\\[a]", `"![a]"0-5`},
		{"\"<\"", "\\<b>", `"<b>"0-4`},
		{"\"&\"", "\\&amp;", `"&amp;"0-6`},
	})
	for b := range 256 {
		one := string([]byte{byte(b)})
		text := "\\" + one
		switch {
		case strings.Contains("!\"#$%&'()*+,-./:;<=>?@[\\]^_`{|}~", one):
			text = one
		case one == "\n":
			continue
		}
		tr := parsed(t, "a\\"+one+"b", nil)
		if n := tr.Nodes[1]; len(tr.Nodes) != 2 || n.Text != "a"+text+"b" || n.From != 0 || n.To != 4 {
			t.Errorf("a backslash ahead of %q: %+v", one, tr.Nodes)
		}
	}
}

// P13.1, 2: rows of backquotes.
func TestSpan(t *testing.T) {
	holdAll(t, []asked{
		{"one", "`a`", `span0-3"a"`},
		{"two", "``a``", `span0-5"a"`},
		{"five", "`````a`````", `span0-11"a"`},
		{"within text", "x `a b` y", `"x "0-2 span2-7"a b" " y"7-9`},
		{"none behind", "`a", "\"`a\"0-2"},
		{"fewer behind", "``a`", "\"``a`\"0-4"},
		{"more behind", "`a``", "\"`a``\"0-4"},
		{"more behind, then as many", "`a``b`", "span0-6\"a``b\""},
		{"fewer behind, then as many", "``a`b``", "span0-7\"a`b\""},
		{"none behind, then others", "```a `b`", "\"```a \"0-5 span5-8\"b\""},
		{"others that have none", "`a``b```c", "\"`a``b```c\"0-9"},
		{"one row alone", "``", "\"``\"0-2"},
		{"one behind the other", "`a``b``c`", "span0-9\"a``b``c\""},
		{"two spans", "`a` `b`", `span0-3"a" " "3-4 span4-7"b"`},
		{"a row that was within a span, no more behind", "`a ``b` ``", "span0-7\"a ``b\" \" ``\"7-10"},
		{"a row with its like within a span ahead", "`a``` ```b", "\"`a\"0-2 span2-9\" \" \"b\"9-10"},
		{"the first end counts", "`a`b`", "span0-3\"a\" \"b`\"3-5"},
		{"a line's end", "`a\nb`", `span0-5"a b"`},
		{"line's ends", "`a\n\nb`", `span0-6"a  b"`},
		{"blanks and a line's end", "`a  \n b`", `span0-8"a    b"`},
		{"a blank at both ends", "` a `", `span0-5"a"`},
		{"blanks at both ends", "`  a  `", `span0-7" a "`},
		{"a blank at the beginning", "` a`", `span0-4" a"`},
		{"a blank at the end", "`a `", `span0-4"a "`},
		{"line's ends at both ends", "`\na\n`", `span0-5"a"`},
		{"a line's end and a blank", "`\na `", `span0-5"a"`},
		{"a blank and a line's end", "` a\n`", `span0-5"a"`},
		{"a tab at both ends", "`\ta\t`", `span0-5"\ta\t"`},
		{"a blank ahead of backquotes", "`` `a` ``", "span0-9\"`a`\""},
		{"a blank alone", "` `", `span0-3" "`},
		{"two blanks alone", "`  `", `span0-4"  "`},
		{"three blanks alone", "`   `", `span0-5"   "`},
		{"a line's end alone", "`\n`", `span0-3" "`},
		{"a tab between blanks", "` \t `", `span0-5"\t"`},
		{"what is none there", "`*a* &amp; <b> [c](d)`", `span0-22"*a* &amp; <b> [c](d)"`},
		{"ahead of emphasis", "*a`*`", "\"*a\"0-2 span2-5\"*\""},
		{"ahead of brackets", "[a`](b)`", "\"[a\"0-2 span2-8\"](b)\""},
		{"HTML is ahead of it", "<a b='`'>`", "raw0-9\"<a b='`'>\" \"`\"9-10"},
		{"a URL is ahead of it", "<ab:`>`", "link0-6#3(ab:`|){\"ab:`\"1-5} \"`\"6-7"},
		{"ahead of HTML", "`<b c='`'>", "span0-8\"<b c='\" \"'>\"8-10"},
		{"a wrong byte", "`\xff`", `span0-3"\xff"`},
	})
}

// P13.1, 4: entities.
func TestEntity(t *testing.T) {
	holdAll(t, []asked{
		{"a name", "a&amp;b", `"a&b"0-7`},
		{"a name of another character", "&copy;", `"©"0-6`},
		{"digits", "&#65;", `"A"0-5`},
		{"hexadecimal digits", "&#x4A;", `"J"0-6`},
		{"a number that is none", "&#0;", "\"\ufffd\"0-4"},
		{"two", "&lt;&gt;", `"<>"0-8`},
		{"no end", "&amp", `"&amp"0-4`},
		{"no name", "&nope;", `"&nope;"0-6`},
		{"nothing", "&;", `"&;"0-2`},
		{"no digits", "&#;", `"&#;"0-3`},
		{"too many digits", "&#12345678;", `"&#12345678;"0-11`},
		{"alone", "&", `"&"0-1`},
		{"an entity behind \"&\"", "&&lt;", `"&<"0-5`},
		{"no mark is made of it", "&#42;a&#42;", `"*a*"0-11`},
		{"no bracket is made of it", "&#91;a]", `"[a]"0-7`},
		{"no line's end is made of it", "a&#10;b", `"a\nb"0-7`},
		{"no blank at the end", "a&#32;", `"a "0-6`},
		{"not in code", "`&amp;`", `span0-7"&amp;"`},
		{"its last mark stands next to a row", "&lt;*a*", `"<"0-4 em4-7{"a"5-6}`},
		{"its last mark stands next to a row that may not close within a word", "&lt;_a_b", `"<_a_b"0-8`},
	})
}

// P13.1, 5: line's ends.
func TestLineEnd(t *testing.T) {
	holdAll(t, []asked{
		{"no blank ahead", "a\nb", `"a"0-1 soft1-2 "b"2-3`},
		{"one blank", "a \nb", `"a"0-1 soft1-3 "b"3-4`},
		{"two blanks", "a  \nb", `"a"0-1 hard1-4 "b"4-5`},
		{"three blanks", "a   \nb", `"a"0-1 hard1-5 "b"5-6`},
		{"many blanks", "a" + strings.Repeat(" ", 40) + "\nb", `"a"0-1 hard1-42 "b"42-43`},
		{"a tab", "a\t\nb", `"a\t"0-2 soft2-3 "b"3-4`},
		{"a tab behind blanks", "a  \t\nb", `"a  \t"0-4 soft4-5 "b"5-6`},
		{"a tab ahead of two blanks", "a\t  \nb", `"a\t"0-2 hard2-5 "b"5-6`},
		{"a byte 13", "a\r\nb", `"a\r"0-2 soft2-3 "b"3-4`},
		{"blanks behind", "a\n  b", `"a"0-1 soft1-2 "  b"2-5`},
		{"two line's ends", "a\n\nb", `"a"0-1 soft1-2 soft2-3 "b"3-4`},
		{"two line's ends with blanks", "a\n  \nb", `"a"0-1 soft1-2 hard2-5 "b"5-6`},
		{"blanks within", "a   b", `"a   b"0-5`},
		{"behind code", "`a`  \nb", `span0-3"a" hard3-6 "b"6-7`},
		{"within emphasis", "*a\nb*", `em0-5{"a"1-2 soft2-3 "b"3-4}`},
		{"behind a row", "*a*\n*b*", `em0-3{"a"1-2} soft3-4 em4-7{"b"5-6}`},
		{"rows next to blanks", "*a *\nb*", `em0-7{"a *"1-4 soft4-5 "b"5-6}`},
		{"within a link", "[a \nb](c)", `link0-9#1(c|){"a"1-2 soft2-4 "b"4-5}`},
	})
}

// P13.1: KTexts that become one.
func TestTextsThatBecomeOne(t *testing.T) {
	holdAll(t, []asked{
		{"bytes", "abc", `"abc"0-3`},
		{"a backslash, an entity, marks, brackets", "a\\*&amp;*[`!]<&\\b", "\"a*&*[`!]<&\\\\b\"0-17"},
		{"marks that are left, and text", "a * b _ c", `"a * b _ c"0-9`},
		{"a bracket, and what was within", "[a &amp; b]x", `"[a & b]x"0-12`},
		{"not over others", "a`b`c", `"a"0-1 span1-4"b" "c"4-5`},
		{"not over a line's end", "a\nb", `"a"0-1 soft1-2 "b"2-3`},
		{"not into a link", "a[b](c)d", `"a"0-1 link1-7#1(c|){"b"2-3} "d"7-8`},
		{"not into emphasis", "a*b*c", `"a"0-1 em1-4{"b"2-3} "c"4-5`},
		{"text ahead of a mark that is left", "a **b*", `"a *"0-3 em3-6{"b"4-5}`},
		{"text behind a mark that is left", "*a** b", `em0-3{"a"1-2} "* b"3-6`},
		{"all in emphasis", "*a&lt;[\\]*", `em0-10{"a<[]"1-9}`},
		{"all in a link", "[&lt;*!\\]](u)", `link0-13#1(u|){"<*!]"1-9}`},
		{"characters and wrong bytes", "\u00e4\xff\u20ac\x00", "\"ä\\xff€\\x00\"0-7"},
	})
}

// P13.1: the nodes are numbered by going through them.
func TestNumbers(t *testing.T) {
	got := parsed(t, "a *b **c** `d`* [e ![f](g)](h)\n<ij:k>", nil)
	kinds := []int{api.KPara, api.KText, api.KEm, api.KText, api.KStrong, api.KText, api.KText, api.KSpan, api.KText,
		api.KLink, api.KText, api.KImage, api.KText, api.KSoft, api.KLink, api.KText}
	kids := [][]int{{1, 2, 8, 9, 13, 14}, {}, {3, 4, 6, 7}, {}, {5}, {}, {}, {}, {}, {10, 11}, {}, {12}, {}, {}, {15}, {}}
	if len(got.Nodes) != len(kinds) {
		t.Fatalf("%d nodes: %s", len(got.Nodes), told(got))
	}
	for i, n := range got.Nodes {
		if n.Kind != kinds[i] || len(n.Kids) != len(kids[i]) {
			t.Errorf("%d: %+v", i, n)
			continue
		}
		for j, kid := range n.Kids {
			if kid != kids[i][j] {
				t.Errorf("%d: kids %v, not %v", i, n.Kids, kids[i])
			}
		}
	}
}

// P13.1: fields that have no meaning are empty.
func TestOtherFields(t *testing.T) {
	for _, n := range parsed(t, "a *b* **c** `d` <e> [f](g 'h') ![i][a]  \n<jk:l>\nm", somewhere()).Nodes {
		if n.Tight || len(n.Pieces) > 0 {
			t.Errorf("%+v", n)
		}
		if link := n.Kind == api.KLink || n.Kind == api.KImage; !link && (n.Level != 0 || n.Link != "" || n.Title != "") {
			t.Errorf("%+v", n)
		}
		if text := n.Kind == api.KText || n.Kind == api.KSpan || n.Kind == api.KRaw; text != (n.Text != "") {
			t.Errorf("%+v", n)
		}
	}
}

// P13.1: the chapter's examples.
func TestExamples(t *testing.T) {
	hold(t, "the first one", "*a* [b](c)", nil, `em0-3{"a"1-2} " "3-4 link4-10#1(c|){"b"5-6}`)
	hold(t, "the second one", "a  \nb", nil, `"a"0-1 hard1-4 "b"4-5`)
}
