package inline

import (
	"strings"
	"testing"

	"stet/api"
)

// P13.1, 7 and 8: brackets with none open, and those that lead nowhere.
func TestBracketsThatLeadNowhere(t *testing.T) {
	holdAll(t, []asked{
		{"an end alone", "]", `"]"0-1`},
		{"an end, and what could be behind it", "](b)", `"](b)"0-4`},
		{"an end, and a label", "][a]", `"]"0-1 link1-4#2(u|t){"a"2-3}`},
		{"a beginning alone", "[", `"["0-1`},
		{"an image's beginning alone", "![", `"!["0-2`},
		{"an exclamation mark", "!", `"!"0-1`},
		{"an exclamation mark ahead of a letter", "!a", `"!a"0-2`},
		{"an exclamation mark ahead of an end", "!]", `"!]"0-2`},
		{"a blank behind an exclamation mark", "! [a]", `"! "0-2 link2-5#2(u|t){"a"3-4}`},
		{"two exclamation marks", "!![a]", `"!"0-1 image1-5#2(u|t){"a"3-4}`},
		{"nothing between", "[]", `"[]"0-2`},
		{"nothing between, an image", "![]", `"![]"0-3`},
		{"blanks between", "[ ]", `"[ ]"0-3`},
		{"no definition", "[x]", `"[x]"0-3`},
		{"no definition of an image", "![x]", `"![x]"0-4`},
		{"it is open no more", "[a [x] ](b)", `link0-11#1(b|){"a [x] "1-7}`},
		{"it is open no more, and no other one", "[x] ](b)", `"[x] ](b)"0-8`},
		{"the last one is open no more", "[[x]](b)", `link0-8#1(b|){"[x]"1-4}`},
		{"more ends", "[a]]](b)", `link0-3#2(u|t){"a"1-2} "]](b)"3-8`},
		{"more beginnings", "[[[a]", `"[["0-2 link2-5#2(u|t){"a"3-4}`},
		{"rows within", "[*y*]", `"["0-1 em1-4{"y"2-3} "]"4-5`},
		{"rows within and without", "*[x*]", `em0-4{"[x"1-3} "]"4-5`},
		{"rows over it", "[*x]*", `"["0-1 em1-5{"x]"2-4}`},
		{"rows over an image's beginning", "*![*", `em0-4{"!["1-3}`},
		{"other inlines within", "[`x` <b>\n]", "\"[\"0-1 span1-4\"x\" \" \"4-5 raw5-8\"<b>\" soft8-9 \"]\"9-10"},
		{"a byte next to a row", "[_x_]", `"["0-1 em1-4{"x"2-3} "]"4-5`},
	})
}

// P13.1, 8: parentheses behind.
func TestParentheses(t *testing.T) {
	holdAll(t, []asked{
		{"a destination", "[x](y)", `link0-6#1(y|){"x"1-2}`},
		{"an image", "![x](y)", `image0-7#1(y|){"x"2-3}`},
		{"within text", "a[x](y)b", `"a"0-1 link1-7#1(y|){"x"2-3} "b"7-8`},
		{"nothing", "[x]()", `link0-5#1(|){"x"1-2}`},
		{"blanks alone", "[x]( \t\n )", `link0-9#1(|){"x"1-2}`},
		{"nothing anywhere", "[]()", `link0-4#1(|){}`},
		{"nothing between brackets", "![](y)", `image0-6#1(y|){}`},
		{"blanks between brackets", "[ ](y)", `link0-6#1(y|){" "1-2}`},
		{"blanks around", "[x]( \n\ty\t \n)", `link0-12#1(y|){"x"1-2}`},
		{"a blank ahead", "[x] (y)", `"[x] (y)"0-7`},
		{"a line's end ahead", "[x]\n(y)", `"[x]"0-3 soft3-4 "(y)"4-7`},
		{"a byte 12 ahead", "[x](\fy)", `"[x](\fy)"0-7`},
		{"a wide blank, part of the destination", "[x](\u00a0y)", "link0-8#1(\u00a0y|){\"x\"1-2}"},
		{"\"<\" and \">\"", "[x](<y z>)", `link0-10#1(y z|){"x"1-2}`},
		{"\"<\" and \">\" alone", "[x](<>)", `link0-7#1(|){"x"1-2}`},
		{"a backslash and an entity", "[x](\\)&amp;y)", `link0-13#1()&y|){"x"1-2}`},
		{"parentheses in pairs", "[x](y(z(a)))", `link0-12#1(y(z(a))|){"x"1-2}`},
		{"parentheses in no pairs", "[x](y(z)", `"[x](y(z)"0-8`},
		{"an end more", "[x](y))", `link0-6#1(y|){"x"1-2} ")"6-7`},
		{"two words", "[x](y z)", `"[x](y z)"0-8`},
		{"no end", "[x](y", `"[x](y"0-5`},
		{"no end, blanks", "[x](y ", `"[x](y"0-5`},
		{"no end at once", "[x](", `"[x]("0-4`},
		{"no end of \"<\"", "[x](<y)", `"[x](<y)"0-7`},
		{"bytes behind \">\"", "[x](<y>z)", `"[x]("0-4 raw4-7"<y>" "z)"7-9`},
		{"a title", "[x](y \"t u\")", `link0-12#1(y|t u){"x"1-2}`},
		{"a title between single quotes", "[x](y 't')", `link0-10#1(y|t){"x"1-2}`},
		{"a title between parentheses", "[x](y (t))", `link0-10#1(y|t){"x"1-2}`},
		{"an empty title", "[x](y '')", `link0-9#1(y|){"x"1-2}`},
		{"a title with a backslash and an entity", "[x](y '\\'&lt;')", `link0-15#1(y|'<){"x"1-2}`},
		{"a title over lines", "[x](y\n't\nu'\n)", `link0-13#1(y|t` + "\n" + `u){"x"1-2}`},
		{"a title behind a tab", "[x](y\t't')", `link0-10#1(y|t){"x"1-2}`},
		{"a title behind blanks", "[x](y \n 't' \t)", `link0-14#1(y|t){"x"1-2}`},
		{"a title behind \"<\" and \">\"", "[x](<y> 't')", `link0-12#1(y|t){"x"1-2}`},
		{"a title behind \"<\" and \">\" alone", "[x](<> 't')", `link0-11#1(|t){"x"1-2}`},
		{"no blank ahead of a title, part of the destination", "[x](y't')", `link0-9#1(y't'|){"x"1-2}`},
		{"no blank ahead of a title behind \">\"", "[x](<y>'t')", `"[x]("0-4 raw4-7"<y>" "'t')"7-11`},
		{"a title without a destination, which is one", "[x]('t')", `link0-8#1('t'|){"x"1-2}`},
		{"a title with a blank without a destination", "[x]('t u')", `"[x]('t u')"0-10`},
		{"a title behind a blank without a destination", "[x]( 't u')", `"[x]( 't u')"0-11`},
		{"two titles", "[x](y 't' 'u')", `"[x](y 't' 'u')"0-14`},
		{"a byte behind a title", "[x](y 't'u)", `"[x](y 't'u)"0-11`},
		{"no end of a title", "[x](y 't)", `"[x](y 't)"0-9`},
		{"no end behind a title", "[x](y 't'", `"[x](y 't'"0-9`},
		{"quotes that are no pair", "[x](y \"t')", `"[x](y \"t')"0-10`},
		{"what is none in a destination", "[x](*y*`&<b>)", "link0-13#1(*y*`&<b>|){\"x\"1-2}"},
		{"no inlines in a title", "[x](y '*t*<b>')", `link0-15#1(y|*t*<b>){"x"1-2}`},
		{"inlines between", "[a *b* `c` &lt;\\] <d>](e)", "link0-25#1(e|){\"a \"1-3 em3-6{\"b\"4-5} \" \"6-7 span7-10\"c\" \" <] \"10-18 raw18-21\"<d>\"}"},
		{"parentheses count first", "[a](y)", `link0-6#1(y|){"a"1-2}`},
		{"a label if they lead nowhere", "[a](y z)", `link0-3#2(u|t){"a"1-2} "(y z)"3-8`},
		{"two links", "[x](y)[z](w)", `link0-6#1(y|){"x"1-2} link6-12#1(w|){"z"7-8}`},
		{"rows behind that would be ahead", "[x](y)*z*", `link0-6#1(y|){"x"1-2} em6-9{"z"7-8}`},
	})
}

// P13.1, 8: labels behind, and what stands between as a label.
func TestLabels(t *testing.T) {
	holdAll(t, []asked{
		{"a label behind", "[x][a]", `link0-6#2(u|t){"x"1-2}`},
		{"a label behind an image", "![x][a]", `image0-7#2(u|t){"x"2-3}`},
		{"of two definitions the first one", "[a]", `link0-3#2(u|t){"a"1-2}`},
		{"a folded label behind", "[x][ B\n\tC ]", `link0-11#2(v|){"x"1-2}`},
		{"letters that are two", "[x][\u1e9e]", `link0-8#2(s|){"x"1-2}`},
		{"a label with marks", "[x][*X*]", `link0-8#2(stars|){"x"1-2}`},
		{"a label with a backslash", "[x][q\\]]", `link0-8#2(backslash|){"x"1-2}`},
		{"a definition whose label isn't folded", "[x][D] [d]", `"[x][D] [d]"0-10`},
		{"no definition of the label behind", "[a][x]", `"[a][x]"0-6`},
		{"no definition of an image's label behind", "![a][x]", `"![a][x]"0-7`},
		{"the label behind is a bracket, too", "[x][y][a]", `"[x]"0-3 link3-9#2(u|t){"y"4-5}`},
		{"the label behind leads somewhere by itself", "[a][x](y)", `"[a]"0-3 link3-9#1(y|){"x"4-5}`},
		{"what stands between isn't asked then", "[a][x][]", `"[a][x][]"0-8`},
		{"a blank ahead of the label behind", "[x] [a]", `"[x] "0-4 link4-7#2(u|t){"a"5-6}`},
		{"an image behind, no label", "[a]![x]", `link0-3#2(u|t){"a"1-2} "![x]"3-7`},
		{"no end of the label behind", "[a][b", `link0-3#2(u|t){"a"1-2} "[b"3-5`},
		{"a bracket in the label behind", "[a][b[c]", `link0-3#2(u|t){"a"1-2} "[b[c]"3-8`},
		{"a label behind that is too long", "[a][" + strings.Repeat("b", 1000) + "]", `link0-3#2(u|t){"a"1-2} "[` + strings.Repeat("b", 1000) + `]"3-1005`},
		{"a label behind that is as long as may be", "[a][" + strings.Repeat("b", 999) + "]", `"[a][` + strings.Repeat("b", 999) + `]"0-1004`},
		{"what stands between", "x [a] y", `"x "0-2 link2-5#2(u|t){"a"3-4} " y"5-7`},
		{"what stands between in an image", "![a]", `image0-4#2(u|t){"a"2-3}`},
		{"what stands between, folded", "[ A ]", `link0-5#2(u|t){" A "1-4}`},
		{"what stands between, over lines", "[B\nC]", `link0-5#2(v|){"B"1-2 soft2-3 "C"3-4}`},
		{"what stands between, with marks", "[*x*]", `link0-5#2(stars|){em1-4{"x"2-3}}`},
		{"what stands between, with a backslash", "[q\\]]", `link0-5#2(backslash|){"q]"1-4}`},
		{"what stands between and \"[]\"", "[a][]", `link0-5#2(u|t){"a"1-2}`},
		{"what stands between and \"[]\", an image", "![a][]", `image0-6#2(u|t){"a"2-3}`},
		{"\"[]\" once", "[a][][]", `link0-5#2(u|t){"a"1-2} "[]"5-7`},
		{"\"[]\" behind a blank", "[a] []", `link0-3#2(u|t){"a"1-2} " []"3-6`},
		{"a blank in \"[]\"", "[a][ ]", `link0-3#2(u|t){"a"1-2} "[ ]"3-6`},
		{"\"[\" behind", "[a][", `link0-3#2(u|t){"a"1-2} "["3-4`},
		{"\"[]\" behind what isn't defined", "[x][]", `"[x][]"0-5`},
		{"\"[]\" and parentheses", "[a][](b)", `link0-5#2(u|t){"a"1-2} "(b)"5-8`},
		{"\"[]\" and parentheses behind what isn't defined", "[x][](b)", `"[x]"0-3 link3-8#1(b|){}`},
		{"an entity in a label is none", "[&#97;]", `"[a]"0-7`},
		{"a bracket between, no label", "[[a]]", `"["0-1 link1-4#2(u|t){"a"2-3} "]"4-5`},
		{"an image between, no label", "[![a]]", `"["0-1 image1-5#2(u|t){"a"3-4} "]"5-6`},
		{"brackets within code, no label", "[`]`]", "\"[\"0-1 span1-4\"]\" \"]\"4-5"},
	})
	long := strings.Repeat("l", 999)
	defs := []api.Def{{Label: long, Link: "long"}, {Label: long + "l", Link: "too long"}, {Label: "", Link: "empty"}, {Label: "`a`", Link: "code"}, {Label: "`", Link: "a backquote"}, {Label: "<b c='d'>", Link: "html"}, {Label: "i", Title: "no link"}}
	hold(t, "as long as may be", "["+long+"]", defs, `link0-1001#2(long|){"`+long+`"1-1000}`)
	hold(t, "too long", "["+long+"l]", defs, `"[`+long+`l]"0-1002`)
	hold(t, "as long as may be, behind", "[x]["+long+"]", defs, `link0-1004#2(long|){"x"1-2}`)
	hold(t, "a label that folds to nothing", "[\r]", defs, `link0-3#2(empty|){"\r"1-2}`)
	hold(t, "blanks alone are no label", "[ ][]", defs, `"[ ][]"0-5`)
	hold(t, "code between", "[`A`]", defs, "link0-5#2(code|){span1-4\"A\"}")
	hold(t, "a bracket within code that would end a label", "[`]`]", defs, "\"[\"0-1 span1-4\"]\" \"]\"4-5")
	hold(t, "a label that ends where the bracket does", "[`]", defs, "link0-3#2(a backquote|){\"`\"1-2}")
	hold(t, "HTML between", "[<b c='d'>]", defs, `link0-11#2(html|){raw1-10"<b c='d'>"}`)
	hold(t, "a definition of a title alone", "[i]", defs, `link0-3#2(|no link){"i"1-2}`)
	hold(t, "no definition", "[a][b][]![c]", nil, `"[a][b][]![c]"0-12`)
	hold(t, "no definition, an empty list", "[a](b)[c]", []api.Def{}, `link0-6#1(b|){"a"1-2} "[c]"6-9`)
}

// P13.1, 8: links and images within each other.
func TestWithinEachOther(t *testing.T) {
	holdAll(t, []asked{
		{"a link within a link", "[x [y](z) w](v)", `"[x "0-3 link3-9#1(z|){"y"4-5} " w](v)"9-15`},
		{"a link by a label within a link", "[x [a] w](v)", `"[x "0-3 link3-6#2(u|t){"a"4-5} " w](v)"6-12`},
		{"a link within a link by a label", "[x [y](z)][a]", `"[x "0-3 link3-9#1(z|){"y"4-5} "]"9-10 link10-13#2(u|t){"a"11-12}`},
		{"links within a link", "[[x](y)[z](w)](v)", `"["0-1 link1-7#1(y|){"x"2-3} link7-13#1(w|){"z"8-9} "](v)"13-17`},
		{"three brackets", "[[[x](y)](z)](w)", `"[["0-2 link2-8#1(y|){"x"3-4} "](z)](w)"8-16`},
		{"asleep once, then open no more", "[x [y](z)] ](w)", `"[x "0-3 link3-9#1(z|){"y"4-5} "] ](w)"9-15`},
		{"a link behind one that was asleep", "[x [y](z)] [v](w)", `"[x "0-3 link3-9#1(z|){"y"4-5} "] "9-11 link11-17#1(w|){"v"12-13}`},
		{"a bracket behind the link isn't asleep", "[[x](y) [z](w)", `"["0-1 link1-7#1(y|){"x"2-3} " "7-8 link8-14#1(w|){"z"9-10}`},
		{"a bracket ahead of one that was asleep", "[a [b [c](d) ] ] [e](f)", `"[a [b "0-6 link6-12#1(d|){"c"7-8} " ] ] "12-17 link17-23#1(f|){"e"18-19}`},
		{"an image within a link", "[x ![y](z) w](v)", `link0-16#1(v|){"x "1-3 image3-10#1(z|){"y"5-6} " w"10-12}`},
		{"an image by a label within a link", "[![a]](v)", `link0-9#1(v|){image1-5#2(u|t){"a"3-4}}`},
		{"a link within an image", "![x [y](z) w](v)", `image0-16#1(v|){"x "2-4 link4-10#1(z|){"y"5-6} " w"10-12}`},
		{"links within an image", "![[x](y)[z](w)](v)", `image0-18#1(v|){link2-8#1(y|){"x"3-4} link8-14#1(w|){"z"9-10}}`},
		{"an image within an image", "![x ![y](z) w](v)", `image0-17#1(v|){"x "2-4 image4-11#1(z|){"y"6-7} " w"11-13}`},
		{"a link within an image within a link", "[![[x](y)](z)](w)", `"["0-1 image1-13#1(z|){link3-9#1(y|){"x"4-5}} "](w)"13-17`},
		{"an image within a link within an image", "![[![x](y)](z)](w)", `image0-18#1(w|){link2-14#1(z|){image3-10#1(y|){"x"5-6}}}`},
		{"an image that leads nowhere between", "[![x[y](z)](w)", `"["0-1 image1-14#1(w|){"x"3-4 link4-10#1(z|){"y"5-6}}`},
		{"an image's bracket is never asleep", "![[x](y)] ![z](w)", `"!["0-2 link2-8#1(y|){"x"3-4} "] "8-10 image10-17#1(w|){"z"12-13}`},
		{"no link, no bracket asleep", "[x [y] z](w)", `link0-12#1(w|){"x [y] z"1-8}`},
		{"HTML's links make none asleep", "[<a href='b'>c</a>](d)", `link0-22#1(d|){raw1-13"<a href='b'>" "c"13-14 raw14-18"</a>"}`},
		{"an asleep bracket's rows", "*[x* [y](z)](w)", `em0-4{"[x"1-3} " "4-5 link5-11#1(z|){"y"6-7} "](w)"11-15`},
	})
}
