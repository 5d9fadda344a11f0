package inline

import "testing"

// P13.1, 6: rows that make pairs, and rows that make none.
func TestRows(t *testing.T) {
	holdAll(t, []asked{
		{"one star", "*a*", `em0-3{"a"1-2}`},
		{"two stars", "**a**", `strong0-5{"a"2-3}`},
		{"one underscore", "_a_", `em0-3{"a"1-2}`},
		{"two underscores", "__a__", `strong0-5{"a"2-3}`},
		{"within text", "x *a* y", `"x "0-2 em2-5{"a"3-4} " y"5-7`},
		{"stars within a word", "x*a*y", `"x"0-1 em1-4{"a"2-3} "y"4-5`},
		{"underscores within a word", "x_a_y", `"x_a_y"0-5`},
		{"an underscore that may not close", "_a_b", `"_a_b"0-4`},
		{"underscores with some within", "_a_b_", `em0-5{"a_b"1-4}`},
		{"a row alone", "*", `"*"0-1`},
		{"a row of some alone", "___", `"___"0-3`},
		{"rows that open", "*a **b _c", `"*a **b _c"0-9`},
		{"rows that close", "a* b** c_", `"a* b** c_"0-9`},
		{"rows that may do neither", "a * b * c", `"a * b * c"0-9`},
		{"a row that closes ahead of one that opens", "a* *b", `"a* *b"0-5`},
		{"different marks", "*a_", `"*a_"0-3`},
		{"marks across", "*a _b* c_", `em0-6{"a _b"1-5} " c_"6-9`},
		{"marks within", "*a _b_ c*", `em0-9{"a "1-3 em3-6{"b"4-5} " c"6-8}`},
		{"marks next to each other", "*_a_*", `em0-5{em1-4{"a"2-3}}`},
		{"marks next to each other, crossed", "*_a*_", `em0-4{"_a"1-3} "_"4-5`},
		{"one after the other", "*a**b*", `em0-6{"a**b"1-5}`},
		{"two after the other", "**a** *b*", `strong0-5{"a"2-3} " "5-6 em6-9{"b"7-8}`},
		{"next to quotes", "a*\"b\"*", `"a*\"b\"*"0-6`},
		{"next to a blank of two bytes", "*\u00a0a*", "\"*\\u00a0a*\"0-5"},
		{"next to a mark of three bytes", "a*\u20acb*", "\"a*€b*\"0-7"},
		{"next to the blank at the text's beginning", " _a_", `em1-4{"a"2-3}`},
		{"next to a bracket", "[_a_](b)", `link0-8#1(b|){em1-4{"a"2-3}}`},
		{"next to an entity's mark", "&lt;_a_&gt;", `"<"0-4 em4-7{"a"5-6} ">"7-11`},
		{"next to a backslash's mark", "\\!_a_", `"!"0-2 em2-5{"a"3-4}`},
		{"next to a row", "*a*_b_", `em0-3{"a"1-2} em3-6{"b"4-5}`},
		{"code within", "*a`*`*", "em0-6{\"a\"1-2 span2-5\"*\"}"},
		{"HTML within", "*<b>*", `em0-5{raw1-4"<b>"}`},
	})
}

// P13.1: of a row's marks those of pairs that it closes come first, then those that are left, then those of pairs that it opens.
func TestMarksOfARow(t *testing.T) {
	holdAll(t, []asked{
		{"three and three", "***a***", `em0-7{strong1-6{"a"3-4}}`},
		{"four and four", "****a****", `strong0-9{strong2-7{"a"4-5}}`},
		{"five and five", "*****a*****", `em0-11{strong1-10{strong3-8{"a"5-6}}}`},
		{"three, closed by one and by two", "***a* b**", `strong0-9{em2-5{"a"3-4} " b"5-7}`},
		{"three, closed by two and by one", "***a** b*", `em0-9{strong1-6{"a"3-4} " b"6-8}`},
		{"one and two, closed by three", "*a **b***", `em0-9{"a "1-3 strong3-8{"b"5-6}}`},
		{"two and one, closed by three", "**a *b***", `strong0-9{"a "2-4 em4-7{"b"5-6}}`},
		{"one left ahead", "**a*", `"*"0-1 em1-4{"a"2-3}`},
		{"one left behind", "*a**", `em0-3{"a"1-2} "*"3-4`},
		{"two left ahead", "****a**", `"**"0-2 strong2-7{"a"4-5}`},
		{"two left behind", "__a____", `strong0-5{"a"2-3} "__"5-7`},
		{"some left ahead, within text", "x *****a* y", `"x ****"0-6 em6-9{"a"7-8} " y"9-11`},
		{"some left behind, within text", "x *a***** y", `"x "0-2 em2-5{"a"3-4} "**** y"5-11`},
		{"closed, left and opened", "*a\"**\"b**", `"*a\""0-3 strong3-9{"\"b"5-7}`},
		{"closed, though it might be opened", "*a!*!b*", `em0-4{"a!"1-3} "!b*"4-7`},
		{"a row that closes one and opens one", "**a!***!b*", `strong0-6{"a!"2-4} em6-10{"!b"7-9}`},
		{"a row that closes one, keeps one and opens one", "*a!****!b*", `em0-4{"a!"1-3} "**"4-6 em6-10{"!b"7-9}`},
		{"a row that closes two and opens two", "*a **b!******!c** d*", `em0-10{"a "1-3 strong3-9{"b!"5-7}} em10-20{strong11-17{"!c"13-15} " d"17-19}`},
		{"a row that closes two, keeps three and opens two", "*a **b!*********!c** d*", `em0-10{"a "1-3 strong3-9{"b!"5-7}} "***"10-13 em13-23{strong14-20{"!c"16-18} " d"20-22}`},
		{"left in a link", "[**a*](b)", `link0-9#1(b|){"*"1-2 em2-5{"a"3-4}}`},
	})
}

// P13.1: rows make pairs with those of one link alone.
func TestRowsAcrossLinks(t *testing.T) {
	holdAll(t, []asked{
		{"from without to within", "*[a*](b)", `"*"0-1 link1-8#1(b|){"a*"2-4}`},
		{"from within to without", "[a *b](c)*", `link0-9#1(c|){"a *b"1-5} "*"9-10`},
		{"around a link", "*[a](b)*", `em0-8{link1-7#1(b|){"a"2-3}}`},
		{"around one with a row within", "*[a*b](c)*", `em0-10{link1-9#1(c|){"a*b"2-5}}`},
		{"around one with pairs within", "*[*a*](b)*", `em0-10{link1-9#1(b|){em2-5{"a"3-4}}}`},
		{"around one with marks that are left within", "**[**a*](b)**", `strong0-13{link2-11#1(b|){"*"3-4 em4-7{"a"5-6}}}`},
		{"from an image to without", "![*a](b)*", `image0-8#1(b|){"*a"2-4} "*"8-9`},
		{"between two links", "[*a](b) [c*](d)", `link0-7#1(b|){"*a"1-3} " "7-8 link8-15#1(d|){"c*"9-11}`},
		{"across what leads nowhere", "*[a*](b c)", `em0-4{"[a"1-3} "](b c)"4-10`},
		{"across a bracket that is asleep", "[*a [b](c)*](d)", `"["0-1 em1-11{"a "2-4 link4-10#1(c|){"b"5-6}} "](d)"11-15`},
		{"out of a link within an image", "![*a [b*](c)*](d)", `image0-17#1(d|){em2-13{"a "3-5 link5-12#1(c|){"b*"6-8}}}`},
		{"next to a link", "_[a](b)_", `em0-8{link1-7#1(b|){"a"2-3}}`},
		{"a row in a destination is none", "*[a](b*)", `"*"0-1 link1-8#1(b*|){"a"2-3}`},
		{"a row in a label behind is none", "[y][*x*]*", `link0-8#2(stars|){"y"1-2} "*"8-9`},
	})
}
