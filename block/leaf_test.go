package block

import (
	"fmt"
	"strings"
	"testing"

	"stet/api"
)

// P10.1: code with a fence.
func TestFences(t *testing.T) {
	holdTold(t, []c{
		{"FFF\na\nFFF", "D(C3[]{a|})"},
		{"~~~\na\n~~~", "D(C3[]{a|})"},
		{"FFF\nFFF", "D(C3[]{})"},
		{"FFF", "D(C3[]{})"},
		{"``\na", "D(P<``><a>)"},
		{"~~\na", "D(P<~~><a>)"},
		{"a\nFFF\nb\nFFF\nc", "D(P<a>C3[]{b|}P<c>)"},
		{"FFFFFF\na\nFFF\nFFFFF\nFFFFFF\nb", "D(C6[]{a|FFF|FFFFF|}P<b>)"},
		{"FFF\na\nFFFFFFF\nb", "D(C3[]{a|}P<b>)"},
		{"~~~~\n~~~\n~~~~ \t\nb", "D(C4[]{~~~|}P<b>)"},
		{"~~~\nFFF\n~~~", "D(C3[]{FFF|})"},
		{"FFF\n~~~\nFFF", "D(C3[]{~~~|})"},
		{"FFF\na\nFFF b\nFFF", "D(C3[]{a|FFF b|})"},
		{"FFF\na\n\\FFF\nFFF", "D(C3[]{a|\\FFF|})"},
		// what stands behind
		{"FFF go", "D(C3[go]{})"},
		{"FFFgo x\t=1  ", "D(C3[go x\t=1]{})"},
		{"~~~ a`b ~ c", "D(C3[a`b ~ c]{})"},
		{"FFF a`b\nc", "D(P<FFF a`b><c>)"},
		{"FFF FFF", "D(P<FFF FFF>)"},
		{"~~~ \\*a\\* &lt;b&gt; \\b & &#65; &nothing;", "D(C3[*a* <b> \\b & A &nothing;]{})"},
		{"~~~ \xff\x00", "D(C3[\xff\x00]{})"},
		{"~~~   \t ", "D(C3[]{})"},
		// never closed
		{"FFF\na\n\nb", "D(C3[]{a||b|})"},
		{"FFF\n> a\n# b\n- c\n    d\n<div>\n***\n[x]: y", "D(C3[]{> a|# b|- c|    d|<div>|***|[x]: y|})"},
		{"> FFF\n> a\n\nb", "D(Q(C3[]{a|})P<b>)"},
		{"- FFF\n  a\n\n  b\nc", "D(L-t(I(C3[]{a||b|}))P<c>)"},
		// blank lines are lines of it
		{"FFF\n\n \n\t\nFFF", "D(C3[]{| |\t|})"},
		{"  FFF\n\n   \n\n  FFF", "D(C3[]{|" + " ||})"},
		{"> FFF\n>\n> \n>  \n> FFF", "D(Q(C3[]{|| |}))"},
		{"- FFF\n\n     \n  FFF", "D(L-t(I(C3[]{||})))"},
		{"- > FFF\n  >    \n\n", "D(L-t(I(Q(C3[]{   |}))))"},
		{"> - FFF\n>      \n> a", "D(Q(L-t(I(C3[]{|}))P<a>))"},
		// indented: lines with less, as much and more
		{" FFF\na\n b\n  c\nFFF", "D(C3[]{a|b| c|})"},
		{"  FFF\na\n b\n  c\n   d\n FFF", "D(C3[]{a|b|c| d|})"},
		{"   FFF\na\n  b\n   c\n    d\n   FFF", "D(C3[]{a|b|c| d|})"},
		{"    FFF\na", "D(C{FFF|}P<a>)"},
		{"FFF\na\n   FFF\nb", "D(C3[]{a|}P<b>)"},
		{"FFF\na\n    FFF\nb", "D(C3[]{a|    FFF|b|})"},
		{"   FFF\na\n    FFF\nb", "D(C3[]{a| FFF|b|})"},
		{"-  FFF\n   a\n    b\n   FFF", "D(L-t(I(C3[]{a| b|})))"},
		{"-   FFF\n    a\n      b\n    FFF", "D(L-t(I(C3[]{a|  b|})))"},
		{"> - FFF\n>   a\n>    b\n>   FFF", "D(Q(L-t(I(C3[]{a| b|}))))"},
		{"-\n     FFF\n     a\n  b\n  FFF", "D(L-t(I(C3[]{a|b|})))"},
	})
}

// P10.1: code with a fence has as many marks as it is told, and as many close it.
func TestFenceSizes(t *testing.T) {
	for _, sign := range []string{"`", "~"} {
		for n := 3; n < 9; n++ {
			for closing := 1; closing < 12; closing++ {
				s := strings.Repeat(sign, n) + "\na\n" + strings.Repeat(sign, closing) + "\nb"
				want := fmt.Sprintf("D(C%d[]{a|}P<b>)", n)
				if closing < n {
					want = fmt.Sprintf("D(C%d[]{a|%s|b|})", n, strings.Repeat(sign, closing))
				}
				tr, _ := parse(t, s)
				if got := told(s, tr); got != want {
					t.Errorf("%q: %s, not %s", s, got, want)
				}
			}
		}
	}
}

// P10.1: code without a fence.
func TestIndentedCode(t *testing.T) {
	holdTold(t, []c{
		{"    a", "D(C{a|})"},
		{"     a", "D(C{ a|})"},
		{"        a", "D(C{    a|})"},
		{"    a\n    b", "D(C{a|b|})"},
		{"    a\n      b\n    c", "D(C{a|  b|c|})"},
		{"    a \t\n    b  ", "D(C{a \t|b  |})"},
		{"    > a\n    - b\n    # c\n    ***", "D(C{> a|- b|# c|***|})"},
		{"    a\n   b", "D(C{a|}P<b>)"},
		{"    a\nb", "D(C{a|}P<b>)"},
		{"    a\n> b", "D(C{a|}Q(P<b>))"},
		{"    a\n- b", "D(C{a|}L-t(I(P<b>)))"},
		{"    a\n# b\n    c", "D(C{a|}H1<b>C{c|})"},
		{"    a\n<b>", "D(C{a|}M{<b>|})"},
		{"a\n    b", "D(P<a><b>)"},
		{"a\n\n    b", "D(P<a>C{b|})"},
		// blank lines ahead, within and at its end, with less, as much and more
		{"\n\n    a", "D(C{a|})"},
		{"    \n    a", "D(C{a|})"},
		{"      \n\n    a", "D(C{a|})"},
		{"    a\n\n    b", "D(C{a||b|})"},
		{"    a\n\n \n\n    b", "D(C{a||||b|})"},
		{"    a\n   \n    b", "D(C{a||b|})"},
		{"    a\n    \n    b", "D(C{a||b|})"},
		{"    a\n      \n    b", "D(C{a|  |b|})"},
		{"    a\n\t \t\n    b", "D(C{a| \t|b|})"},
		{"    a\n\n", "D(C{a|})"},
		{"    a\n  \n      \n\t\t\n", "D(C{a|})"},
		{"    a\n      \n\nb", "D(C{a|}P<b>)"},
		{"    a\n\n\n    b\n\n\nc\n\n    d", "D(C{a|||b|}P<c>C{d|})"},
		{"    a\n\f\n    b", "D(C{a|}P<\f><b>)"},
		{"    a\n    \f\n", "D(C{a|\f|})"},
		{"    \x00\xff", "D(C{\x00\xff|})"},
		// in others
		{">     a\n>\n>     b", "D(Q(C{a||b|}))"},
		{">     a\n\n>     b", "D(Q(C{a|})Q(C{b|}))"},
		{">     a\n>       \n> b", "D(Q(C{a|}P<b>))"},
		{">    a", "D(Q(P<a>))"},
		{"> \n>      a", "D(Q(C{ a|}))"},
		{"-     a\n\n      b", "D(L-t(I(C{a||b|})))"},
		{"-     a\n\n        \n      b", "D(L-t(I(C{a|||b|})))"},
		{"-     a\n     b", "D(L-t(I(C{a|}P<b>)))"},
		{"- a\n\n      b", "D(L-(I(P<a>C{b|})))"},
		{"-\n      a", "D(L-t(I(C{a|})))"},
		{"1.      a", "D(L1.t(I(C{ a|})))"},
		{"- # a\n      b", "D(L-t(I(H1<a>C{b|})))"},
		{"# a\n    b\n\n    c\n# d", "D(H1<a>C{b||c|}H1<d>)"},
	})
}

// P10.1: each kind of HTML block: where it ends, and that it never does.
func TestHtml(t *testing.T) {
	for _, h := range []struct{ begin, end string }{
		{"<pre>", "</pre>"}, {"<script", "a</SCRIPT>b"}, {"<STYLE x", "</style>"}, {"<textarea >", "</pre>"},
		{"<!--", "-->"}, {"<!--a", "b-->c"}, {"<?", "?>"}, {"<?php a", "b ?> c"}, {"<!a", ">"}, {"<!DOCTYPE a", "b>"}, {"<![CDATA[", "]]>"}, {"<![CDATA[a", "b]]>c"},
	} {
		holdTold(t, []c{
			{h.begin + "\na\n\n\tb\n" + h.end + "\nc", "D(M{" + h.begin + "|a||\tb|" + h.end + "|}P<c>)"},
			{h.begin + "\n" + h.end + "\n\nc", "D(M{" + h.begin + "|" + h.end + "|}P<c>)"},
			{h.begin + " " + h.end + "\nc", "D(M{" + h.begin + " " + h.end + "|}P<c>)"},
			{"  " + h.begin + "\n     " + h.end + "\nc", "D(M{  " + h.begin + "|     " + h.end + "|}P<c>)"},
			{h.begin + "\n# a\n\n- b", "D(M{" + h.begin + "|# a||- b|})"},
			{h.begin, "D(M{" + h.begin + "|})"},
			{"a\n" + h.begin + "\nb", "D(P<a>M{" + h.begin + "|b|})"},
			{"> " + h.begin + "\n>\n> " + h.end + "\n> a", "D(Q(M{" + h.begin + "||" + h.end + "|}P<a>))"},
			{"> " + h.begin + "\n\n" + "a", "D(Q(M{" + h.begin + "|})P<a>)"},
			{"- " + h.begin + "\n\n   \n  " + h.end + "\n  a", "D(L-t(I(M{" + h.begin + "|||" + h.end + "|}P<a>)))"},
			{"- " + h.begin + "\n  b\nc", "D(L-t(I(M{" + h.begin + "|b|}))P<c>)"},
		})
	}
	for _, begin := range []string{"<div>", "<DIV", "</p", "<h1/>", "<table a", "<b>", "</b >", "<a b='c' d>", "<x/>"} {
		code := c{begin + "\na\n  - b\n    c\n\n    d", "D(M{" + begin + "|a|  - b|    c|}C{d|})"}
		holdTold(t, []c{
			code,
			{begin, "D(M{" + begin + "|})"},
			{begin + "\n \t\na", "D(M{" + begin + "|}P<a>)"},
			{begin + "\n-->\n</pre>\n" + begin + "\nb", "D(M{" + begin + "|-->|</pre>|" + begin + "|b|})"},
			{"   " + begin + " \t\n a ", "D(M{   " + begin + " \t| a |})"},
			{"> " + begin + "\n>  a\n>\n> b", "D(Q(M{" + begin + "| a|}P<b>))"},
			{"> " + begin + "\na", "D(Q(M{" + begin + "|})P<a>)"},
			{"- " + begin + "\n   a\n\n  b", "D(L-(I(M{" + begin + "| a|}P<b>)))"},
			{"# a\n" + begin + "\n# b", "D(H1<a>M{" + begin + "|# b|})"},
		})
	}
}

// P10.1: blank lines at the text's end, which some blocks hold.
func TestLastBlankLines(t *testing.T) {
	for _, c := range []c{
		{fence + "\n\na\n\n\n", "D(C3[]{|a|||})"},
		{fence + "\n", "D(C3[]{})"},
		{fence + "\n\n", "D(C3[]{|})"},
		{fence + "\n ", "D(C3[]{ |})"},
		{"    a\n\n", "D(C{a|})"},
		{"    a\n      ", "D(C{a|})"},
		{"<pre>\n\n", "D(M{<pre>||})"},
		{"<!--\na\n \n\t", "D(M{<!--|a| |\t|})"},
		{"<div>\n\n", "D(M{<div>|})"},
		{"<b>\n \n\n", "D(M{<b>|})"},
	} {
		tr, _ := parse(t, c.s)
		if got := told(c.s, tr); got != c.want {
			t.Errorf("%q: %s, not %s", c.s, got, c.want)
		}
	}
}

// P10.1: an HTML block of kind 7 begins nowhere where a paragraph is there; one of kind 6 does.
func TestHtmlBehindParagraph(t *testing.T) {
	for _, begin := range []string{"<b>", "</b>", "<a b='c'>", "<x/> \t"} {
		holdTold(t, []c{
			{"a\n" + begin + "\nb", "D(P<a><" + begin + "><b>)"},
			{"a\n\n" + begin + "\nb", "D(P<a>M{" + begin + "|b|})"},
			{"> a\n" + begin, "D(Q(P<a><" + begin + ">))"},
			{"> a\n> " + begin, "D(Q(P<a><" + begin + ">))"},
			{"- a\n" + begin, "D(L-t(I(P<a><" + begin + ">)))"},
			{"a\n> " + begin, "D(P<a>Q(M{" + begin + "|}))"},
			{"[x]: y\n" + begin, "D(P<" + begin + ">)"},
		})
	}
	for _, begin := range []string{"<div>", "</div", "<hr/>"} {
		holdTold(t, []c{
			{"a\n" + begin + "\nb", "D(P<a>M{" + begin + "|b|})"},
			{"> a\n" + begin, "D(Q(P<a>)M{" + begin + "|})"},
			{"- a\n  " + begin, "D(L-t(I(P<a>M{" + begin + "|})))"},
		})
	}
	holdTold(t, []c{
		{"<b>a", "D(P<<b>a>)"},
		{"<b> a\n", "D(P<<b> a>)"},
		{"<b", "D(P<<b>)"},
		{"<>", "D(P<<>>)"},
		{"< div>", "D(P<< div>>)"},
		{"<http://x>", "D(P<<http://x>>)"},
		{"a <div>", "D(P<a <div>>)"},
		{"    <div>", "D(C{<div>|})"},
	})
}

// P10.1: each kind of HTML block ends with its own end, and with no other kind's.
func TestHtmlEnds(t *testing.T) {
	kinds := []struct{ begin, end string }{{"<pre", "</pre>"}, {"<!--", "-->"}, {"<?", "?>"}, {"<!a", ">"}, {"<![CDATA[", "]]>"}}
	for _, kind := range kinds {
		for _, other := range kinds {
			if strings.Contains(other.end, kind.end) {
				continue
			}
			holdTold(t, []c{{kind.begin + "\n" + other.end + "\n" + kind.end + "\nz", "D(M{" + kind.begin + "|" + other.end + "|" + kind.end + "|}P<z>)"}})
		}
	}
}

// P10.1: a paragraph's and a heading's pieces.
func TestPieces(t *testing.T) {
	for _, c := range []struct {
		s    string
		want []api.Piece
	}{
		{"a", []api.Piece{{From: 0, To: 1}}},
		{"a\r\n  b \n\tc", []api.Piece{{From: 0, To: 1}, {From: 5, To: 7}, {From: 9, To: 10}}},
		{"\n  a", []api.Piece{{From: 3, To: 4}}},
		{"#", []api.Piece{{From: 1, To: 1}}},
		{"#  \t", []api.Piece{{From: 4, To: 4}}},
		{"##  ##  ", []api.Piece{{From: 4, To: 4}}},
		{"  # a b # ", []api.Piece{{From: 4, To: 7}}},
		{"a\n b\n==", []api.Piece{{From: 0, To: 1}, {From: 3, To: 4}}},
		{"[x]:\ny\na", []api.Piece{{From: 7, To: 8}}},
		{"[x]: y\n[z]: w\n a \nb\n---", []api.Piece{{From: 15, To: 17}, {From: 18, To: 19}}},
		{"[x]: y\n  ===\na", []api.Piece{{From: 9, To: 12}, {From: 13, To: 14}}},
	} {
		tr, _ := parse(t, c.s)
		if len(tr.Nodes) != 2 || !sameNode(api.Node{Pieces: tr.Nodes[1].Pieces}, api.Node{Pieces: c.want}) {
			t.Errorf("%q: %+v, not %v", c.s, tr.Nodes, c.want)
		}
	}
	s := "> a\nb\n>  c\n> > d\ne"
	tr, _ := parse(t, s)
	first, second := tr.Nodes[2].Pieces, tr.Nodes[4].Pieces
	if fmt.Sprint(first) != "[{2 3} {4 5} {9 10}]" || fmt.Sprint(second) != "[{15 16} {17 18}]" {
		t.Errorf("%q: %v %v", s, first, second)
	}
}
