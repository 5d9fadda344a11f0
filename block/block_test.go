package block

import (
	"slices"
	"strings"
	"testing"

	"stet/api"
)

// P10.1: texts without a block.
func TestNoBlocks(t *testing.T) {
	for _, s := range []string{"", "\n", "\r", "\r\n", " ", "\t", "   \n", "    ", "    \n\t\n", "\n\n\n", "\r\r\n\n", " \t \n      \n"} {
		tr, defs := parse(t, s)
		if len(tr.Nodes) != 1 || len(defs) != 0 {
			t.Errorf("%q: %s, %v", s, told(s, tr), defs)
		}
		if n := tr.Nodes[0]; n.Kind != api.KDoc || n.From != 0 || n.To != len(s) || len(n.Kids) != 0 || n.Level != 0 || n.Text != "" || n.Tight {
			t.Errorf("%q: %+v", s, n)
		}
	}
}

// P10.1: the chapter's examples.
func TestExamples(t *testing.T) {
	holdTold(t, []c{
		{"- a\n\n- b", "D(L-(I(P<a>)I(P<b>)))"},
		{"a\n===", "D(H1_<a>)"},
	})
}

// P10.1: what is blank, and what only seems to be: a paragraph's line begins with its first byte that is neither 32 nor 9, and ends with its line.
func TestBlankLines(t *testing.T) {
	holdTold(t, []c{
		{"a", "D(P<a>)"},
		{"\na", "D(P<a>)"},
		{" \n\t\n   a", "D(P<a>)"},
		{"a\n\nb", "D(P<a>P<b>)"},
		{"a\n \t\nb", "D(P<a>P<b>)"},
		{"a\n\n\n\nb\n\n", "D(P<a>P<b>)"},
		{"a \t\n \tb\t ", "D(P<a \t><b\t >)"},
		{"a\n\fb", "D(P<a><\fb>)"},
		{"\f\n\v", "D(P<\f><\v>)"},
		{"a\n\u00a0\nb", "D(P<a><\u00a0><b>)"},
		{"a\n\x00\nb", "D(P<a><\x00><b>)"},
		{"\xff\n\xc3\n\n\xed\xa0\x80", "D(P<\xff><\xc3>P<\xed\xa0\x80>)"},
		{"\ufeff# a", "D(P<\ufeff# a>)"},
	})
}

// P10.1: each kind of a line's end ends a line, and is no part of it.
func TestLineEnds(t *testing.T) {
	for _, c := range []c{
		{"a\nb\n\nc\n", "D(P<a><b>P<c>)"},
		{"# a #\nb\n===\n---\n", "D(H1<a>H1_<b>R)"},
		{"- a\n\n  b\n- c\n", "D(L-(I(P<a>P<b>)I(P<c>)))"},
		{"> a\nb\n>\n> c\n", "D(Q(P<a><b>P<c>))"},
		{"~~~\na\n\nb\n~~~\n", "D(C3[]{a||b|})"},
		{"    a\n\n    b\n", "D(C{a||b|})"},
		{"<!--\n\n-->\na\n", "D(M{<!--||-->|}P<a>)"},
		{"[a]:\nb\n'c\nd'\ne\n", "D(P<e>)"},
	} {
		for _, end := range []string{"\n", "\r\n", "\r"} {
			s := strings.ReplaceAll(c.s, "\n", end)
			tr, defs := parse(t, s)
			if got := told(s, tr); got != c.want {
				t.Errorf("%q\n%s, not\n%s", s, got, c.want)
			}
			if strings.HasPrefix(s, "[") && toldDefs(defs) != "[a]: b 'c\nd'\n" {
				t.Errorf("%q: %v", s, defs)
			}
			holdQuoted(t, s)
		}
	}
	holdTold(t, []c{
		{"a\n\rb", "D(P<a>P<b>)"},
		{"a\r\r\nb", "D(P<a>P<b>)"},
		{"a\r\nb\rc\nd", "D(P<a><b><c><d>)"},
	})
}

// P10.1: every kind of block alone, in a quotation, in an item, and in both.
func TestEachBlock(t *testing.T) {
	for _, b := range samples() {
		inItem := "- " + strings.ReplaceAll(b.s, "\n", "\n  ")
		inQuote := "> " + strings.ReplaceAll(b.s, "\n", "\n> ")
		holdTold(t, []c{
			{b.s, "D(" + b.want + ")"},
			{"\n \n" + b.s + "\n\n \t\n", "D(" + b.want + ")"},
			{inQuote, "D(Q(" + b.want + "))"},
			{strings.ReplaceAll(inQuote, "> ", ">"), "D(Q(" + b.want + "))"},
			{strings.ReplaceAll(inQuote, "> ", "   > "), "D(Q(" + b.want + "))"},
			{inItem, "D(L-t(I(" + b.want + ")))"},
			{"13) " + strings.ReplaceAll(b.s, "\n", "\n    "), "D(L13)t(I(" + b.want + ")))"},
			{"> " + strings.ReplaceAll(inItem, "\n", "\n> "), "D(Q(L-t(I(" + b.want + "))))"},
			{"- " + strings.ReplaceAll(inQuote, "\n", "\n  "), "D(L-t(I(Q(" + b.want + "))))"},
			{"- " + strings.ReplaceAll(inItem, "\n", "\n  "), "D(L-t(I(L-t(I(" + b.want + ")))))"},
			{"> " + strings.ReplaceAll(inQuote, "\n", "\n> "), "D(Q(Q(" + b.want + ")))"},
		})
	}
}

// P10.1: every kind of block ahead of each other one, a blank line between them.
func TestTwoBlocks(t *testing.T) {
	for _, first := range samples() {
		for _, second := range samples() {
			s := first.s + "\n\n" + second.s
			want := first.want + second.want
			switch {
			case first.want[0] == 'L' && first.want[:strings.IndexByte(first.want, 't')] == second.want[:max(0, strings.IndexByte(second.want, 't'))]: // one list
				mark := first.want[:strings.IndexByte(first.want, 't')]
				items := func(s string) string {
					return strings.TrimSuffix(strings.TrimPrefix(s, mark+"t("), ")")
				}
				want = mark + "(" + items(first.want) + items(second.want) + ")"
			}
			tr, _ := parse(t, s)
			if got := told(s, tr); got != "D("+want+")" {
				t.Errorf("%q\n%s, not\n%s", s, got, "D("+want+")")
			}
			holdQuoted(t, s)
		}
	}
}

// P10.1: every kind of block directly behind a paragraph, and what of them goes on with it.
func TestBehindParagraph(t *testing.T) {
	for _, b := range samples() {
		s, want := "a\n"+b.s, "P<a>"+b.want
		switch b.name {
		case "an empty item", "a list from 2 on", "a paragraph", "HTML of kind 7":
			want = "P<a><" + b.s + ">"
		case "an underlined heading":
			want = "H1_<a><u>"
		case "a paragraph behind a definition":
			want = "P<a><[d]: u><p>"
		}
		holdTold(t, []c{{s, "D(" + want + ")"}, {"> " + strings.ReplaceAll(s, "\n", "\n> "), "D(Q(" + want + "))"}, {"- " + strings.ReplaceAll(s, "\n", "\n  "), "D(L-t(I(" + want + ")))"}})
	}
}

// P10.1: 0 to 5 columns ahead of every kind of block, of blanks, of tabs and of both.
func TestIndents(t *testing.T) {
	for _, b := range samples() {
		line, _, more := strings.Cut(b.s, "\n")
		if more && !strings.HasPrefix(b.s, "~~~") {
			continue
		}
		code := func(ahead string) string { return "C{" + ahead + line + "|}" }
		rest := strings.TrimPrefix(b.s, line)
		for _, ahead := range []string{"", " ", "  ", "   "} {
			// An HTML block's lines are not skipped.
			want := strings.Replace(b.want, "M{", "M{"+ahead, 1)
			holdTold(t, []c{{ahead + line + rest, "D(" + want + ")"}, {"> " + ahead + line + strings.ReplaceAll(rest, "\n", "\n> "), "D(Q(" + want + "))"}})
		}
		for _, i := range []struct{ ahead, left string }{
			{"    ", ""}, {"     ", " "}, {"\t", ""}, {" \t", ""}, {"  \t", ""}, {"   \t", ""}, {"    \t", "\t"}, {"\t ", " "}, {"\t\t", "\t"}, {"  \t  ", "  "}, {"     \t", " \t"}, {"         ", "     "},
		} {
			holdTold(t, []c{
				{i.ahead + line, "D(" + code(i.left) + ")"},
				{"# a\n" + i.ahead + line, "D(H1<a>" + code(i.left) + ")"},
				{"a\n" + i.ahead + line, "D(P<a><" + line + ">)"},
				{"> a\n" + i.ahead + line, "D(Q(P<a><" + line + ">))"},
				{"> # a\n" + i.ahead + line, "D(Q(H1<a>)" + code(i.left) + ")"},
			})
		}
	}
}

// P10.1: tabs of which only some columns are dropped: those that are left are bytes 32.
func TestTabs(t *testing.T) {
	holdTold(t, []c{
		// at a quotation's mark
		{">\ta", "D(Q(P<a>))"},
		{">\t\ta", "D(Q(C{  a|}))"},
		{"> \ta", "D(Q(P<a>))"},
		{"> \t\ta", "D(Q(C{  a|}))"},
		{">   \ta", "D(Q(C{  a|}))"},
		{">  \t\ta", "D(Q(C{  a|}))"},
		{">     \ta", "D(Q(C{\ta|}))"},
		{" >\ta", "D(Q(P<a>))"},
		{" >\t  a", "D(Q(P<a>))"},
		{" >\t   a", "D(Q(C{a|}))"},
		{"  >\t   a", "D(Q(P<a>))"},
		{"  >\t    a", "D(Q(C{a|}))"},
		{"   >\t   a", "D(Q(C{  a|}))"},
		{"   >\t\ta", "D(Q(C{   a|}))"},
		{">\t- a\n>\t  b", "D(Q(L-t(I(P<a><b>))))"},
		{">\tFFF\n>\ta\n>\t\tb\n> c\n>\tFFF", "D(Q(C3[]{a|\tb|c|}))"},
		{">\t<!--\n>\t a\n>\t\t-->", "D(Q(M{  <!--|   a|  \t-->|}))"},
		{">\t>\ta", "D(Q(Q(P<a>)))"},
		{">\t>\t\ta", "D(Q(Q(C{  a|})))"},
		// with nothing behind
		{">\t", "D(Q)"},
		{">\t\n>\t\ta", "D(Q(C{  a|}))"},
		{">\tFFF\n>\t\n>\t\t\n>\tFFF", "D(Q(C3[]{|\t|}))"},
		{"> FFF\n>\t\n> FFF", "D(Q(C3[]{  |}))"},
		{"> - FFF\n>\t\n>   FFF", "D(Q(L-t(I(C3[]{|}))))"},
		{"> - <!--\n>\t\n>   a", "D(Q(L-t(I(M{<!--||a|}))))"},
		{">     a\n>\t\n>     b", "D(Q(C{a||b|}))"},
		{">     a\n>\t\nb", "D(Q(C{a|})P<b>)"},
		{">\t\nb", "D(QP<b>)"},
		{">\t\nFFF\nb", "D(QC3[]{b|})"},
		{">\t\n<b>", "D(QM{<b>|})"},
		{">\t\n    b", "D(QC{b|})"},
		{"-\t", "D(L-t(I))"},
		{"- FFF\n\t\n  FFF", "D(L-t(I(C3[]{|})))"},
		// at an item's mark
		{"-\ta", "D(L-t(I(P<a>)))"},
		{"-\ta\n\tb", "D(L-t(I(P<a><b>)))"},
		{"-\ta\n\n\tb", "D(L-(I(P<a>P<b>)))"},
		{"-\ta\n\n   b", "D(L-t(I(P<a>))P<b>)"},
		{"-\t\ta", "D(L-t(I(C{  a|})))"},
		{"-\t a", "D(L-t(I(P<a>)))"},
		{"-\t  a", "D(L-t(I(C{a|})))"},
		{"- \ta", "D(L-t(I(P<a>)))"},
		{"- \t a", "D(L-t(I(P<a>)))"},
		{"-  \t  a", "D(L-t(I(C{a|})))"},
		{"-   \t a", "D(L-t(I(C{   a|})))"},
		{"12)\ta\n\n\tb", "D(L12)(I(P<a>P<b>)))"},
		{"123)\ta\n\n\tb", "D(L123)t(I(P<a>))C{b|})"},
		{"123)\ta\n\n\t    b", "D(L123)(I(P<a>P<b>)))"},
		{"-\n\ta", "D(L-t(I(P<a>)))"},
		{"-\n\t  a", "D(L-t(I(C{a|})))"},
		{"-\n\t\ta", "D(L-t(I(C{  a|})))"},
		{"- a\n\n\tb", "D(L-(I(P<a>P<b>)))"},
		{"- a\n\n\t\tb", "D(L-(I(P<a>C{  b|})))"},
		{"- a\n\t- b", "D(L-t(I(P<a>L-t(I(P<b>)))))"},
		{"- a\n\t- b\n\t\t- c", "D(L-t(I(P<a>L-t(I(P<b>L-t(I(P<c>)))))))"},
		{"- FFF\n\ta\n \tb\n  FFF", "D(L-t(I(C3[]{  a|  b|})))"},
		{"- <!--\n\ta\n  \t-->", "D(L-t(I(M{<!--|  a|\t-->|})))"},
		{"-\t-\ta", "D(L-t(I(L-t(I(P<a>)))))"},
		// at code without a fence
		{"\ta", "D(C{a|})"},
		{"  \ta", "D(C{a|})"},
		{"\t\ta", "D(C{\ta|})"},
		{"    \ta", "D(C{\ta|})"},
		{"   \t \ta", "D(C{ \ta|})"},
		{"\ta\n  \tb\n     c\n\t \td", "D(C{a|b| c| \td|})"},
		{"\ta\tb\t", "D(C{a\tb\t|})"},
		{"> \ta\n> \n>\t\tb", "D(Q(P<a>C{  b|}))"},
		// at a fence's columns
		{"  FFF\n\ta\n \tb\n   \tc\n\t\td\n  FFF", "D(C3[]{  a|  b| \tc|  \td|})"},
		{" FFF\n\ta\n FFF", "D(C3[]{   a|})"},
		{"FFF\n\ta\n  \tb\nFFF", "D(C3[]{\ta|  \tb|})"},
		// behind other marks
		{"#\ta\t#\t", "D(H1<a>)"},
		{"*\t*\t*\t", "D(R)"},
		{"a\n==\t", "D(H1_<a>)"},
		{"~~~\tx\ty\t\na\n~~~\t", "D(C3[x\ty]{a|})"},
	})
}

// P10.1: lines that go on a paragraph although not all open ones match, and what begins there all the same.
func TestLazyLines(t *testing.T) {
	holdTold(t, []c{
		{"> a\nb", "D(Q(P<a><b>))"},
		{"> a\nb\n> c\nd", "D(Q(P<a><b><c><d>))"},
		{"> a\n   b", "D(Q(P<a><b>))"},
		{"> a\n    b", "D(Q(P<a><b>))"},
		{"> a\n\tb", "D(Q(P<a><b>))"},
		{"> a\n    > b", "D(Q(P<a><> b>))"},
		{"> a\n    # b", "D(Q(P<a><# b>))"},
		{"> > a\nb", "D(Q(Q(P<a><b>)))"},
		{"> > a\n> b", "D(Q(Q(P<a><b>)))"},
		{"> > a\nb\n> c\n> > d", "D(Q(Q(P<a><b><c><d>)))"},
		{"- a\nb", "D(L-t(I(P<a><b>)))"},
		{"- a\n b\n  c", "D(L-t(I(P<a><b><c>)))"},
		{"1. > a\nb", "D(L1.t(I(Q(P<a><b>))))"},
		{"1. > a\n   b", "D(L1.t(I(Q(P<a><b>))))"},
		{"1. > a\n> b", "D(L1.t(I(Q(P<a>)))Q(P<b>))"},
		{"> - a\nb", "D(Q(L-t(I(P<a><b>))))"},
		{"> - a\n> b", "D(Q(L-t(I(P<a><b>))))"},
		{"- - a\nb", "D(L-t(I(L-t(I(P<a><b>)))))"},
		{"- - a\n  b", "D(L-t(I(L-t(I(P<a><b>)))))"},
		{"> [x]: y\nz", "D(Q(P<z>))"},
		{"> [x]:\ny\nz", "D(Q(P<z>))"},
		// what isn't a paragraph doesn't go on
		{"> # a\nb", "D(Q(H1<a>)P<b>)"},
		{"> ***\nb", "D(Q(R)P<b>)"},
		{">     a\nb", "D(Q(C{a|})P<b>)"},
		{">     a\n    b", "D(Q(C{a|})C{b|})"},
		{"> FFF\na", "D(Q(C3[]{})P<a>)"},
		{"> FFF\nFFF\na", "D(Q(C3[]{})C3[]{a|})"},
		{"> <div>\na", "D(Q(M{<div>|})P<a>)"},
		{"> <!--\na\n-->", "D(Q(M{<!--|})P<a><-->>)"},
		{"- <!--\na", "D(L-t(I(M{<!--|}))P<a>)"},
		{">\na", "D(QP<a>)"},
		{"-\na", "D(L-t(I)P<a>)"},
		{"> a\n\nb", "D(Q(P<a>)P<b>)"},
		{"> a\n>\nb", "D(Q(P<a>)P<b>)"},
		{"- a\n\nb", "D(L-t(I(P<a>))P<b>)"},
		{"- a\n\n b", "D(L-t(I(P<a>))P<b>)"},
		// what begins
		{"> a\n# b", "D(Q(P<a>)H1<b>)"},
		{"> a\n***", "D(Q(P<a>)R)"},
		{"> a\n---", "D(Q(P<a>)R)"},
		{"> a\n===", "D(Q(P<a><===>))"},
		{"> a\n--", "D(Q(P<a><-->))"},
		{"> a\n=\n> =", "D(Q(H1_<a><=>))"},
		{"> a\n- b", "D(Q(P<a>)L-t(I(P<b>)))"},
		{"> a\n-", "D(Q(P<a>)L-t(I))"},
		{"> a\n2. b", "D(Q(P<a>)L2.t(I(P<b>)))"},
		{"> a\n2.", "D(Q(P<a>)L2.t(I))"},
		{"> a\nFFF\nb", "D(Q(P<a>)C3[]{b|})"},
		{"> a\n<div>", "D(Q(P<a>)M{<div>|})"},
		{"> a\n<!-- b", "D(Q(P<a>)M{<!-- b|})"},
		{"> a\n<b>", "D(Q(P<a><<b>>))"},
		{"> a\n</b>\nc", "D(Q(P<a><</b>><c>))"},
		{"> > a\n> # b", "D(Q(Q(P<a>)H1<b>))"},
		{"> > a\n> - b\nc", "D(Q(Q(P<a>)L-t(I(P<b><c>))))"},
		{"> - a\n- b", "D(Q(L-t(I(P<a>)))L-t(I(P<b>)))"},
		{"- a\n> b", "D(L-t(I(P<a>))Q(P<b>))"},
		{"- a\n # b", "D(L-t(I(P<a>))H1<b>)"},
		{"- a\n---", "D(L-t(I(P<a>))R)"},
		{"- a\n  ---", "D(L-t(I(H2_<a>)))"},
		{"- a\n===", "D(L-t(I(P<a><===>)))"},
		{"- a\n  ===", "D(L-t(I(H1_<a>)))"},
		// behind what has begun on a line no paragraph is there any more
		{"a\n> <b>", "D(P<a>Q(M{<b>|}))"},
		{"a\n>     b", "D(P<a>Q(C{b|}))"},
		{"a\n> ---", "D(P<a>Q(R))"},
		{"a\n> ===", "D(P<a>Q(P<===>))"},
		{"a\n> 2. b", "D(P<a>Q(L2.t(I(P<b>))))"},
		{"a\n- -", "D(P<a>L-t(I(L-t(I))))"},
		{"a\n- 2.", "D(P<a>L-t(I(L2.t(I))))"},
		{"a\n- <b>", "D(P<a>L-t(I(M{<b>|})))"},
		{"a\n-     b", "D(P<a>L-t(I(C{b|})))"},
	})
}

// P10.1: headings with marks of their own.
func TestHeadings(t *testing.T) {
	holdTold(t, []c{
		{"# a", "D(H1<a>)"},
		{"###### a", "D(H6<a>)"},
		{"####### a", "D(P<####### a>)"},
		{"#a", "D(P<#a>)"},
		{"\\# a", "D(P<\\# a>)"},
		{"#", "D(H1<>)"},
		{"# ", "D(H1<>)"},
		{"## \t ##", "D(H2<>)"},
		{"#  a  #  ", "D(H1<a>)"},
		{"# a#", "D(H1<a#>)"},
		{"# a\n# b\nc\n## d", "D(H1<a>H1<b>P<c>H2<d>)"},
		{"   # a", "D(H1<a>)"},
		{"# > a", "D(H1<> a>)"},
		{"# - a", "D(H1<- a>)"},
		{"# a\n===", "D(H1<a>P<===>)"},
		{"# a\n---", "D(H1<a>R)"},
		{"# a\n    b", "D(H1<a>C{b|})"},
	})
}

// P10.1: underlined headings, and lines that underline nothing.
func TestUnderlinings(t *testing.T) {
	holdTold(t, []c{
		{"a\n=", "D(H1_<a>)"},
		{"a\n-", "D(H2_<a>)"},
		{"a\n=====", "D(H1_<a>)"},
		{"a\n--- \t", "D(H2_<a>)"},
		{"a\n   ===", "D(H1_<a>)"},
		{"a\n    ===", "D(P<a><===>)"},
		{"a\n\t---", "D(P<a><--->)"},
		{"a\nb\n  c\n===", "D(H1_<a><b><c>)"},
		{"a\n\n===", "D(P<a>P<===>)"},
		{"a\n\n---", "D(P<a>R)"},
		{"a\n\n-", "D(P<a>L-t(I))"},
		{"===", "D(P<===>)"},
		{"===\n===", "D(H1_<===>)"},
		{"=\n-", "D(H2_<=>)"},
		{"---\n===", "D(RP<===>)"},
		{"a\n===\n===", "D(H1_<a>P<===>)"},
		{"a\n---\n---", "D(H2_<a>R)"},
		{"a\n===\nb\n---", "D(H1_<a>H2_<b>)"},
		{"a\n= =", "D(P<a><= =>)"},
		{"a\n- -", "D(P<a>L-t(I(L-t(I))))"},
		{"a\n- - -", "D(P<a>R)"},
		{"a\n==-", "D(P<a><==->)"},
		{"a\n=== b", "D(P<a><=== b>)"},
		{"a\\\n===", "D(H1_<a\\>)"},
		{"a \t\n===", "D(H1_<a \t>)"},
		{"> a\n> ---", "D(Q(H2_<a>))"},
		{"> a\n> b\nc\n> ===", "D(Q(H1_<a><b><c>))"},
		{"> a\n>\n> ---", "D(Q(P<a>R))"},
		{"- a\n  b\n  ---\n  c", "D(L-t(I(H2_<a><b>P<c>)))"},
		{"- a\n  - b\n    ---\n  c", "D(L-t(I(P<a>L-t(I(H2_<b>))P<c>)))"},
		// not all have matched
		{"- a\n ---", "D(L-t(I(P<a>))R)"},
		{"- a\n --", "D(L-t(I(P<a><-->)))"},
		{"- a\n -", "D(L-t(I(P<a>)I))"},
		{"* a\n -", "D(L*t(I(P<a>))L-t(I))"},
		// no paragraph is there
		{"# a\n-", "D(H1<a>L-t(I))"},
		{"    a\n---", "D(C{a|}R)"},
		{"    a\n===", "D(C{a|}P<===>)"},
		{"<div>\n===", "D(M{<div>|===|})"},
		{"FFF\n===\nFFF", "D(C3[]{===|})"},
		{"> a\n> * ---", "D(Q(P<a>L*t(I(R))))"},
		// lines that are definitions alone
		{"[x]: y\n===", "D(P<===>)"},
		{"[x]: y\n---", "D(R)"},
		{"[x]: y\n-", "D(P<->)"},
		{"[x]: y\n--", "D(P<-->)"},
		{"[x]: y\n===\n===", "D(H1_<===>)"},
		{"[x]: y\n===\na\n---", "D(H2_<===><a>)"},
		{"[x]: y\n===\n[z]: w", "D(P<===><[z]: w>)"},
		{"[x]: y\n[z]: w\n===\nb", "D(P<===><b>)"},
		{"[x]: y\na\n===", "D(H1_<a>)"},
		{"[x]: y\n[z]\n===\nb", "D(H1_<[z]>P<b>)"},
		{"> [x]: y\n> ===", "D(Q(P<===>))"},
		{"> [x]: y\n===", "D(Q(P<===>))"},
		{"> [x]: y\n---", "D(QR)"},
		{"- [x]: y\n  ---", "D(L-t(I(R)))"},
		{"- [x]: y\n  -", "D(L-t(I(P<->)))"},
	})
}

// P10.1: lines across, and lines that an underlining and an item could be, too.
func TestRules(t *testing.T) {
	holdTold(t, []c{
		{"***\n---\n___", "D(RRR)"},
		{"* * *", "D(R)"},
		{" - - -", "D(R)"},
		{"   _ _ _ _  ", "D(R)"},
		{"**", "D(P<**>)"},
		{"+++", "D(P<+++>)"},
		{"a\n***\nb", "D(P<a>RP<b>)"},
		{"a\n* * *", "D(P<a>R)"},
		{"- a\n***\n- b", "D(L-t(I(P<a>))RL-t(I(P<b>)))"},
		{"* a\n* * *\n* b", "D(L*t(I(P<a>))RL*t(I(P<b>)))"},
		{"- a\n- * * *\n- b", "D(L-t(I(P<a>)I(R)I(P<b>)))"},
		{"- - -\n- -", "D(RL-t(I(L-t(I))))"},
		{"- * * *", "D(L-t(I(R)))"},
		{"* - - -", "D(L*t(I(R)))"},
		{"- - * * *", "D(L-t(I(L-t(I(R)))))"},
		{"- > - - -", "D(L-t(I(Q(R))))"},
		{"* * > * * *", "D(L*t(I(L*t(I(Q(R))))))"},
		{"- - > - > - - -", "D(L-t(I(L-t(I(Q(L-t(I(Q(R)))))))))"},
		{"* - * - - -", "D(L*t(I(L-t(I(L*t(I(R)))))))"},
		{"- - - a", "D(L-t(I(L-t(I(L-t(I(P<a>)))))))"},
		{"- - - -a", "D(L-t(I(L-t(I(L-t(I(P<-a>)))))))"},
		{"- - -\ta\n***", "D(L-t(I(L-t(I(L-t(I(P<a>))))))R)"},
		{"- +\n***\n- - 1. ***\n- -", "D(L-t(I(L+t(I)))RL-t(I(L-t(I(L1.t(I(R)))))I(L-t(I))))"},
		{"1. 1. ---", "D(L1.t(I(L1.t(I(R)))))"},
		{"***\n    a", "D(RC{a|})"},
	})
}

// P10.1: what Parse answers of each kind of block, field by field.
func TestFields(t *testing.T) {
	for _, c := range []struct {
		s    string
		at   int
		want api.Node
	}{
		{" > a", 1, api.Node{Kind: api.KQuote, From: 1, To: 4, Kids: []int{2}}},
		{"+ a", 1, api.Node{Kind: api.KList, To: 3, Level: -1, Text: "+", Tight: true, Kids: []int{2}}},
		{"+ a", 2, api.Node{Kind: api.KItem, To: 3, Kids: []int{3}}},
		{"007) a", 1, api.Node{Kind: api.KList, To: 6, Level: 7, Text: ")", Tight: true, Kids: []int{2}}},
		{"0. a\n\n\n9. b", 1, api.Node{Kind: api.KList, To: 11, Level: 0, Text: ".", Kids: []int{2, 4}}},
		{"999999999. a", 1, api.Node{Kind: api.KList, To: 12, Level: 999999999, Text: ".", Tight: true, Kids: []int{2}}},
		{"a\n b ", 1, api.Node{Kind: api.KPara, To: 5, Pieces: []api.Piece{{From: 0, To: 1}, {From: 3, To: 5}}}},
		{" ### a # ", 1, api.Node{Kind: api.KHead, From: 1, To: 9, Level: 3, Pieces: []api.Piece{{From: 5, To: 6}}}},
		{"##  ", 1, api.Node{Kind: api.KHead, To: 4, Level: 2, Pieces: []api.Piece{{From: 4, To: 4}}}},
		{"# ##", 1, api.Node{Kind: api.KHead, To: 4, Level: 1, Pieces: []api.Piece{{From: 2, To: 2}}}},
		{"a\nb\n--", 1, api.Node{Kind: api.KHead, To: 6, Level: 2, Tight: true, Pieces: []api.Piece{{From: 0, To: 1}, {From: 2, To: 3}}}},
		{" * * *", 1, api.Node{Kind: api.KRule, From: 1, To: 6}},
		{"~~~~ a&amp;b\\* c \nd\n~~~~~", 1, api.Node{Kind: api.KCode, To: 25, Level: 4, Text: "d\n", Link: "a&b* c"}},
		{fence + "\n", 1, api.Node{Kind: api.KCode, To: 3, Level: 3}},
		{"    a\n\n     b\n\n", 1, api.Node{Kind: api.KCode, From: 4, To: 13, Text: "a\n\n b\n"}},
		{"  <b>\na\n\n", 1, api.Node{Kind: api.KHtml, From: 2, To: 7, Text: "  <b>\na\n"}},
	} {
		tr, _ := parse(t, c.s)
		if len(tr.Nodes) <= c.at {
			t.Errorf("%q: %v", c.s, tr.Nodes)
			continue
		}
		n := tr.Nodes[c.at]
		if !sameNode(n, c.want) {
			t.Errorf("%q: %+v, not %+v", c.s, n, c.want)
		}
	}
}

// sameNode: whether two nodes tell the same; nil lists and empty ones are the same.
func sameNode(a, b api.Node) bool {
	return a.Kind == b.Kind && a.From == b.From && a.To == b.To && a.Level == b.Level &&
		a.Text == b.Text && a.Link == b.Link && a.Title == b.Title && a.Tight == b.Tight &&
		slices.Equal(a.Kids, b.Kids) && slices.Equal(a.Pieces, b.Pieces)
}

// P10.1: the nodes' numbers.
func TestNumbers(t *testing.T) {
	s := "> - a\n>   - b\n>\n>   [x]: y\n> # c\n\n[z]: w\n\n    d\n"
	tr, _ := parse(t, s)
	kids := [][]int{{1, 9}, {2, 8}, {3}, {4, 5}, nil, {6}, {7}, nil, nil, nil}
	if len(tr.Nodes) != len(kids) {
		t.Fatal(told(s, tr))
	}
	for i, n := range tr.Nodes {
		if !slices.Equal(n.Kids, kids[i]) {
			t.Errorf("%d: %v, not %v", i, n.Kids, kids[i])
		}
	}
}
