package block

import (
	"fmt"
	"strings"
	"testing"
)

// P10.1: quotations.
func TestQuotations(t *testing.T) {
	holdTold(t, []c{
		{">", "D(Q)"},
		{"> ", "D(Q)"},
		{">\n> \n>  ", "D(Q)"},
		{">a", "D(Q(P<a>))"},
		{"   > a", "D(Q(P<a>))"},
		{"    > a", "D(C{> a|})"},
		{"> a\n   >b", "D(Q(P<a><b>))"},
		{"> a\n> # b\n> c", "D(Q(P<a>H1<b>P<c>))"},
		{">     a\n>    b", "D(Q(C{a|}P<b>))"},
		{"> a\n\n> b", "D(Q(P<a>)Q(P<b>))"},
		{"> a\n>\n> b", "D(Q(P<a>P<b>))"},
		{">\n\n>", "D(QQ)"},
		{">>> a", "D(Q(Q(Q(P<a>))))"},
		{"> > > a", "D(Q(Q(Q(P<a>))))"},
		{">   > a", "D(Q(Q(P<a>)))"},
		{">     > a", "D(Q(C{> a|}))"},
		{">> a\n>\n> b", "D(Q(Q(P<a>)P<b>))"},
		{">> a\n>>\n>> b", "D(Q(Q(P<a>P<b>)))"},
		{"> a\n>> b", "D(Q(P<a>Q(P<b>)))"},
		{">> # a\n> b", "D(Q(Q(H1<a>)P<b>))"},
		{"a\n> b\nc", "D(P<a>Q(P<b><c>))"},
		{"> - a\n>\n> - b\n> c", "D(Q(L-(I(P<a>)I(P<b><c>))))"},
	})
}

// P10.1: items: each mark, its numbers, and what is no item.
func TestItems(t *testing.T) {
	for _, mark := range []string{"-", "+", "*"} {
		holdTold(t, []c{
			{mark + " a", "D(L" + mark + "t(I(P<a>)))"},
			{mark, "D(L" + mark + "t(I))"},
			{mark + "\n" + mark + " a\n" + mark + "\tb", "D(L" + mark + "t(II(P<a>)I(P<b>)))"},
			{mark + "a", "D(P<" + mark + "a>)"},
			{"\\" + mark + " a", "D(P<\\" + mark + " a>)"},
			{mark + "1. a", "D(P<" + mark + "1. a>)"},
		})
	}
	for _, mark := range []string{".", ")"} {
		for number, level := range map[string]string{"0": "0", "1": "1", "7": "7", "007": "7", "42": "42", "000000000": "0", "123456789": "123456789", "999999999": "999999999"} {
			inset := strings.Repeat(" ", len(number)+2)
			holdTold(t, []c{
				{number + mark + " a", "D(L" + level + mark + "t(I(P<a>)))"},
				{number + mark, "D(L" + level + mark + "t(I))"},
				{number + mark + " a\n3" + mark + " b", "D(L" + level + mark + "t(I(P<a>)I(P<b>)))"},
				{number + mark + " a\n" + inset + "- b", "D(L" + level + mark + "t(I(P<a>L-t(I(P<b>)))))"},
				{number + mark + " a\n" + inset + "# b\n" + inset + "c\nd", "D(L" + level + mark + "t(I(P<a>H1<b>P<c><d>)))"},
				{number + mark + "a", "D(P<" + number + mark + "a>)"},
			})
		}
	}
	holdTold(t, []c{
		{"1234567890. a", "D(P<1234567890. a>)"},
		{"-1. a", "D(P<-1. a>)"},
		{"1 . a", "D(P<1 . a>)"},
		{"1: a", "D(P<1: a>)"},
		{". a", "D(P<. a>)"},
		{"a. b", "D(P<a. b>)"},
		{"\u0661. a", "D(P<\u0661. a>)"},
	})
}

// P10.1: an item's inset, from blanks behind its mark and ahead of it.
func TestInsets(t *testing.T) {
	for ahead := range 4 {
		for _, mark := range []string{"-", "9)", "10."} {
			for gap := 1; gap <= 6; gap++ {
				// As many columns as an item's other lines must have, and what is left of the gap if it is code's.
				inset, first := ahead+len(mark)+gap, "P<a>"
				if gap > 4 {
					inset, first = ahead+len(mark)+1, fmt.Sprintf("C{%sa|}", strings.Repeat(" ", gap-5))
				}
				begin := strings.Repeat(" ", ahead) + mark + strings.Repeat(" ", gap) + "a\n\n"
				list := map[string]string{"-": "L-", "9)": "L9)", "10.": "L10."}[mark]
				for less := range 3 {
					s := begin + strings.Repeat(" ", inset-less) + "# b"
					want := "D(" + list + "(I(" + first + "H1<b>)))"
					if less > 0 {
						behind := "H1<b>"
						if inset-less >= 4 {
							behind = "C{" + strings.Repeat(" ", inset-less-4) + "# b|}"
						}
						want = "D(" + list + "t(I(" + first + "))" + behind + ")"
					}
					holdTold(t, []c{{s, want}, {"> " + strings.ReplaceAll(s, "\n", "\n> "), "D(Q(" + want[2:] + ")"}})
				}
			}
		}
	}
}

// P10.1: items whose line is blank behind the mark.
func TestItemsWithoutText(t *testing.T) {
	holdTold(t, []c{
		{"-\n  a", "D(L-t(I(P<a>)))"},
		{"-  \n  a", "D(L-t(I(P<a>)))"},
		{"-      \n  a", "D(L-t(I(P<a>)))"},
		{"-\n   a", "D(L-t(I(P<a>)))"},
		{"-\n a", "D(L-t(I)P<a>)"},
		{"-\na", "D(L-t(I)P<a>)"},
		{"-\n\n  a", "D(L-t(I)P<a>)"},
		{"-\n  \n  a", "D(L-t(I)P<a>)"},
		{"-\n\n- a", "D(L-(II(P<a>)))"},
		{"-\n\n\n- a", "D(L-(II(P<a>)))"},
		{"-\n\n+ a", "D(L-t(I)L+t(I(P<a>)))"},
		{"-\n\n      a", "D(L-t(I)C{  a|})"},
		{"-\n  a\n\n  b", "D(L-(I(P<a>P<b>)))"},
		{"-\n  # a\n\n\n  b", "D(L-(I(H1<a>P<b>)))"},
		{"-\n  - a", "D(L-t(I(L-t(I(P<a>)))))"},
		{"- -\n    a", "D(L-t(I(L-t(I(P<a>)))))"},
		{"- -\n  a", "D(L-t(I(L-t(I)P<a>)))"},
		{"- -\n\n  a", "D(L-(I(L-t(I)P<a>)))"},
		{"- -\n\n    a", "D(L-(I(L-t(I)P<a>)))"},
		{"- -\n\n  - a", "D(L-t(I(L-(II(P<a>)))))"},
		{"-\n-\n-", "D(L-t(III))"},
		{"- a\n-\n- b", "D(L-t(I(P<a>)II(P<b>)))"},
		{"3.\n   a\n4.\n5. b", "D(L3.t(I(P<a>)II(P<b>)))"},
		{"1.\n  a", "D(L1.t(I)P<a>)"},
		{" 1.\n    a", "D(L1.t(I(P<a>)))"},
		{" 1.\n   a", "D(L1.t(I)P<a>)"},
		{"> -\n>   a", "D(Q(L-t(I(P<a>))))"},
		{"> -\n>\n>   a", "D(Q(L-t(I)P<a>))"},
		{"> -\n\n> - a", "D(Q(L-t(I))Q(L-t(I(P<a>))))"},
		// something has stood in it, though nothing is left of that
		{"- [x]: y\n\n  a", "D(L-t(I(P<a>)))"},
		{"- [x]: y\n\n\n  a", "D(L-t(I(P<a>)))"},
		{"-\n  [x]: y\n\n\n  a\n\n  b", "D(L-(I(P<a>P<b>)))"},
	})
}

// P10.1: which items go on a list, and what ends it.
func TestLists(t *testing.T) {
	holdTold(t, []c{
		{"- a\n- b\n- c", "D(L-t(I(P<a>)I(P<b>)I(P<c>)))"},
		{"- a\n + b\n  * c", "D(L-t(I(P<a>))L+t(I(P<b>))L*t(I(P<c>)))"},
		{"- a\n* b\n- c", "D(L-t(I(P<a>))L*t(I(P<b>))L-t(I(P<c>)))"},
		{"1. a\n1) b", "D(L1.t(I(P<a>))L1)t(I(P<b>)))"},
		{"1. a\n- b", "D(L1.t(I(P<a>))L-t(I(P<b>)))"},
		{"3. a\n1. b\n99. c", "D(L3.t(I(P<a>)I(P<b>)I(P<c>)))"},
		{"- a\n - b\n  - c\n   - d", "D(L-t(I(P<a>)I(P<b>)I(P<c>)I(P<d>)))"},
		{"- a\n - b\n  - c\n   - d\n    - e", "D(L-t(I(P<a>)I(P<b>)I(P<c>)I(P<d><- e>)))"},
		{"- a\n  - b\n    - c\n  - d\n- e", "D(L-t(I(P<a>L-t(I(P<b>L-t(I(P<c>)))I(P<d>)))I(P<e>)))"},
		{"- a\n  + b\n  - c\n+ d", "D(L-t(I(P<a>L+t(I(P<b>))L-t(I(P<c>))))L+t(I(P<d>)))"},
		{"- - a\n  - b\n- c", "D(L-t(I(L-t(I(P<a>)I(P<b>)))I(P<c>)))"},
		{"- - a\n- - b", "D(L-t(I(L-t(I(P<a>)))I(L-t(I(P<b>)))))"},
		{"- 1. a\n  2. b", "D(L-t(I(L1.t(I(P<a>)I(P<b>)))))"},
		{"1. - 2) a", "D(L1.t(I(L-t(I(L2)t(I(P<a>)))))))"},
		{"- a\n# b\n- c", "D(L-t(I(P<a>))H1<b>L-t(I(P<c>)))"},
		{"- a\n\nb\n- c", "D(L-t(I(P<a>))P<b>L-t(I(P<c>)))"},
		{"- a\n\n    b", "D(L-(I(P<a>P<b>)))"},
		{"- a\n\n      b", "D(L-(I(P<a>C{b|})))"},
		{"- a\n> b\n- c", "D(L-t(I(P<a>))Q(P<b>)L-t(I(P<c>)))"},
		{"- a\n  > b\n  > c\n- d", "D(L-t(I(P<a>Q(P<b><c>))I(P<d>)))"},
		{"- a\nFFF\n- b\nFFF\n- c", "D(L-t(I(P<a>))C3[]{- b|}L-t(I(P<c>)))"},
		{"- a\n<div>\n- b", "D(L-t(I(P<a>))M{<div>|- b|})"},
		{"- # a\n  ## b\n- ***", "D(L-t(I(H1<a>H2<b>)I(R)))"},
		{"> - a\n> - b\n- c", "D(Q(L-t(I(P<a>)I(P<b>)))L-t(I(P<c>)))"},
		{"- > a\n- > b\n  c", "D(L-t(I(Q(P<a>))I(Q(P<b><c>))))"},
		{"- > a\n  b\n> c", "D(L-t(I(Q(P<a><b>)))Q(P<c>))"},
		{"- > a\n> b", "D(L-t(I(Q(P<a>)))Q(P<b>))"},
	})
}

// P10.1: items that break off a paragraph, and ones that may not.
func TestItemsBehindParagraph(t *testing.T) {
	holdTold(t, []c{
		{"a\n- b", "D(P<a>L-t(I(P<b>)))"},
		{"a\n+ b", "D(P<a>L+t(I(P<b>)))"},
		{"a\n* b", "D(P<a>L*t(I(P<b>)))"},
		{"a\n1. b", "D(P<a>L1.t(I(P<b>)))"},
		{"a\n1) b", "D(P<a>L1)t(I(P<b>)))"},
		{"a\n001. b", "D(P<a>L1.t(I(P<b>)))"},
		{"a\n-\tb", "D(P<a>L-t(I(P<b>)))"},
		{"a\n-     b", "D(P<a>L-t(I(C{b|})))"},
		{"a\n- ***", "D(P<a>L-t(I(R)))"},
		{"a\n+", "D(P<a><+>)"},
		{"a\n* \t", "D(P<a><* \t>)"},
		{"a\n1.", "D(P<a><1.>)"},
		{"a\n1) ", "D(P<a><1) >)"},
		{"a\n0. b", "D(P<a><0. b>)"},
		{"a\n2. b", "D(P<a><2. b>)"},
		{"a\n10) b", "D(P<a><10) b>)"},
		{"a\n999999999. b", "D(P<a><999999999. b>)"},
		{"a\n2.", "D(P<a><2.>)"},
		{"a\n    - b", "D(P<a><- b>)"},
		{"a\n\n2. b", "D(P<a>L2.t(I(P<b>)))"},
		{"a\n\n+", "D(P<a>L+t(I))"},
		{"# a\n2.", "D(H1<a>L2.t(I))"},
		{"> a\n> 2. b", "D(Q(P<a><2. b>))"},
		{"> a\n> *", "D(Q(P<a><*>))"},
		{"- a\n  2. b", "D(L-t(I(P<a><2. b>)))"},
		{"- a\n  *", "D(L-t(I(P<a><*>)))"},
		{"- a\n  -", "D(L-t(I(H2_<a>)))"},
		{"- a\n  1. b\n  2. c", "D(L-t(I(P<a>L1.t(I(P<b>)I(P<c>)))))"},
		// not all have matched
		{"- a\n2. b", "D(L-t(I(P<a>))L2.t(I(P<b>)))"},
		{"- a\n*", "D(L-t(I(P<a>))L*t(I))"},
		{"1. a\n  2. b", "D(L1.t(I(P<a>)I(P<b>)))"},
		{"1. a\n5.", "D(L1.t(I(P<a>)I))"},
		{"> a\n7) b", "D(Q(P<a>)L7)t(I(P<b>)))"},
		{"- - a\n  2. b", "D(L-t(I(L-t(I(P<a>))L2.t(I(P<b>)))))"},
		{"[x]: y\n2. a", "D(P<2. a>)"},
		{"[x]: y\n- a", "D(L-t(I(P<a>)))"},
	})
}

// P10.1: which lists are Tight.
func TestTight(t *testing.T) {
	holdTold(t, []c{
		// between items
		{"- a\n- b", "D(L-t(I(P<a>)I(P<b>)))"},
		{"- a\n\n- b", "D(L-(I(P<a>)I(P<b>)))"},
		{"- a\n \t\n- b", "D(L-(I(P<a>)I(P<b>)))"},
		{"- a\n\n\n\n- b", "D(L-(I(P<a>)I(P<b>)))"},
		{"- a\n- b\n\n- c", "D(L-(I(P<a>)I(P<b>)I(P<c>)))"},
		{"- a\n\n- b\n- c", "D(L-(I(P<a>)I(P<b>)I(P<c>)))"},
		{"1. a\n\n1. b", "D(L1.(I(P<a>)I(P<b>)))"},
		{"- # a\n\n- b", "D(L-(I(H1<a>)I(P<b>)))"},
		{"-\n\n- b", "D(L-(II(P<b>)))"},
		{"- a\n-\n\n- b", "D(L-(I(P<a>)II(P<b>)))"},
		{"- a\n-\n  b\n- c", "D(L-t(I(P<a>)I(P<b>)I(P<c>)))"},
		// ahead of the list, and at its end
		{"\n\n- a", "D(L-t(I(P<a>)))"},
		{"a\n\n- b\n- c", "D(P<a>L-t(I(P<b>)I(P<c>)))"},
		{"- a\n- b\n\n", "D(L-t(I(P<a>)I(P<b>)))"},
		{"- a\n- b\n\nc", "D(L-t(I(P<a>)I(P<b>))P<c>)"},
		{"- a\n\n+ b", "D(L-t(I(P<a>))L+t(I(P<b>)))"},
		{"- a\n\n# b\n\n- c", "D(L-t(I(P<a>))H1<b>L-t(I(P<c>)))"},
		{"> - a\n\n> - b", "D(Q(L-t(I(P<a>)))Q(L-t(I(P<b>))))"},
		// between an item's kids
		{"- a\n\n  b", "D(L-(I(P<a>P<b>)))"},
		{"- a\n\n  b\n- c", "D(L-(I(P<a>P<b>)I(P<c>)))"},
		{"- a\n- b\n\n  c", "D(L-(I(P<a>)I(P<b>P<c>)))"},
		{"- # a\n  b\n  > c", "D(L-t(I(H1<a>P<b>Q(P<c>))))"},
		{"- # a\n  b\n\n  > c", "D(L-(I(H1<a>P<b>Q(P<c>))))"},
		{"- a\n\n      b", "D(L-(I(P<a>C{b|})))"},
		{"- a\n\n  ***\n  ***", "D(L-(I(P<a>RR)))"},
		{"- a\n\n  <b>", "D(L-(I(P<a>M{<b>|})))"},
		{"- a\n\n  b\n  ==", "D(L-(I(P<a>H1_<b>)))"},
		{"- a\n\n  FFF\n  FFF", "D(L-(I(P<a>C3[]{})))"},
		{"-\n  a\n\n  b", "D(L-(I(P<a>P<b>)))"},
		// within kids
		{"- > a\n  >\n  > b\n- c", "D(L-t(I(Q(P<a>P<b>))I(P<c>)))"},
		{"- FFF\n\n  FFF\n- a", "D(L-t(I(C3[]{|})I(P<a>)))"},
		{"- FFF\n  a\n\n- b", "D(L-t(I(C3[]{a||})I(P<b>)))"},
		{"- FFF\n  a\n  FFF\n\n- b", "D(L-(I(C3[]{a|})I(P<b>)))"},
		{"-     a\n\n      b\n- c", "D(L-t(I(C{a||b|})I(P<c>)))"},
		{"-     a\n\n- b", "D(L-(I(C{a|})I(P<b>)))"},
		{"-     a\n        \n- b", "D(L-(I(C{a|})I(P<b>)))"},
		{"-     a\n\n  b", "D(L-(I(C{a|}P<b>)))"},
		{"- > FFF\n\n- a", "D(L-(I(Q(C3[]{}))I(P<a>)))"},
		{"- > FFF\n  >\n- a", "D(L-t(I(Q(C3[]{|}))I(P<a>)))"},
		{"- > <!--\n\n- a", "D(L-(I(Q(M{<!--|}))I(P<a>)))"},
		{"- <!--\n\n  -->\n- a", "D(L-t(I(M{<!--||-->|})I(P<a>)))"},
		{"- <!--\n\n- a", "D(L-t(I(M{<!--||})I(P<a>)))"},
		{"- <pre>\n\n- a", "D(L-t(I(M{<pre>||})I(P<a>)))"},
		{"- <!-- -->\n\n- a", "D(L-(I(M{<!-- -->|})I(P<a>)))"},
		{"- <div>\n\n- a", "D(L-(I(M{<div>|})I(P<a>)))"},
		{"- <b>\n\n  a", "D(L-(I(M{<b>|}P<a>)))"},
		// in quotations
		{"> - a\n>\n> - b", "D(Q(L-(I(P<a>)I(P<b>))))"},
		{"> - a\n> - b", "D(Q(L-t(I(P<a>)I(P<b>))))"},
		{"> - a\n>\n>   b", "D(Q(L-(I(P<a>P<b>))))"},
		{"> > - a\n> >\n> > - b", "D(Q(Q(L-(I(P<a>)I(P<b>)))))"},
		{"- > a\n  >\n- b", "D(L-t(I(Q(P<a>))I(P<b>)))"},
		{"- > a\n  >\n  b", "D(L-t(I(Q(P<a>)P<b>)))"},
		{"- > a\n\n- b", "D(L-(I(Q(P<a>))I(P<b>)))"},
		{"- > a\n\n  > b", "D(L-(I(Q(P<a>)Q(P<b>))))"},
		{"- > - a\n  >\n  > - b\n- c", "D(L-t(I(Q(L-(I(P<a>)I(P<b>))))I(P<c>)))"},
		{"- > - a\n  >\n- b", "D(L-t(I(Q(L-t(I(P<a>))))I(P<b>)))"},
		{"- > - a\n  > - b\n\n- c", "D(L-(I(Q(L-t(I(P<a>)I(P<b>))))I(P<c>)))"},
		{"> - > a\n>   >\n> - b", "D(Q(L-t(I(Q(P<a>))I(P<b>))))"},
		{"> - > a\n>\n> - b", "D(Q(L-(I(Q(P<a>))I(P<b>))))"},
		{"> - a\n> >\n> - b", "D(Q(L-t(I(P<a>))QL-t(I(P<b>))))"},
		// ahead of and behind sublists
		{"- a\n  - b\n\n- c", "D(L-(I(P<a>L-t(I(P<b>)))I(P<c>)))"},
		{"- a\n  - b\n\n  - c", "D(L-t(I(P<a>L-(I(P<b>)I(P<c>)))))"},
		{"- a\n  - b\n\n    c\n- d", "D(L-t(I(P<a>L-(I(P<b>P<c>)))I(P<d>)))"},
		{"- a\n\n  - b\n- c", "D(L-(I(P<a>L-t(I(P<b>)))I(P<c>)))"},
		{"- a\n  - b\n\n  c", "D(L-(I(P<a>L-t(I(P<b>))P<c>)))"},
		{"- a\n  - b\n    - c\n\n- d", "D(L-(I(P<a>L-t(I(P<b>L-t(I(P<c>)))))I(P<d>)))"},
		{"- a\n  - b\n    - c\n\n  - d", "D(L-t(I(P<a>L-(I(P<b>L-t(I(P<c>)))I(P<d>)))))"},
		{"- - a\n\n- b", "D(L-(I(L-t(I(P<a>)))I(P<b>)))"},
		{"- - a\n\n  - b", "D(L-t(I(L-(I(P<a>)I(P<b>)))))"},
		{"- - a\n\n    b", "D(L-t(I(L-(I(P<a>P<b>)))))"},
		{"- - a\n\n  b", "D(L-(I(L-t(I(P<a>))P<b>)))"},
		{"- a\n\n- - b\n  - c", "D(L-(I(P<a>)I(L-t(I(P<b>)I(P<c>)))))"},
		{"- a\n  + b\n\n  * c", "D(L-(I(P<a>L+t(I(P<b>))L*t(I(P<c>)))))"},
		// a line on which something began isn't one
		{"- a\n-\n- b", "D(L-t(I(P<a>)II(P<b>)))"},
		{"- a\n  >\n- b", "D(L-t(I(P<a>Q)I(P<b>)))"},
		{"- a\n  >\n  b", "D(L-t(I(P<a>QP<b>)))"},
		{"- a\n  > -\n- b", "D(L-t(I(P<a>Q(L-t(I)))I(P<b>)))"},
		{"- a\n- #\n- b", "D(L-t(I(P<a>)I(H1<>)I(P<b>)))"},
		// definitions are no blocks, but have lines
		{"- a\n\n  [x]: y\n- b", "D(L-t(I(P<a>)I(P<b>)))"},
		{"- a\n\n  [x]: y\n  b", "D(L-(I(P<a>P<b>)))"},
		{"- a\n  # b\n  [x]: y\n\n- c", "D(L-(I(P<a>H1<b>)I(P<c>)))"},
		{"- [x]: y\n\n  a\n- b", "D(L-t(I(P<a>)I(P<b>)))"},
		{"- [x]: y\n\n  a\n\n  b", "D(L-(I(P<a>P<b>)))"},
		{"- a\n- [x]: y\n\n- b", "D(L-(I(P<a>)II(P<b>)))"},
	})
}
