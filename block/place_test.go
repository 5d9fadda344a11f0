package block

import (
	"strings"
	"testing"
)

// P10.1: From and To of every kind of block, and of those around it; and of definitions.
func TestPlaces(t *testing.T) {
	for _, c := range []c{
		{"", "D0-0"},
		{" \n", "D0-2"},
		// paragraphs
		{"a", "D0-1 P0-1"},
		{"\n  a \n\tb\t\n\n", "D0-11 P3-9"},
		{"a\r\nb\r\n", "D0-6 P0-4"},
		{"\xff\n\u00e4", "D0-4 P0-4"},
		{"[x]: y\na", "D0-8 P0-8 [x]0-6"},
		{" [x]:\n  y\n  'z'  \n   a\n", "D0-23 P1-22 [x]1-15"},
		{"[x]: y\n\na", "D0-9 P8-9 [x]0-6"},
		{"[x]: y\n\n[z]: w\na", "D0-16 P8-16 [x]0-6 [z]8-14"},
		{"[x]: y\n===", "D0-10 P0-10 [x]0-6"},
		{"[x]: y\n---", "D0-10 R7-10 [x]0-6"},
		{"[x]: y\n-\n-\n", "D0-11 H0-10 [x]0-6"},
		// headings
		{"# a", "D0-3 H0-3"},
		{"  ## a ## \t\n", "D0-12 H2-11"},
		{"#", "D0-1 H0-1"},
		{" # ", "D0-3 H1-3"},
		{" a\n b\n === \nc", "D0-13 H1-11 P12-13"},
		{"[x]: y\na\n-", "D0-10 H0-10 [x]0-6"},
		// lines across
		{"***", "D0-3 R0-3"},
		{"\n  - - -  \r\n", "D0-12 R3-10"},
		// code with a fence
		{"~~~", "D0-3 C0-3"},
		{"  ~~~ go \n   a\n ~~~ \nb", "D0-22 C2-20 P21-22"},
		{"~~~\na\n\n\n", "D0-8 C0-7"},
		{"~~~\n  ", "D0-6 C0-6"},
		{"> ~~~\n> a\nb", "D0-11 Q0-9 C2-9 P10-11"},
		// code without
		{"    a", "D0-5 C4-5"},
		{"\t  a \n\n     b\n      \n\n", "D0-22 C3-13"},
		{"    a\n\nb", "D0-8 C4-5 P7-8"},
		{">     a\n>\n> \n> b", "D0-16 Q0-16 C6-7 P15-16"},
		{">     a\n>\n>  ", "D0-13 Q0-13 C6-7"},
		{"-     a\n\n\n- b\n", "D0-14 L0-13 I0-7 C6-7 I10-13 P12-13"},
		{"-     a\n        \n", "D0-17 L0-7 I0-7 C6-7"},
		// HTML blocks
		{"<div>", "D0-5 M0-5"},
		{"  <div> \n  a \n\n\nb", "D0-17 M2-13 P16-17"},
		{"<b>\n \n", "D0-6 M0-3"},
		{"<!-- a -->  \nb", "D0-14 M0-12 P13-14"},
		{"<pre>\n\na</pre>b\n", "D0-16 M0-15"},
		{"<pre>\n\n \n", "D0-9 M0-8"},
		{"> <?\n>\n> a", "D0-10 Q0-10 M2-10"},
		{"- <?\n\n", "D0-6 L0-5 I0-5 M2-5"},
		// quotations
		{">", "D0-1 Q0-1"},
		{"  > \n >  \n\n", "D0-11 Q2-9"},
		{"> a\nb\n\n", "D0-7 Q0-5 P2-5"},
		{"> a\n>\n> \t\n", "D0-10 Q0-9 P2-3"},
		{"> a\n> # b\n>", "D0-11 Q0-11 P2-3 H6-9"},
		{"> > a\n>\nb", "D0-9 Q0-7 Q2-5 P4-5 P8-9"},
		{">> a\nb\n> c", "D0-10 Q0-10 Q1-10 P3-10"},
		{"- > a\n  >\n\n- b", "D0-14 L0-14 I0-9 Q2-9 P4-5 I11-14 P13-14"},
		{"- >\n  >  \n", "D0-10 L0-9 I0-9 Q2-9"},
		{"- >   \nb", "D0-8 L0-6 I0-6 Q2-6 P7-8"},
		// lists and items
		{"-", "D0-1 L0-1 I0-1"},
		{"-   \n\n", "D0-6 L0-1 I0-1"},
		{" 12)  \nb", "D0-8 L1-4 I1-4 P7-8"},
		{"- -   \n", "D0-7 L0-3 I0-3 L2-3 I2-3"},
		{"- a", "D0-3 L0-3 I0-3 P2-3"},
		{" 1. a \n 2. b\nc\n", "D0-15 L1-14 I1-6 P4-6 I8-14 P11-14"},
		{"- a\n\n\n- b\n\n", "D0-11 L0-9 I0-3 P2-3 I6-9 P8-9"},
		{"-\n  a\n-\n", "D0-8 L0-7 I0-5 P4-5 I6-7"},
		{"- a\n  - b\n\n    c\n\nd", "D0-19 L0-16 I0-16 P2-3 L6-16 I6-16 P8-9 P15-16 P18-19"},
		{"- # a \n\n+ ***", "D0-13 L0-6 I0-6 H2-6 L8-13 I8-13 R10-13"},
		{"> - a\n>   b\n\n", "D0-13 Q0-11 L2-11 I2-11 P4-11"},
		{"> 1. a\n> 2. ~~~\n>", "D0-17 Q0-17 L2-17 I2-6 P5-6 I9-17 C12-17"},
		{"1. a\n2. ~~~\n   b\n\n", "D0-18 L0-17 I0-4 P3-4 I5-17 C8-17"},
		// definitions in others: their lines were a block's in these
		{"> [x]: y", "D0-8 Q0-8 [x]2-8"},
		{"> [x]:\ny\n\n", "D0-10 Q0-8 [x]2-8"},
		{"- [x]: y  \n\n", "D0-12 L0-10 I0-10 [x]2-8"},
		{"- a\n\n  [x]: y\nb", "D0-15 L0-15 I0-15 P2-3 P7-15 [x]7-13"},
		{"- a\n\n  [x]: y\n\nb", "D0-16 L0-13 I0-13 P2-3 P15-16 [x]7-13"},
		{"- [x]: y\n  ***", "D0-14 L0-14 I0-14 R11-14 [x]2-8"},
		{"> - [x]:\n>   <y>\n>\n> [z]: w", "D0-27 Q0-27 L2-16 I2-16 [x]4-16 [z]21-27"},
	} {
		tr, defs := parse(t, c.s)
		if got := spans(tr, defs); got != c.want {
			t.Errorf("%q\n%s, not\n%s", c.s, got, c.want)
		}
	}
}

// P10.1: each kind of block stands at the same place of its text whatever is ahead of it.
func TestPlacesBehind(t *testing.T) {
	for _, b := range samples() {
		for _, ahead := range []string{"\n", " \t\r\n\n", "# a\n", "***\n", "<!-- -->\n", "~~~\n~~~\n", "a\n\n", "[x]: y\n\n", "> a\n\n"} {
			alone, defs := parse(t, b.s)
			behind, behindDefs := parse(t, ahead+b.s+"\n")
			first := len(behind.Nodes) - len(alone.Nodes) + 1
			moved := append(alone.Nodes[:0:0], alone.Nodes[1:]...)
			for i, n := range moved {
				n.From, n.To = n.From+len(ahead), n.To+len(ahead)
				got := behind.Nodes[first+i]
				if got.Kind != n.Kind || got.From != n.From || got.To != n.To {
					t.Errorf("%q behind %q: %+v, not %+v", b.s, ahead, got, n)
				}
			}
			if strings.HasPrefix(ahead, "[") {
				behindDefs = behindDefs[1:]
			}
			for i, d := range defs {
				if d.From+len(ahead) != behindDefs[i].From || d.To+len(ahead) != behindDefs[i].To {
					t.Errorf("%q behind %q: %+v, not %+v", b.s, ahead, behindDefs[i], d)
				}
			}
		}
	}
}
