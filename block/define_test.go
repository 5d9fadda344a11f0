package block

import (
	"strings"
	"testing"

	"stet/api"
)

// defined is a text, what is told of its blocks, and its definitions.
type defined struct {
	s, want string
	defs    []api.Def
}

// holdDefined: the blocks and the definitions of texts.
func holdDefined(t *testing.T, cases []defined) {
	t.Helper()
	for _, c := range cases {
		for _, s := range []string{c.s, c.s + "\n\n"} {
			tr, defs := parse(t, s)
			if got := told(s, tr); got != c.want {
				t.Errorf("%q\n%s, not\n%s", s, got, c.want)
			}
			if len(defs) != len(c.defs) {
				t.Errorf("%q: %v, not %v", s, defs, c.defs)
				continue
			}
			for i, d := range defs {
				if d != c.defs[i] {
					t.Errorf("%q: %d: %+v, not %+v", s, i, d, c.defs[i])
				}
			}
		}
		holdQuoted(t, c.s)
	}
}

// P10.1: the definitions at a paragraph's beginning.
func TestDefinitions(t *testing.T) {
	x := api.Def{Label: "x", Link: "y", To: 6}
	holdDefined(t, []defined{
		// none
		{"a", "D(P<a>)", nil},
		{"a\n[x]: y", "D(P<a><[x]: y>)", nil},
		{"[x] y", "D(P<[x] y>)", nil},
		{"[x]:", "D(P<[x]:>)", nil},
		{"[]: y", "D(P<[]: y>)", nil},
		{"[ ]: y", "D(P<[ ]: y>)", nil},
		{"[x] : y", "D(P<[x] : y>)", nil},
		{"[x]: y z", "D(P<[x]: y z>)", nil},
		{"[x]: y 'z' w", "D(P<[x]: y 'z' w>)", nil},
		{"[x]: y 'z", "D(P<[x]: y 'z>)", nil},
		{"[x]: y'z'", "D", []api.Def{{Label: "x", Link: "y'z'", To: 9}}},
		{"[x\n\ny]: z", "D(P<[x>P<y]: z>)", nil},
		{"# [x]: y", "D(H1<[x]: y>)", nil},
		{"    [x]: y", "D(C{[x]: y|})", nil},
		{"~~~\n[x]: y\n~~~", "D(C3[]{[x]: y|})", nil},
		{"<!--\n[x]: y\n-->", "D(M{<!--|[x]: y|-->|})", nil},
		// one
		{"[x]: y", "D", []api.Def{x}},
		{"[x]: y \t", "D", []api.Def{x}},
		{"   [x]: y", "D", []api.Def{{Label: "x", Link: "y", From: 3, To: 9}}},
		{"[x]:y", "D", []api.Def{{Label: "x", Link: "y", To: 5}}},
		{"[x]: <>", "D", []api.Def{{Label: "x", To: 7}}},
		{"[ X \t Y ]: <a b> \"c\"", "D", []api.Def{{Label: "x y", Link: "a b", Title: "c", To: 20}}},
		{"[x]: y\\*&amp; (a\\)&lt;)", "D", []api.Def{{Label: "x", Link: "y*&", Title: "a)<", To: 23}}},
		{"[\\]]: y", "D", []api.Def{{Label: "\\]", Link: "y", To: 7}}},
		{"\n\n[x]: y\n\na", "D(P<a>)", []api.Def{{Label: "x", Link: "y", From: 2, To: 8}}},
		{"[x]: y\na", "D(P<a>)", []api.Def{x}},
		{"[x]: y\n  a  \nb", "D(P<a  ><b>)", []api.Def{x}},
		{"[x]: y\n    a", "D(P<a>)", []api.Def{x}},
		{"[x]: y\n# a", "D(H1<a>)", []api.Def{x}},
		{"[x]: y\n> a", "D(Q(P<a>))", []api.Def{x}},
		{"[x]: y\n***", "D(R)", []api.Def{x}},
		{"[x]: y\n<b>", "D(P<<b>>)", []api.Def{x}},
		{"[x]: y\n<div>", "D(M{<div>|})", []api.Def{x}},
		// more, with a label twice
		{"[x]: y\n[z]: w", "D", []api.Def{x, {Label: "z", Link: "w", From: 7, To: 13}}},
		{"[x]: y\n[z]: w\na", "D(P<a>)", []api.Def{x, {Label: "z", Link: "w", From: 7, To: 13}}},
		{"[x]: y\n[x]: z\n[X]: w", "D", []api.Def{x, {Label: "x", Link: "z", From: 7, To: 13}, {Label: "x", Link: "w", From: 14, To: 20}}},
		{"[x]: y\na\n[z]: w", "D(P<a><[z]: w>)", []api.Def{x}},
		{"[x]: y\n\na\n\n[z]: w", "D(P<a>)", []api.Def{x, {Label: "z", Link: "w", From: 11, To: 17}}},
		{"[x]: y\n[z]:\na\nb", "D(P<b>)", []api.Def{x, {Label: "z", Link: "a", From: 7, To: 13}}},
		{"[x]: y\n[z]\na", "D(P<[z]><a>)", []api.Def{x}},
		// over several lines
		{"[x]:\ny", "D", []api.Def{{Label: "x", Link: "y", To: 6}}},
		{"[x]:\r\n  y\r\na", "D(P<a>)", []api.Def{{Label: "x", Link: "y", To: 9}}},
		{"[x\n Y]: z", "D", []api.Def{{Label: "x y", Link: "z", To: 9}}},
		{"[x]: y\n'z'", "D", []api.Def{{Label: "x", Link: "y", Title: "z", To: 10}}},
		{"[x]: y\n   'z\n   w'  \na", "D(P<a>)", []api.Def{{Label: "x", Link: "y", Title: "z\nw", To: 18}}},
		{"[x]:\n <u>\n\t'a\rb'\r\nc", "D(P<c>)", []api.Def{{Label: "x", Link: "u", Title: "a\nb", To: 16}}},
		{"[\nx\n]:\ny\n(\nz\n)\n[a]: b\n", "D", []api.Def{{Label: "x", Link: "y", Title: "\nz\n", To: 14}, {Label: "a", Link: "b", From: 15, To: 21}}},
		{"[x]: y\n'a\n# b\nc'", "D(P<'a>H1<b>P<c'>)", []api.Def{x}},
		// broken ones
		{"[x]: y\n'z' w", "D(P<'z' w>)", []api.Def{x}},
		{"[x]: y\n'z\n\nw'", "D(P<'z>P<w'>)", []api.Def{x}},
		{"[x]: y\n'z'\n'w'", "D(P<'w'>)", []api.Def{{Label: "x", Link: "y", Title: "z", To: 10}}},
		{"[x]: y\n'z' w\n[a]: b", "D(P<'z' w><[a]: b>)", []api.Def{x}},
		{"[x]:\n\ny", "D(P<[x]:>P<y>)", nil},
		{"[x]:\n[z]: w", "D(P<[x]:><[z]: w>)", nil},
		{"[x]: <y\nz>", "D(P<[x]: <y><z>>)", nil},
		{"[x]: y z\n[a]: b", "D(P<[x]: y z><[a]: b>)", nil},
		{"\\[x]: y", "D(P<\\[x]: y>)", nil},
		{"[x]\\: y", "D(P<[x]\\: y>)", nil},
		{"[x]: \xff", "D", []api.Def{{Label: "x", Link: "\xff", To: 6}}},
		{"[\xff]: y", "D", []api.Def{{Label: "\ufffd", Link: "y", To: 6}}},
		// underlined
		{"[x]: y\na\n===", "D(H1_<a>)", []api.Def{x}},
		{"[x]: y\n===", "D(P<===>)", []api.Def{x}},
		{"[x]: y\n===\n[z]: w\n---", "D(H2_<===><[z]: w>)", []api.Def{x}},
		{"a\n[x]: y\n===", "D(H1_<a><[x]: y>)", nil},
		// in quotations and items
		{"> [x]: y", "D(Q)", []api.Def{{Label: "x", Link: "y", From: 2, To: 8}}},
		{"> [x]:\n>   y\n> 'z\n> w'\n> a", "D(Q(P<a>))", []api.Def{{Label: "x", Link: "y", Title: "z\nw", From: 2, To: 22}}},
		{"> [x]:\ny\n> 'z'", "D(Q)", []api.Def{{Label: "x", Link: "y", Title: "z", From: 2, To: 14}}},
		{"> [x]: y\n[z]: w", "D(Q)", []api.Def{{Label: "x", Link: "y", From: 2, To: 8}, {Label: "z", Link: "w", From: 9, To: 15}}},
		{"- [x]: y", "D(L-t(I))", []api.Def{{Label: "x", Link: "y", From: 2, To: 8}}},
		{"1. [x]: y\n   'z'\n2. [a]: b\n   c", "D(L1.t(II(P<c>)))", []api.Def{{Label: "x", Link: "y", Title: "z", From: 3, To: 16}, {Label: "a", Link: "b", From: 20, To: 26}}},
		{"[a]: b\n\n> [x]: y\n>\n> - [z]: w\n\n[c]: d", "D(Q(L-t(I)))", []api.Def{{Label: "a", Link: "b", To: 6}, {Label: "x", Link: "y", From: 10, To: 16}, {Label: "z", Link: "w", From: 23, To: 29}, {Label: "c", Link: "d", From: 31, To: 37}}},
	})
}

// P10.1: a paragraph of definitions alone is no block, wherever it stands.
func TestParagraphsWithoutPieces(t *testing.T) {
	for _, b := range samples() {
		rest := "\n\n" + b.s
		// Directly behind a definition stands what breaks off a paragraph.
		for _, s := range []string{"[x]: y" + rest, "[x]:\n<y>\n'z'" + rest, "[x]: y\n[z]: w" + rest} {
			tr, defs := parse(t, s)
			if got, want := told(s, tr), "D("+b.want+")"; got != want || !strings.HasPrefix(toldDefs(defs), "[x]: y") {
				t.Errorf("%q: %s, not %s; %v", s, got, want, defs)
			}
			holdQuoted(t, s)
		}
	}
}

// P10.1: very many definitions in one paragraph, one behind the other, each at its place.
func TestManyDefinitions(t *testing.T) {
	const n = 2000
	s := strings.Repeat("[x]: y\n[Z]:\n<w> 'a\nb'\n", n)
	tr, defs := parse(t, s+"c")
	if told(s+"c", tr) != "D(P<c>)" || len(defs) != 2*n {
		t.Fatal(told(s+"c", tr), len(defs))
	}
	for i := range n {
		at := len(s) / n * i
		first, second := api.Def{Label: "x", Link: "y", From: at, To: at + 6}, api.Def{Label: "z", Link: "w", Title: "a\nb", From: at + 7, To: at + 21}
		if defs[2*i] != first || defs[2*i+1] != second {
			t.Fatalf("%d: %v %v, not %v %v", i, defs[2*i], defs[2*i+1], first, second)
		}
	}
}
