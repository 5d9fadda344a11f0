package block

import (
	"fmt"
	"slices"
	"strings"
	"testing"

	"stet/api"
	"stet/text"
	"stet/tree"
)

// This file tells trees in short, and holds what is true of the answer to any text.

const fence = "```"

// told: the blocks of a text's tree without their places: a letter for the kind (D the document, Q, L, I, P, H, R, C, M: an HTML block), its fields, and its kids between parentheses. A list has its mark, with the number ahead of that, and "t" if it is Tight; a heading its level, and "_" if it is underlined; code its level, and what stands behind the fence between "[" and "]"; pieces stand between "<" and ">", a Text between "{" and "}", "|" for a line's end.
func told(s string, t api.Tree) string {
	if len(t.Nodes) == 0 {
		return "nothing"
	}
	return toldNode(s, t, 0)
}

func toldNode(s string, t api.Tree, at int) string {
	n := t.Nodes[at]
	if n.Kind < api.KDoc || n.Kind > api.KHtml {
		return fmt.Sprintf("(kind %d)", n.Kind)
	}
	out := "?DQLIPHRCM"[n.Kind : n.Kind+1]
	switch n.Kind {
	case api.KList:
		if n.Level != -1 {
			out += fmt.Sprint(n.Level)
		}
		out += n.Text
		if n.Tight {
			out += "t"
		}
	case api.KHead:
		out += fmt.Sprint(n.Level)
		if n.Tight {
			out += "_"
		}
	case api.KCode:
		if n.Level != 0 || n.Link != "" {
			out += fmt.Sprintf("%d[%s]", n.Level, n.Link)
		}
	}
	for _, p := range n.Pieces {
		out += "<" + s[p.From:p.To] + ">"
	}
	if n.Kind == api.KCode || n.Kind == api.KHtml {
		out += "{" + strings.ReplaceAll(n.Text, "\n", "|") + "}"
	}
	if len(n.Kids) > 0 {
		out += "("
		for _, kid := range n.Kids {
			out += toldNode(s, t, kid)
		}
		out += ")"
	}
	return out
}

// toldDefs: definitions without their places.
func toldDefs(defs []api.Def) string {
	out := ""
	for _, d := range defs {
		out += fmt.Sprintf("[%s]: %s", d.Label, d.Link)
		if d.Title != "" {
			out += fmt.Sprintf(" '%s'", d.Title)
		}
		out += "\n"
	}
	return out
}

// spans: the places of a tree's nodes, in their order, and of the definitions behind them.
func spans(t api.Tree, defs []api.Def) string {
	var out []string
	for _, n := range t.Nodes {
		out = append(out, fmt.Sprintf("%s%d-%d", "?DQLIPHRCM"[n.Kind:n.Kind+1], n.From, n.To))
	}
	for _, d := range defs {
		out = append(out, fmt.Sprintf("[%s]%d-%d", d.Label, d.From, d.To))
	}
	return strings.Join(out, " ")
}

// parse: what Parse answers, held against all that is true of any text.
func parse(t *testing.T, s string) (api.Tree, []api.Def) {
	t.Helper()
	tr, defs := Parse(s)
	holdRight(t, s, tr)
	holdPieces(t, s, tr)
	holdTexts(t, s, tr)
	holdDefs(t, s, tr, defs)
	return tr, defs
}

// holdRight: that the tree is right but for its pieces (P10.1), and the document all of the text.
func holdRight(t *testing.T, s string, tr api.Tree) {
	t.Helper()
	bare := api.Tree{Nodes: slices.Clone(tr.Nodes)}
	for i := range bare.Nodes {
		bare.Nodes[i].Pieces = nil
	}
	if !tree.Right(bare) {
		t.Fatalf("%.300q: not right", s)
	}
	if document := tr.Nodes[0]; document.From != 0 || document.To != len(s) {
		t.Errorf("%.300q: the document stands from %d to %d", s, document.From, document.To)
	}
}

// holdPieces: that just paragraphs and headings have pieces: in order, each on a line of its own and without a blank ahead of it, and empty only as a heading's one.
func holdPieces(t *testing.T, s string, tr api.Tree) {
	t.Helper()
	for i, n := range tr.Nodes {
		if want := n.Kind == api.KPara || n.Kind == api.KHead; (len(n.Pieces) > 0) != want || n.Kind == api.KHead && !n.Tight && len(n.Pieces) > 1 {
			t.Errorf("%.300q: node %d has the pieces %v", s, i, n.Pieces)
		}
		at := n.From
		for _, p := range n.Pieces {
			if p.From < at || p.To < p.From || p.To > n.To {
				t.Errorf("%.300q: node %d, from %d to %d, has the pieces %v", s, i, n.From, n.To, n.Pieces)
				break
			}
			at = p.To + 1
			piece := s[p.From:p.To]
			if strings.ContainsAny(piece, "\r\n") || piece != strings.TrimLeft(piece, " \t") || piece == "" && (n.Kind != api.KHead || n.Tight) {
				t.Errorf("%.300q: node %d has the piece %q", s, i, piece)
			}
		}
	}
}

// holdTexts: that each line of code and HTML has an end, and code without a fence no empty line at its ends.
func holdTexts(t *testing.T, s string, tr api.Tree) {
	t.Helper()
	for i, n := range tr.Nodes {
		if n.Kind != api.KCode && n.Kind != api.KHtml {
			continue
		}
		lines := strings.Split(n.Text, "\n")
		last := len(lines) - 1
		if lines[last] != "" {
			t.Errorf("%.300q: node %d: a line without an end: %q", s, i, n.Text)
		}
		if n.Kind == api.KCode && n.Level == 0 && (last == 0 || strings.Trim(lines[last-1], " \t") == "" || strings.Trim(lines[0], " \t") == "") {
			t.Errorf("%.300q: node %d: empty lines at its ends: %q", s, i, n.Text)
		}
	}
}

// holdDefs: that definitions stand one behind the other, from "[" on, and not within a piece.
func holdDefs(t *testing.T, s string, tr api.Tree, defs []api.Def) {
	t.Helper()
	at := 0
	for _, d := range defs {
		if d.From < at || d.To <= d.From || d.To > len(s) || s[d.From] != '[' {
			t.Fatalf("%.300q: definitions %v", s, defs)
		}
		at = d.To
	}
	for _, n := range tr.Nodes {
		for _, p := range n.Pieces {
			i, _ := slices.BinarySearchFunc(defs, p.From, func(d api.Def, from int) int { return d.To - 1 - from })
			if i < len(defs) && defs[i].From < p.To {
				t.Errorf("%.300q: %v stands within the piece %v", s, defs[i], p)
			}
		}
	}
}

// c is a text, and what is told of it.
type c struct{ s, want string }

// holdTold: what is told of texts, also with a line's end behind the last line, or without it; F is a backquote.
func holdTold(t *testing.T, cases []c) {
	t.Helper()
	for _, c := range cases {
		s, want := strings.ReplaceAll(c.s, "F", "`"), strings.ReplaceAll(c.want, "F", "`")
		for _, s := range []string{s, strings.TrimSuffix(s, "\n"), s + "\n"} {
			tr, _ := parse(t, s)
			if got := told(s, tr); got != want {
				t.Errorf("%q\n%s, not\n%s", s, got, want)
			}
			holdQuoted(t, s)
		}
	}
}

// quoted: the text, "> " put ahead of each line.
func quoted(s string) string {
	var b strings.Builder
	for _, line := range text.Lines(s) {
		b.WriteString("> " + s[line.From:line.End])
	}
	return b.String()
}

// holdQuoted: that this is a quotation with the text's blocks, spans aside, and the same definitions (P10.2).
func holdQuoted(t *testing.T, s string) {
	t.Helper()
	if s == "" || strings.Contains(s, "\t") {
		return
	}
	tr, defs := Parse(s)
	behind := quoted(s)
	quotedTree, quotedDefs := parse(t, behind)
	want := "D(Q" + strings.TrimPrefix(told(s, tr), "D") + ")"
	if got := told(behind, quotedTree); got != want {
		t.Errorf("%q\n%s, not\n%s", behind, got, want)
	}
	if got, want := toldDefs(quotedDefs), toldDefs(defs); got != want {
		t.Errorf("%q: definitions\n%s, not\n%s", behind, got, want)
	}
}

// sample is a block's lines, none of them blank at its beginning, and what is told of it.
type sample struct{ name, s, want string }

// samples: every kind of block, none of them one that goes on in another one of these but by what the chapter tells.
func samples() []sample {
	return []sample{
		{"a quotation", "> q", "Q(P<q>)"},
		{"an empty quotation", ">", "Q"},
		{"a list", "- i", "L-t(I(P<i>))"},
		{"an empty item", "+", "L+t(I)"},
		{"a list with numbers", "1. n", "L1.t(I(P<n>))"},
		{"a list from 2 on", "2) n", "L2)t(I(P<n>))"},
		{"a list in a list", "* - i", "L*t(I(L-t(I(P<i>))))"},
		{"a paragraph", "p", "P<p>"},
		{"a heading", "## h", "H2<h>"},
		{"an empty heading", "#", "H1<>"},
		{"a line across", "***", "R"},
		{"code with a fence", "~~~ go\nc\n~~~", "C3[go]{c|}"},
		{"code with a fence of backquotes", fence + "\nc\n" + fence, "C3[]{c|}"},
		{"HTML of kind 1", "<pre></pre>", "M{<pre></pre>|}"},
		{"HTML of kind 2", "<!-- -->", "M{<!-- -->|}"},
		{"HTML of kind 3", "<? ?>", "M{<? ?>|}"},
		{"HTML of kind 4", "<!A>", "M{<!A>|}"},
		{"HTML of kind 5", "<![CDATA[]]>", "M{<![CDATA[]]>|}"},
		{"HTML of kind 6", "<div>", "M{<div>|}"},
		{"HTML of kind 7", "<b>", "M{<b>|}"},
		{"an underlined heading", "u\n==", "H1_<u>"},
		{"a paragraph behind a definition", "[d]: u\np", "P<p>"},
	}
}
