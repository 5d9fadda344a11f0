package tree

import (
	"slices"
	"testing"

	"stet/api"
)

// This file makes the trees that the tests hand in, and holds what is handed in against a copy.

// firstKind and lastKind: the kinds that there are.
const firstKind, lastKind = api.KDoc, api.KRaw

// part is a node with what stands in it; a tree's numbers come by going through its parts.
type part struct {
	api.Node
	parts []part
}

func of(kind int, parts ...part) part { return part{api.Node{Kind: kind}, parts} }

// text: a text's node.
func text(s string) part { return part{Node: api.Node{Kind: api.KText, Text: s}} }

// with: the part, changed.
func (p part) with(change func(n *api.Node)) part {
	change(&p.Node)
	return p
}

// from: the part at this place.
func (p part) from(from, to int) part {
	return p.with(func(n *api.Node) { n.From, n.To = from, to })
}

// made: the tree of a part and all in it.
func made(p part) api.Tree {
	var t api.Tree
	var add func(p part)
	add = func(p part) {
		at := len(t.Nodes)
		t.Nodes = append(t.Nodes, p.Node)
		for _, q := range p.parts {
			t.Nodes[at].Kids = append(t.Nodes[at].Kids, len(t.Nodes))
			add(q)
		}
	}
	add(p)
	return t
}

func document(parts ...part) api.Tree { return made(of(api.KDoc, parts...)) }

// least: a part of this kind with no more than it must have.
func least(kind int) part {
	p := of(kind)
	switch kind {
	case api.KList:
		p.Level, p.Text, p.parts = -1, "-", []part{of(api.KItem)}
	case api.KHead, api.KLink, api.KImage:
		p.Level = 1
	case api.KText:
		p.Text = "x"
	}
	return p
}

// around: a tree in which a part stands where its kind may stand, and the part's number.
func around(p part) (api.Tree, int) {
	switch {
	case p.Kind == api.KDoc:
		return made(p), 0
	case p.Kind == api.KItem:
		list := least(api.KList)
		list.parts = []part{p}
		return document(list), 2
	case p.Kind >= api.KText:
		return document(of(api.KPara, p)), 2
	}
	return document(p), 1
}

// allKinds: a tree with every kind of node, each with what it may have and a place.
func allKinds() api.Tree {
	fill := func(kind, level int, text, link, title string, tight bool) func(n *api.Node) {
		return func(n *api.Node) {
			*n = api.Node{Kind: kind, From: n.From, To: n.To, Level: level, Text: text, Link: link, Title: title, Tight: tight}
		}
	}
	inlines := []part{
		text("a").from(12, 13),
		of(api.KSoft).from(13, 14),
		of(api.KHard).from(14, 15),
		of(api.KSpan).from(15, 18).with(fill(api.KSpan, 0, "b", "", "", false)),
		of(api.KEm, text("c").from(19, 20)).from(18, 21),
		of(api.KStrong, text("d").from(23, 24)).from(21, 26),
		of(api.KLink, text("e").from(27, 28)).from(26, 36).with(fill(api.KLink, 1, "", "u", "v", false)),
		of(api.KImage, text("f").from(38, 39)).from(36, 50).with(fill(api.KImage, 2, "", "w", "x", false)),
		of(api.KRaw).from(50, 53).with(fill(api.KRaw, 0, "<a>", "", "", false)),
	}
	return made(of(api.KDoc,
		of(api.KQuote,
			of(api.KList,
				of(api.KItem, of(api.KPara, inlines...).from(12, 53)).from(9, 53),
				of(api.KItem).from(54, 56),
			).from(9, 56).with(fill(api.KList, 7, ")", "", "", true)),
		).from(7, 56),
		of(api.KHead, text("g").from(60, 61)).from(58, 61).with(fill(api.KHead, 2, "", "", "", true)),
		of(api.KRule).from(62, 65),
		of(api.KCode).from(66, 80).with(fill(api.KCode, 3, "h\n", "go", "", false)),
		of(api.KHtml).from(81, 90).with(fill(api.KHtml, 0, "<hr>\n", "", "", false)),
	).from(0, 95))
}

// same: whether two trees tell the same; nil lists and empty ones are the same.
func same(a, b api.Tree) bool {
	return slices.EqualFunc(a.Nodes, b.Nodes, func(a, b api.Node) bool {
		return a.Kind == b.Kind && a.From == b.From && a.To == b.To && a.Level == b.Level &&
			a.Text == b.Text && a.Link == b.Link && a.Title == b.Title && a.Tight == b.Tight &&
			slices.Equal(a.Kids, b.Kids) && slices.Equal(a.Pieces, b.Pieces)
	})
}

// roomy: a new list of the same elements with spare room, filled, behind its length; nil of nil.
func roomy[E any](list []E, room ...E) []E {
	if list == nil {
		return nil
	}
	wide := append(append(make([]E, 0, len(list)+len(room)), list...), room...)
	return wide[:len(list):len(wide)]
}

// copied: a new tree, with spare room in all of its lists.
func copied(t api.Tree) api.Tree {
	room := api.Node{Kind: 77, From: 78, To: 79, Text: "room", Kids: []int{1, 2}, Pieces: []api.Piece{{From: 3, To: 4}}}
	nodes := roomy(t.Nodes, room, room)
	wide := nodes[:cap(nodes)]
	for i, n := range wide {
		wide[i].Kids = roomy(n.Kids, 70, 71)
		wide[i].Pieces = roomy(n.Pieces, api.Piece{From: 72, To: 73})
	}
	return api.Tree{Nodes: nodes}
}

// whole: the tree with what lies behind the length of its lists.
func whole(t api.Tree) api.Tree {
	nodes := slices.Clone(t.Nodes[:cap(t.Nodes)])
	for i, n := range nodes {
		nodes[i].Kids = n.Kids[:cap(n.Kids)]
		nodes[i].Pieces = n.Pieces[:cap(n.Pieces)]
	}
	return api.Tree{Nodes: nodes}
}

// lent is a tree to be handed in, with a copy of it.
type lent struct{ tree, copy api.Tree }

func lend(t api.Tree) lent {
	l := copied(t)
	return lent{l, copied(l)}
}

// kept: that the tree, its lists and what lies behind their length are as they were (P9.3).
func (l lent) kept(t *testing.T, call string) {
	t.Helper()
	if !same(whole(l.tree), whole(l.copy)) {
		t.Errorf("%s has changed %+v to %+v", call, whole(l.copy), whole(l.tree))
	}
}

// The calls, each with what it is handed held against a copy.

func right(t *testing.T, tree api.Tree) bool {
	t.Helper()
	l := lend(tree)
	defer l.kept(t, "Right")
	return Right(l.tree)
}

func show(t *testing.T, tree api.Tree, spans bool) (string, api.Errno) {
	t.Helper()
	l := lend(tree)
	defer l.kept(t, "Show")
	return Show(l.tree, spans)
}

func parents(t *testing.T, tree api.Tree) []int {
	t.Helper()
	l := lend(tree)
	defer l.kept(t, "Parents")
	return Parents(l.tree)
}

func erase(t *testing.T, tree api.Tree) api.Tree {
	t.Helper()
	l := lend(tree)
	defer l.kept(t, "Erase")
	return Erase(l.tree)
}

// holdRight: that a tree is right, or isn't, and that the other calls take it for the same.
func holdRight(t *testing.T, name string, tree api.Tree, want bool) {
	t.Helper()
	if got := right(t, tree); got != want {
		t.Errorf("%s: Right is %v: %+v", name, got, tree.Nodes)
	}
	size, err := 0, api.ErrTree
	if want {
		size, err = len(tree.Nodes), api.OK
	}
	if got := parents(t, tree); len(got) != size {
		t.Errorf("%s: Parents: %v: %+v", name, got, tree.Nodes)
	}
	for _, spans := range []bool{false, true} {
		if got, gotErr := show(t, tree, spans); gotErr != err || (got == "") == want {
			t.Errorf("%s: Show: %q %v: %+v", name, got, gotErr, tree.Nodes)
		}
	}
	holdErase(t, name, tree)
}

// holdErase: that nothing is gone but the places and the Pieces.
func holdErase(t *testing.T, name string, tree api.Tree) {
	t.Helper()
	want := copied(tree)
	for i := range want.Nodes {
		n := &want.Nodes[i]
		n.From, n.To, n.Pieces = 0, 0, nil
	}
	if got := erase(t, tree); !same(got, want) {
		t.Errorf("%s: Erase: %+v, not %+v", name, got.Nodes, want.Nodes)
	}
}
