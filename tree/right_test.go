package tree

import (
	"fmt"
	"math"
	"slices"
	"testing"

	"stet/api"
)

// odd: numbers that are none of a node, whatever the tree.
func odd() []int {
	return []int{math.MinInt64, math.MinInt64 + 1, math.MinInt32, -1 << 32, -2, -1, 1 << 32, 1<<32 + 1, math.MaxInt32, math.MaxInt64 - 1, math.MaxInt64}
}

// P9.1, Right: trees without nodes, of the document alone, and with every kind of node.
func TestRightTrees(t *testing.T) {
	holdRight(t, "no nodes", api.Tree{}, false)
	holdRight(t, "an empty list of nodes", api.Tree{Nodes: []api.Node{}}, false)
	holdRight(t, "the document alone", document(), true)
	holdRight(t, "every kind", allKinds(), true)
	seen := map[int]bool{}
	for _, n := range allKinds().Nodes {
		seen[n.Kind] = true
	}
	for kind := firstKind; kind <= lastKind; kind++ {
		if !seen[kind] {
			t.Errorf("allKinds has no node of kind %d", kind)
		}
		tree, _ := around(least(kind))
		holdRight(t, fmt.Sprint("the least of kind ", kind), tree, true)
	}
}

// P9.1, Right: the first node is the document, and no other is.
func TestRightDocument(t *testing.T) {
	for kind := firstKind - 1; kind <= lastKind+1; kind++ {
		holdRight(t, fmt.Sprint("kind ", kind, " alone"), made(least(kind)), kind == api.KDoc)
		p := least(kind)
		p.parts = append(p.parts, of(api.KPara))
		holdRight(t, fmt.Sprint("kind ", kind, " first"), made(p), kind == api.KDoc)
		p = least(kind)
		p.parts = []part{of(api.KDoc)}
		holdRight(t, fmt.Sprint("the document within kind ", kind), made(p), false)
		if kind == api.KDoc {
			continue
		}
		tree, _ := around(p)
		holdRight(t, fmt.Sprint("a second document within kind ", kind), tree, false)
	}
	holdRight(t, "the document behind a paragraph", api.Tree{Nodes: []api.Node{{Kind: api.KPara}, {Kind: api.KDoc}}}, false)
	holdRight(t, "the document behind its kid", api.Tree{Nodes: []api.Node{{Kind: api.KPara}, {Kind: api.KDoc, Kids: []int{0}}}}, false)
	holdRight(t, "two documents", api.Tree{Nodes: []api.Node{{Kind: api.KDoc}, {Kind: api.KDoc}}}, false)
	holdRight(t, "documents within each other", document(of(api.KQuote, of(api.KDoc))), false)
}

// P9.1, Right: kinds that there are not, in each place of a tree.
func TestRightKinds(t *testing.T) {
	kinds := append(odd(), 0, firstKind-1, lastKind+1, lastKind+2, 100)
	for at := range allKinds().Nodes {
		for _, kind := range kinds {
			tree := allKinds()
			tree.Nodes[at].Kind = kind
			holdRight(t, fmt.Sprint("node ", at, " of kind ", kind), tree, false)
		}
	}
	for _, kind := range kinds {
		holdRight(t, "such a kind alone", made(of(kind)), false)
		holdRight(t, "such a kind as a block", document(of(kind)), false)
		holdRight(t, "such a kind as an inline", document(of(api.KPara, of(kind))), false)
		holdRight(t, "such a kind as an item", document(part{api.Node{Kind: api.KList, Level: -1, Text: "-"}, []part{of(kind)}}), false)
		holdRight(t, "a block in such a kind", document(of(kind, of(api.KPara))), false)
		holdRight(t, "such kinds in each other", document(of(kind, of(kind))), false)
	}
}

// P9.1, Right: of each kind each other one as a kid.
func TestRightKids(t *testing.T) {
	blocks := []int{api.KQuote, api.KList, api.KPara, api.KHead, api.KRule, api.KCode, api.KHtml}
	inlines := []int{api.KText, api.KSoft, api.KHard, api.KSpan, api.KEm, api.KStrong, api.KLink, api.KImage, api.KRaw}
	may := map[int][]int{
		api.KDoc: blocks, api.KQuote: blocks, api.KItem: blocks,
		api.KList: {api.KItem},
		api.KPara: inlines, api.KHead: inlines, api.KEm: inlines, api.KStrong: inlines, api.KLink: inlines, api.KImage: inlines,
	}
	for parent := firstKind; parent <= lastKind; parent++ {
		for kid := firstKind - 1; kid <= lastKind+1; kid++ {
			want := slices.Contains(may[parent], kid)
			p := least(parent)
			p.parts = []part{least(kid)}
			tree, _ := around(p)
			holdRight(t, fmt.Sprintf("kind %d in kind %d", kid, parent), tree, want)
			if len(may[parent]) == 0 {
				continue
			}
			// Beside kids that may stand there, too, first and last.
			other := least(may[parent][0])
			p.parts = []part{least(kid), other, other}
			tree, _ = around(p)
			holdRight(t, fmt.Sprintf("kind %d first in kind %d", kid, parent), tree, want)
			p.parts = []part{other, other, least(kid)}
			tree, _ = around(p)
			holdRight(t, fmt.Sprintf("kind %d last in kind %d", kid, parent), tree, want)
		}
	}
}

// P9.1, Right: a list without an item.
func TestRightEmptyLists(t *testing.T) {
	for _, kids := range [][]int{nil, {}} {
		for _, n := range []api.Node{{Level: -1, Text: "-"}, {Level: 0, Text: "."}, {Level: 5, Text: ")", Tight: true}} {
			n.Kind, n.Kids = api.KList, kids
			holdRight(t, "alone", api.Tree{Nodes: []api.Node{{Kind: api.KDoc, Kids: []int{1}}, n}}, false)
			holdRight(t, "ahead of a paragraph", api.Tree{Nodes: []api.Node{{Kind: api.KDoc, Kids: []int{1, 2}}, n, {Kind: api.KPara}}}, false)
			p := part{Node: n}
			holdRight(t, "in an item", document(part{n, []part{of(api.KItem, p)}}), false)
			holdRight(t, "with an item", document(part{n, []part{of(api.KItem)}}), true)
			holdRight(t, "with items", document(part{n, []part{of(api.KItem), of(api.KItem), of(api.KItem)}}), true)
		}
	}
}

// numbered: a tree of the document and quotations with these kids.
func numbered(kids ...[]int) api.Tree {
	t := api.Tree{Nodes: make([]api.Node, len(kids))}
	for i := range kids {
		t.Nodes[i] = api.Node{Kind: api.KQuote, Kids: kids[i]}
	}
	t.Nodes[0].Kind = api.KDoc
	return t
}

// P9.1, Right: how nodes are numbered.
func TestRightNumbers(t *testing.T) {
	type kids = [][]int
	for _, c := range []struct {
		name string
		kids kids
		want bool
	}{
		{"one kid", kids{{1}, {}}, true},
		{"two kids", kids{{1, 2}, {}, {}}, true},
		{"one in another", kids{{1}, {2}, {}}, true},
		{"each kid with all below it", kids{{1, 3, 6}, {2}, {}, {4, 5}, {}, {}, {}}, true},
		{"the first one deep", kids{{1, 4}, {2}, {3}, {}, {}}, true},
		{"the last one deep", kids{{1, 2}, {}, {3}, {4}, {}}, true},
		{"back over several at once", kids{{1, 5}, {2}, {3}, {4}, {}, {6}, {}}, true},

		{"two kids turned round", kids{{2, 1}, {}, {}}, false},
		{"the last two turned round", kids{{1, 3, 2}, {}, {}, {}}, false},
		{"by breadth", kids{{1, 2}, {3}, {4}, {}, {}}, false},
		{"by breadth, one below", kids{{1, 2}, {3}, {}, {}}, false},
		{"a kid's number below its parent's", kids{{2}, {}, {1}}, false},
		{"kids of two nodes turned round", kids{{1, 2}, {4}, {3}, {}, {}}, false},
		{"the kids behind those of the next one", kids{{1, 2, 4}, {3}, {}, {}, {}}, false},

		{"twice in one node", kids{{1, 1}, {}}, false},
		{"twice in one node, others between", kids{{1, 2, 1}, {}, {}}, false},
		{"the last one twice", kids{{1, 2, 2}, {}, {}}, false},
		{"in two nodes", kids{{1, 2}, {2}, {}}, false},
		{"in two nodes beside each other", kids{{1, 2}, {3}, {3}, {}}, false},
		{"in three nodes", kids{{1, 2, 3}, {2, 3}, {3}, {}}, false},

		{"left out", kids{{}, {}}, false},
		{"the first one left out", kids{{2}, {}, {}}, false},
		{"the last one left out", kids{{1}, {}, {}}, false},
		{"one between left out", kids{{1, 3}, {}, {}, {}}, false},
		{"one with a kid left out", kids{{1}, {}, {3}, {}}, false},
		{"left out, but for each other's kids", kids{{}, {2}, {1}}, false},
		{"left out, but for its own kid", kids{{}, {1}}, false},
		{"left out behind others, but for its own kid", kids{{1}, {}, {2}}, false},
		{"all but the document left out", kids{{}, {}, {}, {}}, false},

		{"the document's own kid", kids{{0}}, false},
		{"the document's own kid, behind another", kids{{1, 0}, {}}, false},
		{"its own kid", kids{{1}, {1}}, false},
		{"its own kid, behind another", kids{{1}, {2, 1}, {}}, false},
		{"the document", kids{{1}, {0}}, false},
		{"the document, deep", kids{{1}, {2}, {0}}, false},
		{"an earlier one", kids{{1}, {2}, {1}}, false},
		{"an earlier one beside it", kids{{1, 2}, {}, {1}}, false},

		{"below 0", kids{{-1}, {}}, false},
		{"below 0 behind others", kids{{1, -1}, {}}, false},
		{"below 0 in the last one", kids{{1}, {-1}}, false},
		{"at the number of nodes", kids{{1, 2}, {}}, false},
		{"at the number of nodes in the last one", kids{{1}, {2}}, false},
		{"at the number of nodes in the document", kids{{1}}, false},
		{"beyond the number of nodes", kids{{1, 3}, {}}, false},
		{"beyond the number of nodes alone", kids{{2}, {}}, false},
	} {
		holdRight(t, c.name, numbered(c.kids...), c.want)
	}
}

// P9.1, Right: numbers that no node has, in each place of each list of kids.
func TestRightAnyNumbers(t *testing.T) {
	numbers := append(odd(), 0)
	for at, n := range allKinds().Nodes {
		for kid := range len(n.Kids) + 1 {
			for _, number := range append(numbers, at, at-1, len(allKinds().Nodes), len(allKinds().Nodes)+1) {
				tree := allKinds()
				tree.Nodes[at].Kids = slices.Insert(slices.Clone(n.Kids), kid, number)
				holdRight(t, fmt.Sprintf("%d put in to the kids of %d at %d", number, at, kid), tree, false)
				if kid < len(n.Kids) {
					tree.Nodes[at].Kids = slices.Clone(n.Kids)
					tree.Nodes[at].Kids[kid] = number
					holdRight(t, fmt.Sprintf("%d in the place of kid %d of %d", number, kid, at), tree, false)
				}
			}
			if kid < len(n.Kids) {
				tree := allKinds()
				tree.Nodes[at].Kids = slices.Delete(slices.Clone(n.Kids), kid, kid+1)
				holdRight(t, fmt.Sprintf("kid %d of %d left out", kid, at), tree, false)
			}
		}
	}
}

// P9.1, Right: nodes that no node has as a kid stand behind a right tree, or in it.
func TestRightLooseNodes(t *testing.T) {
	size := len(allKinds().Nodes)
	for kind := firstKind; kind <= lastKind; kind++ {
		tree := allKinds()
		tree.Nodes = append(tree.Nodes, made(least(kind)).Nodes...)
		for i := size; i < len(tree.Nodes); i++ {
			for j := range tree.Nodes[i].Kids {
				tree.Nodes[i].Kids[j] += size
			}
		}
		holdRight(t, fmt.Sprint("kind ", kind, " behind the tree"), tree, false)
	}
}

// P9.1, Right: places of one node.
func TestRightPlaces(t *testing.T) {
	numbers := []int{math.MinInt64, math.MinInt64 + 1, -1 << 32, -2, -1, 0, 1, 2, 1 << 32, math.MaxInt64 - 1, math.MaxInt64}
	for _, from := range numbers {
		for _, to := range numbers {
			want := from >= 0 && from <= to
			holdRight(t, fmt.Sprintf("the document from %d to %d", from, to), made(of(api.KDoc).from(from, to)), want)
			for kind := firstKind + 1; kind <= lastKind; kind++ {
				tree, at := around(least(kind))
				for i := range tree.Nodes {
					tree.Nodes[i].To = math.MaxInt64
				}
				tree.Nodes[at].From, tree.Nodes[at].To = from, to
				for _, kid := range tree.Nodes[at].Kids {
					tree.Nodes[kid].From, tree.Nodes[kid].To = from, to
				}
				holdRight(t, fmt.Sprintf("kind %d from %d to %d", kind, from, to), tree, want)
			}
		}
	}
}

// P9.1, Right: a kid's places within its parent's.
func TestRightPlacesWithin(t *testing.T) {
	for _, c := range []struct{ first, last int }{{0, 0}, {0, 9}, {3, 9}, {5, 5}, {1, math.MaxInt64}, {math.MaxInt64 - 9, math.MaxInt64}, {math.MaxInt64, math.MaxInt64}} {
		near := []int{c.first - 1, c.first, c.first + 1, c.last - 1, c.last, c.last + 1, 0, -1, math.MinInt64, math.MaxInt64}
		for _, from := range near {
			for _, to := range near {
				want := from >= c.first && from <= to && to <= c.last
				name := fmt.Sprintf("from %d to %d, within %d to %d", from, to, c.first, c.last)
				holdRight(t, "a block "+name, made(of(api.KDoc, of(api.KPara).from(from, to)).from(c.first, c.last)), want)
				holdRight(t, "an inline "+name, made(of(api.KDoc, of(api.KPara, of(api.KEm, text("x").from(from, to)).from(c.first, c.last)).from(c.first, c.last)).from(0, math.MaxInt64)), want)
				// The parent's parent may reach farther: that doesn't help.
				list := part{api.Node{Kind: api.KList, Text: "."}, []part{of(api.KItem).from(c.first, c.last), of(api.KItem).from(from, to)}}
				holdRight(t, "an item "+name, made(of(api.KDoc, list.from(c.first, c.last)).from(0, math.MaxInt64)), want)
			}
		}
	}
}

// P9.1, Right: kids may stand anywhere within their parent, in any order and over each other.
func TestRightPlacesOfKids(t *testing.T) {
	places := []api.Piece{{From: 2, To: 2}, {From: 2, To: 5}, {From: 3, To: 4}, {From: 5, To: 5}, {From: 4, To: 5}}
	for _, a := range places {
		for _, b := range places {
			holdRight(t, fmt.Sprint("kids at ", a, b), made(of(api.KDoc, of(api.KPara).from(a.From, a.To), of(api.KRule).from(b.From, b.To)).from(2, 5)), true)
		}
	}
}

// levels: what may be Level of a kind, from the least to the greatest; a second pair, if there is more.
func levels(kind int) [][2]int {
	switch kind {
	case api.KHead:
		return [][2]int{{1, 6}}
	case api.KList:
		return [][2]int{{-1, 999999999}}
	case api.KCode:
		return [][2]int{{0, 0}, {3, math.MaxInt64}}
	case api.KLink:
		return [][2]int{{1, 3}}
	case api.KImage:
		return [][2]int{{1, 2}}
	}
	return [][2]int{{0, 0}}
}

// P9.1, Right: Levels of each kind.
func TestRightLevels(t *testing.T) {
	asked := append(odd(), 999999998, 999999999, 1000000000, 1<<32+3)
	for level := -4; level <= 12; level++ {
		asked = append(asked, level)
	}
	for kind := firstKind; kind <= lastKind; kind++ {
		for _, level := range asked {
			want := slices.ContainsFunc(levels(kind), func(ends [2]int) bool { return ends[0] <= level && level <= ends[1] })
			tree, at := around(least(kind))
			n := &tree.Nodes[at]
			n.Level = level
			if kind == api.KList && level != -1 {
				n.Text = "."
			}
			holdRight(t, fmt.Sprintf("kind %d with Level %d", kind, level), tree, want)
		}
	}
}

// P9.1, Right: each text that a list may have, and others, at each Level.
func TestRightSigns(t *testing.T) {
	levels := []int{math.MinInt64, -2, -1, 0, 1, 2, 10, 999999999, 1000000000, math.MaxInt64}
	for _, level := range levels {
		for _, bullets := range []string{"-", "+", "*"} {
			holdSign(t, bullets, level, level == -1)
		}
		for _, numbers := range []string{".", ")"} {
			holdSign(t, numbers, level, level >= 0 && level <= 999999999)
		}
		for _, other := range []string{"", " ", "(", ":", "_", "#", "--", "-+", "- ", " -", "..", ".)", "1.", "-.", "\x00", "-\x00", "\xff", "\u2022", "\uff0d", "x"} {
			holdSign(t, other, level, false)
		}
		for b := range 256 {
			if sign := string([]byte{byte(b)}); sign != "-" && sign != "+" && sign != "*" && sign != "." && sign != ")" {
				holdSign(t, sign, level, false)
			}
		}
	}
}

func holdSign(t *testing.T, sign string, level int, want bool) {
	t.Helper()
	for _, tight := range []bool{false, true} {
		list := part{api.Node{Kind: api.KList, Level: level, Text: sign, Tight: tight}, []part{of(api.KItem)}}
		holdRight(t, fmt.Sprintf("a list of %q and %d", sign, level), document(list), want)
	}
}

// P9.1, Right: Text, Link, Title, Tight and Pieces of each kind.
func TestRightFields(t *testing.T) {
	texts := []int{api.KCode, api.KHtml, api.KText, api.KSpan, api.KRaw}
	links := []int{api.KCode, api.KLink, api.KImage}
	titles := []int{api.KLink, api.KImage}
	tights := []int{api.KList, api.KHead}
	for kind := firstKind; kind <= lastKind; kind++ {
		hold := func(name string, want bool, change func(n *api.Node)) {
			t.Helper()
			tree, at := around(least(kind))
			change(&tree.Nodes[at])
			holdRight(t, fmt.Sprintf("kind %d %s", kind, name), tree, want)
		}
		for _, s := range []string{"a", "-", "a\nb", " ", "\x00", "\xff", "\u00e9"} {
			want := slices.Contains(texts, kind) || kind == api.KList && s == "-"
			hold(fmt.Sprintf("with Text %q", s), want, func(n *api.Node) { n.Text = s })
			hold(fmt.Sprintf("with Link %q", s), slices.Contains(links, kind), func(n *api.Node) { n.Link = s })
			hold(fmt.Sprintf("with Title %q", s), slices.Contains(titles, kind), func(n *api.Node) { n.Title = s })
			hold("with Link and Title", slices.Contains(titles, kind), func(n *api.Node) { n.Link, n.Title = s, s })
		}
		hold("with an empty Text", kind != api.KText && kind != api.KList, func(n *api.Node) { n.Text = "" })
		hold("without Link and Title", true, func(n *api.Node) { n.Link, n.Title = "", "" })
		hold("and Tight", slices.Contains(tights, kind), func(n *api.Node) { n.Tight = true })
		hold("with a piece", false, func(n *api.Node) { n.Pieces = []api.Piece{{From: 0, To: 0}} })
		hold("with pieces", false, func(n *api.Node) { n.Pieces = []api.Piece{{From: 0, To: 1}, {From: 2, To: 3}} })
		hold("with an empty list of pieces", true, func(n *api.Node) { n.Pieces = []api.Piece{} })
		hold("with no list of pieces", true, func(n *api.Node) { n.Pieces = nil })
		hold("with room for pieces", true, func(n *api.Node) { n.Pieces = make([]api.Piece, 0, 3) })
	}
}

// P9.1, Right: what a kind's Level tells asks nothing of its other fields, but of a list's Text.
func TestRightFieldsTogether(t *testing.T) {
	for _, p := range []part{
		{Node: api.Node{Kind: api.KCode, Link: "go"}},
		{Node: api.Node{Kind: api.KCode, Level: 3}},
		{Node: api.Node{Kind: api.KCode, Level: math.MaxInt64, Text: "a", Link: "b"}},
		{Node: api.Node{Kind: api.KHead, Level: 6, Tight: true}},
		{Node: api.Node{Kind: api.KHead, Level: 1}},
		{Node: api.Node{Kind: api.KLink, Level: 3, Title: "a"}},
		{Node: api.Node{Kind: api.KLink, Level: 1}},
		{Node: api.Node{Kind: api.KLink, Level: 2}, parts: []part{{Node: api.Node{Kind: api.KLink, Level: 2}}}},
		{Node: api.Node{Kind: api.KImage, Level: 2, Title: "a"}},
		{Node: api.Node{Kind: api.KHtml}},
		{Node: api.Node{Kind: api.KSpan}},
		{Node: api.Node{Kind: api.KRaw}},
	} {
		tree, _ := around(p)
		holdRight(t, "fields together", tree, true)
	}
}

// P9.1, Right: what is wrong in one node of many makes the tree wrong, wherever that stands.
func TestRightEachNode(t *testing.T) {
	for at := range allKinds().Nodes {
		for name, change := range map[string]func(n *api.Node){
			"From below 0":       func(n *api.Node) { n.From = -1 },
			"From above To":      func(n *api.Node) { n.From = n.To + 1 },
			"To below From":      func(n *api.Node) { n.To = n.From - 1 },
			"the least Level":    func(n *api.Node) { n.Level = math.MinInt64 },
			"a Level of -2":      func(n *api.Node) { n.Level = -2 },
			"a piece":            func(n *api.Node) { n.Pieces = make([]api.Piece, 1) },
			"its own kid":        func(n *api.Node) { n.Kids = append(n.Kids, at) },
			"a kind below all":   func(n *api.Node) { n.Kind = firstKind - 1 },
			"a kind above all":   func(n *api.Node) { n.Kind = lastKind + 1 },
			"nothing of a node":  func(n *api.Node) { *n = api.Node{} },
			"a kid beyond nodes": func(n *api.Node) { n.Kids = append(n.Kids, len(allKinds().Nodes)) },
		} {
			tree := allKinds()
			change(&tree.Nodes[at])
			holdRight(t, fmt.Sprintf("node %d with %s", at, name), tree, false)
		}
	}
	for at, n := range allKinds().Nodes {
		if at == 0 {
			continue
		}
		parent := allKinds().Nodes[Parents(allKinds())[at]]
		for _, place := range []api.Piece{{From: parent.From - 1, To: n.To}, {From: n.From, To: parent.To + 1}} {
			tree := allKinds()
			tree.Nodes[at].From, tree.Nodes[at].To = place.From, place.To
			holdRight(t, fmt.Sprintf("node %d at %v", at, place), tree, false)
		}
	}
}
