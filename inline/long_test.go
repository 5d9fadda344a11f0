package inline

import (
	"strconv"
	"strings"
	"testing"

	"stet/api"
)

// long is a text of many parts, and what is held of its answer: how many nodes it has, how deep they stand, and how it ends.
type long struct {
	name, s     string
	nodes, deep int
	last        api.Node
}

// depth: how deep the deepest node stands.
func depth(t api.Tree) int {
	depths, most := make([]int, len(t.Nodes)), 0
	for i, n := range t.Nodes {
		most = max(most, depths[i])
		for _, kid := range n.Kids {
			depths[kid] = depths[i] + 1
		}
	}
	return most
}

// holdLong: of each text what is told of it, without asking a second telling.
func holdLong(t *testing.T, cases []long) {
	t.Helper()
	for _, c := range cases {
		got := Parse(c.s, somewhere())
		holdAlways(t, c.s, got)
		last := got.Nodes[len(got.Nodes)-1]
		last.Kids = nil
		if len(got.Nodes) != c.nodes || depth(got) != c.deep {
			t.Errorf("%s: %d nodes, %d deep, not %d, %d", c.name, len(got.Nodes), depth(got), c.nodes, c.deep)
		}
		if last.Kind != c.last.Kind || last.From != c.last.From || last.To != c.last.To || last.Link != c.last.Link {
			t.Errorf("%s: the last node is of kind %d from %d to %d", c.name, last.Kind, last.From, last.To)
		}
		if c.last.Text != "" && last.Text != c.last.Text {
			t.Errorf("%s: the last node's text has %d bytes", c.name, len(last.Text))
		}
	}
}

// alone: a text that is one KText of itself.
func alone(name, s string) long {
	return long{name, s, 2, 1, api.Node{Kind: api.KText, To: len(s), Text: s}}
}

// times: a text of so many bytes, or somewhat less, of this piece again and again.
func times(piece string) string { return strings.Repeat(piece, api.MaxText/len(piece)) }

// P13.1: texts of half a million parts that make nothing: what isn't there is not to be looked for again and again.
func TestManyPartsThatMakeNothing(t *testing.T) {
	var rows strings.Builder
	for n := 1; rows.Len() < api.MaxText; n++ {
		rows.WriteString(strings.Repeat("`", n) + "a")
	}
	half := api.MaxText / 2
	holdLong(t, []long{
		alone("open brackets", times("[")),
		alone("images' brackets", times("![")),
		alone("closing brackets", times("]")),
		alone("open, then closing brackets", strings.Repeat("[", half)+strings.Repeat("]", half)),
		alone("brackets that lead nowhere", times("[x]")),
		alone("brackets and no end of parentheses", times("[x](")),
		alone("brackets and no end of \"<\"", times("[x](<y")),
		alone("brackets and no end of a title", times("[x](y (")),
		alone("a bracket and many blanks", "[x]("+times(" ")+"y"),
		alone("rows of backquotes, each of another length", rows.String()),
		alone("rows that open", times("*a **b _c ")+"d"),
		alone("rows that close", "a"+times("* b** c_ d")),
		alone("marks", times("*")),
		alone("\"<\"", times("<")),
		alone("comments without an end", times("<!--")),
		alone("instructions without an end", times("<?")),
		alone("declarations without an end", times("<!A")),
		alone("sections without an end", times("<![CDATA[")),
		alone("tags without an end", times("<a b='")),
		alone("URLs without an end", times("<ab:")),
		alone("addresses without an end", times("<a@b.")),
		alone("\"&\"", times("&")),
		alone("blanks within", "a"+times(" ")+"b"),
		alone("blanks and tabs within", "a"+times("  \t")+"b"),
	})
}

// P13.1: half a million parts that make something.
func TestManyPartsThatMakeSomething(t *testing.T) {
	const many = 100000
	again := func(piece string) string { return strings.Repeat(piece, many) }
	end := func(piece string) int { return many * len(piece) }
	holdLong(t, []long{
		{"entities", again("&lt;"), 2, 1, api.Node{Kind: api.KText, To: end("&lt;"), Text: again("<")}},
		{"backslashes", again("\\*"), 2, 1, api.Node{Kind: api.KText, To: end("\\*"), Text: again("*")}},
		{"rows of backquotes that a backslash cuts", times("\\``a"), 2, 1, api.Node{Kind: api.KText, To: api.MaxText, Text: strings.Repeat("``a", api.MaxText/4)}},
		{"spans", again("`a` "), 2 * many, 1, api.Node{Kind: api.KSpan, From: end("`a` ") - 4, To: end("`a` ") - 1}},
		{"HTML", again("<b>"), many + 1, 1, api.Node{Kind: api.KRaw, From: end("<b>") - 3, To: end("<b>")}},
		{"links", again("[x](y)"), 2*many + 1, 2, api.Node{Kind: api.KText, From: end("[x](y)") - 5, To: end("[x](y)") - 4}},
		{"links by labels", again("[a] "), 3 * many, 2, api.Node{Kind: api.KText, From: end("[a] ") - 3, To: end("[a] ") - 2}},
		{"links by labels behind", again("[x][a]"), 2*many + 1, 2, api.Node{Kind: api.KText, From: end("[x][a]") - 5, To: end("[x][a]") - 4}},
		{"links behind open brackets", again("[") + again("[](y)"), many + 2, 1, api.Node{Kind: api.KLink, From: 6*many - 5, To: 6 * many, Link: "y"}},
		{"links behind images' brackets", again("![") + again("[](y)"), many + 2, 1, api.Node{Kind: api.KLink, From: 7*many - 5, To: 7 * many, Link: "y"}},
		{"brackets that are asleep", again("[") + "[](y)" + again("](z)"), 4, 1, api.Node{Kind: api.KText, From: many + 5, To: 5*many + 5}},
		{"emphasis", again("*a* "), 3 * many, 2, api.Node{Kind: api.KText, From: end("*a* ") - 3, To: end("*a* ") - 2}},
		{"line's ends", "a" + again(" \nb"), 2*many + 2, 1, api.Node{Kind: api.KText, From: 3 * many, To: 3*many + 1}},
		{"two rows of backquotes", again("`") + "a" + again("`"), 2, 1, api.Node{Kind: api.KSpan, To: 2*many + 1}},
	})
}

// P13.1: parts as deep in one another as may be.
func TestDeepParts(t *testing.T) {
	const deep = 1 << 16
	again := func(piece string) string { return strings.Repeat(piece, deep) }
	holdLong(t, []long{
		{"images", again("![") + again("](y)"), deep + 1, deep, api.Node{Kind: api.KImage, From: 2*deep - 2, To: 2*deep + 4, Link: "y"}},
		{"rows of one mark", again("*a ") + "b" + again(" c*"), 3 * deep, deep + 1, api.Node{Kind: api.KText, From: 6*deep - 2, To: 6 * deep}},
		{"two rows of many marks", again("**") + "a" + again("**"), deep + 2, deep + 1, api.Node{Kind: api.KText, From: 2 * deep, To: 2*deep + 1}},
		{"stars and underscores", strings.Repeat("*a _b ", deep/2) + "c" + strings.Repeat(" d_ e*", deep/2), 3 * deep, deep + 1, api.Node{Kind: api.KText, From: 6*deep - 2, To: 6 * deep}},
	})
}

// P13.1: of many definitions the first one of a label counts.
func TestManyDefinitions(t *testing.T) {
	const many = 20000
	var defs []api.Def
	var s strings.Builder
	for i := range 2 * many {
		number := strconv.Itoa(i % many)
		defs = append(defs, api.Def{Label: number, Link: "link " + strconv.Itoa(i), Title: number})
		s.WriteString("[" + number + "] ")
	}
	got := parsed(t, s.String(), defs)
	if len(got.Nodes) != 6*many {
		t.Fatalf("%d nodes", len(got.Nodes))
	}
	for i := range 2 * many {
		number, at := strconv.Itoa(i%many), got.Nodes[0].Kids[2*i]
		if n := got.Nodes[at]; n.Kind != api.KLink || n.Link != "link "+number || n.Title != number || got.Nodes[at+1].Text != number {
			t.Fatalf("%d: %+v", i, n)
		}
	}
}
