package inline

import (
	"reflect"
	"slices"
	"strconv"
	"strings"
	"testing"

	"stet/api"
	"stet/tree"
)

// asked: a text, and the inlines that it has, as told tells them.
type asked struct{ name, s, want string }

// somewhere: definitions of which each test may ask some.
func somewhere() []api.Def {
	return []api.Def{
		{Label: "a", Link: "u", Title: "t", From: 1, To: 2},
		{Label: "b c", Link: "v"},
		{Label: "a", Link: "w", Title: "second"},
		{Label: "D", Link: "capital"},
		{Label: "ss", Link: "s"},
		{Label: "*x*", Link: "stars"},
		{Label: "q\\]", Link: "backslash"},
	}
}

// told: the inlines of a paragraph, each with its place: texts in quotes, others by their names, with what they have.
func told(t api.Tree) string {
	return strings.Join(toldKids(t, 0), " ")
}

func toldKids(t api.Tree, at int) []string {
	var words []string
	for _, kid := range t.Nodes[at].Kids {
		words = append(words, toldNode(t, kid))
	}
	return words
}

func toldNode(t api.Tree, at int) string {
	n := t.Nodes[at]
	place := strconv.Itoa(n.From) + "-" + strconv.Itoa(n.To)
	switch n.Kind {
	case api.KText:
		return strconv.Quote(n.Text) + place
	case api.KSoft:
		return "soft" + place
	case api.KHard:
		return "hard" + place
	case api.KSpan:
		return "span" + place + strconv.Quote(n.Text)
	case api.KRaw:
		return "raw" + place + strconv.Quote(n.Text)
	}
	names := map[int]string{api.KEm: "em", api.KStrong: "strong", api.KLink: "link", api.KImage: "image"}
	word := names[n.Kind] + place
	if n.Kind == api.KLink || n.Kind == api.KImage {
		word += "#" + strconv.Itoa(n.Level) + "(" + n.Link + "|" + n.Title + ")"
	}
	return word + "{" + strings.Join(toldKids(t, at), " ") + "}"
}

// parsed: what Parse answers, of which what must be true of each answer is held.
func parsed(t *testing.T, s string, defs []api.Def) api.Tree {
	t.Helper()
	// P13.2: what is handed in stays, what lies behind the list's length too.
	room := append(append(make([]api.Def, 0, len(defs)+2), defs...), api.Def{Label: "room", Link: "r"}, api.Def{Label: "a", Link: "r"})
	copied, text := slices.Clone(room), strings.Clone(s)
	got := Parse(s, room[:len(defs)])
	if !slices.Equal(room, copied) || s != text {
		t.Fatalf("%q: what was handed in has changed: %q, %v", text, s, room)
	}
	if again := Parse(s, defs); !reflect.DeepEqual(got, again) {
		t.Fatalf("%q: %v, and then %v", s, got, again)
	}
	holdAlways(t, s, got)
	return got
}

// holdAlways: P13.1: the first node, a right tree, and no two KTexts directly behind each other.
func holdAlways(t *testing.T, s string, got api.Tree) {
	t.Helper()
	if n := got.Nodes[0]; n.Kind != api.KPara || n.From != 0 || n.To != len(s) {
		t.Fatalf("%q: the first node is %+v", s, n)
	}
	if !tree.Right(inDocument(got)) {
		t.Fatalf("%q: the tree isn't right: %+v", s, got.Nodes)
	}
	for _, n := range got.Nodes {
		for i := 1; i < len(n.Kids); i++ {
			left, right := got.Nodes[n.Kids[i-1]], got.Nodes[n.Kids[i]]
			if left.Kind == api.KText && right.Kind == api.KText || left.To != right.From {
				t.Fatalf("%q: %+v ahead of %+v", s, left, right)
			}
		}
	}
}

// inDocument: a document with this paragraph alone.
func inDocument(para api.Tree) api.Tree {
	doc := []api.Node{{Kind: api.KDoc, To: para.Nodes[0].To, Kids: []int{1}}}
	for _, n := range para.Nodes {
		n.Kids = slices.Clone(n.Kids)
		for i := range n.Kids {
			n.Kids[i]++
		}
		doc = append(doc, n)
	}
	return api.Tree{Nodes: doc}
}

// hold: a text's inlines are these.
func hold(t *testing.T, name, s string, defs []api.Def, want string) {
	t.Helper()
	if got := told(parsed(t, s, defs)); got != want {
		t.Errorf("%s: %q\n got %s\nwant %s", name, s, got, want)
	}
}

// holdAll: each text's inlines are those that are told.
func holdAll(t *testing.T, cases []asked) {
	t.Helper()
	for _, c := range cases {
		hold(t, c.name, c.s, somewhere(), c.want)
	}
}
