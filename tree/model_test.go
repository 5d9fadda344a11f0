package tree

import (
	"fmt"
	"math"
	"slices"
	"strings"
	"testing"

	"stet/api"
)

// This file holds the calls against a second telling of the chapter, which goes through trees by calling itself and asks each node by a row of a table, at all small trees.

// row is what the chapter tells of a kind: its name, its kids' names, and which fields it may have.
type row struct{ name, kids, level, fields string }

const (
	blockNames  = "quote list para head rule code html"
	inlineNames = "text soft hard span em strong link image raw"
)

// rows: by kind. Levels: "a" 0, "b" -1, "c" 1 and 2, "d" 3, "e" 4 to 6, "f" 7 to 999,999,999, "g" more. Fields: Text, Link, Title, Tight ("g"); "T" a Text that isn't empty, "S" a list's.
func rows() []row {
	return []row{
		{},
		{"doc", blockNames, "a", ""},
		{"quote", blockNames, "a", ""},
		{"list", "item", "abcdef", "Sg"},
		{"item", blockNames, "a", ""},
		{"para", inlineNames, "a", ""},
		{"head", inlineNames, "cde", "g"},
		{"rule", "", "a", ""},
		{"code", "", "adefg", "tl"},
		{"html", "", "a", "t"},
		{"text", "", "a", "T"},
		{"soft", "", "a", ""},
		{"hard", "", "a", ""},
		{"span", "", "a", "t"},
		{"em", inlineNames, "a", ""},
		{"strong", inlineNames, "a", ""},
		{"link", inlineNames, "cd", "lh"},
		{"image", inlineNames, "c", "lh"},
		{"raw", "", "a", "t"},
	}
}

// levelOf: which of the rows' Levels it is; "-": none.
func levelOf(level int) string {
	if level < -1 {
		return "-"
	}
	for i, most := range []int{-1, 0, 2, 3, 6, 999999999} {
		if level <= most {
			return []string{"b", "a", "c", "d", "e", "f"}[i]
		}
	}
	return "g"
}

// modelRow: the row of a kind; an empty one, if there is no such kind.
func modelRow(kind int) row {
	if kind < 0 || kind >= len(rows()) {
		return row{}
	}
	return rows()[kind]
}

// modelFits: whether a node may be, itself and in its parent (nil: none).
func modelFits(n api.Node, parent *api.Node) bool {
	r := modelRow(n.Kind)
	may := func(fields string) bool { return strings.ContainsAny(r.fields, fields) }
	switch {
	case r.name == "", !strings.Contains(r.level, levelOf(n.Level)):
		return false
	case n.From < 0, n.To < n.From, len(n.Pieces) > 0:
		return false
	case n.Text != "" && !may("tTS"), n.Text == "" && may("TS"), n.Link != "" && !may("l"), n.Title != "" && !may("h"), n.Tight && !may("g"):
		return false
	case may("S") && (len(n.Text) != 1 || !strings.Contains(map[bool]string{true: "-+*", false: ".)"}[n.Level == -1], n.Text) || len(n.Kids) == 0):
		return false
	case parent == nil:
		return r.name == "doc"
	}
	return slices.Contains(strings.Fields(modelRow(parent.Kind).kids), r.name) && n.From >= parent.From && n.To <= parent.To
}

// modelOrder: the numbers as they are met by going through the nodes from one on, and of each its parent; false: a number is none, or too many are met.
func modelOrder(t api.Tree, at, parent int, met, above *[]int) bool {
	if at < 0 || at >= len(t.Nodes) || len(*met) == len(t.Nodes) {
		return false
	}
	*met, *above = append(*met, at), append(*above, parent)
	for _, kid := range t.Nodes[at].Kids {
		if !modelOrder(t, kid, at, met, above) {
			return false
		}
	}
	return true
}

// modelParents: nil, if the tree isn't right.
func modelParents(t api.Tree) []int {
	var met, above []int
	if !modelOrder(t, 0, -1, &met, &above) || len(met) != len(t.Nodes) || !slices.IsSorted(met) || len(slices.Compact(slices.Clone(met))) != len(met) {
		return nil
	}
	for i, n := range t.Nodes {
		var parent *api.Node
		if above[i] >= 0 {
			parent = &t.Nodes[above[i]]
		}
		if !modelFits(n, parent) {
			return nil
		}
	}
	return above
}

// modelQuoted: a text between quotes, byte by byte.
func modelQuoted(sign, s string) string {
	if s == "" {
		return ""
	}
	told := ""
	for _, b := range []byte(s) {
		if b >= ' ' && b <= '~' && b != '"' && b != '\\' {
			told += string(rune(b))
		} else {
			told += fmt.Sprintf("\\%02x", b)
		}
	}
	return " " + sign + "\"" + told + "\""
}

// modelShow: a node of a right tree with all below it, so many nodes around it.
func modelShow(t api.Tree, at, depth int, spans bool) string {
	n := t.Nodes[at]
	told := strings.Repeat(" ", depth) + modelRow(n.Kind).name
	if spans {
		told += fmt.Sprintf(" %d-%d", n.From, n.To)
	}
	if n.Level != 0 {
		told += fmt.Sprintf(" #%d", n.Level)
	}
	if n.Tight {
		told += " tight"
	}
	told += modelQuoted("t", n.Text) + modelQuoted("l", n.Link) + modelQuoted("h", n.Title) + "\n"
	for _, kid := range n.Kids {
		told += modelShow(t, kid, depth+1, spans)
	}
	return told
}

// holdAgainstModel: whether the tree is right.
func holdAgainstModel(t *testing.T, tree api.Tree) bool {
	t.Helper()
	want := modelParents(tree)
	if got := parents(t, tree); !slices.Equal(got, want) {
		t.Fatalf("Parents: %v, not %v: %+v", got, want, tree.Nodes)
	}
	if got := right(t, tree); got != (want != nil) {
		t.Fatalf("Right: %v: %+v", got, tree.Nodes)
	}
	for _, spans := range []bool{false, true} {
		told, wantErr := "", api.ErrTree
		if want != nil {
			told, wantErr = modelShow(tree, 0, 0, spans), api.OK
		}
		if got, err := show(t, tree, spans); got != told || err != wantErr {
			t.Fatalf("Show: %q %v, not %q %v: %+v", got, err, told, wantErr, tree.Nodes)
		}
	}
	holdErase(t, "against the model", tree)
	return want != nil
}

// holdSome: that so many of the trees that were held against the model were right.
func holdSome(t *testing.T, got, want int) {
	t.Helper()
	if got != want {
		t.Errorf("%d of the trees are right, not %d", got, want)
	}
}

// lists: all lists of at most so many numbers, from the first to the last one.
func lists(first, last, longest int) [][]int {
	all := [][]int{nil}
	for done := 0; done < len(all); done++ {
		if len(all[done]) == longest {
			continue
		}
		for number := first; number <= last; number++ {
			all = append(all, append(slices.Clone(all[done]), number))
		}
	}
	return all
}

// kidsTrees: all trees of so many nodes, the document and quotations, whose kids are of these lists.
func kidsTrees(size int, lists [][]int, yield func(t api.Tree)) {
	kids := make([][]int, size)
	var fill func(at int)
	fill = func(at int) {
		if at == size {
			yield(numbered(kids...))
			return
		}
		for _, list := range lists {
			kids[at] = list
			fill(at + 1)
		}
	}
	fill(0)
}

// P9.1 to P9.3: all small trees by their numbers. As many are right as there are trees with so many nodes whose kids are in order, of few kids each.
func TestNumbersAgainstModel(t *testing.T) {
	for _, c := range []struct {
		size, first, last, longest int
		want                       int
	}{
		{1, -1, 2, 2, 1},
		{2, -1, 3, 3, 1},
		{3, -1, 3, 2, 2},
		{4, 1, 3, 2, 4}, // five trees, less the one with three kids
		{5, 1, 4, 1, 1}, // the one without branches
	} {
		some := 0
		kidsTrees(c.size, lists(c.first, c.last, c.longest), func(tree api.Tree) {
			if holdAgainstModel(t, tree) {
				some++
			}
		})
		holdSome(t, some, c.want)
	}
}

// P9.1 to P9.3: all kinds within each other, three deep below the document, with what they must have.
func TestKindsAgainstModel(t *testing.T) {
	some := 0
	for a := firstKind - 1; a <= lastKind+1; a++ {
		for b := firstKind - 1; b <= lastKind+1; b++ {
			for c := firstKind - 1; c <= lastKind+1; c++ {
				first, second, third := least(a), least(b), least(c)
				second.parts = []part{third}
				first.parts = []part{second}
				if holdAgainstModel(t, document(first)) {
					some++
				}
			}
		}
	}
	// What stands below a block in the document: in a quotation a list's item, and all that stands in a quotation, a paragraph and a heading (1+7+2*9); in a list's item 7 blocks; in a paragraph and a heading what stands in the four that have inlines, 9 each.
	holdSome(t, some, 1+7+2*9+7+2*4*9)
}

// P9.1 to P9.3: all fields of one node of each kind.
func TestFieldsAgainstModel(t *testing.T) {
	levels := []int{math.MinInt64, -2, -1, 0, 1, 2, 3, 4, 6, 7, 999999999, 1000000000, math.MaxInt64}
	texts := []string{"", "-", "+", "*", ".", ")", "x", "-.", "\n\"\xff"}
	some := 0
	for kind := firstKind; kind <= lastKind; kind++ {
		for _, level := range levels {
			for _, s := range texts {
				for bits := range 16 {
					p := least(kind)
					p.Level, p.Text, p.Tight = level, s, bits&1 > 0
					if bits&2 > 0 {
						p.Link = "a\\"
					}
					if bits&4 > 0 {
						p.Title = "\x7f"
					}
					if bits&8 > 0 {
						p.Pieces = []api.Piece{{From: 0, To: 0}}
					}
					tree, _ := around(p)
					if holdAgainstModel(t, tree) {
						some++
					}
				}
			}
		}
	}
	// Lists: three bullets, and two signs at 8 Levels; headings: 5 Levels; code: 8 Levels, each text; HTML, spans and raw HTML: each text, a text's not the empty one; links and images: three Levels and two; the eight others: nothing.
	holdSome(t, some, 2*(3+2*8)+2*5+2*8*9+3*9+8+4*(3+2)+9)
}

// P9.1 to P9.3: all places of three nodes within each other.
func TestPlacesAgainstModel(t *testing.T) {
	some := 0
	numbers := lists(-1, 3, 6)
	for _, at := range numbers[len(numbers)-5*5*5*5*5*5:] {
		tree := made(of(api.KDoc, of(api.KPara, of(api.KSoft).from(at[4], at[5])).from(at[2], at[3])).from(at[0], at[1]))
		if holdAgainstModel(t, tree) {
			some++
		}
	}
	// Six numbers from 0 to 3 that don't fall, from the first From on to the first To: 3+6 of 6.
	holdSome(t, some, 84)
}

// treeOf: a tree of which each byte tells something, mostly one that is nearly right.
func treeOf(told []byte) api.Tree {
	next := func() int {
		if len(told) == 0 {
			return 0
		}
		b := told[0]
		told = told[1:]
		return int(b)
	}
	root := of(api.KDoc).from(0, 200)
	path := []*part{&root}
	for len(told) > 0 {
		p := least(next() % 20)
		p.parts = nil
		path = path[:1+next()%len(path)]
		parent := path[len(path)-1]
		p.From, p.To = parent.From, parent.To
		switch change := next(); change {
		case 0, 1, 2:
			p.Level = next() - 3
		case 3, 4:
			p.Text = string([]byte{byte(next())})
		case 5:
			p.Link = string([]byte{byte(next()), '"'})
		case 6:
			p.Title = string([]byte{'\\', byte(next())})
		case 7:
			p.Tight = true
		case 8:
			p.From = next()
		case 9:
			p.To = next()
		case 10:
			p.Pieces = []api.Piece{{From: next(), To: next()}}
		}
		parent.parts = append(parent.parts, p)
		path = append(path, &parent.parts[len(parent.parts)-1])
	}
	return made(root)
}

// P9.1 to P9.3: any trees, and those in which one number among kids is another one.
func FuzzAgainstModel(f *testing.F) {
	f.Add("\x05\x00\xff\x0a\x01\xff\x0a\x01\xff", 9, 0, 0)
	f.Add("\x03\x00\xff\x04\x01\xff\x04\x01\xff\x05\x02\xff\x10\x03\x05\x41", 1, 0, 2)
	f.Add("\x02\x00\xff\x02\x01\xff\x02\x02\xff\x07\x01\xff", 0, 1, -1)
	f.Add("", 0, 0, 0)
	f.Fuzz(func(t *testing.T, told string, at, kid, number int) {
		if len(told) > 200 {
			t.Skip()
		}
		tree := treeOf([]byte(told))
		holdAgainstModel(t, tree)
		if at >= 0 && at < len(tree.Nodes) && kid >= 0 && kid < len(tree.Nodes[at].Kids) {
			tree.Nodes[at].Kids[kid] = number
			holdAgainstModel(t, tree)
		}
	})
}
