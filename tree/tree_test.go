package tree

import (
	"fmt"
	"slices"
	"strings"
	"testing"
	"unsafe"

	"stet/api"
)

// P9.1, Parents.
func TestParents(t *testing.T) {
	broad := of(api.KPara)
	wide := []int{-1, 0}
	for i := range 300 {
		broad.parts = append(broad.parts, text(fmt.Sprint(i)))
		wide = append(wide, 1)
	}
	for _, c := range []struct {
		name string
		tree api.Tree
		want []int
	}{
		{"the document alone", document(), []int{-1}},
		{"one kid", document(of(api.KPara)), []int{-1, 0}},
		{"two kids", document(of(api.KPara), of(api.KRule)), []int{-1, 0, 0}},
		{"one in another", document(of(api.KPara, text("a"))), []int{-1, 0, 1}},
		{"kids of several depths", document(of(api.KQuote, of(api.KQuote, of(api.KPara, text("a"))), of(api.KRule)), of(api.KPara, text("b"), of(api.KSoft))), []int{-1, 0, 1, 2, 3, 1, 0, 6, 6}},
		{"back over several at once", document(of(api.KQuote, of(api.KQuote, of(api.KQuote))), of(api.KRule)), []int{-1, 0, 1, 2, 0}},
		{"a list", document(least(api.KList), least(api.KList)), []int{-1, 0, 1, 0, 3}},
		{"many kids", document(broad), wide},
		{"every kind", allKinds(), []int{-1, 0, 1, 2, 3, 4, 4, 4, 4, 4, 9, 4, 11, 4, 13, 4, 15, 4, 2, 0, 19, 0, 0, 0}},
		{"no nodes", api.Tree{}, nil},
		{"an empty list of nodes", api.Tree{Nodes: []api.Node{}}, nil},
		{"no document", made(of(api.KQuote, of(api.KPara))), nil},
		{"a kid twice", numbered([]int{1, 1}, nil), nil},
		{"another order", numbered([]int{2, 1}, nil, nil), nil},
		{"a node left out", numbered([]int{1}, nil, nil), nil},
		{"a kid beyond the nodes", numbered([]int{1, 2}, nil), nil},
		{"a wrong kid", document(text("a")), nil},
		{"a wrong place", made(of(api.KDoc, of(api.KPara).from(1, 2)).from(0, 1)), nil},
		{"a wrong last node", document(of(api.KPara, text("a"), text(""))), nil},
	} {
		got := parents(t, c.tree)
		if !slices.Equal(got, c.want) {
			t.Errorf("%s: %v, not %v", c.name, got, c.want)
		}
	}
}

// P9.1, Erase: of right trees, and of those that aren't.
func TestErase(t *testing.T) {
	for _, c := range []struct {
		name       string
		tree, want api.Tree
	}{
		{"no nodes", api.Tree{}, api.Tree{}},
		{"an empty list of nodes", api.Tree{Nodes: []api.Node{}}, api.Tree{}},
		{"the document alone", made(of(api.KDoc).from(0, 9)), document()},
		{"no places", document(of(api.KPara, text("a"))), document(of(api.KPara, text("a")))},
		{"places", made(of(api.KDoc, of(api.KPara, text("a").from(2, 3)).from(1, 4)).from(0, 5)), document(of(api.KPara, text("a")))},
		{
			"Pieces",
			api.Tree{Nodes: []api.Node{{Kind: api.KDoc, To: 9, Kids: []int{1}}, {Kind: api.KHead, From: 1, To: 2, Level: 1, Tight: true, Pieces: []api.Piece{{From: 1, To: 2}, {From: 3, To: 4}}}}},
			api.Tree{Nodes: []api.Node{{Kind: api.KDoc, Kids: []int{1}}, {Kind: api.KHead, Level: 1, Tight: true}}},
		},
		{
			"wrong places, Pieces and kids",
			api.Tree{Nodes: []api.Node{{Kind: -7, From: 5, To: -3, Level: -9, Text: "\xff", Link: "b", Title: "c", Tight: true, Kids: []int{5, 0, -1, 5}, Pieces: []api.Piece{{From: -1, To: -2}}}, {}}},
			api.Tree{Nodes: []api.Node{{Kind: -7, Level: -9, Text: "\xff", Link: "b", Title: "c", Tight: true, Kids: []int{5, 0, -1, 5}}, {}}},
		},
	} {
		if got := erase(t, c.tree); !same(got, c.want) {
			t.Errorf("%s: %+v, not %+v", c.name, got.Nodes, c.want.Nodes)
		}
		holdErase(t, c.name, c.tree)
	}
}

// P9.1, Erase: what is erased is right where the tree was, and erasing again changes nothing.
func TestEraseStaysRight(t *testing.T) {
	erased := erase(t, allKinds())
	holdRight(t, "erased", erased, true)
	if again := erase(t, erased); !same(again, erased) {
		t.Errorf("%+v", again)
	}
	if got, want := parents(t, erased), parents(t, allKinds()); !slices.Equal(got, want) {
		t.Error(got, want)
	}
	before, _ := show(t, allKinds(), false)
	behind, _ := show(t, erased, false)
	if before != behind {
		t.Errorf("%q, not %q", behind, before)
	}
	for i, n := range erased.Nodes {
		if n.From != 0 || n.To != 0 || len(n.Pieces) != 0 {
			t.Errorf("%d: %+v", i, n)
		}
	}
}

// overlap: whether two pieces of memory share a byte; each from its first byte on, so many bytes.
func overlap(a uintptr, n uintptr, b uintptr, m uintptr) bool {
	return n > 0 && m > 0 && a < b+m && b < a+n
}

// room is the memory of a list or text: where it begins, and how many bytes it has, spare room too.
type room struct{ at, size uintptr }

func roomOf[E any](list []E) room {
	var one E
	return room{uintptr(unsafe.Pointer(unsafe.SliceData(list))), uintptr(cap(list)) * unsafe.Sizeof(one)}
}

func textRoom(s string) room {
	return room{uintptr(unsafe.Pointer(unsafe.StringData(s))), uintptr(len(s))}
}

func rooms(t api.Tree) []room {
	all := []room{roomOf(t.Nodes)}
	for _, n := range t.Nodes[:cap(t.Nodes)] {
		all = append(all, roomOf(n.Kids), roomOf(n.Pieces), textRoom(n.Text), textRoom(n.Link), textRoom(n.Title))
	}
	return all
}

// holdApart: that no list or text of an answer shares memory with what was handed in, nor with another one of the answer.
func holdApart(t *testing.T, name string, answer []room, given api.Tree) {
	t.Helper()
	for i, a := range answer {
		for _, b := range append(rooms(given), answer[:i]...) {
			if overlap(a.at, a.size, b.at, b.size) {
				t.Fatalf("%s: what is answered shares memory: %+v", name, given.Nodes)
			}
		}
	}
}

// heap: the same text in memory of its own.
func heap(s string) string { return string(append([]byte(nil), s...)) }

// sharing: trees whose lists and texts share memory with each other.
func sharing() []api.Tree {
	row := []int{1, 2, 3, 4, 5}
	long := heap("a long text of which pieces are handed in")
	pieces := make([]api.Piece, 4)
	return []api.Tree{
		{Nodes: []api.Node{{Kind: api.KDoc, Kids: row[0:2]}, {Kind: api.KPara, Kids: row[1:1]}, {Kind: api.KPara, Kids: row[2:2]}}},
		{Nodes: []api.Node{{Kind: api.KDoc, Kids: row[0:1]}, {Kind: api.KPara, Kids: row[1:2]}, {Kind: api.KText, Text: long[2:6]}}},
		{Nodes: []api.Node{{Kind: api.KDoc, Kids: row}, {Kind: api.KDoc, Kids: row}, {Kind: api.KDoc, Kids: row[:0]}}},
		{Nodes: []api.Node{{Kind: api.KDoc, Text: long, Link: long, Title: long, Pieces: pieces}, {Kind: api.KText, Text: long[:5], Link: long[3:], Title: long[1:9], Pieces: pieces[:2]}}},
	}
}

// P9.3: what is answered is new memory, spare room too, and no two lists of an answer share any.
func TestAnswersAreNew(t *testing.T) {
	trees := append(sharing(), api.Tree{}, api.Tree{Nodes: []api.Node{}}, api.Tree{Nodes: make([]api.Node, 0, 3)}, document(), allKinds(), copied(allKinds()))
	for i, tree := range trees {
		for j := range tree.Nodes {
			n := &tree.Nodes[j]
			if i >= len(sharing()) {
				n.Text, n.Link, n.Title = heap(n.Text), heap(n.Link), heap(n.Title)
			}
		}
		name := fmt.Sprint("tree ", i)
		holdApart(t, name+", Erase", rooms(Erase(tree)), tree)
		holdApart(t, name+", Parents", []room{roomOf(Parents(tree))}, tree)
		shown, _ := Show(tree, true)
		holdApart(t, name+", Show", []room{textRoom(shown)}, tree)
	}
}

// P9.3: two answers share no memory either, and what is written to one changes neither the tree nor the next answer.
func TestAnswersAreNotKept(t *testing.T) {
	l := lend(allKinds())
	want := erase(t, allKinds())
	first, second := Erase(l.tree), Erase(l.tree)
	nodes := first.Nodes[:cap(first.Nodes)]
	for i := range nodes {
		kids := nodes[i].Kids[:cap(nodes[i].Kids)]
		for j := range kids {
			kids[j] = -5
		}
		for _, n := range nodes[i+1:] {
			if slices.Contains(n.Kids, -5) {
				t.Fatalf("the kids of %d are another's, too", i)
			}
		}
		nodes[i] = api.Node{Kind: -6}
	}
	l.kept(t, "a change of Erase's answer")
	if third := Erase(l.tree); !same(second, want) || !same(third, want) {
		t.Errorf("%+v\n%+v\n%+v", second, third, want)
	}
	numbers, others := Parents(l.tree), Parents(l.tree)
	for i := range numbers[:cap(numbers)] {
		numbers[:cap(numbers)][i] = 99
	}
	l.kept(t, "a change of Parents' answer")
	if again := Parents(l.tree); slices.Contains(others, 99) || !slices.Equal(again, others) {
		t.Error(others, again)
	}
}

// P9.3: an answer stays as it is when the tree that was handed in is changed.
func TestAnswersStay(t *testing.T) {
	tree := copied(allKinds())
	erased, numbers := Erase(tree), Parents(tree)
	want, wantNumbers := copied(erased), slices.Clone(numbers)
	for i := range tree.Nodes[:cap(tree.Nodes)] {
		n := &tree.Nodes[:cap(tree.Nodes)][i]
		for j := range n.Kids[:cap(n.Kids)] {
			n.Kids[:cap(n.Kids)][j] = 99
		}
		*n = api.Node{Kind: 98}
	}
	if !same(erased, want) || !slices.Equal(numbers, wantNumbers) {
		t.Error(erased, numbers)
	}
}

// P2: nil lists and empty ones are the same, in each list of a tree.
func TestNilAndEmpty(t *testing.T) {
	filled := allKinds()
	for i := range filled.Nodes {
		n := &filled.Nodes[i]
		if n.Pieces = []api.Piece{}; n.Kids == nil {
			n.Kids = []int{}
		}
	}
	bare := copied(filled)
	for i := range bare.Nodes {
		n := &bare.Nodes[i]
		if n.Pieces = nil; len(n.Kids) == 0 {
			n.Kids = nil
		}
	}
	first, err := show(t, filled, true)
	second, secondErr := show(t, bare, true)
	if first == "" || first != second || err != api.OK || secondErr != api.OK {
		t.Errorf("%q %v %q %v", first, err, second, secondErr)
	}
	if !right(t, filled) || !right(t, bare) || !slices.Equal(parents(t, filled), parents(t, bare)) || !same(erase(t, filled), erase(t, bare)) {
		t.Error("nil lists and empty ones are told apart")
	}
	for _, tree := range []api.Tree{{}, {Nodes: []api.Node{}}, {Nodes: make([]api.Node, 0, 5)}, {Nodes: document().Nodes[:0]}} {
		holdRight(t, "no nodes", tree, false)
	}
}

// P1: nodes that lie behind a list's length are none of the tree, and kids there none of the node.
func TestBehindLength(t *testing.T) {
	nodes := document(of(api.KPara, text("a")), of(api.KRule)).Nodes
	holdRight(t, "a node behind the length", api.Tree{Nodes: nodes[:3]}, false)
	nodes[0].Kids = nodes[0].Kids[:1]
	holdRight(t, "a node and a kid behind the length", api.Tree{Nodes: nodes[:3]}, true)
	holdRight(t, "a kid behind the length", api.Tree{Nodes: nodes}, false)
	for _, kids := range [][]int{{1}, {1, 2}} {
		tree := api.Tree{Nodes: append(make([]api.Node, 0, 3), api.Node{Kind: api.KDoc, Kids: kids})}
		tree.Nodes[:2][1] = api.Node{Kind: api.KPara}
		if Right(tree) || len(Parents(tree)) != 0 || len(Erase(tree).Nodes) != 1 {
			t.Error(kids)
		}
	}
}

// deep: so many quotations within each other, the document around them and a text in the last one.
func deep(n int) api.Tree {
	t := document()
	for i := range n {
		t.Nodes[i].Kids = []int{i + 1}
		t.Nodes = append(t.Nodes, api.Node{Kind: api.KQuote})
	}
	t.Nodes[n].Kids = []int{n + 1}
	t.Nodes = append(t.Nodes, api.Node{Kind: api.KPara, Kids: []int{n + 2}}, api.Node{Kind: api.KText, Text: "a"})
	for i := range t.Nodes {
		t.Nodes[i].From, t.Nodes[i].To = i, 2*len(t.Nodes)-i
	}
	return t
}

// broad: so many paragraphs beside each other, each with a text.
func broad(n int) api.Tree {
	t := document()
	for i := range n {
		t.Nodes[0].Kids = append(t.Nodes[0].Kids, 2*i+1)
		t.Nodes = append(t.Nodes, api.Node{Kind: api.KPara, From: i, To: i + 1, Kids: []int{2*i + 2}}, api.Node{Kind: api.KText, From: i, To: i + 1, Text: "a"})
	}
	t.Nodes[0].To = n
	return t
}

// P1 and P9.1: large trees, right ones and ones whose last node is wrong.
func TestLargeTrees(t *testing.T) {
	above := func(at int) int { return at - 1 }
	aside := func(at int) int { return (at - 1) * (1 - at%2) } // texts are even, and stand behind their paragraphs
	for _, c := range []struct {
		name   string
		tree   api.Tree
		parent func(at int) int
	}{
		{"deep", deep(1 << 16), above},
		{"deeper", deep(1 << 18), above},
		{"broad", broad(1 << 18), aside},
	} {
		nodes := c.tree.Nodes
		last := len(nodes) - 1
		if !Right(c.tree) {
			t.Errorf("%s: not right", c.name)
		}
		numbers := Parents(c.tree)
		if len(numbers) != len(nodes) || numbers[0] != -1 {
			t.Fatalf("%s: %d parents of %d nodes", c.name, len(numbers), len(nodes))
		}
		for at := 1; at < len(numbers); at++ {
			if numbers[at] != c.parent(at) {
				t.Fatalf("%s: the parent of %d is %d", c.name, at, numbers[at])
			}
		}
		erased := Erase(c.tree)
		if len(erased.Nodes) != len(nodes) || erased.Nodes[last].To != 0 || !Right(erased) {
			t.Errorf("%s: erased", c.name)
		}
		nodes[last].Text = ""
		if Right(c.tree) || len(Parents(c.tree)) != 0 {
			t.Errorf("%s: right with a wrong last node", c.name)
		}
		nodes[last].Text, nodes[last].Kids = "a", []int{last}
		if shown, err := Show(c.tree, true); Right(c.tree) || shown != "" || err != api.ErrTree {
			t.Errorf("%s: right with a node in itself", c.name)
		}
	}
}

// P1 and P9.2: large trees are shown.
func TestShowLargeTrees(t *testing.T) {
	const depth, width = 1 << 13, 1 << 18
	shown, err := Show(deep(depth), false)
	lines := strings.Split(shown, "\n")
	if err != api.OK || len(lines) != depth+4 || lines[depth+3] != "" {
		t.Fatal(len(lines), err)
	}
	for i, name := range map[int]string{0: "doc", 1: "quote", depth: "quote", depth + 1: "para", depth + 2: `text t"a"`} {
		if lines[i] != strings.Repeat(" ", i)+name {
			t.Errorf("line %d: %d bytes, %q", i, len(lines[i]), strings.TrimLeft(lines[i], " "))
		}
	}
	if shown, err := Show(broad(width), false); shown != "doc\n"+strings.Repeat(" para\n  text t\"a\"\n", width) || err != api.OK {
		t.Error(len(shown), err)
	}
	long := document(of(api.KPara, text(strings.Repeat("a\xff", 1<<20))))
	if shown, err := Show(long, false); shown != "doc\n para\n  text t\""+strings.Repeat(`a\ff`, 1<<20)+"\"\n" || err != api.OK {
		t.Error(len(shown), err)
	}
}
