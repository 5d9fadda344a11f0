package inline

import (
	"reflect"
	"slices"
	"strings"
	"testing"
	"unsafe"

	"stet/api"
)

// room is some memory: where it begins, and where it ends.
type room struct{ from, to uintptr }

func roomOfText(s string) room {
	from := uintptr(unsafe.Pointer(unsafe.StringData(s)))
	return room{from, from + uintptr(len(s))}
}

// roomOfList: spare room too.
func roomOfList[T any](list []T) room {
	var one T
	from := uintptr(unsafe.Pointer(unsafe.SliceData(list)))
	return room{from, from + uintptr(cap(list))*unsafe.Sizeof(one)}
}

func (r room) shares(other room) bool { return r.from < other.to && other.from < r.to }

// listsOf: the memory of a tree's lists.
func listsOf(t api.Tree) []room {
	rooms := []room{roomOfList(t.Nodes)}
	for _, n := range t.Nodes {
		rooms = append(rooms, roomOfList(n.Kids), roomOfList(n.Pieces))
	}
	return rooms
}

// textsOf: the memory of a tree's texts.
func textsOf(t api.Tree) []room {
	var rooms []room
	for _, n := range t.Nodes {
		rooms = append(rooms, roomOfText(n.Text), roomOfText(n.Link), roomOfText(n.Title))
	}
	return rooms
}

// allKinds: a text that has inlines of every kind.
const allKinds = " *abc* **abc** `abc` `a\nc` <abc> <abc:d> <abc@d> [abc](def 'ghi') ![abc](<def> \"ghi\") [abc][label] ![label][] [label] &amp;\\*abc\\\nabc  \nabc\n*left** [left "

func allDefs() []api.Def {
	return []api.Def{{Label: strings.Clone("label"), Link: strings.Clone("where it leads"), Title: strings.Clone("its title")}}
}

// P13.2: what is answered shares no memory with what is handed in, nor lists with one another or with another answer.
func TestAnswersAreNewMemory(t *testing.T) {
	s, defs := strings.Clone(allKinds), allDefs()
	first, second := Parse(s, defs), Parse(s, defs)
	given := []room{roomOfText(s), roomOfList(defs), roomOfText(defs[0].Label), roomOfText(defs[0].Link), roomOfText(defs[0].Title)}
	for _, answered := range slices.Concat(listsOf(first), textsOf(first)) {
		for i, g := range given {
			if answered.shares(g) {
				t.Errorf("an answer shares memory with what was handed in: %d", i)
			}
		}
	}
	lists := slices.Concat(listsOf(first), listsOf(second))
	for i := range lists {
		for j := range i {
			if lists[i].shares(lists[j]) {
				t.Errorf("lists %d and %d share memory", i, j)
			}
		}
	}
	for _, one := range textsOf(first) {
		if slices.ContainsFunc(textsOf(second), one.shares) {
			t.Errorf("texts of two answers share memory")
		}
	}
}

// P13.2: what is written to an answer, and to its spare room, changes neither what was handed in nor the next answer; and what is written to that doesn't change the answer.
func TestAnswersAreApart(t *testing.T) {
	defs := allDefs()
	want := newModel().parse(allKinds, defs)
	first := Parse(allKinds, defs)
	for i := range first.Nodes {
		kids := first.Nodes[i].Kids
		for j := range kids[:cap(kids)] {
			kids[:cap(kids)][j] = -7
		}
	}
	nodes := first.Nodes[:cap(first.Nodes)]
	for i := range nodes {
		nodes[i] = api.Node{Kind: -7}
	}
	if !slices.Equal(defs, allDefs()) {
		t.Errorf("what was handed in has changed: %+v", defs)
	}
	second := Parse(allKinds, defs)
	clear(defs)
	if !reflect.DeepEqual(second, want) {
		t.Errorf("%s, not %s", told(second), told(want))
	}
}

// P13.2: what is written to the spare room of one list changes no other list of the answer.
func TestListsAreApart(t *testing.T) {
	got := Parse(allKinds, allDefs())
	want := Parse(allKinds, allDefs())
	for i := range got.Nodes {
		kids := got.Nodes[i].Kids
		for j := len(kids); j < cap(kids); j++ {
			kids[:cap(kids)][j] = -7
		}
	}
	clear(got.Nodes[len(got.Nodes):cap(got.Nodes)])
	if !reflect.DeepEqual(got, want) {
		t.Errorf("%s, not %s", told(got), told(want))
	}
}
