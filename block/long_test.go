package block

import (
	"slices"
	"strings"
	"testing"
	"unsafe"

	"stet/api"
)

// P1 and P10.1: long texts. Parse takes moments for each of these; were a line, or all that is open, gone through again and again, it would take minutes.
func TestLongTexts(t *testing.T) {
	const n = 1 << 19
	for _, c := range []struct {
		name, s string
		nodes   int
	}{
		{"one line", strings.Repeat("a", n), 2},
		{"many lines", strings.Repeat("a\n", n/2), 2},
		{"many paragraphs", strings.Repeat("a\n\n", n/3), 1 + n/3},
		{"blank lines", strings.Repeat("\n", n), 1},
		{"blanks", strings.Repeat(" ", n), 1},
		{"tabs", strings.Repeat("\t", n) + "a", 2},
		{"headings", strings.Repeat("#\n", n/2), 1 + n/2},
		{"many marks", strings.Repeat("#", n), 2},
		{"a long rule", strings.Repeat("* ", n/2), 2},
		{"a long fence", strings.Repeat("`", n), 2},
		{"nearly a fence", strings.Repeat("```\n``\n", n/7), 1 + n/7},
		{"items", strings.Repeat("- a\n", n/4), 2 + 2*(n/4)},
		{"lists", strings.Repeat("-\n+\n", n/4), 1 + 4*(n/4)},
		{"quotations", strings.Repeat(">\n\n", n/3), 1 + n/3},
		{"a long quotation", strings.Repeat("> a\n", n/4), 3},
		{"code", strings.Repeat("\ta\n", n/3), 2},
		{"code and blank lines", strings.Repeat("    a\n\n", n/7), 2},
		{"code with a fence", "~~~\n" + strings.Repeat("~~\n", n/3), 2},
		{"HTML", "<div>\n" + strings.Repeat("<a\n", n/3), 2},
		{"many tags", strings.Repeat("<a b='\n", n/7), 2},
		{"definitions", strings.Repeat("[a]: b\n", n/7), 1},
		{"nearly definitions", strings.Repeat("[a]: b\n'c\n", n/10), 2},
		{"definitions and nearly a title", strings.Repeat("[a]: b 'c\n", n/10), 2},
		{"brackets", strings.Repeat("[", n), 2},
		{"lines that are lazy", "> - a\n" + strings.Repeat("b\n", n/2), 5},
	} {
		tr, _ := parse(t, c.s)
		if len(tr.Nodes) != c.nodes {
			t.Errorf("%s: %d nodes, not %d", c.name, len(tr.Nodes), c.nodes)
		}
	}
}

// P1 and P10.1: blocks deep within each other, and what stands behind them; likewise.
func TestDeepTexts(t *testing.T) {
	const deep = 1 << 16
	rows := func(s string, n int) string { return strings.Repeat(s, n) }
	stairs := func(s, last string, n int) string {
		out := ""
		for i := range n {
			out += rows(s, i) + last
		}
		return out
	}
	for _, c := range []struct {
		name, s string
		nodes   int
	}{
		{"quotations", rows(">", deep) + "a", 2 + deep},
		{"quotations and blanks", rows("> ", deep) + "a", 2 + deep},
		{"quotations again and again", rows(rows("> ", deep)+"a\n", 8), 2 + deep},
		{"quotations and lazy lines", rows(">", deep) + "a\n" + rows("b\n", deep), 2 + deep},
		{"quotations and blank lines", rows(">", deep) + "\n" + rows("\n", deep), 1 + deep},
		{"a quotation more on each line", stairs(">", ">\n", 1000), 1 + 1000},
		{"items", rows("- ", deep) + "a", 2 + 2*deep},
		{"items with numbers", rows("1. ", deep) + "a", 2 + 2*deep},
		{"items with several marks", rows("- + 1) * ", deep/4) + "a", 2 + 2*deep},
		{"items without anything", rows("+ ", deep), 1 + 2*deep},
		{"items and blank lines", rows("- ", deep) + "a" + rows("\n", 8*deep), 2 + 2*deep},
		{"items, and again behind blank lines", rows("- ", deep) + "a" + rows("\n", 8*deep) + rows("  ", deep) + "b", 3 + 2*deep},
		{"items, and again on many lines", rows("- ", deep) + "a\n" + rows("\n"+rows("\t", deep/2)+"b\n", 8), 10 + 2*deep},
		{"items and lazy lines", rows("- ", deep) + "a\n" + rows("b\n", deep), 2 + 2*deep},
		{"an item more on each line", stairs("  ", "- a\n", 700), 1 + 3*700},
		{"quotations and items", rows("> - ", deep/2) + "a\n" + rows("\n", deep), 2 + deep/2*3},
		{"items and a quotation", rows("- ", deep) + "> a\n" + rows("\n", deep), 3 + 2*deep},
		{"items and code", rows("- ", deep) + "~~~\n" + rows("\n", deep), 2 + 2*deep},
	} {
		tr, _ := parse(t, c.s)
		if len(tr.Nodes) != c.nodes {
			t.Errorf("%s: %d nodes, not %d", c.name, len(tr.Nodes), c.nodes)
		}
	}
}

// room is the memory of a list or text: where it begins, and where it ends, spare room too.
type room struct{ from, to uintptr }

func roomOf[E any](list []E) room {
	var one E
	from := uintptr(unsafe.Pointer(unsafe.SliceData(list)))
	return room{from, from + uintptr(cap(list))*unsafe.Sizeof(one)}
}

func textRoom(s string) room {
	from := uintptr(unsafe.Pointer(unsafe.StringData(s)))
	return room{from, from + uintptr(len(s))}
}

// rooms: the memory of an answer's lists, and of its texts; of the latter those of more than one byte, since the language keeps the others.
func rooms(tr api.Tree, defs []api.Def) []room {
	out := []room{roomOf(tr.Nodes), roomOf(defs)}
	texts := func(all ...string) {
		for _, s := range all {
			if len(s) > 1 {
				out = append(out, textRoom(s))
			}
		}
	}
	for _, n := range tr.Nodes {
		out = append(out, roomOf(n.Kids), roomOf(n.Pieces))
		texts(n.Text, n.Link, n.Title)
	}
	for _, d := range defs {
		texts(d.Label, d.Link, d.Title)
	}
	return slices.DeleteFunc(out, func(r room) bool { return r.from == r.to })
}

// everything: a text with every kind of block and definitions, each of them twice.
func everything() string {
	s := ""
	for _, b := range samples() {
		s += b.s + "\n\n- " + strings.ReplaceAll(b.s, "\n", "\n  ") + "\n\n"
	}
	return s + "[label one]: link 'title'\n[label two]: <a link>\n (a title)\n\n    code\n"
}

// P10.3: no two lists of an answer share memory, nor do two answers, nor an answer and the text.
func TestNewMemory(t *testing.T) {
	s := everything()
	first, firstDefs := Parse(s)
	second, secondDefs := Parse(s)
	all := append(rooms(first, firstDefs), rooms(second, secondDefs)...)
	all = append(all, textRoom(s))
	slices.SortFunc(all, func(a, b room) int {
		if a.from < b.from {
			return -1
		}
		return 1
	})
	for i := 1; i < len(all); i++ {
		if all[i].from < all[i-1].to {
			t.Errorf("%v and %v", all[i-1], all[i])
		}
	}
	if len(all) < 200 {
		t.Errorf("%d", len(all))
	}
}

// P10.3: an answer stays as it is when the text's memory changes, and when another answer does.
func TestKeptAnswers(t *testing.T) {
	memory := []byte(everything())
	tr, defs := Parse(unsafe.String(&memory[0], len(memory)))
	for i := range memory {
		memory[i] = '!'
	}
	spoiled, spoiledDefs := Parse(everything())
	for i := range spoiled.Nodes {
		n := &spoiled.Nodes[i]
		clear(n.Kids[:cap(n.Kids)])
		clear(n.Pieces[:cap(n.Pieces)])
		*n = api.Node{}
	}
	clear(spoiledDefs[:cap(spoiledDefs)])
	again, againDefs := Parse(everything())
	if !slices.EqualFunc(tr.Nodes, again.Nodes, sameNode) || !slices.Equal(defs, againDefs) {
		t.Errorf("%v %v, not %v %v", tr, defs, again, againDefs)
	}
}

// P2: what is answered hangs on the text alone, also where others are read at the same time.
func TestSameAnswers(t *testing.T) {
	s := everything()
	want, wantDefs := Parse(s)
	done := make(chan bool)
	for range 8 {
		go func() {
			got, defs := Parse(s)
			done <- slices.EqualFunc(got.Nodes, want.Nodes, sameNode) && slices.Equal(defs, wantDefs)
		}()
	}
	for range 8 {
		if !<-done {
			t.Error("another answer")
		}
	}
}
