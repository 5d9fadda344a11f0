package block

import (
	"slices"
	"strings"
	"testing"

	"stet/api"
	"stet/escape"
	"stet/link"
	"stet/mark"
	"stet/tag"
	"stet/text"
)

// This file holds Parse against a second telling of the chapter, which lays each line out column by column, keeps the blocks as a tree from the beginning on, and asks it anew at each line; at all short texts of some bytes, and of some lines.

// cell is a column of a line: of a tab it is the nth of so many, from 0 on; wide is 0 of another byte.
type cell struct {
	b         byte
	place     int
	nth, wide int
}

type cells []cell

func layOut(s string, line api.Line) cells {
	var out cells
	for i := line.From; i < line.To; i++ {
		if s[i] != '\t' {
			out = append(out, cell{b: s[i], place: i})
			continue
		}
		wide := 4 - len(out)%4
		for nth := range wide {
			out = append(out, cell{s[i], i, nth, wide})
		}
	}
	return out
}

func (l cells) indent() int {
	n := slices.IndexFunc(l, func(c cell) bool { return c.b != ' ' && c.b != '\t' })
	if n < 0 {
		return len(l)
	}
	return n
}

func (l cells) blank() bool { return l.indent() == len(l) }

// rest: the line as it is read; a tab that isn't whole any more as bytes 32.
func (l cells) rest() string {
	out := ""
	for i := 0; i < len(l); i++ {
		switch c := l[i]; {
		case c.wide > 0 && c.nth == 0:
			out += "\t"
			i += c.wide - 1
		case c.wide > 0:
			out += " "
		default:
			out += string([]byte{c.b})
		}
	}
	return out
}

func (l cells) skipped() cells { return l[l.indent():] }

// without: n columns of blanks dropped.
func (l cells) without(n int) cells { return l[min(n, l.indent()):] }

type modelBlock struct {
	api.Node
	parent   *modelBlock
	kids     []*modelBlock
	open     bool
	line     int // the number of the one on which it began
	inset    int
	mark     byte
	htmlKind int
	lines    []string
}

func (b *modelBlock) holds() bool {
	return b.Kind == api.KDoc || b.Kind == api.KQuote || b.Kind == api.KList || b.Kind == api.KItem
}

// touch: a line, or a mark, of the block ends here.
func (b *modelBlock) touch(to int) {
	for ; b != nil; b = b.parent {
		b.To = max(b.To, to)
	}
}

type model struct {
	s      string
	root   *modelBlock
	defs   []api.Def
	number int // of the line that is read
	line   api.Line
	blanks []int // of each line: how many quotations matched, if it is a blank one; else -1
}

func modelParse(s string) (api.Tree, []api.Def) {
	m := &model{s: s, root: &modelBlock{Node: api.Node{Kind: api.KDoc, To: len(s)}, open: true}}
	for m.number, m.line = range text.Lines(s) {
		m.blanks = append(m.blanks, -1)
		m.read(layOut(s, m.line))
	}
	m.close(m.root)
	var t api.Tree
	m.tell(&t, m.root, 0)
	return t, m.defs
}

// chain: the open ones, and the leaf, if there is one.
func (m *model) chain() ([]*modelBlock, *modelBlock) {
	chain := []*modelBlock{m.root}
	for {
		at := chain[len(chain)-1]
		if len(at.kids) == 0 || !at.kids[len(at.kids)-1].open {
			return chain, nil
		}
		last := at.kids[len(at.kids)-1]
		if !last.holds() {
			return chain, last
		}
		chain = append(chain, last)
	}
}

func (m *model) close(b *modelBlock) {
	if !b.open {
		return
	}
	b.open = false
	m.closeKids(b)
	switch b.Kind {
	case api.KPara:
		m.define(b)
	case api.KCode, api.KHtml:
		for b.Kind == api.KCode && b.Level == 0 && strings.TrimLeft(b.lines[len(b.lines)-1], " \t") == "" {
			b.lines = b.lines[:len(b.lines)-1]
		}
		for _, line := range b.lines {
			b.Text += line + "\n"
		}
	}
}

func (m *model) closeKids(b *modelBlock) {
	for _, kid := range b.kids {
		m.close(kid)
	}
}

func (m *model) define(b *modelBlock) {
	for {
		joined, places := "", []int(nil)
		for i, p := range b.Pieces {
			if i > 0 {
				joined, places = joined+"\n", append(places, -1)
			}
			joined += m.s[p.From:p.To]
			for at := p.From; at < p.To; at++ {
				places = append(places, at)
			}
		}
		def, size := link.Define(joined, 0)
		if size == 0 {
			return
		}
		def.From, def.To = places[0], places[def.To-1]+1
		m.defs = append(m.defs, def)
		for size > 0 {
			size -= b.Pieces[0].To - b.Pieces[0].From + 1
			b.Pieces = b.Pieces[1:]
		}
	}
}

// begin: a block within one of the open ones.
func (m *model) begin(parent *modelBlock, n api.Node) *modelBlock {
	m.closeKids(parent)
	if parent.Kind == api.KList && n.Kind != api.KItem {
		m.close(parent)
		parent = parent.parent
	}
	b := &modelBlock{Node: n, parent: parent, open: true, line: m.number}
	parent.kids = append(parent.kids, b)
	b.touch(n.To)
	return b
}

// read: a line.
func (m *model) read(l cells) {
	chain, leaf := m.chain()
	matched, quotes := 1, 0
	for ; matched < len(chain); matched++ {
		b := chain[matched]
		if b.Kind == api.KQuote {
			if l.indent() > 3 || !mark.Quote(l.skipped().rest()) {
				break
			}
			l = l.skipped()[1:].without(1)
			b.touch(m.line.To)
			quotes++
		}
		if b.Kind == api.KItem {
			if l.blank() && len(b.kids) == 0 || !l.blank() && l.indent() < b.inset {
				break
			}
			if l.blank() {
				l = nil
			}
			l = l.without(b.inset)
		}
	}
	all := matched == len(chain)
	wasBlank := l.blank()
	if all && leaf != nil {
		done, held := m.leafLine(leaf, l)
		if wasBlank && !held {
			m.blanks[m.number] = quotes
		}
		if done {
			return
		}
		if !leaf.open {
			leaf = nil
		}
	} else if wasBlank {
		m.blanks[m.number] = quotes
	}
	m.behindMatch(chain[matched-1], leaf, all, l)
}

// leafLine: whether the line is done with the leaf; and whether it is one that is no blank line for lists.
func (m *model) leafLine(leaf *modelBlock, l cells) (bool, bool) {
	switch {
	case leaf.Kind == api.KCode && leaf.Level > 0:
		leaf.touch(m.line.To)
		if l.indent() <= 3 && mark.Closes(l.skipped().rest(), leaf.mark, leaf.Level) {
			m.close(leaf)
		} else {
			leaf.lines = append(leaf.lines, l.without(leaf.inset).rest())
		}
		return true, true
	case leaf.Kind == api.KCode && (l.blank() || l.indent() >= 4):
		leaf.lines = append(leaf.lines, l.without(4).rest())
		if !l.blank() {
			leaf.touch(m.line.To)
		}
		return true, false
	case leaf.Kind == api.KHtml && !(leaf.htmlKind > 5 && l.blank()):
		m.htmlLine(leaf, l)
		return true, true
	case leaf.Kind != api.KPara || l.blank():
		m.close(leaf)
	}
	return false, false
}

func (m *model) htmlLine(b *modelBlock, l cells) {
	b.touch(m.line.To)
	b.lines = append(b.lines, l.rest())
	if tag.Ends(l.rest(), b.htmlKind) {
		m.close(b)
	}
}

// behindMatch: what begins within the last one that matched, and what is left.
func (m *model) behindMatch(at, leaf *modelBlock, all bool, l cells) {
	began := false
	for !l.blank() {
		isPara := leaf != nil && leaf.Kind == api.KPara && !began
		from, to := l.skipped()[0].place, m.line.To
		there := l.skipped().rest()
		level, first, last := mark.Head(there)
		sign, n, behind := mark.Fence(there)
		kind := tag.Kind(there)
		if kind == 7 && isPara {
			kind = 0
		}
		bullet, number, size := mark.Item(there)
		if isPara && all && (number > 1 || number == 0 || strings.Trim(there[size:], " \t") == "") {
			size = 0
		}
		underlined := isPara && all && l.indent() < 4 && mark.Under(there) > 0 && !mark.Quote(there) && level == 0 && n == 0 && kind == 0
		if underlined {
			m.define(leaf)
			underlined = len(leaf.Pieces) > 0
		}
		switch {
		case l.indent() > 3 && isPara:
		case l.indent() > 3:
			b := m.begin(at, api.Node{Kind: api.KCode, From: from, To: to})
			b.lines = []string{l.without(4).rest()}
			return
		case mark.Quote(there):
			at = m.begin(at, api.Node{Kind: api.KQuote, From: from, To: to})
			l, began = l.skipped()[1:].without(1), true
			continue
		case level > 0:
			b := m.begin(at, api.Node{Kind: api.KHead, From: from, To: to, Level: level, Pieces: []api.Piece{{From: from + first, To: from + last}}})
			m.close(b)
			return
		case n > 0:
			b := m.begin(at, api.Node{Kind: api.KCode, From: from, To: to, Level: n, Link: escape.Plain(behind)})
			b.mark, b.inset = sign, l.indent()
			return
		case kind > 0:
			b := m.begin(at, api.Node{Kind: api.KHtml, From: from})
			b.htmlKind = kind
			m.htmlLine(b, l)
			return
		case underlined:
			leaf.Kind, leaf.Level, leaf.Tight = api.KHead, mark.Under(there), true
			leaf.touch(to)
			m.close(leaf)
			return
		case mark.Rule(there):
			m.close(m.begin(at, api.Node{Kind: api.KRule, From: from, To: to}))
			return
		case size > 0:
			if at.Kind != api.KList || at.Text != string([]byte{bullet}) {
				at = m.begin(at, api.Node{Kind: api.KList, From: from, Level: number, Text: string([]byte{bullet})})
			}
			at = m.begin(at, api.Node{Kind: api.KItem, From: from, To: from + size})
			at.inset = l.indent() + size
			l, began = l.skipped()[size:], true
			gap := l.indent()
			if gap == 0 || gap > 4 || l.blank() {
				gap = 1
			}
			at.inset += gap
			l = l.without(gap)
			continue
		}
		break
	}
	m.left(at, leaf, all, began, l)
}

// left: what is left of a line.
func (m *model) left(at, leaf *modelBlock, all, began bool, l cells) {
	isPara := leaf != nil && leaf.Kind == api.KPara && !began
	switch {
	case l.blank():
		if !all {
			m.closeKids(at)
		}
		return
	case !isPara:
		leaf = m.begin(at, api.Node{Kind: api.KPara, From: l.skipped()[0].place})
	}
	leaf.touch(m.line.To)
	leaf.Pieces = append(leaf.Pieces, api.Piece{From: l.skipped()[0].place, To: m.line.To})
}

// blocks: a block's kids, those that are none left out.
func (b *modelBlock) blocks() []*modelBlock {
	return slices.DeleteFunc(slices.Clone(b.kids), func(kid *modelBlock) bool { return kid.Kind == api.KPara && len(kid.Pieces) == 0 })
}

// tell: a block as a node, and all below it, so many quotations around it; its number.
func (m *model) tell(t *api.Tree, b *modelBlock, quotes int) int {
	number := len(t.Nodes)
	n := b.Node
	if b.Kind == api.KList {
		n.Tight = m.tight(b, quotes)
	}
	if b.Kind == api.KQuote {
		quotes++
	}
	t.Nodes = append(t.Nodes, n)
	for _, kid := range b.blocks() {
		kidNumber := m.tell(t, kid, quotes)
		t.Nodes[number].Kids = append(t.Nodes[number].Kids, kidNumber)
	}
	return number
}

func (m *model) tight(list *modelBlock, quotes int) bool {
	loose := func(i int, b *modelBlock) bool { return i > 0 && b.line > 0 && m.blanks[b.line-1] == quotes }
	for i, item := range list.kids {
		if loose(i, item) {
			return false
		}
		for j, kid := range item.blocks() {
			if loose(j, kid) {
				return false
			}
		}
	}
	return true
}

// holdAgainstModel: a text's tree and definitions; and P10.2.
func holdAgainstModel(t *testing.T, s string) {
	t.Helper()
	tr, defs := parse(t, s)
	want, wantDefs := modelParse(s)
	if !slices.EqualFunc(tr.Nodes, want.Nodes, sameNode) || !slices.Equal(defs, wantDefs) {
		t.Fatalf("%q\n%s %s, not\n%s %s", s, told(s, tr), spans(tr, defs), told(s, want), spans(want, wantDefs))
	}
	holdQuoted(t, s)
}

// rows: all rows of at most so many of these.
func rows(parts []string, longest int, yield func(string)) {
	var grow func(string, int)
	grow = func(s string, n int) {
		yield(s)
		if n == longest {
			return
		}
		for _, part := range parts {
			grow(s+part, n+1)
		}
	}
	grow("", 0)
}

// P10.1 and P10.2 at all short texts of the bytes that matter.
func TestShortTextsAgainstModel(t *testing.T) {
	t.Parallel()
	for _, c := range []struct {
		begin, alphabet string
		longest         int
	}{
		{"", "> a\n", 7},
		{"", "- a\n", 7},
		{"", "-\t a\n", 6},
		{">", "\t >a\n", 6},
		{"- a", "\n ->b", 6},
		{"- a\n\n", " -b\n", 6},
		{"> - a", "\n> -b", 5},
		{"1", ".) 2\na", 6},
		{"a\n", "1.2 \n-", 5},
		{"   ", " \t\na", 5},
		{"    a", "\n \tb", 6},
		{"a\n", "-= \n>", 5},
		{"", "*- \n_", 5},
		{"```", "`\n a~", 5},
		{" ~~~", "~\n >", 6},
		{"> ~~~", "\n> ~", 6},
		{"- ~~~", "\n ~a", 5},
		{"<b>", "\n >a", 6},
		{"<!--", "->\n a", 5},
		{"", "# \na\t", 6},
		{"[a]:", "\n b'[", 5},
		{"[a]: b\n", "[]:'\n=", 5},
		{"> [a]: b\n", "[]: \n>", 5},
		{"", "\r\n a>", 5},
		{"", "\x00\xff\n-\v", 5},
	} {
		rows(strings.Split(c.alphabet, ""), c.longest, func(s string) { holdAgainstModel(t, c.begin+s) })
	}
}

// someLines: lines of every kind, each as it may stand in some others.
func someLines() []string {
	return []string{
		"\n", "   \n", "      \n", "a\n", "  a\n", "    a\n", "      a\n", "\ta\n", "\t\ta\n",
		">\n", "> a\n", ">     a\n", ">\ta\n", "> > a\n", "   > a\n", "> - a\n", ">   a\n",
		"- a\n", "-\n", "-     a\n", "-\ta\n", "- - a\n", "  - a\n", "+ a\n", "1. a\n", "2. a\n", "10) a\n", "- > a\n", "- 1.\n",
		"# a\n", "#\n", "===\n", "---\n", "--\n", "***\n", "  ---\n",
		"```\n", "~~~ x\n", "  ~~~~\n", "- ```\n", "> ~~~\n",
		"<div>\n", "<b>\n", "<!--\n", "-->\n", "<pre>\n", "- <!--\n",
		"[a]: b\n", "[a]:\n", "'c'\n", "- [a]: b\n", "> [a]: b 'c\n",
	}
}

// P10.1 and P10.2 at all texts of at most two of these lines, and at many of three.
func TestLinesAgainstModel(t *testing.T) {
	t.Parallel()
	rows(someLines(), 2, func(s string) {
		holdAgainstModel(t, s)
		holdAgainstModel(t, strings.TrimSuffix(s, "\n"))
	})
	all := someLines()
	for i, first := range all {
		for j, second := range all {
			// Of all texts of three lines every third one.
			for k := (i + j) % 3; k < len(all); k += 3 {
				holdAgainstModel(t, first+second+all[k])
			}
		}
	}
}

// P10.1 and P10.2 at all texts of at most five of some lines.
func TestMoreLinesAgainstModel(t *testing.T) {
	t.Parallel()
	for _, lines := range [][]string{
		{"\n", "a\n", "- a\n", "  - a\n", "  a\n", "    a\n"},
		{"\n", ">\n", "> - a\n", "> a\n", "- > a\n", "  >\n"},
		{"\n", "      \n", "-     a\n", "      a\n", "-\n", "  a\n"},
		{"\n", "- ```\n", "  ```\n", "   a\n", "- a\n", "```\n"},
		{"[a]: b\n", "===\n", "'c\n", "c'\n", "-\n", "> [a]:\n"},
		{"\n", "<div>\n", "<!--\n", "-->\n", "- <b>\n", "- a\n"},
	} {
		rows(lines, 5, func(s string) { holdAgainstModel(t, s) })
	}
}

// P10.1 and P10.2: the samples without any part of them, and with other bytes in each place, instead of the one there or ahead of it; every byte at the ends of their lines.
func TestNearSamplesAgainstModel(t *testing.T) {
	t.Parallel()
	const some = "\x00\t\n\r !\"#&'()*+-./09:<=>?A[\\]_`a~\x7f\xff"
	every := make([]byte, 256)
	for i := range every {
		every[i] = byte(i)
	}
	for _, b := range samples() {
		s := "- a\n\n  " + strings.ReplaceAll(b.s, "\n", "\n  ") + "\n  z\n- y"
		for i := range len(s) {
			for j := i; j <= len(s); j++ {
				holdAgainstModel(t, s[:i]+s[j:])
			}
			others := some
			if s[i] == '\n' || i > 2 && s[i-3:i] == "\n  " {
				others = string(every)
			}
			for _, one := range []byte(others) {
				holdAgainstModel(t, s[:i]+string([]byte{one})+s[i:])
				holdAgainstModel(t, s[:i]+string([]byte{one})+s[i+1:])
			}
		}
	}
}

// P1: any text is answered; P10.1 and P10.2 at any texts.
func FuzzAgainstModel(f *testing.F) {
	for _, b := range samples() {
		f.Add(b.s)
		f.Add("- > a\n\n  " + b.s + "\n\tb\r> c")
	}
	f.Add(strings.Join(someLines(), ""))
	f.Fuzz(func(t *testing.T, s string) {
		if len(s) > 1000 {
			t.Skip()
		}
		holdAgainstModel(t, s)
	})
}
