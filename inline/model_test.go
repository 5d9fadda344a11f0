package inline

import (
	"math/rand"
	"reflect"
	"regexp"
	"slices"
	"sort"
	"strings"
	"testing"

	"stet/api"
	"stet/class"
	"stet/emph"
	"stet/escape"
	"stet/link"
	"stet/runs"
	"stet/tag"
)

// This file holds Parse against a second telling of the chapter, which tells byte by byte, asks every bracket whether it is open and asleep, and sorts what has a place into what is around it.

// thing is a part of the second telling.
type thing struct {
	api.Node
	row          api.Run
	isRow        bool
	mayBe        int // for a bracket KLink or KImage; else 0
	open, asleep bool
	kids         []*thing
}

// model goes through what is left of a text.
type model struct {
	text         string
	ahead        int // how many bytes of the whole text are gone ahead
	defs         []api.Def
	url, address *regexp.Regexp
	things       []*thing
}

func newModel() *model {
	return &model{
		url:     regexp.MustCompile(`^<([A-Za-z][A-Za-z0-9+.-]{1,31}:[^\x00-\x20<>]*)>`),
		address: regexp.MustCompile(`^<([A-Za-z0-9.+_-]+@[A-Za-z0-9-]+(?:\.[A-Za-z0-9-]+)*)>`),
	}
}

func (m *model) parse(s string, defs []api.Def) api.Tree {
	m.text = strings.TrimLeft(s, " \t\n")
	m.ahead = len(s) - len(m.text)
	m.text = strings.TrimRight(m.text, " \t\n")
	m.defs = defs
	m.things = nil
	for at := 0; at < len(m.text); {
		at = m.step(at)
	}
	para := &thing{Node: api.Node{Kind: api.KPara, To: len(s)}, kids: modelMade(m.things)}
	var nodes []api.Node
	modelNumber(para, &nodes)
	return api.Tree{Nodes: nodes}
}

// put: a part that begins here and has so many bytes.
func (m *model) put(at, size int, n api.Node) *thing {
	n.From, n.To = m.ahead+at, m.ahead+at+size
	p := &thing{Node: n}
	m.things = append(m.things, p)
	return p
}

func (m *model) putText(at, size int, text string) *thing {
	return m.put(at, size, api.Node{Kind: api.KText, Text: text})
}

// step: the part at a place; answers the place behind it.
func (m *model) step(at int) int {
	rest := m.text[at:]
	itself := rest[:1]
	switch rest[0] {
	case '\\':
		if strings.HasPrefix(rest, "\\\n") {
			m.put(at, 2, api.Node{Kind: api.KHard})
			return at + 2
		}
		if len(rest) > 1 && class.Plain(rest[1]) {
			m.putText(at, 2, rest[1:2])
			return at + 2
		}
	case '`':
		return m.backquotes(at)
	case '<':
		if size := m.angle(at, rest); size > 0 {
			return at + size
		}
	case '&':
		if text, size := escape.Entity(m.text, at); size > 0 {
			m.putText(at, size, text)
			return at + size
		}
	case ' ', '\n':
		n := count(rest, ' ')
		if strings.HasPrefix(rest[n:], "\n") {
			m.put(at, n+1, api.Node{Kind: map[bool]int{true: api.KHard, false: api.KSoft}[n >= 2]})
			return at + n + 1
		}
	case '*', '_':
		row, ok := runs.Scan(m.text, at)
		p := m.putText(at, row.N, rest[:row.N])
		p.row, p.isRow = row, ok
		return at + row.N
	case '!':
		if strings.HasPrefix(rest, "![") {
			p := m.putText(at, 2, "![")
			p.mayBe, p.open = api.KImage, true
			return at + 2
		}
	case '[':
		p := m.putText(at, 1, "[")
		p.mayBe, p.open = api.KLink, true
		return at + 1
	case ']':
		return m.closing(at)
	}
	m.putText(at, 1, itself)
	return at + 1
}

// count: how many of a byte stand at a text's beginning.
func count(s string, b byte) int {
	n := 0
	for n < len(s) && s[n] == b {
		n++
	}
	return n
}

func (m *model) backquotes(at int) int {
	n := count(m.text[at:], '`')
	for end := at + n; end < len(m.text); end++ {
		if m.text[end-1] == '`' || count(m.text[end:], '`') != n {
			continue
		}
		var text []byte
		for _, b := range []byte(m.text[at+n : end]) {
			if b == '\n' {
				b = ' '
			}
			text = append(text, b)
		}
		last := len(text) - 1
		other := slices.ContainsFunc(text, func(b byte) bool { return b != ' ' })
		if text[0] == ' ' && text[last] == ' ' && other {
			text = text[1:last]
		}
		m.put(at, end+n-at, api.Node{Kind: api.KSpan, Text: string(text)})
		return end + n
	}
	m.putText(at, n, m.text[at:at+n])
	return at + n
}

// angle: how many bytes a URL, an address or HTML has; 0: there is none.
func (m *model) angle(at int, rest string) int {
	for i, form := range []*regexp.Regexp{m.url, m.address} {
		if found := form.FindStringSubmatch(rest); found != nil {
			size := len(found[0])
			p := m.put(at, size, api.Node{Kind: api.KLink, Level: 3, Link: []string{"", "mailto:"}[i] + found[1]})
			p.kids = []*thing{{Node: api.Node{Kind: api.KText, From: p.From + 1, To: p.To - 1, Text: found[1]}}}
			return size
		}
	}
	size := tag.Raw(rest)
	if size > 0 {
		m.put(at, size, api.Node{Kind: api.KRaw, Text: rest[:size]})
	}
	return size
}

func (m *model) closing(at int) int {
	last := -1
	for i, p := range m.things {
		if p.open {
			last = i
		}
	}
	if last < 0 {
		m.putText(at, 1, "]")
		return at + 1
	}
	b := m.things[last]
	b.open = false
	n, end := api.Node{}, 0
	if !b.asleep {
		n, end = m.leads(b.To-m.ahead-1, at)
	}
	if end == 0 {
		m.putText(at, 1, "]")
		return at + 1
	}
	n.Kind = b.mayBe
	kids := modelMade(m.things[last+1:])
	m.things = m.things[:last]
	if n.Kind == api.KLink {
		for _, p := range m.things {
			if p.mayBe == api.KLink && p.open {
				p.asleep = true
			}
		}
	}
	from := b.From - m.ahead
	m.put(from, end-from, n).kids = kids
	return end
}

// leads: where a "[" at a place and a "]" at another one lead, and the place behind; 0: nowhere.
func (m *model) leads(begin, at int) (api.Node, int) {
	behind := at + 1
	for _, withDest := range []bool{true, false} {
		for _, withTitle := range []bool{true, false} {
			if n, end := m.parentheses(behind, withDest, withTitle); end > 0 {
				return n, end
			}
		}
	}
	if label, size := link.Label(m.text, behind); size > 0 {
		return m.defined(label, behind+size)
	}
	if label, size := link.Label(m.text, begin); size == behind-begin {
		if strings.HasPrefix(m.text[behind:], "[]") {
			behind += 2
		}
		return m.defined(label, behind)
	}
	return api.Node{}, 0
}

// parentheses: likewise for "(" and ")" with a destination or without one, with a title or without one.
func (m *model) parentheses(at int, withDest, withTitle bool) (api.Node, int) {
	n := api.Node{Level: 1}
	if !strings.HasPrefix(m.text[at:], "(") {
		return n, 0
	}
	at = m.pass(at + 1)
	if withDest {
		dest, size := link.Dest(m.text, at)
		if size == 0 {
			return n, 0
		}
		n.Link = dest
		at += size
	}
	if withTitle {
		begin := m.pass(at)
		title, size := link.Title(m.text, begin)
		if !withDest || begin == at || size == 0 {
			return n, 0
		}
		n.Title = title
		at = begin + size
	}
	at = m.pass(at)
	if at == len(m.text) || m.text[at] != ')' {
		return n, 0
	}
	return n, at + 1
}

// pass: the place behind the blanks at a place.
func (m *model) pass(at int) int {
	for at < len(m.text) && (m.text[at] == ' ' || m.text[at] == '\t' || m.text[at] == '\n') {
		at++
	}
	return at
}

func (m *model) defined(label string, end int) (api.Node, int) {
	for _, def := range m.defs {
		if def.Label == class.Fold(label) {
			return api.Node{Level: 2, Link: def.Link, Title: def.Title}, end
		}
	}
	return api.Node{}, 0
}

// modelMade: what parts make: what is left of rows and the other parts, and the pairs' nodes, each put into the smallest one around it.
func modelMade(things []*thing) []*thing {
	var rows []api.Run
	var begins, ends []int // where the marks of each row stand that aren't in a pair yet
	var all []*thing
	for _, p := range things {
		if p.isRow {
			rows = append(rows, p.row)
			begins, ends = append(begins, p.From), append(ends, p.To)
		} else {
			all = append(all, p)
		}
	}
	for _, pair := range emph.Pairs(rows) {
		kind := []int{0, api.KEm, api.KStrong}[pair.N]
		// An opener's marks are taken from its end, a closer's from its beginning.
		all = append(all, &thing{Node: api.Node{Kind: kind, From: ends[pair.Open] - pair.N, To: begins[pair.Close] + pair.N}})
		ends[pair.Open] -= pair.N
		begins[pair.Close] += pair.N
	}
	for i, row := range rows {
		if begins[i] < ends[i] {
			all = append(all, &thing{Node: api.Node{Kind: api.KText, From: begins[i], To: ends[i], Text: strings.Repeat(string(row.Mark), ends[i]-begins[i])}})
		}
	}
	sort.SliceStable(all, func(i, j int) bool {
		return all[i].From < all[j].From || all[i].From == all[j].From && all[i].To > all[j].To
	})
	top := &thing{}
	for i, p := range all {
		around := top
		for _, other := range all[:i] {
			if (other.Kind == api.KEm || other.Kind == api.KStrong) && other.From <= p.From && p.To <= other.To {
				around = other
			}
		}
		around.kids = append(around.kids, p)
	}
	for _, p := range append(all, top) {
		if p == top || p.Kind == api.KEm || p.Kind == api.KStrong {
			p.kids = modelJoined(p.kids)
		}
	}
	return top.kids
}

// modelJoined: KTexts and those directly behind them as one.
func modelJoined(kids []*thing) []*thing {
	var joined []*thing
	for _, kid := range kids {
		last := len(joined) - 1
		if last >= 0 && joined[last].Kind == api.KText && kid.Kind == api.KText {
			one := joined[last].Node
			one.To, one.Text = kid.To, one.Text+kid.Text
			joined[last] = &thing{Node: one}
			continue
		}
		joined = append(joined, kid)
	}
	return joined
}

func modelNumber(p *thing, nodes *[]api.Node) {
	number := len(*nodes)
	*nodes = append(*nodes, p.Node)
	for _, kid := range p.kids {
		(*nodes)[number].Kids = append((*nodes)[number].Kids, len(*nodes))
		modelNumber(kid, nodes)
	}
}

// hold: Parse answers what the second telling does.
func (m *model) hold(t *testing.T, s string, defs []api.Def) {
	t.Helper()
	want := m.parse(s, defs)
	if got := parsed(t, s, defs); !reflect.DeepEqual(got, want) {
		t.Fatalf("%q:\n got %s\nwant %s\n got %+v\nwant %+v", s, told(got), told(want), got, want)
	}
}

// texts: all texts of at most so many of these bytes.
func texts(alphabet string, longest int, yield func(string)) {
	var grow func(string)
	grow = func(s string) {
		yield(s)
		if len(s) == longest {
			return
		}
		for i := range len(alphabet) {
			grow(s + alphabet[i:i+1])
		}
	}
	grow("")
}

// modelDefs: definitions of labels that short texts have.
func modelDefs() []api.Def {
	return []api.Def{{Label: "a", Link: "u", Title: "t"}, {Label: "b", Link: "v"}, {Label: "a", Link: "w"}, {Label: "B", Link: "capital"}, {Label: "", Link: "empty"}, {Label: "*a*", Link: "stars"}, {Label: "`", Link: "backquote"}}
}

// P13.1 at all short texts of the bytes that matter, behind what may stand ahead of them.
func TestShortTextsAgainstModel(t *testing.T) {
	m := newModel()
	for _, c := range []struct {
		begin, alphabet string
		longest         int
		end             string
	}{
		{"", "*a ", 8, ""},
		{"", "*_a.", 6, ""},
		{"", "_a ", 7, ""},
		{"*", "*a!", 6, "*"},
		{"**", "*a\"", 6, "**"},
		{"[", "*a]", 6, "](b)*"},
		{"", " \n\\a", 6, ""},
		{"a", " \n\t", 6, "b"},
		{"", "`a ", 7, ""},
		{"`", "` \n\\", 6, "`"},
		{"", "\\`*\n", 6, ""},
		{"", "[]a!", 7, ""},
		{"", "[]a", 8, ""},
		{"", "[]`(", 6, ""},
		{"[", "[]!(", 6, "](b)"},
		{"[[a](b)", "[]!a", 6, "](b)"},
		{"![", "[]!a", 6, "](b)](b)"},
		{"[a](", "b ()", 6, ""},
		{"[x](", "b'<>", 5, ")"},
		{"[x](b", "\n'\"c", 5, ")"},
		{"[x](<b>", " '()", 5, ")"},
		{"[x](", " \t\n\r", 4, ")"},
		{"[x][", "[]b\\", 6, "]"},
		{"[a]", "[]b ", 6, ""},
		{"![a]", "[](\n", 6, ""},
		{"[", "*a]", 6, ""},
		{"", "&lt;#", 5, ""},
		{"*", "&lt;*", 5, "*"},
		{"<", "ab:>", 5, ">"},
		{"<", "a@.>", 6, ">"},
		{"<a", "=' >", 6, ">"},
		{"<!", "-> a", 6, "-->"},
		{"<", "!?->", 6, ""},
		{"", "<!->", 6, ""},
		{"", "<?!a>", 5, ""},
		{"", "a\xc3\xa9\xff*", 5, "*"},
		{"", "*\xc2\xa0a", 6, ""},
		{"", "*_[]()!`<>&\\ \na", 4, ""},
	} {
		texts(c.alphabet, c.longest, func(s string) { m.hold(t, c.begin+s+c.end, modelDefs()) })
	}
}

// modelPieces: what long texts are made of.
func modelPieces() []string {
	return []string{"*", "*", "**", "***", "_", "__", "[", "[", "![", "]", "]", "](b)", "](<c d> 'e')", "](f \"", "][a]", "][b]", "][x]", "[]", "(", ")", "`", "``", "```", "a", "b ", " c", "d", "\u00e9", "\u20ac", "\u00a0", "\"", ".", " ", "  ", "\n", "  \n", "\\", "\\\n", "\\*", "\\]", "&amp;", "&#42;", "&x;", "<", "<ab:c>", "<a@b.c>", "<b>", "<b c='", "'>", "<!--", "-->", "<?", "?>", "<!A", "<![CDATA[", "]]>", ">", "\t", "\xff", "\x00"}
}

// P13.1 at random texts, of some pieces and of some thousand.
func TestLongTextsAgainstModel(t *testing.T) {
	chance := rand.New(rand.NewSource(13))
	m := newModel()
	for _, c := range []struct {
		pieces       []string
		long, rounds int
	}{
		{modelPieces(), 8, 40000},
		{modelPieces(), 30, 20000},
		{modelPieces(), 150, 2000},
		{modelPieces(), 3000, 10},
		{[]string{"*", "**", "***", "_", "__", "a", " ", "!"}, 40, 10000},
		{[]string{"[", "![", "]", "](b)", "][a]", "*", "a", "`"}, 40, 10000},
		{[]string{"[", "[", "![", "](b)", "](b)", "a", "*", "**"}, 2000, 20},
		{[]string{"`", "``", "```", "a", "\\", "\n"}, 2000, 20},
		{[]string{"*", "**", "_", "a", "!", " "}, 2000, 10},
	} {
		for range c.rounds {
			var s strings.Builder
			for range chance.Intn(c.long + 1) {
				s.WriteString(c.pieces[chance.Intn(len(c.pieces))])
			}
			m.hold(t, s.String(), modelDefs())
		}
	}
}

// P1, P2, P13.1 and P13.2: any text is answered, twice the same, as the second telling answers it.
func FuzzAgainstModel(f *testing.F) {
	for _, s := range modelPieces() {
		f.Add(s, "a")
	}
	f.Add("*a **b** [c](d 'e') ![f][g] `h` <i:j> <k@l>\n&amp; <m>", "g")
	f.Add("[a [b](c) ![d](e)][f] ***g** h*", "f")
	f.Fuzz(func(t *testing.T, s, label string) {
		newModel().hold(t, s, append(modelDefs(), api.Def{Label: label, Link: "l", Title: label}))
	})
}
