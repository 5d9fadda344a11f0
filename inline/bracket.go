package inline

import (
	"strings"

	"stet/api"
	"stet/class"
	"stet/link"
)

// The kinds of brackets: what they may open.
const (
	forLink = iota
	forImage
)

// The levels of links: what tells where they lead.
const (
	byParens = iota + 1
	byLabel
	byAngle
)

// bracket is one that is still open: its kind, and which of the parts it is.
type bracket struct{ kind, part int }

// target is where a definition leads.
type target struct{ link, title string }

// begin: a bracket that may open something, or a "!".
func (p *parser) begin(at int) int {
	kind, behind := forLink, at+1
	if p.text[at] == '!' {
		if !strings.HasPrefix(p.text[behind:], "[") {
			return behind
		}
		kind, behind = forImage, behind+1
	}
	p.add(textPart(at, behind, p.text[at:behind]))
	p.open = append(p.open, bracket{kind, len(p.parts) - 1})
	return behind
}

// end: a "]", which makes a link or an image of the last bracket that is open, if that leads somewhere; if not, it is open no more.
func (p *parser) end(at int) int {
	b, ok := p.lastOpen()
	if !ok {
		return at + 1
	}
	begin := p.parts[b.part]
	node, ok := p.leads(begin.To-len("["), at)
	if !ok {
		return at + 1
	}
	p.tell(at)
	kids := made(p.parts[b.part+1:])
	p.parts = p.parts[:b.part]
	node.From = begin.From
	node.Kind = api.KImage
	if b.kind == forLink {
		node.Kind = api.KLink
		p.asleep = len(p.open)
	}
	return p.add(part{Node: node, kids: kids})
}

// lastOpen: takes the last bracket from those that are open; false, if there is none, or it is asleep.
func (p *parser) lastOpen() (bracket, bool) {
	last := len(p.open) - 1
	if last < 0 {
		return bracket{}, false
	}
	b := p.open[last]
	p.open = p.open[:last]
	asleep := b.kind == forLink && last < p.asleep
	p.asleep = min(p.asleep, last)
	return b, !asleep
}

// leads: where the bracket at a place leads that ends with the "]" at another one: the node's Level, Link, Title and To; false: nowhere.
func (p *parser) leads(begin, end int) (api.Node, bool) {
	behind := end + 1
	if node, ok := p.parens(behind); ok {
		return node, true
	}
	if label, size := link.Label(p.text, behind); size > 0 {
		return p.defined(label, behind+size)
	}
	label, size := link.Label(p.text, begin)
	if begin+size != behind {
		return api.Node{}, false
	}
	if strings.HasPrefix(p.text[behind:], "[]") {
		behind += len("[]")
	}
	return p.defined(label, behind)
}

// parens: where the parentheses at a place lead.
func (p *parser) parens(at int) (api.Node, bool) {
	if !strings.HasPrefix(p.text[at:], "(") {
		return api.Node{}, false
	}
	begin := behindAll(p.text, at+1, blanks)
	dest, size := link.Dest(p.text, begin)
	title, end := "", behindAll(p.text, begin+size, blanks)
	// Without a destination no blanks are left here, and so there is no title.
	if end > begin+size {
		told, size := link.Title(p.text, end)
		title, end = told, behindAll(p.text, end+size, blanks)
	}
	if !strings.HasPrefix(p.text[end:], ")") {
		return api.Node{}, false
	}
	return api.Node{Level: byParens, Link: dest, Title: title, To: end + 1}, true
}

// defined: where the definition of a label leads, for a link that goes on to this place.
func (p *parser) defined(label string, to int) (api.Node, bool) {
	if p.targets == nil {
		p.targets = targets(p.defs)
	}
	t, ok := p.targets[class.Fold(label)]
	if !ok {
		return api.Node{}, false
	}
	return api.Node{Level: byLabel, Link: t.link, Title: t.title, To: to}, true
}

// targets: where definitions lead, by their labels.
func targets(defs []api.Def) map[string]target {
	made := map[string]target{}
	for _, def := range defs {
		if _, ok := made[def.Label]; !ok {
			// What is answered is to share no memory with what was handed in.
			made[def.Label] = target{strings.Clone(def.Link), strings.Clone(def.Title)}
		}
	}
	return made
}
