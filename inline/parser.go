package inline

import (
	"stet/api"
	"stet/class"
	"stet/escape"
	"stet/runs"
)

// part is a node with what stands in it. Rows and brackets are KText of themselves as long as they make nothing.
type part struct {
	api.Node
	row  api.Run // N is 0, if it is none
	kids []part
}

// parser goes through a text from its beginning on.
type parser struct {
	text     string
	parts    []part
	told     int               // up to here parts tell the text; what has been read behind it is KText of itself
	lastRows map[int]int       // where the last row of so many backquotes begins; made when the first row is met
	endless  []int             // the kinds of HTML that have no end in what is still to be read
	open     []bracket         // those that are still open
	asleep   int               // of how many of them, from the first one on, those for links are asleep
	defs     []api.Def         // as they were handed in
	targets  map[string]target // where definitions lead, by their labels; made when the first one is asked for
}

// read: takes in what stands at a place, and tells the place behind it.
func (p *parser) read(at int) int {
	switch p.text[at] {
	case '\\':
		return p.backslash(at)
	case '`':
		return p.span(at)
	case '<':
		return p.angle(at)
	case '&':
		return p.entity(at)
	case ' ', '\n':
		return p.lineEnd(at)
	case '*', '_':
		return p.row(at)
	case '!', '[':
		return p.begin(at)
	case ']':
		return p.end(at)
	}
	return at + 1
}

// tell: makes KText of what has been read up to a place, but isn't told.
func (p *parser) tell(to int) {
	if p.told < to {
		p.parts = append(p.parts, textPart(p.told, to, p.text[p.told:to]))
		p.told = to
	}
}

// add: puts a part behind all that has been read, and tells the place behind it.
func (p *parser) add(q part) int {
	p.tell(q.From)
	p.parts = append(p.parts, q)
	p.told = q.To
	return q.To
}

// textPart: a KText.
func textPart(from, to int, text string) part {
	return part{Node: api.Node{Kind: api.KText, From: from, To: to, Text: text}}
}

// backslash: a backslash with what it takes along.
func (p *parser) backslash(at int) int {
	next := at + 1
	switch {
	case next == len(p.text):
	case p.text[next] == '\n':
		return p.add(part{Node: api.Node{Kind: api.KHard, From: at, To: next + 1}})
	case class.Plain(p.text[next]):
		return p.add(textPart(at, next+1, p.text[next:next+1]))
	}
	return next
}

// entity: an entity's text, or an "&".
func (p *parser) entity(at int) int {
	character, size := escape.Entity(p.text, at)
	if size == 0 {
		return at + 1
	}
	return p.add(textPart(at, at+size, character))
}

// lineEnd: a line's end with the bytes 32 ahead of it, or such bytes without one.
func (p *parser) lineEnd(at int) int {
	end := behindAll(p.text, at, " ")
	if end == len(p.text) || p.text[end] != '\n' {
		return end
	}
	kind := api.KSoft
	if end-at >= 2 {
		kind = api.KHard
	}
	return p.add(part{Node: api.Node{Kind: kind, From: at, To: end + 1}})
}

// row: a row of "*" or "_".
func (p *parser) row(at int) int {
	row, _ := runs.Scan(p.text, at)
	q := textPart(at, at+row.N, p.text[at:at+row.N])
	q.row = row
	return p.add(q)
}
