package block

import (
	"sort"

	"stet/api"
	"stet/mark"
	"stet/tag"
)

const (
	blanks     = " \t"
	codeIndent = 4  // columns of blanks that make code: no other mark has so many ahead of it
	noBlank    = -1 // of a line that isn't a blank one
)

// The kinds of HTML blocks (layer 6) that end with a blank line.
const (
	htmlBlock = 6
	htmlAlone = 7 // doesn't begin where a paragraph is there
)

// block is a node of the tree to be, and what is remembered of it until that is made.
type block struct {
	api.Node
	parent   *block
	number   int      // the node's, once it has one
	quotes   int      // how many quotations it stands in, with itself
	ahead    int      // if a blank line stands ahead of its first one: how many quotations matched there; else noBlank
	stood    bool     // something has stood in it
	inset    int      // an item's; of code, how many columns its fence is indented
	sign     byte     // the mark of code's fence
	htmlKind int      // which HTML block it is
	lines    []string // of code, and of an HTML block
}

// fenced: is it code with a fence?
func (b *block) fenced() bool { return b.Kind == api.KCode && b.Level > 0 }

// endsBlank: is it an HTML block that ends with a blank line?
func (b *block) endsBlank() bool { return b.htmlKind == htmlBlock || b.htmlKind == htmlAlone }

// holdsBlank: is a blank line one of its own, and none for lists?
func (b *block) holdsBlank() bool { return b.fenced() || b.Kind == api.KHtml && !b.endsBlank() }

// parser reads a text line by line.
type parser struct {
	cursor
	all     []*block // the blocks in the order in which they began, which is that of the tree's numbers
	open    []*block // the document, and each within the one ahead
	leaf    *block   // the one in the last of these, if there is one
	matched int      // how many of the open ones have matched, or began on this line
	ahead   int      // what a block that begins on this line has
	noRule  int      // a place ahead of which no line across begins any more
	defs    []api.Def
}

func newParser(s string) *parser {
	document := &block{Node: api.Node{Kind: api.KDoc, To: len(s)}, ahead: noBlank}
	return &parser{
		cursor: cursor{source: s},
		all:    []*block{document},
		open:   []*block{document},
		ahead:  noBlank,
	}
}

// read: a line.
func (p *parser) read(line api.Line) {
	p.start(line)
	p.match()
	ahead := p.blankLine()
	if !p.leafTakes() && !p.begin() {
		p.leave()
	}
	p.ahead = ahead
}

// match: holds the open ones against the line.
func (p *parser) match() {
	p.matched = 1
	for !p.blank() && !p.allMatched() {
		if !p.matches(p.open[p.matched]) {
			return
		}
		p.matched++
	}
	if p.blank() {
		p.matchBlank()
	}
}

// matches: does an open one match where the rest isn't blank? If it does, what belongs to it is passed.
func (p *parser) matches(b *block) bool {
	switch b.Kind {
	case api.KQuote:
		if p.indent() >= codeIndent || !mark.Quote(p.there()) {
			return false
		}
		p.passQuote()
		b.To = p.end
	case api.KItem:
		if p.indent() < b.inset {
			return false
		}
		p.drop(b.inset)
	}
	return true
}

// matchBlank: holds the others against a blank rest: all up to the next quotation match, but an item in which nothing has stood, which can only be the last one. They aren't gone through, since many blank lines may stand behind many open items.
func (p *parser) matchBlank() {
	ahead := p.matched
	quotes := p.open[ahead-1].quotes
	p.matched += sort.Search(len(p.open)-ahead, func(i int) bool { return p.open[ahead+i].quotes > quotes })
	if last := p.open[p.matched-1]; last.Kind == api.KItem && !last.stood {
		p.matched--
	}
	if p.matched > ahead {
		p.skip()
	}
}

// allMatched: have all open ones matched?
func (p *parser) allMatched() bool { return p.matched == len(p.open) }

// blankLine: how many quotations have matched, if it is a blank line for lists; else noBlank. (Where the rest is blank already, nothing begins.)
func (p *parser) blankLine() int {
	if !p.blank() || p.allMatched() && p.leaf != nil && p.leaf.holdsBlank() {
		return noBlank
	}
	return p.open[p.matched-1].quotes
}

// leafTakes: is the line done with the leaf?
func (p *parser) leafTakes() bool {
	if p.leaf == nil || !p.allMatched() {
		return false
	}
	switch {
	case p.leaf.fenced():
		p.goOnFenced()
		return true
	case p.leaf.Kind == api.KCode:
		return p.goesOnIndented()
	case p.leaf.Kind == api.KHtml:
		return p.goesOnHtml()
	}
	return false
}

// goOnFenced: a line of code with a fence, or the fence that closes it.
func (p *parser) goOnFenced() {
	code := p.leaf
	code.To = p.end
	if p.indent() < codeIndent && mark.Closes(p.there(), code.sign, code.Level) {
		p.closeLeaf()
		return
	}
	p.drop(code.inset)
	code.lines = append(code.lines, p.rest())
}

// goesOnIndented: is it a line of code without a fence?
func (p *parser) goesOnIndented() bool {
	switch {
	case p.indent() >= codeIndent:
		p.drop(codeIndent)
	case p.blank():
		p.skip()
	default:
		p.closeLeaf()
		return false
	}
	p.leaf.lines = append(p.leaf.lines, p.rest())
	if !p.blank() {
		p.leaf.To = p.end
	}
	return true
}

// goesOnHtml: is it a line of the HTML block?
func (p *parser) goesOnHtml() bool {
	if p.blank() && p.leaf.endsBlank() {
		p.closeLeaf()
		return false
	}
	p.takeHtml()
	return true
}

// takeHtml: the rest is a line of the HTML block.
func (p *parser) takeHtml() {
	html, line := p.leaf, p.rest()
	html.lines, html.To = append(html.lines, line), p.end
	if tag.Ends(line, html.htmlKind) {
		p.closeLeaf()
	}
}

// leave: what is left of a line, if it isn't done.
func (p *parser) leave() {
	// A blank rest closes a paragraph, too.
	if p.blank() {
		p.closeFrom(p.matched)
		return
	}
	// Where not all have matched, the paragraph goes on all the same, and nothing is closed.
	if !p.paragraph() {
		p.add(api.Node{Kind: api.KPara, From: p.first})
	}
	p.leaf.Pieces = append(p.leaf.Pieces, api.Piece{From: p.first, To: p.end})
	p.leaf.To = p.end
}

// paragraph: is a paragraph there? What begins closes the leaf, so nothing has begun if it is.
func (p *parser) paragraph() bool { return p.leaf != nil && p.leaf.Kind == api.KPara }
