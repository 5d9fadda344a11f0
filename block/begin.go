package block

import (
	"strings"

	"stet/api"
	"stet/escape"
	"stet/mark"
	"stet/tag"
)

const mostGap = 4 // columns between an item's mark and its text; where there are more, all but one are the text's

// outcome is what a try to begin a block comes to.
type outcome int

const (
	missed outcome = iota // no such block begins, so the next one is tried
	barred                // nothing begins
	opened                // a block has begun, in which others may begin
	ended                 // the line is done
)

// begin: all blocks that begin on a line; whether it is done.
func (p *parser) begin() bool {
	tries := []func() outcome{p.indented, p.quotation, p.heading, p.fence, p.html, p.underlining, p.rule, p.item}
	for !p.blank() {
		if came := firstOf(tries); came != opened {
			return came == ended
		}
	}
	return false
}

// firstOf: what the first try comes to that isn't missed.
func firstOf(tries []func() outcome) outcome {
	for _, try := range tries {
		if came := try(); came != missed {
			return came
		}
	}
	return missed
}

// add: a block that begins in the last one that matched or began; all others are closed ahead of it.
func (p *parser) add(n api.Node) *block {
	p.closeFrom(p.matched)
	if n.Kind != api.KItem && p.last().Kind == api.KList {
		p.closeFrom(len(p.open) - 1)
	}
	parent := p.last()
	parent.stood = true
	b := &block{Node: n, parent: parent, quotes: parent.quotes, ahead: p.ahead}
	p.all = append(p.all, b)
	switch n.Kind {
	case api.KQuote:
		b.quotes++
		p.open = append(p.open, b)
	case api.KList, api.KItem:
		p.open = append(p.open, b)
	default:
		p.leaf = b
	}
	p.matched = len(p.open)
	return b
}

// last: the last one open.
func (p *parser) last() *block { return p.open[len(p.open)-1] }

// indented: code without a fence.
func (p *parser) indented() outcome {
	if p.indent() < codeIndent {
		return missed
	}
	if p.paragraph() {
		return barred
	}
	code := p.add(api.Node{Kind: api.KCode, From: p.first, To: p.end})
	p.drop(codeIndent)
	code.lines = append(code.lines, p.rest())
	return ended
}

// quotation: and its first mark.
func (p *parser) quotation() outcome {
	if !mark.Quote(p.there()) {
		return missed
	}
	p.add(api.Node{Kind: api.KQuote, From: p.first, To: p.end})
	p.passQuote()
	return opened
}

// passQuote: goes behind a quotation's mark, and the column that belongs to it.
func (p *parser) passQuote() {
	p.pass(1)
	p.drop(1)
}

// heading: one that isn't underlined.
func (p *parser) heading() outcome {
	level, from, to := mark.Head(p.there())
	if level == 0 {
		return missed
	}
	content := api.Piece{From: p.first + from, To: p.first + to}
	p.add(api.Node{Kind: api.KHead, From: p.first, To: p.end, Level: level, Pieces: []api.Piece{content}})
	p.closeLeaf()
	return ended
}

// fence: code with one.
func (p *parser) fence() outcome {
	sign, n, behind := mark.Fence(p.there())
	if n == 0 {
		return missed
	}
	code := p.add(api.Node{Kind: api.KCode, From: p.first, To: p.end, Level: n, Link: escape.Plain(behind)})
	code.sign, code.inset = sign, p.indent()
	return ended
}

// html: an HTML block.
func (p *parser) html() outcome {
	kind := tag.Kind(p.there())
	if kind == 0 || kind == htmlAlone && p.paragraph() {
		return missed
	}
	p.add(api.Node{Kind: api.KHtml, From: p.first}).htmlKind = kind
	p.takeHtml()
	return ended
}

// underlining: what makes a heading of the paragraph that is there.
func (p *parser) underlining() outcome {
	if !p.paragraph() || !p.allMatched() {
		return missed
	}
	level := mark.Under(p.there())
	if level == 0 {
		return missed
	}
	p.define()
	if len(p.leaf.Pieces) == 0 {
		return missed
	}
	head := p.leaf
	head.Kind, head.Level, head.Tight, head.To = api.KHead, level, true, p.end
	p.closeLeaf()
	return ended
}

// rule: a line across.
func (p *parser) rule() outcome {
	if p.first < p.noRule {
		return missed
	}
	there := p.there()
	if !mark.Rule(there) {
		// Within a row of this mark and blanks no other line across begins, since it would end as this one does. Asking again would take too long in a long row of items' marks.
		p.noRule = p.end - len(strings.TrimLeft(there, there[:1]+blanks))
		return missed
	}
	p.add(api.Node{Kind: api.KRule, From: p.first, To: p.end})
	p.closeLeaf()
	return ended
}

// item: and its list, if it is the first one of that.
func (p *parser) item() outcome {
	there := p.there()
	sign, number, size := mark.Item(there)
	if size == 0 || p.paragraph() && p.allMatched() && !breaksOff(number, there[size:]) {
		return missed
	}
	from, to, indent := p.first, p.first+size, p.indent()
	bullet := string(rune(sign))
	if list := p.open[p.matched-1]; list.Kind != api.KList || list.Text != bullet {
		p.add(api.Node{Kind: api.KList, From: from, Level: number, Text: bullet, Tight: true})
	}
	item := p.add(api.Node{Kind: api.KItem, From: from, To: to})
	p.pass(size)
	gap := p.indent()
	if gap > mostGap || p.blank() {
		gap = 1
	}
	p.drop(gap)
	item.inset = indent + size + gap
	return opened
}

// breaksOff: may an item with this number, and this behind its mark, begin where a paragraph could go on?
func breaksOff(number int, behind string) bool {
	return (number == 1 || number == -1) && strings.Trim(behind, blanks) != ""
}
