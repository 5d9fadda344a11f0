package block

import (
	"strings"

	"stet/api"
	"stet/link"
)

// closeFrom: closes the leaf, and the open ones from this one on.
func (p *parser) closeFrom(n int) {
	p.closeLeaf()
	for len(p.open) > n {
		reach(p.last())
		p.open = p.open[:len(p.open)-1]
	}
}

// closeLeaf: closes the leaf, if there is one.
func (p *parser) closeLeaf() {
	if p.leaf == nil {
		return
	}
	switch p.leaf.Kind {
	case api.KPara:
		p.define()
	case api.KCode, api.KHtml:
		p.leaf.Text = textOf(p.leaf)
	}
	reach(p.leaf)
	p.leaf = nil
}

// reach: the block around a closed one goes as far as that, also where nothing is left of that but definitions.
func reach(b *block) {
	if b.parent != nil {
		b.parent.To = max(b.parent.To, b.To)
	}
}

// textOf: what stands in code or an HTML block.
func textOf(b *block) string {
	n := len(b.lines)
	empty := func(line int) bool { return strings.Trim(b.lines[line], blanks) == "" }
	for b.Kind == api.KCode && !b.fenced() && n > 0 && empty(n-1) {
		n--
	}
	var made strings.Builder
	for _, line := range b.lines[:n] {
		made.WriteString(line)
		made.WriteByte('\n')
	}
	return made.String()
}

// define: takes out the definitions at the beginning of the paragraph that is the leaf.
func (p *parser) define() {
	joined := p.joined(p.leaf.Pieces)
	for at := 0; ; {
		def, size := link.Define(joined, at)
		if size == 0 {
			return
		}
		pieces := p.leaf.Pieces
		// A definition begins with a piece; its last part ends in the piece behind as many as lines end ahead of that.
		part := joined[at:def.To]
		lines := strings.Count(part, "\n")
		within := len(part) - (strings.LastIndexByte(part, '\n') + 1)
		def.From, def.To = pieces[0].From, pieces[lines].From+within
		p.defs = append(p.defs, def)
		p.leaf.Pieces = pieces[lines+1:]
		at += size
	}
}

// joined: pieces of the text, a line's end between them.
func (p *parser) joined(pieces []api.Piece) string {
	var made strings.Builder
	for i, piece := range pieces {
		if i > 0 {
			made.WriteByte('\n')
		}
		made.WriteString(p.source[piece.From:piece.To])
	}
	return made.String()
}
