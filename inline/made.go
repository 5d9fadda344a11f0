package inline

import (
	"slices"
	"strings"

	"stet/api"
	"stet/emph"
)

// ties is how many marks each pair has that a row closes, and each one that it opens, in the pairs' order.
type ties struct{ closes, opens []int }

// maker makes inlines of parts, from the first one on.
type maker struct {
	within   []part          // what is being made, each within the one ahead of it; the first one stands for what all is within
	text     strings.Builder // of the KTexts that stand last, one directly behind the other
	from, to int             // of these
}

// made: the inlines that parts make, rows as emphasis and KTexts as one.
func made(parts []part) []part {
	tied := tiesOf(parts)
	m := maker{within: []part{{}}}
	for _, q := range parts {
		if q.row.N == 0 {
			m.add(q)
			continue
		}
		m.split(q, tied[0])
		tied = tied[1:]
	}
	m.tell()
	return m.within[0].kids
}

// tiesOf: of each row among parts how it makes pairs.
func tiesOf(parts []part) []ties {
	var rows []api.Run
	for _, q := range parts {
		if q.row.N > 0 {
			rows = append(rows, q.row)
		}
	}
	tied := make([]ties, len(rows))
	for _, pair := range emph.Pairs(rows) {
		opener, closer := &tied[pair.Open], &tied[pair.Close]
		opener.opens = append(opener.opens, pair.N)
		closer.closes = append(closer.closes, pair.N)
	}
	return tied
}

// split: takes in a row: what it closes, what is left of it, what it opens.
func (m *maker) split(row part, t ties) {
	closed := row.From
	for _, n := range t.closes {
		closed += n
		m.end(closed)
	}
	opened := row.To
	for _, n := range t.opens {
		opened -= n
	}
	if closed < opened {
		m.add(textPart(closed, opened, row.Text[closed-row.From:opened-row.From]))
	}
	for _, n := range slices.Backward(t.opens) {
		m.begin(opened, n)
		opened += n
	}
}

// begin: begins emphasis of so many marks.
func (m *maker) begin(at, marks int) {
	m.tell()
	kind := api.KEm
	if marks == 2 {
		kind = api.KStrong
	}
	m.within = append(m.within, part{Node: api.Node{Kind: kind, From: at}})
}

// end: ends the emphasis that has begun last.
func (m *maker) end(at int) {
	m.tell()
	last := len(m.within) - 1
	q := m.within[last]
	m.within = m.within[:last]
	q.To = at
	m.add(q)
}

// add: puts a part behind the others; KText waits for more of it.
func (m *maker) add(q part) {
	if q.Kind != api.KText {
		m.tell()
		m.put(q)
		return
	}
	if m.text.Len() == 0 {
		m.from = q.From
	}
	m.text.WriteString(q.Text)
	m.to = q.To
}

// tell: puts the KText that waits behind the others.
func (m *maker) tell() {
	if m.text.Len() > 0 {
		m.put(textPart(m.from, m.to, m.text.String()))
		m.text.Reset()
	}
}

// put: makes a part the last kid of what is being made.
func (m *maker) put(q part) {
	parent := &m.within[len(m.within)-1]
	parent.kids = append(parent.kids, q)
}
