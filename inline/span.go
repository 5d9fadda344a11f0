package inline

import (
	"iter"
	"strings"

	"stet/api"
)

// span: a row of backquotes, with the code up to the next row of just as many, if there is one.
func (p *parser) span(at int) int {
	if p.lastRows == nil {
		p.lastRows = lastRows(p.text)
	}
	begin := behindAll(p.text, at, "`")
	size := begin - at
	// Rows of which there is no other one behind would be looked for up to the text's end, each anew.
	if p.lastRows[size] <= at {
		return begin
	}
	for end, to := range backquotes(p.text, begin) {
		if to-end == size {
			return p.add(part{Node: api.Node{Kind: api.KSpan, From: at, To: to, Text: code(p.text[begin:end])}})
		}
	}
	return begin
}

// lastRows: where the last row of so many backquotes begins.
func lastRows(s string) map[int]int {
	last := map[int]int{}
	for from, to := range backquotes(s, 0) {
		last[to-from] = from
	}
	return last
}

// backquotes: from where to where each row of backquotes stands, from a place on.
func backquotes(s string, at int) iter.Seq2[int, int] {
	return func(yield func(int, int) bool) {
		for from := at; ; {
			next := strings.IndexByte(s[from:], '`')
			if next < 0 {
				return
			}
			to := behindAll(s, from+next, "`")
			if !yield(from+next, to) {
				return
			}
			from = to
		}
	}
}

// code: what stands between two rows of backquotes, as it is told.
func code(between string) string {
	line := strings.ReplaceAll(between, "\n", " ")
	if line[0] == ' ' && line[len(line)-1] == ' ' && strings.Trim(line, " ") != "" {
		line = line[1 : len(line)-1]
	}
	// A piece of the text would keep all of it in memory.
	return strings.Clone(line)
}
