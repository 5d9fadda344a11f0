package block

import (
	"strings"

	"stet/api"
	"stet/column"
)

// cursor is how far a line of a text is gone through.
type cursor struct {
	source   string
	at       int // its byte
	col      int // its column; within a tab, if columns of that are left
	left     int // how many columns are left of a tab there, of which others are dropped
	first    int // the first byte from there on that is neither 32 nor 9: the text there begins with it
	firstCol int // that byte's column
	end      int // where the line's end stands
}

// start: goes to a line's beginning.
func (c *cursor) start(line api.Line) {
	c.at, c.col, c.left, c.end = line.From, 0, 0, line.To
	c.look()
}

// look: finds the text there. To drop columns, or to skip, doesn't move it: looking again each time would take too long on a line of many blanks in many items.
func (c *cursor) look() {
	columns, bytes := column.Indent(c.source[c.at:c.end], c.col)
	c.first, c.firstCol = c.at+bytes, c.col+columns
}

// indent: how many columns of blanks the rest begins with.
func (c *cursor) indent() int { return c.firstCol - c.col }

// blank: is there nothing else?
func (c *cursor) blank() bool { return c.first == c.end }

// there: the text there.
func (c *cursor) there() string { return c.source[c.first:c.end] }

// rest: what stands from the cursor on, a left column being a blank.
func (c *cursor) rest() string {
	if c.left == 0 {
		return c.source[c.at:c.end]
	}
	return strings.Repeat(" ", c.left) + c.source[c.at+1:c.end]
}

// drop: goes past so many columns of blanks, as far as there are such.
func (c *cursor) drop(n int) {
	// With nothing to drop, column.Drop would tell a tab in part as a whole one.
	if n > 0 {
		gone, col, left := column.Drop(c.source[c.at:c.end], c.col, n)
		c.at, c.col, c.left = c.at+gone, col, left
	}
}

// skip: goes to the text there.
func (c *cursor) skip() { c.at, c.col, c.left = c.first, c.firstCol, 0 }

// pass: skips, and goes behind a mark of so many bytes.
func (c *cursor) pass(n int) {
	c.skip()
	c.at, c.col = c.at+n, c.col+n
	c.look()
}
