package column

import (
	"math"
	"strings"
	"testing"
)

// top is the column as which all greater ones count.
const top = 1 << 30

// P4.1, Indent.
func TestIndent(t *testing.T) {
	for _, c := range []struct {
		name           string
		s              string
		col            int
		columns, bytes int
	}{
		{"the chapter's example", "\t x", 2, 3, 2},
		{"an empty text", "", 0, 0, 0},
		{"an empty text at a column", "", 5, 0, 0},
		{"no such byte", "x", 0, 0, 0},
		{"no such byte at the beginning", "x \t", 1, 0, 0},
		{"bytes 32", "   x", 0, 3, 3},
		{"bytes 32 at a column", "   x", 7, 3, 3},
		{"bytes 32 alone", "     ", 2, 5, 5},
		{"a tab of four columns", "\tx", 0, 4, 1},
		{"a tab of three columns", "\tx", 1, 3, 1},
		{"a tab of two columns", "\tx", 2, 2, 1},
		{"a tab of one column", "\tx", 3, 1, 1},
		{"a tab of four columns again", "\tx", 4, 4, 1},
		{"a tab of one column again", "\tx", 7, 1, 1},
		{"a tab at column 8", "\tx", 8, 4, 1},
		{"a tab behind three bytes 32", "   \tx", 0, 4, 4},
		{"a tab behind four bytes 32", "    \tx", 0, 8, 5},
		{"two tabs", "\t\t", 3, 5, 2},
		{"tabs alone", "\t\t\t", 0, 12, 3},
		{"a tab, a byte 32, a tab", "\t \tx", 0, 8, 3},
		{"bytes 32 behind other bytes", "  x  ", 0, 2, 2},
		{"tabs behind other bytes", "\tx\t\t", 0, 4, 1},
		{"a line's end", " \n ", 0, 1, 1},
		{"a carriage return", "\t\r\t", 0, 4, 1},
		{"bytes 11 and 12", " \v ", 0, 1, 1},
		{"a byte 0", " \x00 ", 0, 1, 1},
		{"a blank of two bytes", " \u00a0 ", 0, 1, 1},
		{"a blank of three bytes", "\t\u2003 ", 0, 4, 1},
		{"a byte that is no character", "\t \xff\t", 0, 5, 2},
		{"the second half of a blank", "\xa0 ", 0, 0, 0},
		{"a tab's bits with the highest one", " \x89\xa0", 0, 1, 1},
	} {
		if columns, bytes := Indent(c.s, c.col); columns != c.columns || bytes != c.bytes {
			t.Errorf("%s: Indent of %q at %d: %d %d, not %d %d", c.name, c.s, c.col, columns, bytes, c.columns, c.bytes)
		}
	}
}

// P4.1, Width.
func TestWidth(t *testing.T) {
	for _, c := range []struct {
		name string
		s    string
		col  int
		want int
	}{
		{"an empty text", "", 0, 0},
		{"an empty text at a column", "", 3, 0},
		{"other bytes", "abc", 0, 3},
		{"other bytes at a column", "abc", 6, 3},
		{"bytes 32 behind other bytes", "a b ", 0, 4},
		{"a tab of four columns", "\t", 0, 4},
		{"a tab of three columns", "\t", 1, 3},
		{"a tab of two columns", "\t", 2, 2},
		{"a tab of one column", "\t", 3, 1},
		{"tabs behind other bytes", "a\tb\t", 0, 8},
		{"tabs behind other bytes at a column", "a\tb\t", 2, 6},
		{"a tab behind three other bytes", "abc\t", 0, 4},
		{"a tab behind four other bytes", "abcd\t", 0, 8},
		{"tabs and bytes 32", " \t  \tx", 0, 9},
		{"a character of two bytes", "\u00e9", 0, 2},
		{"a tab behind a character of three bytes", "\u20ac\t", 0, 4},
		{"a tab behind a character of four bytes", "\U0001f600\t", 0, 8},
		{"bytes that are no characters", "\xff\x80\t\xe2\x82", 0, 6},
		{"lines' ends", "\t\r\n\t", 0, 8},
		{"bytes 0, 8 and 11 to 13", "\x00\b\v\f\r", 0, 5},
	} {
		if got := Width(c.s, c.col); got != c.want {
			t.Errorf("%s: Width of %q at %d: %d, not %d", c.name, c.s, c.col, got, c.want)
		}
	}
}

// P4.2, Drop.
func TestDrop(t *testing.T) {
	for _, c := range []struct {
		name               string
		s                  string
		col, n             int
		gone, behind, left int
	}{
		{"the chapter's example", "\tx", 0, 1, 0, 1, 3},
		{"nothing of an empty text", "", 0, 0, 0, 0, 0},
		{"more than an empty text has", "", 5, 2, 0, 5, 0},
		{"more than other bytes have", "x", 3, 2, 0, 3, 0},
		{"bytes 32 behind other bytes stay", "x  ", 0, 2, 0, 0, 0},
		{"no column", "  x", 1, 0, 0, 1, 0},
		{"no column of a tab", "\tx", 0, 0, 0, 0, 0},
		{"no column of a tab of two", "\tx", 2, 0, 0, 2, 0},
		{"one byte 32 of two", "  x", 0, 1, 1, 1, 0},
		{"all bytes 32", "  x", 0, 2, 2, 2, 0},
		{"more than there are", "  x", 0, 3, 2, 2, 0},
		{"more than a text of such bytes has", "   ", 1, 9, 3, 4, 0},
		{"two columns of a tab", "\tx", 0, 2, 0, 2, 2},
		{"three columns of a tab", "\tx", 0, 3, 0, 3, 1},
		{"all columns of a tab", "\tx", 0, 4, 1, 4, 0},
		{"more columns than a tab has", "\tx", 0, 5, 1, 4, 0},
		{"one column of a tab of three", "\tx", 1, 1, 0, 2, 2},
		{"one column of a tab of two", "\tx", 2, 1, 0, 3, 1},
		{"a tab of one column", "\tx", 3, 1, 1, 4, 0},
		{"a tab of one column, and more", "\t\t", 3, 2, 1, 5, 3},
		{"a tab behind what is dropped stays whole", " \tx", 0, 1, 1, 1, 0},
		{"a tab behind a tab that is dropped stays whole", "\t\tx", 0, 4, 1, 4, 0},
		{"one column of a second tab", "\t\tx", 0, 5, 1, 5, 3},
		{"all columns of two tabs", "\t\tx", 0, 8, 2, 8, 0},
		{"a tab behind bytes 32, in part", "  \tx", 0, 3, 2, 3, 1},
		{"a tab behind bytes 32, wholly", "  \tx", 0, 4, 3, 4, 0},
		{"bytes 32 behind a tab", "\t  x", 2, 3, 2, 5, 0},
		{"up to a byte that is no character", " \t\xff\t", 0, 9, 2, 4, 0},
		{"up to a line's end", " \n ", 0, 9, 1, 1, 0},
		{"up to a blank of two bytes", "\t\u00a0\t", 6, 9, 1, 8, 0},
	} {
		gone, behind, left := Drop(c.s, c.col, c.n)
		if gone != c.gone || behind != c.behind || left != c.left {
			t.Errorf("%s: Drop of %q at %d, %d: %d %d %d, not %d %d %d", c.name, c.s, c.col, c.n, gone, behind, left, c.gone, c.behind, c.left)
		}
	}
}

// P4.1 and P4.2: a column below 0 counts as 0, one above 2^30 as that, by which alone the column behind is told.
func TestWrongColumns(t *testing.T) {
	for _, c := range []struct {
		col, counts int
	}{
		{-1, 0}, {-2, 0}, {-3, 0}, {-4, 0}, {-top, 0}, {math.MinInt32, 0}, {math.MinInt64, 0}, {math.MinInt64 + 1, 0},
		{top - 1, top - 1}, {top, top}, {top + 1, top}, {top + 2, top}, {top + 3, top}, {math.MaxInt32, top}, {1<<32 + 1, top}, {1 << 40, top}, {math.MaxInt64 - 1, top}, {math.MaxInt64, top},
	} {
		tab := 4
		if c.counts == top-1 {
			tab = 1
		}
		if columns, bytes := Indent("\t x", c.col); columns != tab+1 || bytes != 2 {
			t.Errorf("Indent at %d: %d %d", c.col, columns, bytes)
		}
		if got := Width("\tx\t", c.col); got != tab+4 {
			t.Errorf("Width at %d: %d", c.col, got)
		}
		if gone, behind, left := Drop("x", c.col, 1); gone != 0 || behind != c.counts || left != 0 {
			t.Errorf("Drop of nothing at %d: %d %d %d", c.col, gone, behind, left)
		}
		if gone, behind, left := Drop("\t\t", c.col, tab+1); gone != 1 || behind != c.counts+tab+1 || left != 3 {
			t.Errorf("Drop at %d: %d %d %d", c.col, gone, behind, left)
		}
	}
}

// P4.2: n below 0 counts as 0; the greatest n drops all there is.
func TestWrongNumbersOfColumns(t *testing.T) {
	for _, s := range []string{"", " ", "\t", " \t x", "x", "\xff"} {
		for _, n := range []int{-1, -2, -4, -top, math.MinInt32, -1<<32 + 1, math.MinInt64, math.MinInt64 + 1} {
			if gone, behind, left := Drop(s, 2, n); gone != 0 || behind != 2 || left != 0 {
				t.Errorf("Drop of %q, %d: %d %d %d", s, n, gone, behind, left)
			}
		}
	}
	for _, n := range []int{8, 9, top, math.MaxInt32, 1 << 32, 1<<32 + 1, math.MaxInt64 - 1, math.MaxInt64} {
		if gone, behind, left := Drop("\t \tx", 2, n); gone != 3 || behind != 8 || left != 0 {
			t.Errorf("Drop of all, %d: %d %d %d", n, gone, behind, left)
		}
		if gone, behind, left := Drop("\t\tx", math.MaxInt64, n); gone != 2 || behind != top+8 || left != 0 {
			t.Errorf("Drop of all at the greatest column, %d: %d %d %d", n, gone, behind, left)
		}
	}
}

// P1: great texts are answered as well, each tab with all of its columns.
func TestGreatTexts(t *testing.T) {
	const many = 1 << 20
	tabs := strings.Repeat("\t", many)
	if columns, bytes := Indent(tabs+"x", math.MaxInt64); columns != 4*many || bytes != many {
		t.Error("Indent:", columns, bytes)
	}
	if got := Width(tabs+"x"+tabs, 1); got != 8*many-1 {
		t.Error("Width:", got)
	}
	if gone, behind, left := Drop(tabs, top+1, math.MaxInt64); gone != many || behind != top+4*many || left != 0 {
		t.Error("Drop of all:", gone, behind, left)
	}
	if gone, behind, left := Drop(tabs, 0, 4*many-1); gone != many-1 || behind != 4*many-1 || left != 1 {
		t.Error("Drop of all but one:", gone, behind, left)
	}
}
