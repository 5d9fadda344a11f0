// Package text is layer 1: see shared/doc/01-text.md.
package text

import (
	"strings"

	"stet/api"
)

// replacement stands for what is no character.
const replacement = 0xFFFD

// longest is how many bytes a character has at most.
const longest = 4

// Clean: a text without bytes that are no characters.
func Clean(s string) string {
	var b strings.Builder
	b.Grow(len(s))
	// The loop itself answers FFFD for a byte that is no part of a character, so only the byte 0 is left to be asked for.
	for _, r := range s {
		if r == 0 {
			r = replacement
		}
		b.WriteRune(r)
	}
	return b.String()
}

// Lines: a text's lines.
func Lines(s string) []api.Line {
	var lines []api.Line
	for from := 0; from < len(s); {
		line := lineFrom(s, from)
		lines = append(lines, line)
		from = line.End
	}
	return lines
}

// At: an offset's place.
func At(s string, offset int) (api.Place, api.Errno) {
	if offset < 0 || offset > len(s) {
		return api.Place{}, api.ErrPlace
	}
	number, line := 1, lineFrom(s, 0)
	for ended(line) && offset >= line.End {
		number, line = number+1, lineFrom(s, line.End)
	}
	return api.Place{Line: number, Col: 1 + begunAhead(s[line.From:line.End], offset-line.From)}, api.OK
}

// Offset: a place's offset.
func Offset(s string, p api.Place) (int, api.Errno) {
	if p.Line < 1 || p.Col < 1 {
		return 0, api.ErrPlace
	}
	line := lineFrom(s, 0)
	for number := 1; number < p.Line; number++ {
		if !ended(line) {
			return 0, api.ErrPlace
		}
		line = lineFrom(s, line.End)
	}
	least, found := leastBehind(s[line.From:line.End], p.Col-1)
	offset := line.From + least
	// What lies behind a line's end has its place on the next line.
	if !found || ended(line) && offset == line.End {
		return 0, api.ErrPlace
	}
	return offset, api.OK
}

// Rune: the character at an offset.
func Rune(s string, at int) (int, int) {
	if at < 0 || at >= len(s) {
		return 0, 0
	}
	number, rest := 0, s[at:]
	for i, r := range rest {
		// Where the second character begins, the first one ends.
		if i > 0 {
			return number, i
		}
		number = int(r)
	}
	return number, len(rest)
}

// Before: the character that ends at an offset.
func Before(s string, at int) int {
	if at < 1 || at > len(s) {
		return -1
	}
	for from := max(at-longest, 0); from < at; from++ {
		if number, size := Rune(s, from); from+size == at {
			return number
		}
	}
	return replacement
}

// lineFrom: the line that begins at an offset; at the text's end, one without bytes, so that the place behind a last end has a line as well.
func lineFrom(s string, from int) api.Line {
	to := from
	for to < len(s) && s[to] != '\r' && s[to] != '\n' {
		to++
	}
	return api.Line{From: from, To: to, End: to + endSize(s[to:])}
}

// endSize: how many bytes the line's end has that a text begins with.
func endSize(s string) int {
	switch {
	case s == "":
		return 0
	case strings.HasPrefix(s, "\r\n"):
		return 2
	}
	return 1
}

// ended: whether a line has an end of its own, behind which another place is.
func ended(line api.Line) bool { return line.To < line.End }

// begunAhead: how many characters of a line begin ahead of an offset. The whole line is gone through, since a line cut within a character would have other characters.
func begunAhead(line string, offset int) int {
	n := 0
	for i := range line {
		if i >= offset {
			break
		}
		n++
	}
	return n
}

// leastBehind: the least offset of a line ahead of which so many characters begin; it may lie within the last one of them.
func leastBehind(line string, characters int) (int, bool) {
	if characters == 0 {
		return 0, true
	}
	n := 0
	for i := range line {
		if n++; n == characters {
			return i + 1, true
		}
	}
	return 0, false
}
