package tag

import "strings"

// missed: what a text misses at some place to be a tag.
type missed string

// scan: a text that is read as a tag, and how far.
type scan struct {
	text string
	at   int
}

// opening: goes past what an open tag has behind "<".
func (t *scan) opening() {
	t.name()
	for t.attribute() {
	}
	t.skip(blank)
	t.take("/")
	t.need(">")
}

// closing: goes past what a closing tag has behind "</".
func (t *scan) closing() {
	t.name()
	t.skip(blank)
	t.need(">")
}

// name: goes past a tag's name.
func (t *scan) name() {
	if t.skip(letter) == 0 {
		panic(missed("a name"))
	}
	t.skip(nameByte)
}

// attribute: goes past an attribute and the blanks ahead of it; false: past nothing, since there is none.
func (t *scan) attribute() bool {
	from := t.at
	if t.skip(blank) == 0 || t.skip(attributeFirst) == 0 {
		t.at = from
		return false
	}
	t.skip(attributeByte)
	t.value()
	return true
}

// value: goes past an attribute's value, if it has one.
func (t *scan) value() {
	from := t.at
	t.skip(blank)
	if !t.take("=") {
		// These blanks may stand ahead of the next attribute.
		t.at = from
		return
	}
	t.skip(blank)
	switch {
	case t.take("'"):
		t.upTo("'")
	case t.take("\""):
		t.upTo("\"")
	case t.skip(bareByte) == 0:
		panic(missed("a value"))
	}
}

// upTo: goes past all up to this mark, with it.
func (t *scan) upTo(mark string) {
	n := strings.Index(t.text[t.at:], mark)
	if n < 0 {
		panic(missed(mark))
	}
	t.at += n + len(mark)
}

// need: goes past this mark, without which it is no tag.
func (t *scan) need(mark string) {
	if !t.take(mark) {
		panic(missed(mark))
	}
}

// take: goes past this mark, if it stands here.
func (t *scan) take(mark string) bool {
	ok := strings.HasPrefix(t.text[t.at:], mark)
	if ok {
		t.at += len(mark)
	}
	return ok
}

// skip: goes past all such bytes, and tells how many they are.
func (t *scan) skip(in func(byte) bool) int {
	n := row(t.text[t.at:], in)
	t.at += n
	return n
}

// row: how many such bytes a text begins with.
func row(s string, in func(byte) bool) int {
	n := 0
	for n < len(s) && in(s[n]) {
		n++
	}
	return n
}

func blank(b byte) bool { return b == ' ' || b == '\t' || b == '\n' }

func letter(b byte) bool { return 'a' <= b && b <= 'z' || 'A' <= b && b <= 'Z' }

func letterOrDigit(b byte) bool { return letter(b) || '0' <= b && b <= '9' }

func nameByte(b byte) bool { return letterOrDigit(b) || b == '-' }

func attributeFirst(b byte) bool { return letter(b) || b == '_' || b == ':' }

func attributeByte(b byte) bool { return letterOrDigit(b) || strings.IndexByte("_.:-", b) >= 0 }

func bareByte(b byte) bool { return !blank(b) && strings.IndexByte("\"'=<>`", b) < 0 }
