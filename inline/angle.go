package inline

import (
	"slices"
	"strings"

	"stet/api"
	"stet/tag"
)

// How many bytes a URL has ahead of its ":", behind the first letter.
const (
	leastScheme = 1
	mostScheme  = 31
)

const mailto = "mailto:" // what a link to an address has ahead of it

// angle: what stands between "<" and ">", or a "<".
func (p *parser) angle(at int) int {
	here := p.text[at:]
	if size := url(here); size > 0 {
		return p.add(angleLink(here[:size], at, ""))
	}
	if size := address(here); size > 0 {
		return p.add(angleLink(here[:size], at, mailto))
	}
	if size := p.raw(here); size > 0 {
		// A piece of the text would keep all of it in memory.
		return p.add(part{Node: api.Node{Kind: api.KRaw, From: at, To: at + size, Text: strings.Clone(here[:size])}})
	}
	return at + 1
}

// angleLink: a link to what stands between this "<" and ">", with something ahead of it.
func angleLink(whole string, at int, ahead string) part {
	to := at + len(whole)
	within := whole[1 : len(whole)-1]
	return part{
		Node: api.Node{Kind: api.KLink, From: at, To: to, Level: byAngle, Link: strings.Clone(ahead + within)},
		kids: []part{textPart(at+1, to-1, strings.Clone(within))},
	}
}

// url: how many bytes the URL has with which a text begins, "<" and ">" too; 0: there is none.
func url(s string) int {
	if len(s) < 2 || !letter(s[1]) {
		return 0
	}
	colon := behindRow(s, 2, func(b byte) bool { return letterOrDigit(b) || strings.IndexByte("+.-", b) >= 0 })
	if more := colon - 2; more < leastScheme || more > mostScheme || !strings.HasPrefix(s[colon:], ":") {
		return 0
	}
	end := behindRow(s, colon+1, func(b byte) bool { return b > ' ' && b != '<' && b != '>' })
	return closed(s, end)
}

// address: how many bytes the address has with which a text begins, "<" and ">" too; 0: there is none.
func address(s string) int {
	at := behindRow(s, 1, func(b byte) bool { return letterOrDigit(b) || strings.IndexByte(".+_-", b) >= 0 })
	if at == 1 || !strings.HasPrefix(s[at:], "@") {
		return 0
	}
	for {
		begin := at + 1
		at = behindRow(s, begin, func(b byte) bool { return letterOrDigit(b) || b == '-' })
		if at == begin {
			return 0
		}
		if !strings.HasPrefix(s[at:], ".") {
			return closed(s, at)
		}
	}
}

// raw: how many bytes of HTML what is still to be read begins with; 0: none.
func (p *parser) raw(rest string) int {
	if len(rest) < 2 || rest[1] != '!' && rest[1] != '?' {
		return tag.Raw(rest)
	}
	// An end that isn't there would be looked for up to the text's end, for each beginning anew.
	kind := tag.Kind(rest)
	if slices.Contains(p.endless, kind) {
		return 0
	}
	size := tag.Raw(rest)
	if size == 0 {
		p.endless = append(p.endless, kind)
	}
	return size
}

// behindRow: the place behind the bytes that belong to a row, from a place on.
func behindRow(s string, at int, belongs func(byte) bool) int {
	for at < len(s) && belongs(s[at]) {
		at++
	}
	return at
}

// closed: the place behind the ">" that stands at a place; 0: none does.
func closed(s string, at int) int {
	if !strings.HasPrefix(s[at:], ">") {
		return 0
	}
	return at + 1
}

// letter: is it a letter of ASCII?
func letter(b byte) bool { return 'a' <= b && b <= 'z' || 'A' <= b && b <= 'Z' }

// letterOrDigit: is it a letter or a digit of ASCII?
func letterOrDigit(b byte) bool { return letter(b) || '0' <= b && b <= '9' }
