package tree

import (
	"strconv"
	"strings"

	"stet/api"
)

const digits = "0123456789abcdef"

var names = [...]string{
	api.KDoc:    "doc",
	api.KQuote:  "quote",
	api.KList:   "list",
	api.KItem:   "item",
	api.KPara:   "para",
	api.KHead:   "head",
	api.KRule:   "rule",
	api.KCode:   "code",
	api.KHtml:   "html",
	api.KText:   "text",
	api.KSoft:   "soft",
	api.KHard:   "hard",
	api.KSpan:   "span",
	api.KEm:     "em",
	api.KStrong: "strong",
	api.KLink:   "link",
	api.KImage:  "image",
	api.KRaw:    "raw",
}

// writeLine: what is told of a node of a right tree, behind the blanks of its depth.
func writeLine(b *strings.Builder, n api.Node, spans bool) {
	b.WriteString(names[n.Kind])
	// Each thing that a line may tell: which one it is, and what there is to tell, perhaps nothing.
	for _, told := range [...][2]string{
		{"", span(n, spans)},
		{"#", level(n)},
		{"", tight(n)},
		{"t", quoted(n.Text)},
		{"l", quoted(n.Link)},
		{"h", quoted(n.Title)},
	} {
		if told[1] != "" {
			b.WriteByte(' ')
			b.WriteString(told[0])
			b.WriteString(told[1])
		}
	}
	b.WriteByte('\n')
}

func span(n api.Node, spans bool) string {
	if !spans {
		return ""
	}
	return strconv.Itoa(n.From) + "-" + strconv.Itoa(n.To)
}

func level(n api.Node) string {
	if n.Level == 0 {
		return ""
	}
	return strconv.Itoa(n.Level)
}

func tight(n api.Node) string {
	if !n.Tight {
		return ""
	}
	return "tight"
}

// quoted: a text's bytes between double quotes; nothing of an empty one.
func quoted(s string) string {
	if s == "" {
		return ""
	}
	var b strings.Builder
	b.WriteByte('"')
	for i := range len(s) {
		if c := s[i]; c < 32 || c == '"' || c == '\\' || c > 126 {
			b.WriteByte('\\')
			b.WriteByte(digits[c>>4])
			b.WriteByte(digits[c&15])
		} else {
			b.WriteByte(c)
		}
	}
	b.WriteByte('"')
	return b.String()
}
