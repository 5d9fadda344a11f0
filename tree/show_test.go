package tree

import (
	"fmt"
	"math"
	"strings"
	"testing"

	"stet/api"
)

func holdShow(t *testing.T, name string, tree api.Tree, spans bool, want string) {
	t.Helper()
	if got, err := show(t, tree, spans); got != want || err != api.OK {
		t.Errorf("%s: %q %v, not %q", name, got, err, want)
	}
}

// P9.2, Show: a tree with every kind of node.
func TestShow(t *testing.T) {
	holdShow(t, "the chapter's", document(of(api.KPara, text("a"))), false, "doc\n para\n  text t\"a\"\n")
	holdShow(t, "the document alone", document(), false, "doc\n")
	holdShow(t, "the document alone, with its place", document(), true, "doc 0-0\n")
	lines := []string{
		`doc| 0-95|`,
		` quote| 7-56|`,
		`  list| 9-56| #7 tight t")"`,
		`   item| 9-53|`,
		`    para| 12-53|`,
		`     text| 12-13| t"a"`,
		`     soft| 13-14|`,
		`     hard| 14-15|`,
		`     span| 15-18| t"b"`,
		`     em| 18-21|`,
		`      text| 19-20| t"c"`,
		`     strong| 21-26|`,
		`      text| 23-24| t"d"`,
		`     link| 26-36| #1 l"u" h"v"`,
		`      text| 27-28| t"e"`,
		`     image| 36-50| #2 l"w" h"x"`,
		`      text| 38-39| t"f"`,
		`     raw| 50-53| t"<a>"`,
		`   item| 54-56|`,
		` head| 58-61| #2 tight`,
		`  text| 60-61| t"g"`,
		` rule| 62-65|`,
		` code| 66-80| #3 t"h\0a" l"go"`,
		` html| 81-90| t"<hr>\0a"`,
	}
	with, without := "", ""
	for _, line := range lines {
		parts := strings.Split(line, "|")
		with += parts[0] + parts[1] + parts[2] + "\n"
		without += parts[0] + parts[2] + "\n"
	}
	holdShow(t, "every kind", allKinds(), true, with)
	holdShow(t, "every kind, without places", allKinds(), false, without)
}

// P9.2, Show: each kind's name, with no more than the kind must have.
func TestShowNames(t *testing.T) {
	for kind, want := range map[int]string{
		api.KDoc:    "doc\n",
		api.KQuote:  "doc\n quote\n",
		api.KList:   "doc\n list #-1 t\"-\"\n  item\n",
		api.KItem:   "doc\n list #-1 t\"-\"\n  item\n",
		api.KPara:   "doc\n para\n",
		api.KHead:   "doc\n head #1\n",
		api.KRule:   "doc\n rule\n",
		api.KCode:   "doc\n code\n",
		api.KHtml:   "doc\n html\n",
		api.KText:   "doc\n para\n  text t\"x\"\n",
		api.KSoft:   "doc\n para\n  soft\n",
		api.KHard:   "doc\n para\n  hard\n",
		api.KSpan:   "doc\n para\n  span\n",
		api.KEm:     "doc\n para\n  em\n",
		api.KStrong: "doc\n para\n  strong\n",
		api.KLink:   "doc\n para\n  link #1\n",
		api.KImage:  "doc\n para\n  image #1\n",
		api.KRaw:    "doc\n para\n  raw\n",
	} {
		tree, _ := around(least(kind))
		holdShow(t, fmt.Sprint("kind ", kind), tree, false, want)
	}
}

// P9.2, Show: places, Levels, Tight and texts of one node, alone and together.
func TestShowFields(t *testing.T) {
	list := func(n api.Node) part {
		n.Kind = api.KList
		return part{n, []part{of(api.KItem).from(n.From, n.From)}}
	}
	for _, c := range []struct {
		name  string
		part  part
		spans bool
		want  string
	}{
		{"a Level below 0", list(api.Node{Level: -1, Text: "*"}), false, `list #-1 t"*"`},
		{"a Level of 0", list(api.Node{Level: 0, Text: "."}), false, `list t"."`},
		{"a Level of 1", list(api.Node{Level: 1, Text: ")"}), false, `list #1 t")"`},
		{"a list's greatest Level", list(api.Node{Level: 999999999, Text: "."}), false, `list #999999999 t"."`},
		{"bullets and tight", list(api.Node{Level: -1, Text: "+", Tight: true}), false, `list #-1 tight t"+"`},
		{"numbers from 0 on and tight", list(api.Node{Text: ".", Tight: true}), false, `list tight t"."`},
		{"all of a list", list(api.Node{Level: 10, Text: ")", Tight: true, From: 3, To: 14}), true, `list 3-14 #10 tight t")"`},
		{"a heading", of(api.KHead).with(func(n *api.Node) { n.Level = 6 }), false, `head #6`},
		{"an underlined heading", of(api.KHead).with(func(n *api.Node) { n.Level, n.Tight = 2, true }), false, `head #2 tight`},
		{"an underlined heading with its place", of(api.KHead).from(10, 20).with(func(n *api.Node) { n.Level, n.Tight = 1, true }), true, `head 10-20 #1 tight`},
		{"code with Text", of(api.KCode).with(func(n *api.Node) { n.Text = "a" }), false, `code t"a"`},
		{"code with Link", of(api.KCode).with(func(n *api.Node) { n.Link = "b" }), false, `code l"b"`},
		{"code with both", of(api.KCode).with(func(n *api.Node) { n.Text, n.Link = "a", "b" }), false, `code t"a" l"b"`},
		{"code's greatest Level", of(api.KCode).with(func(n *api.Node) { n.Level = math.MaxInt64 }), false, `code #9223372036854775807`},
		{"all of code", of(api.KCode).from(0, 9).with(func(n *api.Node) { n.Level, n.Text, n.Link = 4, "a", "b" }), true, `code 0-9 #4 t"a" l"b"`},
		{"a place at 0", of(api.KRule), true, `rule 0-0`},
		{"the greatest places", of(api.KRule).from(math.MaxInt64-1, math.MaxInt64), true, `rule 9223372036854775806-9223372036854775807`},
		{"a place that isn't asked for", of(api.KRule).from(1, 2), false, `rule`},
	} {
		doc := of(api.KDoc, c.part).from(0, math.MaxInt64)
		first := "doc"
		if c.spans {
			first = "doc 0-9223372036854775807"
		}
		got, err := show(t, made(doc), c.spans)
		lines := strings.Split(got, "\n")
		if err != api.OK || lines[0] != first || lines[1] != " "+c.want {
			t.Errorf("%s: %q %v, not %q", c.name, got, err, c.want)
		}
	}
}

// P9.2, Show: Link and Title of links and images.
func TestShowLinks(t *testing.T) {
	for kind, name := range map[int]string{api.KLink: "link", api.KImage: "image"} {
		for _, c := range []struct{ link, title, want string }{
			{"", "", ` #2`},
			{"a", "", ` #2 l"a"`},
			{"", "b", ` #2 h"b"`},
			{"a", "b", ` #2 l"a" h"b"`},
			{"a b", " ", ` #2 l"a b" h" "`},
			{"\"", "\\", ` #2 l"\22" h"\5c"`},
		} {
			p := of(kind).with(func(n *api.Node) { n.Level, n.Link, n.Title = 2, c.link, c.title })
			holdShow(t, name, document(of(api.KPara, p)), false, "doc\n para\n  "+name+c.want+"\n")
		}
	}
}

// P9.2, Show: every byte between the quotes, in Text, Link and Title.
func TestShowBytes(t *testing.T) {
	for b := range 256 {
		one := string([]byte{byte(b)})
		told := one
		switch {
		case b < 32, b == 34, b == 92, b > 126:
			told = fmt.Sprintf(`\%02x`, b)
		}
		for _, c := range [][2]string{{one, told}, {"a" + one, "a" + told}, {one + "a", told + "a"}, {"a" + one + "b", "a" + told + "b"}, {one + one + one, told + told + told}} {
			s, want := c[0], c[1]
			link := of(api.KLink).with(func(n *api.Node) { n.Level, n.Link, n.Title = 1, s, s })
			holdShow(t, fmt.Sprint("byte ", b), document(of(api.KPara, text(s), link)), false,
				"doc\n para\n  text t\""+want+"\"\n  link #1 l\""+want+"\" h\""+want+"\"\n")
		}
	}
}

// P9.2, Show: texts of several bytes a character, and of bytes that are none.
func TestShowTexts(t *testing.T) {
	for s, want := range map[string]string{
		"a b":              "a b",
		" ":                " ",
		"~!#$%&'()*+,-./":  "~!#$%&'()*+,-./",
		"\x1f \x7e\x7f":    `\1f ~\7f`,
		"\u00e9":           `\c3\a9`,
		"\u20ac":           `\e2\82\ac`,
		"\U0001f600":       `\f0\9f\98\80`,
		"\ufffd":           `\ef\bf\bd`,
		"\xff\xfe":         `\ff\fe`,
		"a\x80b":           `a\80b`,
		"\xc3":             `\c3`,
		"\xe2\x82":         `\e2\82`,
		"\xed\xa0\x80":     `\ed\a0\80`,
		"\xf4\x90\x80\x80": `\f4\90\80\80`,
		"\x00\x00":         `\00\00`,
		"\r\n\t":           `\0d\0a\09`,
		`\"`:               `\5c\22`,
		`\22`:              `\5c22`,
		`"a" t"b"`:         `\22a\22 t\22b\22`,
		"a\n para\n":       `a\0a para\0a`,
		"\xab\xcd\xef":     `\ab\cd\ef`,
	} {
		holdShow(t, "a text", document(of(api.KPara, text(s))), false, "doc\n para\n  text t\""+want+"\"\n")
	}
}

// P9.2, Show: as many blanks as nodes a node is within.
func TestShowDepths(t *testing.T) {
	for depth := range 40 {
		want := "doc\n"
		for i := 1; i <= depth; i++ {
			want += strings.Repeat(" ", i) + "quote\n"
		}
		want += strings.Repeat(" ", depth+1) + "para\n" + strings.Repeat(" ", depth+2) + "text t\"a\"\n"
		holdShow(t, fmt.Sprint("depth ", depth), deep(depth), false, want)
	}
	up := document(of(api.KQuote, of(api.KQuote, of(api.KQuote, of(api.KRule)), of(api.KRule))), of(api.KRule))
	holdShow(t, "back over several at once", up, false, "doc\n quote\n  quote\n   quote\n    rule\n   rule\n rule\n")
}

// P9.2, Show: trees that aren't right.
func TestShowWrongTrees(t *testing.T) {
	for name, tree := range map[string]api.Tree{
		"no nodes":               {},
		"no document":            made(of(api.KPara)),
		"a kind that isn't":      document(of(lastKind + 1)),
		"a kind below all":       document(of(0)),
		"the least kind":         document(of(math.MinInt64)),
		"the greatest kind":      document(of(math.MaxInt64)),
		"a kid beyond the nodes": numbered([]int{1, 2}, nil),
		"a kid below 0":          numbered([]int{-1}, nil),
		"nodes in each other":    numbered([]int{1}, []int{2}, []int{1}),
		"the document in itself": numbered([]int{0}),
		"an empty text":          document(of(api.KPara, text(""))),
		"a Level":                document(of(api.KPara).with(func(n *api.Node) { n.Level = 1 })),
		"a piece":                document(of(api.KPara).with(func(n *api.Node) { n.Pieces = make([]api.Piece, 1) })),
		"a place":                document(of(api.KPara).from(0, 1)),
	} {
		for _, spans := range []bool{false, true} {
			if got, err := show(t, tree, spans); got != "" || err != api.ErrTree {
				t.Errorf("%s: %q %v", name, got, err)
			}
		}
	}
}
