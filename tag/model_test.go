package tag

import (
	"math"
	"regexp"
	"strings"
	"testing"
)

// This file holds the calls against a second telling of the chapter, by regular expressions, at all short texts of some bytes.

const (
	nameText      = `[A-Za-z][A-Za-z0-9-]*`
	attributeText = `[ \t\n]+[A-Za-z_:][A-Za-z0-9_.:-]*(?:[ \t\n]*=[ \t\n]*(?:[^ \t\n"'=<>\x60]+|'[^']*'|"[^"]*"))?`
	blockNames    = "address article aside blockquote body center col dd details dialog dir div dl dt fieldset figure footer form frame " +
		"h1 h2 h3 h4 h5 h6 head header hr html iframe legend li link main menu nav ol option p param section summary " +
		"table tbody td tfoot th thead title tr track ul"
	verbatimNames = "pre script style textarea"
)

var (
	tagForm   = regexp.MustCompile(`^(?:<` + nameText + `(?:` + attributeText + `)*[ \t\n]*/?>|</` + nameText + `[ \t\n]*>)`)
	otherForm = regexp.MustCompile(`(?s)^(?:<!-->|<!--->|<!--.*?-->|<\?.*?\?>|<![A-Za-z].*?>|<!\[CDATA\[.*?\]\]>)`)
	kindForms = []*regexp.Regexp{
		regexp.MustCompile(`^<(?:` + anyCase(verbatimNames) + `)(?:[ \t>]|\z)`),
		regexp.MustCompile(`^<!--`),
		regexp.MustCompile(`^<\?`),
		regexp.MustCompile(`^<![A-Za-z]`),
		regexp.MustCompile(`^<!\[CDATA\[`),
		regexp.MustCompile(`^</?(?:` + anyCase(blockNames) + `)(?:[ \t>]|/>|\z)`),
		regexp.MustCompile(tagForm.String() + `[ \t]*\z`),
	}
	endForms = []*regexp.Regexp{
		regexp.MustCompile(`</(?:` + anyCase(verbatimNames) + `)>`),
		regexp.MustCompile(`-->`),
		regexp.MustCompile(`\?>`),
		regexp.MustCompile(`>`),
		regexp.MustCompile(`\]\]>`),
	}
)

// anyCase: one of the names, capital and small letters being one. The library's own way takes some that aren't of ASCII for these, too.
func anyCase(names string) string {
	var form strings.Builder
	for i := range len(names) {
		b := names[i : i+1]
		switch {
		case b == " ":
			form.WriteString("|")
		default:
			form.WriteString("[" + b + strings.ToUpper(b) + "]")
		}
	}
	return form.String()
}

func modelKind(s string) int {
	for i, form := range kindForms {
		if form.MatchString(s) {
			return i + 1
		}
	}
	return 0
}

func modelEnds(s string, kind int) bool {
	return kind >= 1 && kind <= 5 && endForms[kind-1].MatchString(s)
}

func holdAgainstModel(t *testing.T, s string) {
	t.Helper()
	tags := len(tagForm.FindString(s))
	if got := Open(s); got != tags {
		t.Fatalf("Open of %q: %d, not %d", s, got, tags)
	}
	if got, want := Raw(s), tags+len(otherForm.FindString(s)); got != want {
		t.Fatalf("Raw of %q: %d, not %d", s, got, want)
	}
	if got, want := Kind(s), modelKind(s); got != want {
		t.Fatalf("Kind of %q: %d, not %d", s, got, want)
	}
	for kind := range 8 {
		holdEnds(t, s, kind)
	}
}

func holdEnds(t *testing.T, s string, kind int) {
	t.Helper()
	if got, want := Ends(s, kind), modelEnds(s, kind); got != want {
		t.Fatalf("Ends of %q and %d: %v", s, kind, got)
	}
}

// texts: all texts of at most so many of these bytes.
func texts(alphabet string, longest int, yield func(string)) {
	var grow func(string)
	grow = func(s string) {
		yield(s)
		if len(s) == longest {
			return
		}
		for i := range len(alphabet) {
			grow(s + alphabet[i:i+1])
		}
	}
	grow("")
}

// P6.1, P6.2 and P6.3 at all short texts of the bytes that HTML is made of, behind what it may begin with.
func TestShortTextsAgainstModel(t *testing.T) {
	for _, c := range []struct {
		begin    string
		alphabet string
		longest  int
	}{
		{"", "<a/>!-", 6},
		{"", "<?!>[p", 5},
		{"<", "aA1-_/> ", 5},
		{"</", "a1-/> \n", 5},
		{"<a", " b/>\n", 6},
		{"<a", " b='>", 7},
		{"<a", " b=\"'/>`<", 5},
		{"<a ", "b:_.-1 >", 4},
		{"<a b=", "c '\"=/>", 5},
		{"<a b='c'", " d='>", 5},
		{"<!", "-> a", 7},
		{"<!--", "->a", 7},
		{"<?", "?> a", 5},
		{"<!D", "> a\"", 4},
		{"<![CDATA[", "]>a", 7},
		{"<div", "x1-/> \t\n", 4},
		{"</p", "r/e> .", 5},
		{"<pre", "/> \tx\n", 4},
		{"<b>", " \t\nx<", 3},
		{"", "<a >\xff\xc3\xa4\x00\r", 4},
	} {
		texts(c.alphabet, c.longest, func(s string) { holdAgainstModel(t, c.begin+s) })
	}
}

// samples: HTML of every form, from which texts near to it are made.
func samples() []string {
	return []string{
		"<a>", "<a/>", "</a >", "<a b>", "<a b='c' d>x", "<a b = \"c\"\n/>", "<a b=c d=e>", "<a-b1 :_x.y-z>", "<B> \t",
		"<!-->", "<!--->", "<!---->", "<!-- a -->", "<?a?>", "<!D a>", "<![CDATA[a]]>",
		"<pre", "<SCRIPT x", "<style>", "<textarea\t", "<div", "</DIV>", "<h1/>", "<p x", "</li ",
		"a</PRE>b", "</script>", "</Style>", "</textarea>", "a-->b", "?>", ">", "]]>",
	}
}

// P6.1, P6.2 and P6.3: every byte in each place of HTML, instead of the one there or ahead of it; and HTML that lacks any part of it.
func TestEveryByteAgainstModel(t *testing.T) {
	for _, s := range samples() {
		for i := range len(s) + 1 {
			for j := i; j <= len(s); j++ {
				holdAgainstModel(t, s[:i]+s[j:])
			}
			for b := range 256 {
				one := string([]byte{byte(b)})
				holdAgainstModel(t, s[:i]+one+s[i:])
				if i < len(s) {
					holdAgainstModel(t, s[:i]+one+s[i+1:])
				}
			}
		}
	}
}

// P6.1, P6.2 and P6.3: each sample behind each other one.
func TestTwoSamplesAgainstModel(t *testing.T) {
	for _, first := range samples() {
		for _, second := range samples() {
			for _, between := range []string{"", " ", "\n", "'", "=", "\xff"} {
				holdAgainstModel(t, first+between+second)
			}
		}
	}
}

// P6.2 and P6.3: all names, with small and capital letters, with what may stand around them and what may not.
func TestNamesAgainstModel(t *testing.T) {
	for _, name := range strings.Fields(blockNames + " " + verbatimNames + " a b em custom h0 h7 blocks") {
		forms := []string{name, strings.ToUpper(name), strings.ToUpper(name[:1]) + name[1:], name[:len(name)-1] + strings.ToUpper(name[len(name)-1:]), name[1:], name[:len(name)-1], name + "s", name + "1", name + "-x", "1" + name, strings.ReplaceAll(name, "s", "\u017f"), strings.ReplaceAll(name, "i", "\u0130")}
		for _, form := range forms {
			for _, begin := range []string{"<", "</", "< ", "<//", "<!", "<?", "", " <", "x</"} {
				for _, behind := range []string{"", " ", "\t", ">", "/>", "/", "/ >", " x", " x>", "\n", "\n>", "\r", ".", "='", ">x", "> \t", "\xff", "\x00"} {
					holdAgainstModel(t, begin+form+behind)
				}
			}
		}
	}
}

// P1 and P2: any arguments are answered, and twice the same.
func FuzzAgainstModel(f *testing.F) {
	for _, s := range append(samples(), "", " ", " \t\n", "\xff", "<\xff>", "<a b='\xff'>", "<!--\xff") {
		for _, kind := range []int{0, 1, 2, 3, 4, 5, 6, -1, math.MinInt64, math.MaxInt64} {
			f.Add(s, kind)
		}
	}
	f.Fuzz(func(t *testing.T, s string, kind int) {
		for range 2 {
			holdAgainstModel(t, s)
			holdEnds(t, s, kind)
		}
	})
}
