package escape

import (
	"fmt"
	"math"
	"regexp"
	"slices"
	"strconv"
	"strings"
	"testing"
	"unicode/utf8"
)

// This file holds the calls against a second telling of the chapter, by regular expressions, at all short texts of some bytes.

const entityWords = "amp 38, lt 60, gt 62, quot 34, apos 39, nbsp 160, copy 169, reg 174, trade 8482, hellip 8230, mdash 8212, ndash 8211, " +
	"lsquo 8216, rsquo 8217, ldquo 8220, rdquo 8221, laquo 171, raquo 187, deg 176, plusmn 177, times 215, divide 247, frac12 189, " +
	"sect 167, para 182, middot 183, bull 8226, euro 8364, pound 163, yen 165, cent 162, larr 8592, rarr 8594, uarr 8593, darr 8595, " +
	"auml 228, ouml 246, uuml 252, Auml 196, Ouml 214, Uuml 220, szlig 223, eacute 233, egrave 232, ccedil 231, ntilde 241, " +
	"alpha 945, beta 946, pi 960, infin 8734, ne 8800, le 8804, ge 8805"

// listedEntities: the chapter's list of layer 3.
func listedEntities() map[string]int {
	listed := map[string]int{}
	for _, words := range strings.Split(entityWords, ", ") {
		name, digits, _ := strings.Cut(words, " ")
		listed[name], _ = strconv.Atoi(digits)
	}
	return listed
}

// model: the second telling.
type model struct {
	listed       map[string]int
	entity, mark *regexp.Regexp
}

const urlKept = `%[0-9A-Fa-f]{2}|[A-Za-z0-9_.!~*'();/?:@&=+$,#-]`

var (
	urlPart     = regexp.MustCompile(`(?s)` + urlKept + `|.`)
	urlKeptForm = regexp.MustCompile(`^(?:` + urlKept + `)$`)
	htmlForm    = strings.NewReplacer("&", "&amp;", "<", "&lt;", ">", "&gt;", `"`, "&quot;")
)

func newModel() model {
	m := model{listed: listedEntities()}
	var names []string
	for name := range m.listed {
		names = append(names, name)
	}
	slices.Sort(names)
	form := `&(?:(` + strings.Join(names, "|") + `)|#([0-9]{1,7})|#[xX]([0-9A-Fa-f]{1,6}));`
	m.entity = regexp.MustCompile(`^` + form)
	m.mark = regexp.MustCompile(`\\[!-/:-@\[-\x60{-~]|` + form)
	return m
}

// character: that of an entity's text, which is handed in without anything around it.
func (m model) character(s string) string {
	parts := m.entity.FindStringSubmatch(s)
	number := int64(m.listed[parts[1]])
	if parts[2] != "" {
		number, _ = strconv.ParseInt(parts[2], 10, 64)
	}
	if parts[3] != "" {
		number, _ = strconv.ParseInt(parts[3], 16, 64)
	}
	if number == 0 || number > utf8.MaxRune || !utf8.ValidRune(rune(number)) {
		return lost
	}
	return string(utf8.AppendRune(nil, rune(number)))
}

func (m model) entityAt(s string, at int) (string, int) {
	if at < 0 || at > len(s) {
		return "", 0
	}
	place := m.entity.FindStringIndex(s[at:])
	if place == nil {
		return "", 0
	}
	return m.character(s[at : at+place[1]]), place[1]
}

func (m model) plain(s string) string {
	return m.mark.ReplaceAllStringFunc(s, func(found string) string {
		if found[0] == '\\' {
			return found[1:]
		}
		return m.character(found)
	})
}

// clean: by the library's own way from bytes to characters.
func clean(s string) string { return strings.ReplaceAll(string([]rune(s)), "\x00", lost) }

func (m model) html(s string) string { return htmlForm.Replace(clean(s)) }

func (m model) url(s string) string {
	return urlPart.ReplaceAllStringFunc(clean(s), func(part string) string {
		if urlKeptForm.MatchString(part) {
			return part
		}
		out := ""
		for i := range len(part) {
			out += fmt.Sprintf("%%%02X", part[i])
		}
		return out
	})
}

func (m model) holdEntityAt(t *testing.T, s string, at int) {
	t.Helper()
	want, size := m.entityAt(s, at)
	if got, n := Entity(s, at); got != want || n != size {
		t.Fatalf("Entity of %q at %d: %q %d, not %q %d", s, at, got, n, want, size)
	}
}

func (m model) hold(t *testing.T, s string) {
	t.Helper()
	for at := -1; at <= len(s)+1; at++ {
		m.holdEntityAt(t, s, at)
	}
	m.holdPlain(t, s)
	if got, want := Html(s), m.html(s); got != want {
		t.Fatalf("Html of %q: %q, not %q", s, got, want)
	}
	if got, want := Url(s), m.url(s); got != want {
		t.Fatalf("Url of %q: %q, not %q", s, got, want)
	}
}

func (m model) holdPlain(t *testing.T, s string) {
	t.Helper()
	if got, want := Plain(s), m.plain(s); got != want {
		t.Fatalf("Plain of %q: %q, not %q", s, got, want)
	}
}

// texts: all texts of at most so many of these bytes.
func texts(alphabet string, longest int, yield func(string)) {
	var grow func(string)
	grow = func(s string) {
		yield(s)
		if len(s) == longest {
			return
		}
		for i := range len(alphabet) {
			grow(s + alphabet[i:i+1])
		}
	}
	grow("")
}

// P7.1 to P7.4 at all short texts of the bytes that matter, behind what may stand ahead of them.
func TestShortTextsAgainstModel(t *testing.T) {
	m := newModel()
	for _, c := range []struct {
		begin    string
		alphabet string
		longest  int
	}{
		{"", "&#x1;\\", 5},
		{"", "\\*a&;", 5},
		{"", "&lt;\\", 5},
		{"", "%0fFgG ", 4},
		{"", "<>&\"'a", 4},
		{"", "\x00\xff\xc3\xa4 &\\%", 4},
		{"", "\r\n\t \\&", 4},
		{"&", "ampl;&", 5},
		{"&l", "tT; e", 4},
		{"&pi;", "&pi;\\", 4},
		{"&#", "09xXaF;", 4},
		{"&#6555", "09aA;", 4},
		{"&#x", "0DdFfG;", 4},
		{"&#X10FF", "fF0;g", 4},
		{"&amp;", "&lt;#", 4},
		{"&#92;", "\\*&;", 4},
	} {
		texts(c.alphabet, c.longest, func(s string) { m.hold(t, c.begin+s) })
	}
}

// samples: texts of every form, from which texts near to them are made.
func samples() []string {
	return []string{
		"&amp;", "&lt;", "&frac12;", "&Auml;", "&plusmn;", "&#65;", "&#1234567;", "&#x1F600;", "&#X41;", "&#xd7ff;", "&#0;",
		"\\*", "\\\\", "\\&lt;", "a\\", "<a b=\"c\">", "a%20b", "%", "%4", "\u00e4", "\u20ac", "\U0001f600", "a \r\n",
	}
}

// P7.1 to P7.4: every byte in each place of the samples, instead of the one there or ahead of it; and samples that lack any part of them.
func TestEveryByteAgainstModel(t *testing.T) {
	m := newModel()
	for _, s := range samples() {
		for i := range len(s) + 1 {
			for j := i; j <= len(s); j++ {
				m.hold(t, s[:i]+s[j:])
			}
			for b := range 256 {
				m.hold(t, s[:i]+one(b)+s[i:])
				if i < len(s) {
					m.hold(t, s[:i]+one(b)+s[i+1:])
				}
			}
		}
	}
}

// P7.1 to P7.4: each sample behind each other one.
func TestTwoSamplesAgainstModel(t *testing.T) {
	m := newModel()
	for _, first := range samples() {
		for _, second := range samples() {
			for _, between := range []string{"", " ", "\n", "\\", "&", "#", ";", "%", "\xff", "\x00"} {
				m.hold(t, first+between+second)
			}
		}
	}
}

// P7.1, Entity: the numbers of all characters and of some beyond, decimal and hexadecimal; and as many digits as there may be.
func TestAllNumbers(t *testing.T) {
	for number := range 0x110000 + 5000 {
		want := lost
		if number != 0 && number <= utf8.MaxRune && utf8.ValidRune(rune(number)) {
			want = string(utf8.AppendRune(nil, rune(number)))
		}
		for _, digits := range []string{strconv.Itoa(number), "x" + strconv.FormatInt(int64(number), 16)} {
			s := "&#" + digits + ";"
			if got, n := Entity(s, 0); got != want || n != len(s) {
				t.Fatalf("Entity of %q: %q %d, not %q", s, got, n, want)
			}
		}
	}
	m := newModel()
	for n := range 12 {
		for _, d := range []string{"0", "1", "9", "a", "F"} {
			row := strings.Repeat(d, n)
			for _, s := range []string{"&#" + row + ";", "&#x" + row + ";", "&#X" + row + ";", "&" + row + ";", "&#" + row, "&#x" + row} {
				m.hold(t, s)
			}
		}
	}
}

// P7.1 to P7.4: all characters, alone and behind what takes the next byte with it.
func TestAllCharactersAgainstModel(t *testing.T) {
	m := newModel()
	for r := rune(0); r <= utf8.MaxRune; r++ {
		// Beyond the first plane no character has a part of its own here: some of them will do.
		if r > 0x3100 && r%251 != 0 || !utf8.ValidRune(r) {
			continue
		}
		for _, ahead := range []string{"", "\\", "&", "%4", "&#6"} {
			m.hold(t, ahead+string(r)+";")
		}
	}
}

// P1: any arguments are answered; P7.1 to P7.4 at any texts.
func FuzzAgainstModel(f *testing.F) {
	for _, s := range append(samples(), "", " ", " \t\n", "\xff", "&\xff;", "\\\xff", "%\xff", "\x00", "&amp;lt;", "&#92;*") {
		for _, at := range []int{0, 1, 4, -1, 1 << 32, math.MinInt64, math.MaxInt64} {
			f.Add(s, at)
		}
	}
	m := newModel()
	f.Fuzz(func(t *testing.T, s string, at int) {
		m.hold(t, s)
		m.holdEntityAt(t, s, at)
	})
}
