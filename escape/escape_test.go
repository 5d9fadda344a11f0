package escape

import (
	"math"
	"strconv"
	"strings"
	"testing"
)

const lost = "\ufffd" // what stands for what is no character

const plainMarks = "!\"#$%&'()*+,-./:;<=>?@[\\]^_`{|}~"

// one: the text of this byte alone.
func one(b int) string { return string([]byte{byte(b)}) }

// holdEntity: the entity's text at a place of a text is told as this, with so many bytes.
func holdEntity(t *testing.T, s string, at int, want string, size int) {
	t.Helper()
	if got, n := Entity(s, at); got != want || n != size {
		t.Errorf("Entity of %q at %d: %q %d, not %q %d", s, at, got, n, want, size)
	}
}

// behinds: what may stand behind an entity without being part of it.
func behinds() []string {
	return []string{"", ";", "x", "0", " ", "\n", "&", "&amp;", "#", "\\", "\u00e4", "\x00", "\xff"}
}

// holdWhole: a whole text is an entity's, at a text's beginning, within it and at its end; Plain tells it, too.
func holdWhole(t *testing.T, s, want string) {
	t.Helper()
	for _, ahead := range []string{"", "a", "&", "&am", "&#", "x;", "\n", "\u20ac", "\x00", "\xff", "&lt;"} {
		for _, behind := range behinds() {
			holdEntity(t, ahead+s+behind, len(ahead), want, len(s))
		}
	}
	if got := Plain("a" + s + "b"); got != "a"+want+"b" {
		t.Errorf("Plain of %q between two letters: %q", s, got)
	}
}

// holdNone: at a text's first byte there is no entity's text, wherever the text stands; in Plain it stays as it is.
func holdNone(t *testing.T, s string) {
	t.Helper()
	for _, ahead := range []string{"", "a", "&", "&#", "\xff", "&lt;"} {
		holdEntity(t, ahead+s, len(ahead), "", 0)
	}
	if got := Plain(s); got != s {
		t.Errorf("Plain of %q: %q", s, got)
	}
}

// P7.1, Entity: each name of layer 3, alone and in any place.
func TestEntityNames(t *testing.T) {
	listed := listedEntities()
	if len(listed) != 53 {
		t.Fatal(len(listed), "entities are listed")
	}
	for name, number := range listed {
		holdWhole(t, "&"+name+";", string(rune(number)))
	}
}

// P7.1, Entity: names that are near to one of layer 3, and no name of it.
func TestEntityOtherNames(t *testing.T) {
	listed := listedEntities()
	for name := range listed {
		near := []string{name + " ", " " + name, name + "x", "x" + name, name + "1", name + "&", "&" + name + " ", name + "\x00", name + "\xff", strings.ToUpper(name), name + name + name + name}
		for i := range len(name) {
			near = append(near, name[:i]+name[i+1:], name[:i]+" "+name[i:], name[:i]+"\u00e4"+name[i+1:], name[:i]+strings.ToUpper(name[i:i+1])+name[i+1:], name[:i]+strings.ToLower(name[i:i+1])+name[i+1:])
		}
		for _, other := range near {
			if _, known := listed[other]; !known && !strings.Contains(other, "&") {
				holdNone(t, "&"+other+";")
			}
		}
		holdNone(t, "&"+name)
		holdNone(t, "&"+name+":")
		holdNone(t, "&"+name+" ;")
		holdNone(t, name+";")
		holdEntity(t, "&"+name+"&"+name+";", 0, "", 0)
	}
}

// P7.1, Entity: names of up to more than 8 letters and digits.
func TestEntityLongNames(t *testing.T) {
	for n := range 20 {
		holdNone(t, "&"+strings.Repeat("a", n)+";")
		holdNone(t, "&amp"+strings.Repeat("0", n)+"x;")
	}
	for _, name := range []string{"abcdefgh", "abcdefghi", "ampampam", "ampampamp", "frac1234", "frac12345", "12345678", "CounterClockwiseContourIntegral"} {
		holdNone(t, "&"+name+";")
		holdNone(t, "&"+name+"amp;")
	}
	holdNone(t, "&"+strings.Repeat("a", 1000)+";")
	holdNone(t, "&"+strings.Repeat("a", 1000)+"amp;")
}

// P7.1, Entity: decimal numbers of one to seven digits, and with zeros ahead.
func TestEntityDecimal(t *testing.T) {
	for s, want := range map[string]string{
		"1": "\x01", "9": "\t", "10": "\n", "13": "\r", "32": " ", "38": "&", "42": "*", "59": ";", "65": "A", "92": "\\", "127": "\x7f",
		"128": "\u0080", "160": "\u00a0", "255": "\u00ff", "2047": "\u07ff", "2048": "\u0800", "8364": "\u20ac",
		"55295": "\ud7ff", "55296": lost, "56319": lost, "56320": lost, "57343": lost, "57344": "\ue000", "65533": lost, "65534": "\ufffe", "65535": "\uffff", "65536": "\U00010000",
		"128512": "\U0001f600", "999999": "\U000f423f", "1000000": "\U000f4240", "1114111": "\U0010ffff", "1114112": lost, "9999999": lost,
		"0": lost, "00": lost, "0000000": lost, "0000001": "\x01", "0000065": "A", "01": "\x01", "0055296": lost,
		"1234": "\u04d2", "12345": "\u3039", "123456": "\U0001e240", "1234567": lost,
	} {
		holdWhole(t, "&#"+s+";", want)
	}
}

// P7.1, Entity: hexadecimal numbers of one to six digits, with zeros ahead, small and capital.
func TestEntityHexadecimal(t *testing.T) {
	for s, want := range map[string]string{
		"1": "\x01", "9": "\t", "a": "\n", "d": "\r", "f": "\x0f", "20": " ", "26": "&", "2a": "*", "3b": ";", "41": "A", "5c": "\\", "7f": "\x7f",
		"80": "\u0080", "a0": "\u00a0", "ff": "\u00ff", "7ff": "\u07ff", "800": "\u0800", "20ac": "\u20ac", "abcd": "\uabcd",
		"d7ff": "\ud7ff", "d800": lost, "dbff": lost, "dc00": lost, "dfff": lost, "e000": "\ue000", "fffd": lost, "fffe": "\ufffe", "ffff": "\uffff", "10000": "\U00010000",
		"1f600": "\U0001f600", "fffff": "\U000fffff", "100000": "\U00100000", "10ffff": "\U0010ffff", "110000": lost, "ffffff": lost,
		"0": lost, "00": lost, "000000": lost, "000001": "\x01", "000041": "A", "01": "\x01", "00d800": lost, "0e000": "\ue000", "00000a": "\n",
		"123": "\u0123", "1234": "\u1234", "12345": "\U00012345", "123456": lost,
	} {
		capital := strings.ToUpper(s)
		mixed := strings.ToUpper(s[:1]) + s[1:]
		for _, digits := range []string{s, capital, mixed} {
			holdWhole(t, "&#x"+digits+";", want)
			holdWhole(t, "&#X"+digits+";", want)
		}
	}
}

// P7.1, Entity: numbers that aren't any.
func TestEntityNoNumbers(t *testing.T) {
	for _, s := range []string{
		"&#;", "&#", "&# ;", "&#x;", "&#X;", "&#x", "&#X", "&#x ;", "&##;", "&##65;", "&#&;",
		"&#12345678;", "&#00000065;", "&#00000000;", "&#99999999;", "&#1234567890;", "&#18446744073709551681;",
		"&#x1234567;", "&#X1234567;", "&#x0000041;", "&#xFFFFFFF;", "&#x10000000000000041;",
		"&#65", "&#65:", "&#65 ;", "&# 65;", "&#65\n;", "&#x41", "&#x41:", "&#x41 ;", "&#x 41;", "&# x41;",
		"&#a;", "&#A;", "&#f;", "&#6a;", "&#a6;", "&#6x5;", "&#65x;", "&#x4g;", "&#xg4;", "&#xG;", "&#x4G1;", "&#x4/;", "&#x4:;", "&#x4@;", "&#x4`;", "&#/;", "&#:;", "&#6/;", "&#6:;",
		"&#xx41;", "&#Xx41;", "&#0x41;", "&x41;", "&X41;", "&65;", "&41;", "&#-1;", "&#+1;", "&#x-1;", "&#x+1;", "&#1_0;", "&#x1_0;", "&#1.0;", "&#1e1x;", "&#x1p1;", "&#0b1;", "&#0o7;",
		"&#\u0661;", "&#x\uff11;", "&#\xff;", "&#6\xff;", "&#x4\xff;", "&#\x00;", "&#6\x00;", "&#x\x00;", "&#amp;", "&#xamp;", "# 65;", "#65;", "#x41;",
	} {
		holdNone(t, s)
	}
}

// P7.1, Entity: "&" and what is no entity's text behind it, or nothing.
func TestEntityNone(t *testing.T) {
	for _, s := range append(oddTexts(), "&", "&;", "& ;", "&&", "&&;", "& amp;", "&\tamp;", "&\namp;", "&a mp;", "&-;", "&\\;", "&\xff;", "&\x00;", "&\u00e4;", "&\u00e4uml;", ";", "amp;", "a&amp;", " &amp;", "\\amp;", "\uff06amp;", "&\uff03\x365;", "&#65\uff1b", "&amp\uff1b") {
		holdEntity(t, s, 0, "", 0)
	}
	holdEntity(t, "&&amp;", 0, "", 0)
	holdEntity(t, "&&amp;", 1, "&", 5)
}

// P7.1, Entity: every place of a text, also those that it hasn't.
func TestEntityPlaces(t *testing.T) {
	s := "&lt;a&#65;&gt;\u00e4&#x41;"
	told := map[int]string{0: "<", 5: "A", 10: ">", 16: "A"}
	sizes := map[int]int{0: 4, 5: 5, 10: 4, 16: 6}
	for at := -100; at <= len(s)+100; at++ {
		holdEntity(t, s, at, told[at], sizes[at])
	}
	for _, s := range []string{"", "&", "&lt;", "a&lt;", "\xff"} {
		for _, at := range []int{-1, -2, len(s), len(s) + 1, len(s) + 2, 1 << 20, 1 << 31, -1 << 31, 1 << 32, -1 << 32, 1<<32 + 1, math.MaxInt32, math.MinInt32, math.MaxInt64, math.MaxInt64 - 1, math.MaxInt64 - 9, math.MinInt64, math.MinInt64 + 1} {
			holdEntity(t, s, at, "", 0)
		}
	}
}

// oddTexts: texts of which no byte is a mark: they are what Plain makes of them.
func oddTexts() []string {
	return []string{
		"", " ", "  ", "\t", " \t ", "\n", "\r", "\r\n", "\n\r", "a\r\nb\nc\rd", "\f", "\v", "\x00", "a\x00b", "\x00\x00", "\x7f",
		"\u00a0", "\u0085", "\u2028", "\u3000", "\u00e4", "\u20ac", "\U0001f600", "\ufeff", "\ufffd", "\u00bf\u00d7\u2026",
		"\xff", "\x80", "a\xffb", "\xff\xff", "\xc3", "\xe2\x82", "\xf0\x9f\x98", "\xc0\x80", "\xe0\x80\x80", "\xed\xa0\x80", "\xf4\x90\x80\x80", "\xf8\x88\x80\x80\x80", "\u00e4\xa4",
	}
}

type turned struct{ s, want string }

func hold(t *testing.T, name string, call func(string) string, cases []turned) {
	t.Helper()
	for _, c := range cases {
		if got := call(c.s); got != c.want {
			t.Errorf("%s of %q: %q, not %q", name, c.s, got, c.want)
		}
	}
}

// P7.2, Plain: what has neither backslashes nor entities stays, byte by byte, also where it isn't clean.
func TestPlainStays(t *testing.T) {
	for _, s := range append(oddTexts(), "a", "abc 123", "&", "&&", "&;", "a & b", "&copy", "&nope;", "&#;", "&#12345678;", "*a* _b_", "<a b='c'>", "%20", strings.Repeat("a", 5000), strings.Repeat("&", 5000)) {
		hold(t, "Plain", Plain, []turned{{s, s}})
	}
}

// P7.2, Plain: a backslash ahead of each byte.
func TestPlainBackslashes(t *testing.T) {
	for b := range 256 {
		s := one(b)
		want := "\\" + s
		if strings.Contains(plainMarks, s) {
			want = s
		}
		hold(t, "Plain", Plain, []turned{
			{"\\" + s, want},
			{"a\\" + s, "a" + want},
			{"\\" + s + "a", want + "a"},
			{"\u00e4\\" + s + "\\" + s + "\xff", "\u00e4" + want + want + "\xff"},
		})
	}
}

// P7.2, Plain: backslashes in a row, at the text's end, and ahead of what has more than a byte.
func TestPlainBackslashRows(t *testing.T) {
	hold(t, "Plain", Plain, []turned{
		{"\\", "\\"},
		{"a\\", "a\\"},
		{"\\\\", "\\"},
		{"\\\\\\", "\\\\"},
		{"\\\\\\\\", "\\\\"},
		{"\\\\*", "\\*"},
		{"\\\\\\*", "\\*"},
		{"\\\\a", "\\a"},
		{"\\a\\\\", "\\a\\"},
		{"\\*\\", "*\\"},
		{"\\a\\*", "\\a*"},
		{"\\\n", "\\\n"},
		{"\\\r\n", "\\\r\n"},
		{"\\ \\\t", "\\ \\\t"},
		{"\\0", "\\0"},
		{"\\\x00*", "\\\x00*"},
		{"\\\xff*", "\\\xff*"},
		{"\\\u00d7", "\\\u00d7"},
		{"\\\u2026*", "\\\u2026*"},
		{"\\\uff0a", "\\\uff0a"},
		{"\xff\\*\xff", "\xff*\xff"},
		{plainMarks, strings.Replace(plainMarks, "\\]", "]", 1)},
	})
	for n := range 50 {
		row := strings.Repeat("\\", n)
		hold(t, "Plain", Plain, []turned{
			{row, strings.Repeat("\\", n-n/2)},
			{row + "a", strings.Repeat("\\", n-n/2) + "a"},
			{row + "*", strings.Repeat("\\", n/2) + "*"},
		})
	}
}

// P7.2, Plain: backslashes and entities; what they make is not told again.
func TestPlainEntities(t *testing.T) {
	hold(t, "Plain", Plain, []turned{
		{"\\*a&amp;&copy", "*a&&copy"},
		{"&amp;", "&"},
		{"&amp;&amp;", "&&"},
		{"&lt;&gt;&quot;&apos;", "<>\"'"},
		{"&lt;a&#65;b&#x42;", "<aAbB"},
		{"&copy;&#0;&#xD800;&#x110000;&#9999999;", "\u00a9" + lost + lost + lost + lost},
		{"\\&amp;", "&amp;"},
		{"\\&lt;", "&lt;"},
		{"\\\\&lt;", "\\<"},
		{"\\\\\\&lt;", "\\&lt;"},
		{"&\\amp;", "&\\amp;"},
		{"&amp\\;", "&amp;"},
		{"&\\#65;", "&#65;"},
		{"&#65\\;", "&#65;"},
		{"&am\\p;", "&am\\p;"},
		{"&amp;lt;", "&lt;"},
		{"&amp;amp;", "&amp;"},
		{"&amp;amp;amp;", "&amp;amp;"},
		{"&amp;&lt;", "&<"},
		{"&amp;#65;", "&#65;"},
		{"&#38;lt;", "&lt;"},
		{"&#x26;#x41;", "&#x41;"},
		{"&#38;#38;#38;", "&#38;#38;"},
		{"&#92;*", "\\*"},
		{"&#92;\\*", "\\*"},
		{"&#92;&#42;", "\\*"},
		{"&#92;&lt;", "\\<"},
		{"&#92;&amp;lt;", "\\&lt;"},
		{"&#92;&#92;", "\\\\"},
		{"&#x5c;*", "\\*"},
		{"\\&#92;*", "&#92;*"},
		{"&#42;\\", "*\\"},
		{"&lt;\\", "<\\"},
		{"&&lt;", "&<"},
		{"&&&lt;;", "&&<;"},
		{"&#&lt;", "&#<"},
		{"&#6&lt;", "&#6<"},
		{"&lt&lt;", "&lt<"},
		{"&nope;&lt;", "&nope;<"},
		{"&LT;&lt;", "&LT;<"},
		{"&#12345678;&lt;", "&#12345678;<"},
		{"&lt; &gt;\n&amp;", "< >\n&"},
		{"\xff&lt;\xff", "\xff<\xff"},
		{"\x00&lt;\x00", "\x00<\x00"},
		{"\u00e4&auml;\\\u00e4", "\u00e4\u00e4\\\u00e4"},
		{"&#10;&#13;&#1;", "\n\r\x01"},
		{strings.Repeat("&euro;", 3000), strings.Repeat("\u20ac", 3000)},
		{strings.Repeat("&#0;", 3000), strings.Repeat(lost, 3000)},
	})
}

// cleaned: what the clean text is of texts that aren't.
func cleaned() []turned {
	return []turned{
		{"\x00", lost},
		{"\x00\x00", lost + lost},
		{"\xff", lost},
		{"\x80", lost},
		{"\xff\xfe", lost + lost},
		{"\xc3", lost},
		{"\xe2\x82", lost + lost},
		{"\xf0\x9f\x98", lost + lost + lost},
		{"\xc0\x80", lost + lost},
		{"\xe0\x80\x80", lost + lost + lost},
		{"\xed\xa0\x80", lost + lost + lost},
		{"\xf4\x90\x80\x80", lost + lost + lost + lost},
		{"\u00e4\xa4", "\u00e4" + lost},
		{"\ufffd", lost},
	}
}

// P7.3, Html: each byte alone.
func TestHtmlBytes(t *testing.T) {
	for b := range 256 {
		want := one(b)
		switch {
		case b == '&':
			want = "&amp;"
		case b == '<':
			want = "&lt;"
		case b == '>':
			want = "&gt;"
		case b == '"':
			want = "&quot;"
		case b == 0 || b >= 128:
			want = lost
		}
		hold(t, "Html", Html, []turned{{one(b), want}, {"a" + one(b) + "b", "a" + want + "b"}, {one(b) + one(b), want + want}})
	}
}

// P7.3, Html: several such bytes, next to each other and apart, and what is written already.
func TestHtml(t *testing.T) {
	hold(t, "Html", Html, []turned{
		{"", ""},
		{" \t ", " \t "},
		{"a\r\nb\nc\rd", "a\r\nb\nc\rd"},
		{"\f\v\x7f", "\f\v\x7f"},
		{"abc 123", "abc 123"},
		{"<a b=\"c\">d & e</a>", "&lt;a b=&quot;c&quot;&gt;d &amp; e&lt;/a&gt;"},
		{"&<>\"", "&amp;&lt;&gt;&quot;"},
		{"\"><&", "&quot;&gt;&lt;&amp;"},
		{"<<>>&&\"\"", "&lt;&lt;&gt;&gt;&amp;&amp;&quot;&quot;"},
		{"&amp;", "&amp;amp;"},
		{"&lt;&gt;&quot;", "&amp;lt;&amp;gt;&amp;quot;"},
		{"&amp;amp;", "&amp;amp;amp;"},
		{"&#65;&copy;", "&amp;#65;&amp;copy;"},
		{"\\&\\<", "\\&amp;\\&lt;"},
		{"'`\\%*_", "'`\\%*_"},
		{"\u00e4<\u20ac>\U0001f600", "\u00e4&lt;\u20ac&gt;\U0001f600"},
		{"\u00ab\uff1c\uff06\u201c", "\u00ab\uff1c\uff06\u201c"},
		{"<\xff>\x00&", "&lt;" + lost + "&gt;" + lost + "&amp;"},
		{"\xc3<\xa4", lost + "&lt;" + lost},
		{strings.Repeat("<", 5000), strings.Repeat("&lt;", 5000)},
	})
	for _, c := range cleaned() {
		hold(t, "Html", Html, []turned{c, {"<" + c.s + ">", "&lt;" + c.want + "&gt;"}})
	}
}

// percents: a text's bytes, each as "%" and two digits.
func percents(s string) string {
	out := ""
	for i := range len(s) {
		digits := strings.ToUpper(strconv.FormatInt(int64(s[i]), 16))
		out += "%" + strings.Repeat("0", 2-len(digits)) + digits
	}
	return out
}

// P7.4, Url: each byte alone, and next to others.
func TestUrlBytes(t *testing.T) {
	stay := "ABCDEFGHIJKLMNOPQRSTUVWXYZabcdefghijklmnopqrstuvwxyz0123456789-_.!~*'();/?:@&=+$,#"
	for b := range 256 {
		want := percents(one(b))
		switch {
		case strings.Contains(stay, one(b)):
			want = one(b)
		case b == 0 || b >= 128:
			want = "%EF%BF%BD"
		}
		hold(t, "Url", Url, []turned{{one(b), want}, {"a" + one(b) + "/", "a" + want + "/"}, {one(b) + one(b), want + want}, {"%41" + one(b), "%41" + want}})
	}
	hold(t, "Url", Url, []turned{{stay, stay}, {" \"<>[\\]^`{|}\x7f", "%20%22%3C%3E%5B%5C%5D%5E%60%7B%7C%7D%7F"}, {"\x01\x0a\x0f\x10\x1a\x1f", "%01%0A%0F%10%1A%1F"}})
}

// P7.4, Url: "%" with each two bytes behind it.
func TestUrlPercents(t *testing.T) {
	digits := "0123456789abcdefABCDEF"
	isDigit := func(b int) bool { return strings.Contains(digits, one(b)) }
	for first := range 256 {
		for second := range 256 {
			s := one(first) + one(second)
			want := "%25"
			if isDigit(first) && isDigit(second) {
				want = "%"
			}
			// What stands behind it is told as it is without it.
			hold(t, "Url", Url, []turned{{"%" + s, want + Url(s)}})
		}
	}
	for _, b := range []string{"0", "9", "a", "f", "A", "F"} {
		hold(t, "Url", Url, []turned{{"%" + b, "%25" + b}, {"%" + b + "g", "%25" + b + "g"}, {"%g" + b, "%25g" + b}, {"%" + b + b + b, "%" + b + b + b}, {"%" + b + b, "%" + b + b}})
	}
}

// P7.4, Url: ordinary ones, rows of "%", and characters of more than a byte.
func TestUrl(t *testing.T) {
	hold(t, "Url", Url, []turned{
		{"", ""},
		{"a b%20%", "a%20b%20%25"},
		{"http://x.y/a(b)?c=d&e=f#g", "http://x.y/a(b)?c=d&e=f#g"},
		{"mailto:a+b@c.d", "mailto:a+b@c.d"},
		{"a&amp;b", "a&amp;b"},
		{" \t ", "%20%09%20"},
		{"a\r\nb\nc\rd", "a%0D%0Ab%0Ac%0Dd"},
		{"%", "%25"},
		{"%%", "%25%25"},
		{"%%20", "%25%20"},
		{"%%%41", "%25%25%41"},
		{"%4%41", "%254%41"},
		{"%2520", "%2520"},
		{"%20%20", "%20%20"},
		{"%aF%Af%af%AF", "%aF%Af%af%AF"},
		{"%fg%gf%0x", "%25fg%25gf%250x"},
		{"%\u00e4", "%25%C3%A4"},
		{"%4\xff", "%254%EF%BF%BD"},
		{"%4\x00", "%254%EF%BF%BD"},
		{"%\uff14\uff11", "%25%EF%BC%94%EF%BC%91"},
		{"\u00e4", "%C3%A4"},
		{"\u07ff\u0080", "%DF%BF%C2%80"},
		{"\u20ac", "%E2%82%AC"},
		{"\u0800\uffff", "%E0%A0%80%EF%BF%BF"},
		{"\U0001f600", "%F0%9F%98%80"},
		{"\U00010000\U0010ffff", "%F0%90%80%80%F4%8F%BF%BF"},
		{"a\u00e4b\u20acc\U0001f600d", "a%C3%A4b%E2%82%ACc%F0%9F%98%80d"},
		{"\u0130\u212a\u00aa", "%C4%B0%E2%84%AA%C2%AA"},
		{"\u0661\u00b2", "%D9%A1%C2%B2"},
		{strings.Repeat(" ", 5000), strings.Repeat("%20", 5000)},
	})
	for _, c := range cleaned() {
		hold(t, "Url", Url, []turned{{c.s, percents(c.want)}, {"a" + c.s + "/", "a" + percents(c.want) + "/"}})
	}
}

// P2: what a call answers hangs on its arguments alone, and what was answered stays.
func TestAnswersStay(t *testing.T) {
	s := []byte("\\*&lt; %20<\x00")
	given := string(s)
	plain, html, url := Plain(given), Html(given), Url(given)
	told, _ := Entity(given, 2)
	for range 100 {
		Plain("&gt;&gt;&gt;&gt;")
		Html("\"\"\"\"\"\"")
		Url("        ")
		Entity("&euro;", 0)
	}
	if plain != "*< %20<\x00" || html != "\\*&amp;lt; %20&lt;"+lost || url != "%5C*&lt;%20%20%3C%EF%BF%BD" || told != "<" {
		t.Errorf("%q %q %q %q", plain, html, url, told)
	}
	if Plain(given) != plain || Html(given) != html || Url(given) != url || given != string(s) {
		t.Error("another answer at the second call")
	}
}
