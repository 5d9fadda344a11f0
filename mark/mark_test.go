package mark

import (
	"math"
	"strings"
	"testing"
	"unsafe"
)

// noMarks: texts that are a mark of nothing, whatever is asked.
func noMarks() []string {
	return []string{
		"", " ", "\t", "  ", " \t ", "\t\t\t", "a", "\n", "\r", "\x00", "\v\v\v",
		"\xff", "\xff\xff\xff", "\xc2", "\xe2\x82", "\x80---", "\xed\xa0\x80", "\u00a0", "\u2003---", "\u2014\u2014\u2014",
		" ***", " ===", "\t---", " # a", "\t#", " ~~~", " ```", " - a", "\t1. a", " >", "\t> a",
	}
}

// P5.1, P5.2, P5.3 and P5.4: where there is nothing, all is zero.
func TestNoMark(t *testing.T) {
	for _, s := range noMarks() {
		if Rule(s) {
			t.Errorf("Rule of %q", s)
		}
		if got := Under(s); got != 0 {
			t.Errorf("Under of %q: %d", s, got)
		}
		if Quote(s) {
			t.Errorf("Quote of %q", s)
		}
		if level, from, to := Head(s); level != 0 || from != 0 || to != 0 {
			t.Errorf("Head of %q: %d %d %d", s, level, from, to)
		}
		if mark, n, behind := Fence(s); mark != 0 || n != 0 || behind != "" {
			t.Errorf("Fence of %q: %d %d %q", s, mark, n, behind)
		}
		if mark, number, bytes := Item(s); mark != 0 || number != 0 || bytes != 0 {
			t.Errorf("Item of %q: %d %d %d", s, mark, number, bytes)
		}
		if Closes(s, '~', 1) || Closes(s, '`', 1) {
			t.Errorf("Closes of %q", s)
		}
	}
}

// P5.1, Rule, with each of the three bytes in the place of "x".
func TestRule(t *testing.T) {
	for _, c := range []struct {
		name string
		s    string
		want bool
	}{
		{"one", "x", false},
		{"two", "xx", false},
		{"two, and blanks", "x x \t", false},
		{"three", "xxx", true},
		{"four", "xxxx", true},
		{"very many", strings.Repeat("x", 100), true},
		{"blanks between", "x x x", true},
		{"tabs between", "x\tx\tx", true},
		{"some blanks between", "xx \t x", true},
		{"blanks behind", "xxx  ", true},
		{"a tab behind", "xxx\t", true},
		{"blanks between and behind", "x  x\tx \t ", true},
		{"a blank ahead", " xxx", false},
		{"a tab ahead", "\txxx", false},
		{"a blank ahead and four", " xxxx", false},
		{"another byte behind", "xxxa", false},
		{"another byte behind a blank", "xxx a", false},
		{"another byte ahead", "axxx", false},
		{"another byte between", "xxax", false},
		{"a backslash ahead", "\\xxx", false},
		{"a byte 0 behind", "xxx\x00", false},
		{"a line's end behind", "xxx\n", false},
		{"a carriage return behind", "xxx\r", false},
		{"a byte 11 between", "x\vxx", false},
		{"a byte 12 behind", "xxx\f", false},
		{"a byte that is no character behind", "xxx\xff", false},
		{"a byte that is no character between", "x\x80xx", false},
		{"a blank of two bytes between", "x\u00a0x\u00a0x", false},
	} {
		for _, mark := range []string{"*", "-", "_"} {
			s := strings.ReplaceAll(c.s, "x", mark)
			if got := Rule(s); got != c.want {
				t.Errorf("%s: Rule of %q: %v", c.name, s, got)
			}
		}
	}
}

// P5.1, Rule: two kinds mixed are no line across, nor are three of any other byte.
func TestRuleOfOtherBytes(t *testing.T) {
	for _, s := range []string{"*-*", "--*", "*--", "___*", "---_", "*** -", "_ _ _ -", "- * _", "---*---", "*-_*-_*-_"} {
		if Rule(s) {
			t.Errorf("Rule of %q", s)
		}
	}
	for b := range 256 {
		s := strings.Repeat(string([]byte{byte(b)}), 3)
		if got, want := Rule(s), b == '*' || b == '-' || b == '_'; got != want {
			t.Errorf("Rule of %q: %v", s, got)
		}
	}
}

// P5.1, Under.
func TestUnder(t *testing.T) {
	for _, c := range []struct {
		name string
		s    string
		want bool
	}{
		{"one", "x", true},
		{"two", "xx", true},
		{"three", "xxx", true},
		{"very many", strings.Repeat("x", 100), true},
		{"a blank behind", "x ", true},
		{"a tab behind", "x\t", true},
		{"blanks behind", "xx \t ", true},
		{"a blank between", "x x", false},
		{"a tab between", "xx\txx", false},
		{"blanks between and behind", "x  x ", false},
		{"a blank ahead", " x", false},
		{"a tab ahead", "\txx", false},
		{"another byte behind", "xxa", false},
		{"another byte behind a blank", "xx a", false},
		{"another byte between", "xax", false},
		{"another byte ahead", "axx", false},
		{"a byte 0 behind", "x\x00", false},
		{"a line's end behind", "x\n", false},
		{"a carriage return behind", "x\r", false},
		{"a byte 12 behind", "xx\f", false},
		{"a byte that is no character behind", "xx\xff", false},
		{"a blank of two bytes behind", "xx\u00a0", false},
	} {
		for level, mark := range map[int]string{1: "=", 2: "-"} {
			s, want := strings.ReplaceAll(c.s, "x", mark), 0
			if c.want {
				want = level
			}
			if got := Under(s); got != want {
				t.Errorf("%s: Under of %q: %d, not %d", c.name, s, got, want)
			}
		}
	}
	for _, s := range []string{"=-", "-=", "==-", "--=", "= -", "- =", "=-=", "-=-"} {
		if got := Under(s); got != 0 {
			t.Errorf("mixed: Under of %q: %d", s, got)
		}
	}
}

// P5.1, Quote: its first byte alone is asked.
func TestQuote(t *testing.T) {
	for _, s := range []string{">", "> ", ">\t", ">x", "> x", ">>", ">\xff", ">\n", ">\x00", "> > x"} {
		if !Quote(s) {
			t.Errorf("Quote of %q", s)
		}
	}
	for _, s := range []string{"x>", " >", "\t>", "<>", "\\>", "\xff>", "\n>", "&gt;", "\u203a", "\u300b", "=>"} {
		if Quote(s) {
			t.Errorf("Quote of %q", s)
		}
	}
	for b := range 256 {
		if got := Quote(string([]byte{byte(b)})); got != (b == '>') {
			t.Errorf("Quote of the byte %d: %v", b, got)
		}
	}
}

// P5.2, Head.
func TestHead(t *testing.T) {
	for _, c := range []struct {
		name            string
		s               string
		level, from, to int
	}{
		{"the chapter's example", "## a b ##", 2, 3, 6},
		{"one mark and nothing", "#", 1, 1, 1},
		{"six marks and nothing", "######", 6, 6, 6},
		{"seven marks and nothing", "#######", 0, 0, 0},
		{"one mark and a blank", "# ", 1, 2, 2},
		{"one mark and a tab", "#\t", 1, 2, 2},
		{"six marks and blanks", "###### \t ", 6, 9, 9},
		{"seven marks and a blank", "####### ", 0, 0, 0},
		{"one mark and another byte", "#a", 0, 0, 0},
		{"six marks and another byte", "######a", 0, 0, 0},
		{"another byte and a blank", "#a b", 0, 0, 0},
		{"a backslash behind", "#\\ a", 0, 0, 0},
		{"no mark", "a #", 0, 0, 0},
		{"a mark behind a backslash", "\\# a", 0, 0, 0},
		{"level 1", "# a", 1, 2, 3},
		{"level 2", "## a", 2, 3, 4},
		{"level 3", "### a", 3, 4, 5},
		{"level 4", "#### a", 4, 5, 6},
		{"level 5", "##### a", 5, 6, 7},
		{"level 6", "###### a", 6, 7, 8},
		{"seven marks", "####### a", 0, 0, 0},
		{"many marks", strings.Repeat("#", 300) + " a", 0, 0, 0},
		{"a tab ahead of the content", "#\ta", 1, 2, 3},
		{"blanks ahead of the content", "# \t  a", 1, 5, 6},
		{"blanks behind the content", "# a \t ", 1, 2, 3},
		{"blanks at both ends", "##  a b  ", 2, 4, 7},
		{"blanks within", "# a \t b", 1, 2, 7},
		{"blanks alone", "#    ", 1, 5, 5},
		{"blanks and tabs alone", "##\t \t", 2, 5, 5},
		{"one mark at the end", "# a #", 1, 2, 3},
		{"more marks at the end than at the beginning", "# a ########", 1, 2, 3},
		{"a tab ahead of the marks", "# a\t##", 1, 2, 3},
		{"blanks ahead of the marks", "# a \t #", 1, 2, 3},
		{"blanks ahead of the marks and behind them", "# a  ## \t", 1, 2, 3},
		{"no blank ahead of the mark", "# a#", 1, 2, 4},
		{"no blank ahead of the marks", "# a## ", 1, 2, 5},
		{"a blank further ahead", "# a b##", 1, 2, 7},
		{"marks with a byte behind", "# a #b", 1, 2, 6},
		{"marks with a byte behind a blank", "# a # b", 1, 2, 7},
		{"only the last ones of two rows", "# a # #", 1, 2, 5},
		{"only the last ones of two rows alone", "# # ##", 1, 2, 3},
		{"marks that touch a row", "# a #b#", 1, 2, 7},
		{"a backslash ahead of the mark", "# \\#", 1, 2, 4},
		{"a backslash, and a mark behind a blank", "# \\# #", 1, 2, 4},
		{"content of one mark", "# #", 1, 2, 2},
		{"content of marks", "## ### ", 2, 3, 3},
		{"content of marks behind blanks", "# \t ###", 1, 4, 4},
		{"content of marks between blanks", "######  #  ", 6, 8, 8},
		{"content of seven marks", "# #######", 1, 2, 2},
		{"a line's end behind the mark", "#\n", 0, 0, 0},
		{"a byte 11 behind the mark", "#\va", 0, 0, 0},
		{"a byte 0 behind the mark", "#\x00", 0, 0, 0},
		{"a byte 0 in the content", "# \x00 #", 1, 2, 3},
		{"a blank of two bytes behind the mark", "#\u00a0a", 0, 0, 0},
		{"blanks of two bytes in the content", "# \u00a0a\u00a0 ", 1, 2, 7},
		{"a blank of two bytes ahead of the marks", "# a\u00a0#", 1, 2, 6},
		{"line's ends stay in the content", "# \na\n #", 1, 2, 5},
		{"a byte that is no character behind the mark", "#\xff", 0, 0, 0},
		{"content that is no characters", "# \xff\x80 #", 1, 2, 4},
		{"no character ahead of the marks", "# \xc2#", 1, 2, 4},
		{"a character of three bytes", "# \u20ac ##", 1, 2, 5},
	} {
		if level, from, to := Head(c.s); level != c.level || from != c.from || to != c.to {
			t.Errorf("%s: Head of %q: %d %d %d, not %d %d %d", c.name, c.s, level, from, to, c.level, c.from, c.to)
		}
	}
}

// P5.3, Fence, with each of the two bytes in the place of "x".
func TestFence(t *testing.T) {
	for _, c := range []struct {
		name   string
		s      string
		n      int
		behind string
	}{
		{"one", "x", 0, ""},
		{"two", "xx", 0, ""},
		{"two, and text", "xx go", 0, ""},
		{"two and one", "xx x", 0, ""},
		{"three", "xxx", 3, ""},
		{"four", "xxxx", 4, ""},
		{"very many", strings.Repeat("x", 1000), 1000, ""},
		{"text behind", "xxxgo", 3, "go"},
		{"a blank ahead of the text", "xxx go", 3, "go"},
		{"blanks at its ends", "xxxx \t go y \t ", 4, "go y"},
		{"blanks within", "xxx a \t b", 3, "a \t b"},
		{"blanks alone", "xxx \t ", 3, ""},
		{"a blank ahead of the marks", " xxx", 0, ""},
		{"another byte ahead", "axxx", 0, ""},
		{"a backslash ahead", "\\xxx", 0, ""},
		{"a backslash behind", "xxx\\", 3, "\\"},
		{"a heading's mark behind", "xxx # #", 3, "# #"},
		{"a byte 0 behind", "xxx\x00", 3, "\x00"},
		{"line's ends stay", "xxx \n a \r\n", 3, "\n a \r\n"},
		{"bytes 11 and 12 stay", "xxx\va\f", 3, "\va\f"},
		{"blanks of two bytes stay", "xxx \u00a0a\u00a0 ", 3, "\u00a0a\u00a0"},
		{"bytes that are no characters", "xxx \xff\x80 ", 3, "\xff\x80"},
		{"one that is no character between", "xx\xffx", 0, ""},
	} {
		for _, mark := range []byte{'`', '~'} {
			s := strings.ReplaceAll(c.s, "x", string(mark))
			var want byte
			if c.n > 0 {
				want = mark
			}
			if got, n, text := Fence(s); got != want || n != c.n || text != c.behind {
				t.Errorf("%s: Fence of %q: %q %d %q, not %q %d %q", c.name, s, got, n, text, want, c.n, c.behind)
			}
		}
	}
}

// P5.3, Fence: no backquote stands behind backquotes; behind "~" both may.
func TestFenceWithMarksBehind(t *testing.T) {
	for _, c := range []struct {
		s      string
		mark   byte
		n      int
		behind string
	}{
		{"```a`", 0, 0, ""},
		{"``` `", 0, 0, ""},
		{"``` a`b", 0, 0, ""},
		{"``` a ```", 0, 0, ""},
		{"````a```", 0, 0, ""},
		{"``` \\`", 0, 0, ""},
		{"```~", '`', 3, "~"},
		{"``` ~~~ ", '`', 3, "~~~"},
		{"``~", 0, 0, ""},
		{"`~~~", 0, 0, ""},
		{"~~~`", '~', 3, "`"},
		{"~~~ ``` ", '~', 3, "```"},
		{"~~~ ~", '~', 3, "~"},
		{"~~~~ a~b`c", '~', 4, "a~b`c"},
		{"~~`", 0, 0, ""},
		{"~``", 0, 0, ""},
	} {
		if mark, n, behind := Fence(c.s); mark != c.mark || n != c.n || behind != c.behind {
			t.Errorf("Fence of %q: %q %d %q, not %q %d %q", c.s, mark, n, behind, c.mark, c.n, c.behind)
		}
	}
	for b := range 256 {
		s := strings.Repeat(string([]byte{byte(b)}), 3)
		mark, n, behind := Fence(s)
		if b == '`' || b == '~' {
			if mark != byte(b) || n != 3 || behind != "" {
				t.Errorf("Fence of %q: %q %d %q", s, mark, n, behind)
			}
		} else if mark != 0 || n != 0 || behind != "" {
			t.Errorf("Fence of %q: %q %d %q", s, mark, n, behind)
		}
	}
}

// P5.3, Closes.
func TestCloses(t *testing.T) {
	for _, c := range []struct {
		name string
		s    string
		mark byte
		n    int
		want bool
	}{
		{"an empty text", "", '~', 1, false},
		{"fewer", "~~", '~', 3, false},
		{"as many", "~~~", '~', 3, true},
		{"more", "~~~~", '~', 3, true},
		{"fewer backquotes", "```", '`', 4, false},
		{"as many backquotes", "````", '`', 4, true},
		{"more backquotes", "``````", '`', 4, true},
		{"one of one", "~", '~', 1, true},
		{"two of one", "~~", '~', 1, true},
		{"blanks behind", "~~~ \t ", '~', 3, true},
		{"a tab behind", "```\t", '`', 3, true},
		{"another byte behind", "~~~a", '~', 3, false},
		{"another byte behind blanks", "~~~ \ta", '~', 3, false},
		{"marks behind blanks", "~~~ ~~~", '~', 3, false},
		{"a mark behind too few and blanks", "~~ ~", '~', 3, false},
		{"the other mark", "```", '~', 3, false},
		{"the other mark behind", "~~~`", '~', 3, false},
		{"a blank ahead", " ~~~", '~', 3, false},
		{"another byte ahead", "a~~~", '~', 3, false},
		{"a line's end behind", "~~~\n", '~', 3, false},
		{"a byte 12 behind", "~~~\f", '~', 3, false},
		{"a byte 0 behind", "~~~\x00", '~', 3, false},
		{"a blank of two bytes behind", "~~~\u00a0", '~', 3, false},
		{"a byte that is no character behind", "~~~\xff", '~', 3, false},
		{"blanks alone", "   ", '~', 1, false},

		{"n is 0", "~~~", '~', 0, false},
		{"n is 0, no marks", "", '~', 0, false},
		{"n is 0, blanks alone", "  ", '~', 0, false},
		{"n is -1", "~~~", '~', -1, false},
		{"n is -1, no marks", "", '~', -1, false},
		{"the least n", "~~~", '~', math.MinInt64, false},
		{"nearly the least n", "~~~", '~', math.MinInt64 + 1, false},
		{"a low n whose lower bits are 1", "~~~", '~', -1<<32 + 1, false},
		{"a great n whose lower bits are 1", "~~~", '~', 1<<32 + 1, false},
		{"the greatest n", "~~~", '~', math.MaxInt64, false},
		{"nearly the greatest n", "~~~", '~', math.MaxInt64 - 1, false},

		{"any byte: a letter", "aaa", 'a', 3, true},
		{"any byte: a letter, and another case", "aaA", 'a', 2, false},
		{"any byte: 0", "\x00\x00 ", 0, 2, true},
		{"any byte: 0, none", " ", 0, 1, false},
		{"any byte: 255", "\xff\xff\t", 255, 2, true},
		{"any byte: 255, too few", "\xff", 255, 2, false},
		{"any byte: half a character", "\xc3\xa9", 0xc3, 1, false},
		{"any byte: a line's end", "\n\n ", '\n', 2, true},
		{"a blank: as many", "  ", ' ', 2, true},
		{"a blank: fewer", "  ", ' ', 3, false},
		{"a blank: more", "    ", ' ', 3, true},
		{"a blank: tabs behind", "  \t\t", ' ', 2, true},
		{"a blank: none at the beginning", "\t  ", ' ', 1, false},
		{"a blank: those behind a tab aren't counted", "  \t  ", ' ', 3, false},
		{"a blank: another byte behind", "  a", ' ', 2, false},
		{"a blank: none", "", ' ', 1, false},
		{"a tab: as many, blanks behind", "\t\t ", '\t', 2, true},
		{"a tab: fewer", "\t  ", '\t', 2, false},
	} {
		if got := Closes(c.s, c.mark, c.n); got != c.want {
			t.Errorf("%s: Closes of %q, %q, %d: %v", c.name, c.s, c.mark, c.n, got)
		}
	}
}

// P5.3: what Fence tells of a row of marks closes itself, whatever bytes and however many.
func TestFenceClosesItself(t *testing.T) {
	for _, mark := range []string{"`", "~"} {
		for n := 3; n < 20; n++ {
			s := strings.Repeat(mark, n) + " \t"
			b, found, _ := Fence(s)
			if !Closes(s, b, found) || Closes(s, b, found+1) || Closes(s[1:], b, found) {
				t.Errorf("%q", s)
			}
		}
	}
}

// P5.4, Item, with each of the three bytes in the place of "x".
func TestItemOfBullets(t *testing.T) {
	for _, c := range []struct {
		name string
		s    string
		want bool
	}{
		{"nothing behind", "x", true},
		{"a blank behind", "x ", true},
		{"a tab behind", "x\t", true},
		{"text behind a blank", "x a", true},
		{"text behind a tab", "x\ta", true},
		{"blanks behind", "x  \t ", true},
		{"a mark behind a blank", "x x x", true},
		{"another byte behind", "xa", false},
		{"the same byte behind", "xx", false},
		{"the same byte and a blank behind", "xx a", false},
		{"a digit behind", "x1. a", false},
		{"a dot behind", "x. a", false},
		{"a blank ahead", " x a", false},
		{"another byte ahead", "ax a", false},
		{"a backslash ahead", "\\x a", false},
		{"a line's end behind", "x\n", false},
		{"a byte 12 behind", "x\f", false},
		{"a byte 0 behind", "x\x00", false},
		{"a blank of two bytes behind", "x\u00a0a", false},
		{"a byte that is no character behind", "x\xff", false},
		{"no characters behind a blank", "x \xff\x80", true},
	} {
		for _, bullet := range []byte{'-', '+', '*'} {
			s := strings.ReplaceAll(c.s, "x", string(bullet))
			mark, number, bytes := Item(s)
			if c.want {
				if mark != bullet || number != -1 || bytes != 1 {
					t.Errorf("%s: Item of %q: %q %d %d", c.name, s, mark, number, bytes)
				}
			} else if mark != 0 || number != 0 || bytes != 0 {
				t.Errorf("%s: Item of %q: %q %d %d", c.name, s, mark, number, bytes)
			}
		}
	}
	for b := range 256 {
		mark, number, bytes := Item(string([]byte{byte(b)}) + " a")
		isBullet := b == '-' || b == '+' || b == '*'
		if isBullet != (mark == byte(b) && number == -1 && bytes == 1) || !isBullet && (mark != 0 || number != 0 || bytes != 0) {
			t.Errorf("Item of the byte %d: %q %d %d", b, mark, number, bytes)
		}
	}
}

// P5.4, Item, with "." and ")" in the place of "x".
func TestItemOfNumbers(t *testing.T) {
	for _, c := range []struct {
		name          string
		s             string
		number, bytes int
	}{
		{"the chapter's example", "12x b", 12, 3},
		{"nothing behind", "1x", 1, 2},
		{"a blank behind", "1x ", 1, 2},
		{"a tab behind", "1x\t", 1, 2},
		{"text behind a tab", "7x\ta", 7, 2},
		{"zero", "0x a", 0, 2},
		{"nine", "9x a", 9, 2},
		{"zeros at the beginning", "007x", 7, 4},
		{"zeros alone", "000x a", 0, 4},
		{"nine zeros", "000000000x a", 0, 10},
		{"zeros at the beginning of nine", "000000001x", 1, 10},
		{"nine digits", "123456789x a", 123456789, 10},
		{"nine digits, the greatest", "999999999x", 999999999, 10},
		{"ten digits", "1234567890x a", 0, 0},
		{"ten zeros", "0000000000x a", 0, 0},
		{"ten digits, nine behind a zero", "0123456789x a", 0, 0},
		{"very many digits", strings.Repeat("9", 300) + "x a", 0, 0},
		{"no digits", "x a", 0, 0},
		{"another byte behind", "1xa", 0, 0},
		{"a digit behind", "1x2", 0, 0},
		{"the mark twice", "1xx a", 0, 0},
		{"a blank ahead of the mark", "1 x a", 0, 0},
		{"a blank ahead", " 1x a", 0, 0},
		{"a letter among the digits", "1a2x a", 0, 0},
		{"a letter", "ax a", 0, 0},
		{"a sign ahead", "-1x a", 0, 0},
		{"another sign ahead", "+1x a", 0, 0},
		{"no mark", "1 a", 0, 0},
		{"a number alone", "1", 0, 0},
		{"nine digits alone", "123456789", 0, 0},
		{"another mark", "1: a", 0, 0},
		{"a bullet behind", "1- a", 0, 0},
		{"the byte ahead of 0", "/x a", 0, 0},
		{"the byte behind 9", ":x a", 0, 0},
		{"a digit that is no byte", "\u0661x a", 0, 0},
		{"a byte 12 behind", "1x\f", 0, 0},
		{"a line's end behind", "1x\n", 0, 0},
		{"a byte 0 behind", "1x\x00", 0, 0},
		{"a blank of two bytes behind", "1x\u00a0a", 0, 0},
		{"a byte that is no character behind", "1x\xff", 0, 0},
		{"a byte that is no character among the digits", "1\xff2x a", 0, 0},
		{"no characters behind a blank", "1x \xff", 1, 2},
	} {
		for _, behind := range []byte{'.', ')'} {
			s := strings.ReplaceAll(c.s, "x", string(behind))
			var want byte
			if c.bytes > 0 {
				want = behind
			}
			if mark, number, bytes := Item(s); mark != want || number != c.number || bytes != c.bytes {
				t.Errorf("%s: Item of %q: %q %d %d, not %q %d %d", c.name, s, mark, number, bytes, want, c.number, c.bytes)
			}
		}
	}
}

// Rule 4: what stands behind a fence is new memory, no piece of the line.
func TestFenceAnswersNewMemory(t *testing.T) {
	for _, s := range []string{"~~~go", "~~~ go ", "``` go x"} {
		_, _, behind := Fence(s)
		at, from := uintptr(unsafe.Pointer(unsafe.StringData(behind))), uintptr(unsafe.Pointer(unsafe.StringData(s)))
		if from <= at && at < from+uintptr(len(s)) {
			t.Errorf("Fence of %q answers a piece of it", s)
		}
	}
}

// P1: great texts are answered as well.
func TestGreatTexts(t *testing.T) {
	const many = 1 << 20
	rest := strings.Repeat(" \t", many)
	if !Rule(strings.Repeat("- ", many)) || Rule(strings.Repeat("- ", many)+"+") {
		t.Error("Rule")
	}
	if Under(strings.Repeat("=", many)+rest) != 1 || Under(strings.Repeat("-", many)+rest+"-") != 0 {
		t.Error("Under")
	}
	if level, from, to := Head("#" + rest + "a" + rest + strings.Repeat("#", many) + rest); level != 1 || from != 2*many+1 || to != 2*many+2 {
		t.Error("Head:", level, from, to)
	}
	if mark, n, behind := Fence(strings.Repeat("~", many) + rest + "a" + rest); mark != '~' || n != many || behind != "a" {
		t.Error("Fence:", mark, n, len(behind))
	}
	if s := strings.Repeat("~", many) + rest; !Closes(s, '~', many) || Closes(s, '~', many+1) {
		t.Error("Closes")
	}
	if mark, number, bytes := Item(strings.Repeat("1", many) + "."); mark != 0 || number != 0 || bytes != 0 {
		t.Error("Item:", mark, number, bytes)
	}
}
