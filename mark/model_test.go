package mark

import (
	"math"
	"regexp"
	"strconv"
	"strings"
	"testing"
)

// This file holds the calls against a second telling of the chapter, by regular expressions, at all short texts of some bytes.

var (
	ruleForm   = regexp.MustCompile(`^(\*[ \t]*){3,}$|^(-[ \t]*){3,}$|^(_[ \t]*){3,}$`)
	underForm  = regexp.MustCompile(`^(?:(=+)|(-+))[ \t]*$`)
	headForm   = regexp.MustCompile(`(?s)^(#{1,6})(?:[ \t].*)?$`)
	endForm    = regexp.MustCompile(`(?s)^(?:(.*?)[ \t]+)?#+$`)
	fenceForm  = regexp.MustCompile("(?s)^(?:(`{3,})([^`]*)|(~{3,})(.*))$")
	bulletForm = regexp.MustCompile(`(?s)^([-+*])(?:[ \t].*)?$`)
	numberForm = regexp.MustCompile(`(?s)^([0-9]{1,9})([.)])(?:[ \t].*)?$`)
)

func modelUnder(s string) int {
	parts := underForm.FindStringSubmatch(s)
	switch {
	case parts == nil:
		return 0
	case parts[1] != "":
		return 1
	}
	return 2
}

func isBlank(b byte) bool { return b == 32 || b == 9 }

func modelHead(s string) (level, from, to int) {
	parts := headForm.FindStringSubmatch(s)
	if parts == nil {
		return 0, 0, 0
	}
	level, from, to = len(parts[1]), len(parts[1]), len(s)
	for from < to && isBlank(s[from]) {
		from++
	}
	for from < to && isBlank(s[to-1]) {
		to--
	}
	if ends := endForm.FindStringSubmatch(s[from:to]); ends != nil {
		to = from + len(ends[1])
	}
	return level, from, to
}

func modelFence(s string) (byte, int, string) {
	parts := fenceForm.FindStringSubmatch(s)
	if parts == nil {
		return 0, 0, ""
	}
	return s[0], len(parts[1] + parts[3]), strings.Trim(parts[2]+parts[4], " \t")
}

// modelCloses: is there a number of marks, n or more, with blanks alone behind them?
func modelCloses(s string, mark byte, n int) bool {
	for size := 1; size <= len(s); size++ {
		marks, behind := s[:size], s[size:]
		if size >= n && n >= 1 && strings.Count(marks, string([]byte{mark})) == size && strings.Trim(behind, " \t") == "" {
			return true
		}
	}
	return false
}

func modelItem(s string) (byte, int, int) {
	if bulletForm.MatchString(s) {
		return s[0], -1, 1
	}
	parts := numberForm.FindStringSubmatch(s)
	if parts == nil {
		return 0, 0, 0
	}
	number, _ := strconv.Atoi(parts[1])
	return parts[2][0], number, len(parts[1]) + 1
}

func holdAgainstModel(t *testing.T, s string) {
	t.Helper()
	if got, want := Rule(s), ruleForm.MatchString(s); got != want {
		t.Fatalf("Rule of %q: %v", s, got)
	}
	if got, want := Under(s), modelUnder(s); got != want {
		t.Fatalf("Under of %q: %d, not %d", s, got, want)
	}
	if got, want := Quote(s), strings.HasPrefix(s, ">"); got != want {
		t.Fatalf("Quote of %q: %v", s, got)
	}
	level, from, to := Head(s)
	if wantLevel, wantFrom, wantTo := modelHead(s); level != wantLevel || from != wantFrom || to != wantTo {
		t.Fatalf("Head of %q: %d %d %d, not %d %d %d", s, level, from, to, wantLevel, wantFrom, wantTo)
	}
	mark, n, behind := Fence(s)
	if wantMark, wantN, wantBehind := modelFence(s); mark != wantMark || n != wantN || behind != wantBehind {
		t.Fatalf("Fence of %q: %q %d %q, not %q %d %q", s, mark, n, behind, wantMark, wantN, wantBehind)
	}
	itemMark, number, bytes := Item(s)
	if wantMark, wantNumber, wantBytes := modelItem(s); itemMark != wantMark || number != wantNumber || bytes != wantBytes {
		t.Fatalf("Item of %q: %q %d %d, not %q %d %d", s, itemMark, number, bytes, wantMark, wantNumber, wantBytes)
	}
}

func holdCloses(t *testing.T, s string, mark byte, n int) {
	t.Helper()
	if got, want := Closes(s, mark, n), modelCloses(s, mark, n); got != want {
		t.Fatalf("Closes of %q, %q, %d: %v", s, mark, n, got)
	}
}

// texts: all texts of at most so many of these bytes.
func texts(alphabet string, longest int, yield func(string)) {
	var grow func(string)
	grow = func(s string) {
		yield(s)
		if len(s) == longest {
			return
		}
		for i := range len(alphabet) {
			grow(s + alphabet[i:i+1])
		}
	}
	grow("")
}

// P5.1, P5.2, P5.3 and P5.4 at all short texts of the bytes that each mark is made of, and a few more.
func TestShortTextsAgainstModel(t *testing.T) {
	for _, c := range []struct {
		alphabet string
		longest  int
	}{
		{"*-_ ", 7},
		{"=- \t", 6},
		{"# \ta", 7},
		{"# ", 10},
		{"`~ \ta", 6},
		{"`~", 9},
		{"-+* \ta", 4},
		{"09.) a", 5},
		{"1.", 12},
		{"> \ta\n", 4},
		{"#-~1. \xff\xc2\xa0\r", 4},
	} {
		texts(c.alphabet, c.longest, func(s string) { holdAgainstModel(t, s) })
	}
}

// P5.3, Closes at all short texts of a mark, blanks and another byte, the mark being any of these.
func TestClosesAgainstModel(t *testing.T) {
	const alphabet = "~ \ta\xff"
	numbers := []int{1, 2, 3, 4, 5, 6, 0, -1, -2, math.MinInt64, math.MaxInt64}
	texts(alphabet, 5, func(s string) {
		for i := range len(alphabet) {
			for _, n := range numbers {
				holdCloses(t, s, alphabet[i], n)
			}
		}
	})
}

// P5.1, P5.2, P5.3 and P5.4: every byte ahead of a mark, within it and behind it.
func TestEveryByteAgainstModel(t *testing.T) {
	for b := range 256 {
		one := string([]byte{byte(b)})
		for _, mark := range []string{"***", "---", "___", "==", "#", "###### ", "# a ", "# a #", "```", "~~~", "-", "+ ", "12.", "12) ", ">", ""} {
			half := len(mark) / 2
			for _, s := range []string{one + mark, mark + one, mark[:half] + one + mark[half:], mark + one + " ", mark + " " + one, mark + one + mark} {
				holdAgainstModel(t, s)
			}
		}
		for n := range 4 {
			holdCloses(t, strings.Repeat(one, 2)+" ", byte(b), n)
			holdCloses(t, "~~"+one, '~', n)
			holdCloses(t, "~~ "+one, byte(b), n)
		}
	}
}

// P1 and P2: any arguments are answered, and twice the same.
func FuzzAgainstModel(f *testing.F) {
	for _, s := range []string{"", "* * *", "--- \t", "===", "## a b ##", "# #", "~~~ go", "``` a`", "12) x", "- a", "> a", " \t", "\xff# a"} {
		for _, n := range []int{0, 1, 3, math.MinInt64, math.MaxInt64} {
			f.Add(s, byte('~'), n)
			f.Add(s, byte(' '), n)
		}
	}
	f.Fuzz(func(t *testing.T, s string, mark byte, n int) {
		if len(s) > 64 {
			s = s[:64]
		}
		for range 2 {
			holdAgainstModel(t, s)
			holdCloses(t, s, mark, n)
		}
	})
}
