package edit

import (
	"math"
	"slices"
	"strings"
	"testing"
	"unsafe"

	"stet/api"
)

func put(from, to int, text string) api.Edit { return api.Edit{From: from, To: to, Text: text} }

func list(edits ...api.Edit) []api.Edit { return edits }

// lent is a list to be handed in, with a copy of it and of the spare room behind its length.
type lent struct{ list, copied []api.Edit }

func lend(edits []api.Edit) lent {
	if edits == nil {
		return lent{}
	}
	list := append(make([]api.Edit, 0, len(edits)+2), edits...)
	room := list[:cap(list)]
	for i := len(edits); i < len(room); i++ {
		room[i] = api.Edit{From: 70 + i, To: 80 + i, Text: "room"}
	}
	return lent{list, slices.Clone(room)}
}

// kept: whether the list and its spare room are as they were.
func (l lent) kept() bool { return slices.Equal(l.list[:cap(l.list)], l.copied) }

// The calls, each with what it is handed held against a copy (P2.4).

func sorted(t *testing.T, edits []api.Edit) []api.Edit {
	t.Helper()
	l := lend(edits)
	got := Sorted(l.list)
	if !l.kept() {
		t.Errorf("Sorted has changed %v to %v", l.copied, l.list[:cap(l.list)])
	}
	return got
}

func check(t *testing.T, s string, edits []api.Edit) api.Errno {
	t.Helper()
	l := lend(edits)
	got := Check(s, l.list)
	if !l.kept() {
		t.Errorf("Check has changed %v to %v", l.copied, l.list[:cap(l.list)])
	}
	return got
}

func apply(t *testing.T, s string, edits []api.Edit) (string, api.Errno) {
	t.Helper()
	l := lend(edits)
	got, err := Apply(s, l.list)
	if !l.kept() {
		t.Errorf("Apply has changed %v to %v", l.copied, l.list[:cap(l.list)])
	}
	return got, err
}

func move(t *testing.T, edits []api.Edit, offset int) int {
	t.Helper()
	l := lend(edits)
	got := Move(l.list, offset)
	if !l.kept() {
		t.Errorf("Move has changed %v to %v", l.copied, l.list[:cap(l.list)])
	}
	return got
}

// P2.1, Sorted.
func TestSorted(t *testing.T) {
	for _, c := range []struct {
		name        string
		edits, want []api.Edit
	}{
		{"nil", nil, nil},
		{"no edits", []api.Edit{}, nil},
		{"one", list(put(1, 2, "a")), list(put(1, 2, "a"))},
		{"by From", list(put(3, 3, "a"), put(1, 2, "b")), list(put(1, 2, "b"), put(3, 3, "a"))},
		{"by From ahead of To", list(put(2, 2, "a"), put(1, 9, "b")), list(put(1, 9, "b"), put(2, 2, "a"))},
		{"by To where From is the same", list(put(2, 4, "a"), put(2, 2, "b"), put(2, 3, "c")), list(put(2, 2, "b"), put(2, 3, "c"), put(2, 4, "a"))},
		{"alike in both, as they stood", list(put(1, 1, "b"), put(1, 1, "a"), put(0, 0, "z"), put(1, 1, "c")), list(put(0, 0, "z"), put(1, 1, "b"), put(1, 1, "a"), put(1, 1, "c"))},
		{"the same edit twice", list(put(1, 1, "a"), put(1, 1, "a")), list(put(1, 1, "a"), put(1, 1, "a"))},
		{"the same From far apart", list(put(1, math.MaxInt, "a"), put(1, math.MinInt, "b")), list(put(1, math.MinInt, "b"), put(1, math.MaxInt, "a"))},
		{"the greatest and least numbers", list(put(math.MaxInt, 0, "a"), put(math.MinInt, 0, "b"), put(0, 0, "c"), put(-1, 5, "d")), list(put(math.MinInt, 0, "b"), put(-1, 5, "d"), put(0, 0, "c"), put(math.MaxInt, 0, "a"))},
		{"From above To", list(put(5, 1, "a"), put(4, 9, "b"), put(5, 0, "c")), list(put(4, 9, "b"), put(5, 0, "c"), put(5, 1, "a"))},
		{"edits that overlap", list(put(1, 4, "a"), put(0, 3, "b")), list(put(0, 3, "b"), put(1, 4, "a"))},
	} {
		if got := sorted(t, c.edits); !slices.Equal(got, c.want) {
			t.Errorf("%s: %v, not %v", c.name, got, c.want)
		}
	}
}

// P2.1, Sorted: so many edits that a sort which isn't stable would mix those that are alike.
func TestSortedManyAlike(t *testing.T) {
	var edits []api.Edit
	for i := range 500 {
		edits = append(edits, api.Edit{From: i * 7 % 3, To: 3 + i*5%2, Text: strings.Repeat("x", i)})
	}
	got := sorted(t, edits)
	if len(got) != len(edits) {
		t.Fatal(len(got))
	}
	for i := 1; i < len(got); i++ {
		a, b := got[i-1], got[i]
		if slices.Compare([]int{a.From, a.To, len(a.Text)}, []int{b.From, b.To, len(b.Text)}) >= 0 {
			t.Fatalf("%d: %d %d %d ahead of %d %d %d", i, a.From, a.To, len(a.Text), b.From, b.To, len(b.Text))
		}
	}
}

// P2.1, Check, and P2.2, Apply: edits that are made.
func TestApply(t *testing.T) {
	for _, c := range []struct {
		name  string
		s     string
		edits []api.Edit
		want  string
	}{
		{"the chapter's example", "abc", list(put(1, 2, "xx"), put(3, 3, "!")), "axxc!"},
		{"nil", "abc", nil, "abc"},
		{"no edits", "abc", []api.Edit{}, "abc"},
		{"nothing of nothing", "", nil, ""},
		{"put in to an empty text", "", list(put(0, 0, "a"), put(0, 0, "b")), "ab"},
		{"an edit that does nothing", "abc", list(put(1, 1, "")), "abc"},
		{"at the text's beginning", "abc", list(put(0, 0, "<")), "<abc"},
		{"at the text's end", "abc", list(put(3, 3, ">")), "abc>"},
		{"at both ends", "abc", list(put(3, 3, ">"), put(0, 0, "<")), "<abc>"},
		{"the first and the last byte", "abc", list(put(0, 1, "x"), put(2, 3, "y")), "xby"},
		{"the whole text", "abc", list(put(0, 3, "")), ""},
		{"the whole text, and at its ends", "abc", list(put(3, 3, ">"), put(0, 3, "-"), put(0, 0, "<")), "<->"},
		{"put in where another one begins", "abcd", list(put(1, 3, "x"), put(1, 1, "y")), "ayxd"},
		{"put in where another one ends", "abcd", list(put(3, 3, "y"), put(1, 3, "x")), "axyd"},
		{"put in between two that touch", "abcd", list(put(2, 4, "z"), put(2, 2, "y"), put(0, 2, "x")), "xyz"},
		{"two that touch", "abcd", list(put(2, 4, "y"), put(0, 2, "x")), "xy"},
		{"several at one place, in their order", "ab", list(put(1, 1, "3"), put(1, 1, "1"), put(1, 1, "2")), "a312b"},
		{"several at one place, among others", "ab", list(put(1, 1, "3"), put(0, 1, "x"), put(1, 1, "1"), put(1, 2, "y"), put(1, 1, "2")), "x312y"},
		{"a longer and a shorter text", "abcdef", list(put(4, 6, "z"), put(1, 2, "yyyy")), "ayyyycdz"},
		{"bytes that are no characters", "\xff\x00\xe2\x82\xac", list(put(3, 4, "\x80"), put(0, 0, "\xc3")), "\xc3\xff\x00\xe2\x80\xac"},
	} {
		if got, err := apply(t, c.s, c.edits); got != c.want || err != api.OK {
			t.Errorf("%s: %q %v, not %q", c.name, got, err, c.want)
		}
		if err := check(t, c.s, c.edits); err != api.OK {
			t.Errorf("%s: Check: %v", c.name, err)
		}
	}
}

// P2.1, Check, and P2.2, Apply: wrong edits, in any order that they may be handed in.
func TestWrongEdits(t *testing.T) {
	for _, c := range []struct {
		name  string
		s     string
		edits []api.Edit
		want  api.Errno
	}{
		{"From above To", "abc", list(put(2, 1, "")), api.ErrEdit},
		{"From at the length, above To", "abc", list(put(3, 0, "x")), api.ErrEdit},
		{"From below 0", "abc", list(put(-1, 2, "")), api.ErrEdit},
		{"both below 0", "abc", list(put(-2, -1, "")), api.ErrEdit},
		{"To beyond the length", "abc", list(put(0, 4, "")), api.ErrEdit},
		{"both beyond the length", "abc", list(put(4, 4, "x")), api.ErrEdit},
		{"beyond an empty text", "", list(put(0, 1, "")), api.ErrEdit},
		{"ahead of an empty text", "", list(put(-1, 0, "")), api.ErrEdit},
		{"the greatest To", "abc", list(put(0, math.MaxInt, "")), api.ErrEdit},
		{"the greatest of both", "abc", list(put(math.MaxInt, math.MaxInt, "")), api.ErrEdit},
		{"the least From", "abc", list(put(math.MinInt, 0, "")), api.ErrEdit},
		{"the least of both", "abc", list(put(math.MinInt, math.MinInt, "")), api.ErrEdit},
		{"the least and the greatest", "abc", list(put(math.MinInt, math.MaxInt, "")), api.ErrEdit},
		{"the greatest and the least", "abc", list(put(math.MaxInt, math.MinInt, "")), api.ErrEdit},
		{"a wrong one among others", "abc", list(put(0, 1, "x"), put(1, 0, "y"), put(2, 3, "z")), api.ErrEdit},
		{"a wrong one beside two that overlap", "abc", list(put(0, 2, ""), put(1, 3, ""), put(3, 4, "")), api.ErrEdit},
		{"a wrong one that overlaps", "abc", list(put(0, 2, ""), put(1, 9, "")), api.ErrEdit},
		{"one byte in both", "abc", list(put(0, 2, ""), put(1, 3, "")), api.ErrOverlap},
		{"one within another", "abcd", list(put(0, 4, ""), put(1, 2, "")), api.ErrOverlap},
		{"put in within another", "abc", list(put(0, 2, ""), put(1, 1, "")), api.ErrOverlap},
		{"the same bytes", "abc", list(put(1, 2, "x"), put(1, 2, "x")), api.ErrOverlap},
		{"the same beginning", "abc", list(put(0, 1, ""), put(0, 2, "")), api.ErrOverlap},
		{"the same end", "abc", list(put(0, 3, ""), put(2, 3, "")), api.ErrOverlap},
		{"put in between two that overlap", "abcd", list(put(0, 3, ""), put(2, 4, ""), put(2, 2, "x")), api.ErrOverlap},
		{"the last two alone", "abcd", list(put(0, 1, ""), put(1, 2, ""), put(2, 4, ""), put(3, 4, "")), api.ErrOverlap},
	} {
		orders(c.edits, func(edits []api.Edit) {
			if got, err := apply(t, c.s, edits); got != "" || err != c.want {
				t.Errorf("%s: %v: %q %v, not %v", c.name, edits, got, err, c.want)
			}
			if err := check(t, c.s, edits); err != c.want {
				t.Errorf("%s: %v: Check: %v, not %v", c.name, edits, err, c.want)
			}
		})
	}
}

// orders: a list in all its orders.
func orders(edits []api.Edit, yield func([]api.Edit)) {
	var grow func(done, rest []api.Edit)
	grow = func(done, rest []api.Edit) {
		if len(rest) == 0 {
			yield(done)
		}
		for i := range rest {
			grow(append(slices.Clip(done), rest[i]), slices.Delete(slices.Clone(rest), i, i+1))
		}
	}
	grow(nil, edits)
}

// P2.3, Move: every offset of a text, from 0 on.
func TestMove(t *testing.T) {
	for _, c := range []struct {
		name  string
		edits []api.Edit
		want  []int
	}{
		{"nil", nil, []int{0, 1, 2, 3}},
		{"no edits", []api.Edit{}, []int{0, 1, 2, 3}},
		{"the chapter's example", list(put(1, 2, "xx"), put(3, 3, "!")), []int{0, 1, 3, 5}},
		{"at From, within and at To", list(put(1, 4, "xx")), []int{0, 1, 3, 3, 3, 4}},
		{"put out", list(put(1, 4, "")), []int{0, 1, 1, 1, 1, 2}},
		{"put in", list(put(2, 2, "xyz")), []int{0, 1, 5, 6}},
		{"put in at the beginning", list(put(0, 0, "x")), []int{1, 2, 3}},
		{"put in at an edit's From", list(put(1, 3, "xx"), put(1, 1, "y")), []int{0, 2, 4, 4, 5}},
		{"put in at an edit's To", list(put(3, 3, "y"), put(1, 3, "xx")), []int{0, 1, 3, 4, 5}},
		{"several at one place", list(put(1, 1, "x"), put(1, 1, "yy"), put(1, 1, "")), []int{0, 4, 5}},
		{"two that touch", list(put(2, 4, "xxx"), put(0, 2, "y")), []int{0, 1, 1, 4, 4, 5}},
		{"behind one that is shorter", list(put(4, 6, "xxx"), put(0, 3, "")), []int{0, 0, 0, 0, 1, 4, 4, 5}},
		{"the whole text", list(put(0, 3, "x")), []int{0, 1, 1, 1}},
	} {
		orders(c.edits, func(edits []api.Edit) {
			for offset, want := range c.want {
				if got := move(t, edits, offset); got != want {
					t.Errorf("%s: %v: %d is at %d, not %d", c.name, edits, offset, got, want)
				}
			}
		})
	}
}

// P2.3, Move: offsets that no text has are told by the same rule.
func TestMoveOffsetsBeyondTexts(t *testing.T) {
	edits := list(put(0, 2, "abcde"), put(3, 3, "x"))
	for _, c := range []struct {
		edits        []api.Edit
		offset, want int
	}{
		{nil, -1, -1},
		{nil, math.MinInt, math.MinInt},
		{nil, math.MaxInt, math.MaxInt},
		{edits, -1, -1},
		{edits, math.MinInt, math.MinInt},
		{edits, 1000, 1004},
		{edits, math.MaxInt - 4, math.MaxInt},
	} {
		if got := move(t, c.edits, c.offset); got != c.want {
			t.Errorf("%v: %d is at %d, not %d", c.edits, c.offset, got, c.want)
		}
	}
}

// P1: no edits and no offset are such that a call panics or answers twice differently.
func TestAnyNumbers(t *testing.T) {
	numbers := []int{math.MinInt, math.MinInt + 1, -2, -1, 0, 1, 2, 3, math.MaxInt - 1, math.MaxInt}
	for _, from := range numbers {
		for _, to := range numbers {
			edits := list(put(1, 2, "x"), put(from, to, "yy"), put(to, from, ""), put(0, 2, "z"))
			for n := range edits {
				some := edits[:n+1]
				first, firstErr := apply(t, "ab", some)
				if second, secondErr := apply(t, "ab", some); first != second || firstErr != secondErr || check(t, "ab", some) != firstErr {
					t.Error(some, first, firstErr, second, secondErr)
				}
				if len(sorted(t, some)) != len(some) {
					t.Error(some)
				}
				for _, offset := range numbers {
					if move(t, some, offset) != move(t, some, offset) {
						t.Error(some, offset)
					}
				}
			}
		}
	}
}

// P2.4: Sorted's answer is new memory, spare room too.
func TestSortedIsNew(t *testing.T) {
	for n := range 9 {
		var edits []api.Edit
		for i := range n {
			edits = append(edits, api.Edit{From: i, To: i + 1, Text: "x"})
		}
		l := lend(edits)
		first, second := Sorted(l.list), Sorted(l.list)
		for i := range first[:cap(first)] {
			first[:cap(first)][i] = api.Edit{From: -1}
		}
		if !l.kept() || !slices.Equal(second, edits) {
			t.Errorf("%d edits: what is answered shares memory", n)
		}
	}
}

// P2.4: the text that Apply answers is none of those that were handed in, even where it has the same bytes.
func TestApplyIsNew(t *testing.T) {
	s, text := strings.Repeat("a", 9), strings.Repeat("b", 9)
	for _, edits := range [][]api.Edit{nil, list(put(0, 0, "")), list(put(0, 9, text)), list(put(9, 9, text))} {
		got, err := apply(t, s, edits)
		if err != api.OK || unsafe.StringData(got) == unsafe.StringData(s) || unsafe.StringData(got) == unsafe.StringData(text) {
			t.Error(edits, got, err)
		}
	}
}

// P1: as many edits as a great text may have are made at once.
func TestManyEdits(t *testing.T) {
	s := strings.Repeat("ab", api.MaxText/2)
	var edits []api.Edit
	for from := len(s) - 2; from >= 0; from -= 2 {
		edits = append(edits, api.Edit{From: from, To: from + 1, Text: "xy"})
	}
	got, err := apply(t, s, edits)
	if want := strings.Repeat("xyb", api.MaxText/2); got != want || err != api.OK {
		t.Error(len(got), err)
	}
	if got, want := move(t, edits, len(s)), len(s)/2*3; got != want {
		t.Error(got, want)
	}
}
