package emph

import (
	"math"
	"slices"
	"strconv"
	"strings"
	"testing"

	"stet/api"
)

// listed: rows as words tell them: of each its mark, how many, and whether it opens (o), closes (c), does both (b) or neither (n).
func listed(words string) []api.Run {
	var list []api.Run
	for _, word := range strings.Fields(words) {
		last := len(word) - 1
		n, err := strconv.Atoi(word[1:last])
		if err != nil {
			panic(word)
		}
		list = append(list, run(word[0], n, word[last]))
	}
	return list
}

func run(mark byte, n int, way byte) api.Run {
	return api.Run{Mark: mark, N: n, Open: way == 'o' || way == 'b', Close: way == 'c' || way == 'b'}
}

// toldPairs: of each pair "open-close:N".
func toldPairs(pairs []api.Pair) string {
	var words []string
	for _, p := range pairs {
		words = append(words, strconv.Itoa(p.Open)+"-"+strconv.Itoa(p.Close)+":"+strconv.Itoa(p.N))
	}
	return strings.Join(words, " ")
}

func toldLeft(left []int) string {
	var words []string
	for _, n := range left {
		words = append(words, strconv.Itoa(n))
	}
	return strings.Join(words, " ")
}

// lent is a list to be handed in, with a copy of it and of the spare room behind its length.
type lent struct{ list, copied []api.Run }

func lend(list []api.Run) lent {
	room := append(append(make([]api.Run, 0, len(list)+2), list...), run('*', 1, 'c'), run('*', 1, 'b'))
	return lent{room[:len(list)], slices.Clone(room)}
}

// kept: whether the list and its spare room are as they were.
func (l lent) kept() bool { return slices.Equal(l.list[:len(l.copied)], l.copied) }

// The calls, each with what it is handed held against a copy (P12.2).

func pairsOf(t *testing.T, list []api.Run) []api.Pair {
	t.Helper()
	l := lend(list)
	got := Pairs(l.list)
	if !l.kept() {
		t.Fatalf("Pairs has changed what it was handed: %+v", list)
	}
	return got
}

func leftOf(t *testing.T, list []api.Run) []int {
	t.Helper()
	l := lend(list)
	got := Left(l.list)
	if !l.kept() {
		t.Fatalf("Left has changed what it was handed: %+v", list)
	}
	return got
}

// toldCase is rows, their pairs, and what is left, in words.
type toldCase struct{ name, rows, pairs, left string }

func holdCases(t *testing.T, cases []toldCase) {
	t.Helper()
	for _, c := range cases {
		list := listed(c.rows)
		if got := toldPairs(pairsOf(t, list)); got != c.pairs {
			t.Errorf("%s: Pairs of %s: %s, not %s", c.name, c.rows, got, c.pairs)
		}
		if got := toldLeft(leftOf(t, list)); got != c.left {
			t.Errorf("%s: Left of %s: %s, not %s", c.name, c.rows, got, c.left)
		}
	}
}

// P12.1: no row, and one row in each way.
func TestNoRowAndOneRow(t *testing.T) {
	for _, list := range [][]api.Run{nil, {}, make([]api.Run, 0, 5)} {
		if p, l := Pairs(list), Left(list); len(p) != 0 || len(l) != 0 {
			t.Errorf("of no row: %v, %v", p, l)
		}
	}
	holdCases(t, []toldCase{
		{"neither", "*1n", "", "1"},
		{"only opens", "*1o", "", "1"},
		{"only closes", "*1c", "", "1"},
		{"both: it makes none with itself", "*1b", "", "1"},
		{"both, of three", "_3b", "", "3"},
		{"both, of four", "*4b", "", "4"},
	})
	if got := Pairs([]api.Run{{}}); len(got) != 0 {
		t.Errorf("of a row of zero values: %v", got)
	}
}

// P12.1: which row may find which, by what both may do.
func TestWhatRowsMayDo(t *testing.T) {
	holdCases(t, []toldCase{
		{"the chapter's example", "*2o *1c", "0-1:1", "1 0"},
		{"neither", "*1n *1n", "", "1 1"},
		{"opens, and neither", "*1o *1n", "", "1 1"},
		{"neither, and closes", "*1n *1c", "", "1 1"},
		{"both open", "*1o *1o", "", "1 1"},
		{"both close", "*1c *1c", "", "1 1"},
		{"closes, and then opens", "*1c *1o", "", "1 1"},
		{"closes, and then both", "*1c *1b", "", "1 1"},
		{"both, and then opens", "*1b *1o", "", "1 1"},
		{"opens, and both", "*1o *1b", "0-1:1", "0 0"},
		{"both, and closes", "*1b *1c", "0-1:1", "0 0"},
		{"both, and both", "*1b *1b", "0-1:1", "0 0"},
		{"past one that does neither", "*1o *1n *1c", "0-2:1", "0 1 0"},
		{"past one that closes", "*1o _1c *1c", "0-2:1", "0 1 0"},
		{"the next one, if several open", "*1o *1o *1c", "1-2:1", "1 0 0"},
		{"the first that closes, if several do", "*1o *1c *1c", "0-1:1", "0 0 1"},
		{"one behind the other", "*1o *1c *1o *1c", "0-1:1 2-3:1", "0 0 0 0"},
		{"one within the other: the inner one first", "*1o *1o *1c *1c", "1-2:1 0-3:1", "0 0 0 0"},
		{"two in one, one behind the other", "*1o *2o *2c *1o *1c *1c", "1-2:2 3-4:1 0-5:1", "0 0 0 0 0 0"},
		{"a row that both may do has no marks left to open", "*1o *1b *1c", "0-1:1", "0 0 1"},
		{"four that both may do", "*1b *1b *1b *1b", "0-1:1 2-3:1", "0 0 0 0"},
	})
}

// P12.1: a row makes pairs with its own mark alone.
func TestUnlikeMarks(t *testing.T) {
	holdCases(t, []toldCase{
		{"unlike", "*1o _1c", "", "1 1"},
		{"unlike, the other way", "_1o *1c", "", "1 1"},
		{"one behind the other", "*1o *1c _2o _2c", "0-1:1 2-3:2", "0 0 0 0"},
		{"one behind the other, the other way", "_1o _1c *2o *2c", "0-1:1 2-3:2", "0 0 0 0"},
		{"one within the other", "*1o _2o _2c *1c", "1-2:2 0-3:1", "0 0 0 0"},
		{"one within the other, the other way", "_1o *2o *2c _1c", "1-2:2 0-3:1", "0 0 0 0"},
		{"three deep", "*1o _1o *2o *2c _1c *1c", "2-3:2 1-4:1 0-5:1", "0 0 0 0 0 0"},
		{"one over the other", "*1o _1o *1c _1c", "0-2:1", "0 1 0 1"},
		{"one over the other, the other way", "_2o *2o _2c *2c", "0-2:2", "0 2 0 2"},
		{"one that both may do between", "*1o _1b *1c", "0-2:1", "0 1 0"},
		{"one that finds nothing makes none dead", "*1o _1c _1b *1c _1c", "0-3:1", "0 1 1 0 1"},
		{"other bytes", "a1o b1o b1c a1c", "1-2:1 0-3:1", "0 0 0 0"},
		{"a letter, small and capital", "a1o A1c", "", "1 1"},
	})
}

// P12.1: a mark is any byte.
func TestEveryMark(t *testing.T) {
	for mark := range 256 {
		same := []api.Run{run(byte(mark), 3, 'o'), run(byte(mark), 4, 'c')}
		if p, l := toldPairs(pairsOf(t, same)), toldLeft(leftOf(t, same)); p != "0-1:2 0-1:1" || l != "0 1" {
			t.Errorf("mark %d: %s, %s", mark, p, l)
		}
		for other := range 256 {
			list := []api.Run{run(byte(mark), 1, 'o'), run(byte(other), 1, 'b'), run(byte(mark), 1, 'c')}
			pairs, left := "0-2:1", "0 1 0"
			if mark == other {
				pairs, left = "0-1:1", "0 0 1"
			}
			if p, l := toldPairs(pairsOf(t, list)), toldLeft(leftOf(t, list)); p != pairs || l != left {
				t.Errorf("mark %d, with %d between: %s, %s", mark, other, p, l)
			}
		}
	}
}

// P12.1: how many marks, at each side.
func TestNumbersOfMarks(t *testing.T) {
	holdCases(t, []toldCase{
		{"one and one", "*1o *1c", "0-1:1", "0 0"},
		{"one and two", "*1o *2c", "0-1:1", "0 1"},
		{"two and one", "*2o *1c", "0-1:1", "1 0"},
		{"two and two", "*2o *2c", "0-1:2", "0 0"},
		{"two and three", "*2o *3c", "0-1:2", "0 1"},
		{"three and two", "*3o *2c", "0-1:2", "1 0"},
		{"three and one", "*3o *1c", "0-1:1", "2 0"},
		{"one and three", "*1o *3c", "0-1:1", "0 2"},
		{"three and three: two pairs", "*3o *3c", "0-1:2 0-1:1", "0 0"},
		{"four and four: two pairs of two", "*4o *4c", "0-1:2 0-1:2", "0 0"},
		{"five and five: three pairs", "_5o _5c", "0-1:2 0-1:2 0-1:1", "0 0"},
		{"four and seven", "*4o *7c", "0-1:2 0-1:2", "0 3"},
		{"seven and five", "*7o *5c", "0-1:2 0-1:2 0-1:1", "2 0"},
		{"many and one", "*99o *1c", "0-1:1", "98 0"},
		{"many and two", "*99o *2c", "0-1:2", "97 0"},
		{"one and many", "*1o *99c", "0-1:1", "0 98"},
		{"one that opens for two", "*3o *1c *2c", "0-1:1 0-2:2", "0 0 0"},
		{"one that opens for two, the other way", "*3o *2c *1c", "0-1:2 0-2:1", "0 0 0"},
		{"one that opens for four", "*4o *1c *1c *1c *1c", "0-1:1 0-2:1 0-3:1 0-4:1", "0 0 0 0 0"},
		{"one that closes two", "*1o *2o *3c", "1-2:2 0-2:1", "0 0 0"},
		{"one that closes two, the other way", "*2o *1o *3c", "1-2:1 0-2:2", "0 0 0"},
		{"one that closes four", "*1o *1o *1o *1o *4c", "3-4:1 2-4:1 1-4:1 0-4:1", "0 0 0 0 0"},
		{"one that closes more than there are", "*1o *2o *9c", "1-2:2 0-2:1", "0 0 6"},
		{"two that close two", "*2o *4o *3c *3c", "1-2:2 1-2:1 1-3:1 0-3:2", "0 0 0 0"},
		{"several pairs of the same two, between others", "*1o _5o _4c *1c", "1-2:2 1-2:2 0-3:1", "0 1 0 0"},
	})
	for n := 1; n <= 300; n++ {
		for _, m := range []int{1, 2, n, n + 1, 2 * n} {
			list := []api.Run{run('*', n, 'o'), run('*', m, 'c')}
			want := strings.Repeat(" 0-1:2", min(n, m)/2) + strings.Repeat(" 0-1:1", min(n, m)%2)
			if got := " " + toldPairs(pairsOf(t, list)); got != want {
				t.Errorf("%d and %d: %s", n, m, got)
			}
			if got := leftOf(t, list); !slices.Equal(got, []int{max(n-m, 0), max(m-n, 0)}) {
				t.Errorf("%d and %d: %v are left", n, m, got)
			}
		}
	}
}

// P12.1: rows with N below 1 and above MaxText have no marks.
func TestRowsWithoutMarks(t *testing.T) {
	holdCases(t, []toldCase{
		{"0 opens", "*0o *1c", "", "0 1"},
		{"0 closes", "*1o *0c", "", "1 0"},
		{"0 and 0", "*0o *0c", "", "0 0"},
		{"below 0", "*-1o *1c", "", "0 1"},
		{"below 0 closes", "*1o *-2c", "", "1 0"},
		{"both below 0", "*-2o *-2c", "", "0 0"},
		{"between two", "*1o *0b *-5b *1c", "0-3:1", "0 0 0 0"},
		{"between two, of the other mark", "*1o _0b *1c", "0-2:1", "0 0 0"},
		{"alone", "*0b", "", "0"},
		{"that may do neither", "*0n *-1n *1048577n", "", "0 0 0"},
	})
	for _, n := range []int{0, -1, -2, -3, math.MinInt64, math.MinInt64 + 1, -1 << 32, 1 - 1<<32, api.MaxText + 1, api.MaxText + 2, api.MaxText * 2, 1<<31 - 1, 1 << 31, 1<<32 + 1, 1<<32 + 2, 1 << 62, math.MaxInt64, math.MaxInt64 - 1} {
		for _, way := range []byte("nocb") {
			list := []api.Run{run('*', 2, 'o'), run('*', n, way), run('*', n, way), run('*', 1, 'b'), run('*', n, way), run('*', 1, 'c')}
			if p, l := toldPairs(pairsOf(t, list)), toldLeft(leftOf(t, list)); p != "0-5:1" && p != "3-5:1" || l != "2 0 0 0 0 0" {
				t.Errorf("N %d, %c: %s, %s are left", n, way, p, l)
			}
		}
	}
}

// P12.1: rows of MaxText have marks, those of one more have none.
func TestRowsOfMaxText(t *testing.T) {
	const most = api.MaxText
	holdCases(t, []toldCase{
		{"the greatest opens", "*1048576o *1c", "0-1:1", "1048575 0"},
		{"the greatest closes", "*1o *1048576c", "0-1:1", "0 1048575"},
		{"one more opens", "*1048577o *1c", "", "0 1"},
		{"one more closes", "*1o *1048577c", "", "1 0"},
		{"the greatest and one more", "*1048576o *1048577c", "", "1048576 0"},
		{"one more and the greatest", "*1048577o *1048576c", "", "0 1048576"},
		{"the greatest, one that is no multiple of 3, and 2", "*1048576b *2c", "", "1048576 2"},
		{"one less, which is one, and 3", "*1048575b *3c", "0-1:2 0-1:1", "1048572 0"},
	})
	list := []api.Run{run('*', most, 'o'), run('*', most, 'c')}
	got := pairsOf(t, list)
	if len(got) != most/2 {
		t.Fatalf("%d pairs", len(got))
	}
	for i, p := range got {
		if p != (api.Pair{Open: 0, Close: 1, N: 2}) {
			t.Fatalf("pair %d: %v", i, p)
		}
	}
	list[0].N--
	got = pairsOf(t, list)
	if len(got) != most/2 || got[most/2-2].N != 2 || got[most/2-1].N != 1 {
		t.Fatalf("with one mark less: %d pairs, the last one %v", len(got), got[len(got)-1])
	}
	if got := leftOf(t, list); !slices.Equal(got, []int{0, 1}) {
		t.Errorf("with one mark less %v are left", got)
	}
}

// P12.1: rows whose sum is a multiple of 3 make pairs, if both are such, or if the one that closes may not open and the one that opens may not close. For each two numbers, each way.
func TestSumsOfThree(t *testing.T) {
	// By the rests of both numbers by 3: whether they fit if one of both rows may do both.
	mayDoBoth := [3][3]bool{{true, true, true}, {true, true, false}, {true, false, true}}
	for n := 1; n <= 10; n++ {
		for m := 1; m <= 10; m++ {
			for _, ways := range []string{"oc", "ob", "bc", "bb"} {
				want := ""
				if ways == "oc" || mayDoBoth[n%3][m%3] {
					want = strings.Repeat(" 0-1:2", min(n, m)/2) + strings.Repeat(" 0-1:1", min(n, m)%2)
				}
				list := []api.Run{run('_', n, ways[0]), run('_', m, ways[1])}
				if got := toldPairs(pairsOf(t, list)); got != strings.TrimSpace(want) {
					t.Errorf("%d and %d, %s: %q, not %q", n, m, ways, got, want)
				}
			}
		}
	}
}

// P12.1: the same, with other rows about.
func TestSumsOfThreeAmongOthers(t *testing.T) {
	holdCases(t, []toldCase{
		{"none is one, and one may do both", "*1o *2b", "", "1 2"},
		{"none is one, and the one that opens may close", "*1b *2c", "", "1 2"},
		{"none is one, and both may do both", "*2b *1b", "", "2 1"},
		{"none is one, and each may do one", "*1o *2c", "0-1:1", "0 1"},
		{"both are such", "*3b *6b", "0-1:2 0-1:1", "0 3"},
		{"one alone is such: the sum is none", "*3b *2b", "0-1:2", "1 0"},
		{"the other one alone is such", "*2b *3b", "0-1:2", "0 1"},
		{"past one that doesn't fit", "*1o *2b *1c", "0-2:1", "0 2 0"},
		{"past several", "*1o *2b *2b *5b *1c", "1-2:2 0-4:1", "0 0 0 5 0"},
		{"past one that would fit, if it were ahead of it", "*2o *4b *2c", "0-2:2", "0 4 0"},
		{"N as handed in, not what is left, of one that both closes and opens", "*2o *3b *2c", "0-1:2 1-2:1", "0 0 1"},
		{"likewise, where what is left would fit", "*2o *5b *1c", "0-1:2", "0 3 1"},
		{"of one that only opens", "*3o *1b *1b", "0-1:1 0-2:1", "1 0 0"},
		{"likewise, where what is left would fit", "*4o *1b *2b", "0-1:1", "3 0 2"},
		{"of the one that closes", "*1o *1o *3b", "1-2:1 0-2:1", "0 0 1"},
		{"likewise, where what is left would fit", "*4o *2o *5b", "1-2:2", "4 0 3"},
	})
}

// P12.1: what has found nothing tells nothing of a row that asks for something else.
func TestFindsWhatOthersDidNot(t *testing.T) {
	holdCases(t, []toldCase{
		{"one that may not open, behind one that may", "*1o *2b *2c", "1-2:2", "1 0 0"},
		{"one that may not open and has marks for both", "*1o *2b *5c", "1-2:2 0-2:1", "0 0 2"},
		{"another number of marks", "*1o _1o *2b *4b", "0-3:1", "0 1 2 3"},
		{"a multiple of 3", "*1b *2b *3b", "1-2:2 0-2:1", "0 0 0"},
		{"another mark", "*1o _1o ^1b _1b", "1-3:1", "1 0 1 0"},
		{"likewise, with what is ahead of both", "*1o ^1b *1b", "0-2:1", "0 1 0"},
		{"what stands behind the one that found nothing", "*2o *1b *4o *1b", "2-3:1", "2 1 3 0"},
		{"what is ahead of both, by another one", "*1o *2b *1o *2b *1b", "1-3:2 0-4:1", "0 0 1 0 0"},
		{"the one that found nothing itself", "*2b *1b *1c *2b", "1-2:1 0-3:2", "0 0 0 0"},
		{"one alike, by the one that found nothing", "*2o *1b *1b", "1-2:1", "2 0 0"},
		{"one alike finds nothing either", "*2o *1b _1o *1c *1b", "1-3:1", "2 0 1 0 1"},
		{"one that found something, then nothing", "*1c *1o *3c *1o *1c *2c", "1-2:1 3-4:1", "1 0 2 0 0 2"},
	})
}

// P12.1: rows between two that make a pair are dead, whatever they have left.
func TestDeadRows(t *testing.T) {
	holdCases(t, []toldCase{
		{"one that opens", "*1o _1o *1c _1c", "0-2:1", "0 1 0 1"},
		{"several that open", "*1o _1o ^2o _3o *1c _1c ^2c _3c", "0-4:1", "0 1 2 3 0 1 2 3"},
		{"one that both may do", "*1o _2b *1c _2c", "0-2:1", "0 2 0 2"},
		{"one of the same mark, which doesn't fit", "*2o *1b *2b *1c", "0-2:2", "0 1 0 1"},
		{"likewise, with an opener that has marks left", "*4o *2b *1b *2c", "0-2:1 0-3:2", "1 2 0 0"},
		{"one with marks left that has opened", "*1o _2o _1c *1c _1c", "1-2:1 0-3:1", "0 1 0 0 1"},
		{"one with marks left that has closed", "*1o _1o _3b *1c _1c", "1-2:1 0-3:1", "0 0 2 0 1"},
		{"one that has both opened and closed", "*1o _2o _6b _1c *1c _2c", "1-2:2 2-3:1 0-4:1", "0 0 3 0 0 2"},
		{"one that has closed alone", "*1o _1o _9c *1c _1o _1c", "1-2:1 0-3:1 4-5:1", "0 0 8 0 0 0"},
		{"not the one that opens, with marks left", "*2o _1o *1c _1c *1c", "0-2:1 0-4:1", "0 1 0 1 0"},
		{"not the one that closes, with marks left", "*1o _1o *3b _1c *2c", "0-2:1 2-4:2", "0 1 0 1 0"},
		{"not one ahead of both", "_1o *1o *1c _1c", "1-2:1 0-3:1", "0 0 0 0"},
		{"not one behind both", "*1o *1c _1o _1c", "0-1:1 2-3:1", "0 0 0 0"},
		{"none, if nothing is found", "*1o _1o ^1c _1c *1c", "1-3:1 0-4:1", "0 0 1 0 0"},
		{"by the second pair of a row that closes", "*1o _1o *1o *2c _1c", "2-3:1 0-3:1", "0 1 0 0 1"},
		{"rows without marks stay without", "*1o _0o _-3b _2000000c *1c", "0-4:1", "0 0 0 0 0"},
		{"one that may do neither", "*1o _4n *4n *1c", "0-3:1", "0 4 4 0"},
	})
}

// P12.1: a row that closes, and with what is left opens.
func TestClosesAndOpens(t *testing.T) {
	holdCases(t, []toldCase{
		{"one mark each", "*1o *3b *1c", "0-1:1 1-2:1", "0 1 0"},
		{"one and two marks", "*1o *3b *2c", "0-1:1 1-2:2", "0 0 0"},
		{"two and one", "*2o *3b *1c", "0-1:2 1-2:1", "0 0 0"},
		{"closes two, and opens for two", "*1o *1o *4b *1c *1c", "1-2:1 0-2:1 2-3:1 2-4:1", "0 0 0 0 0"},
		{"rows that both may do, each with the next one", "*4b *4b *4b *4b", "0-1:2 0-1:2 2-3:2 2-3:2", "0 0 0 0"},
		{"a chain of them", "*1o *3b *4b *4b", "0-1:1 1-2:2 2-3:2", "0 0 0 2"},
		{"as an example of a text: *a**b***c*", "*1o *2b *3b *1c", "1-2:2 0-2:1", "0 0 0 1"},
		{"closes nothing, and opens", "*2c *1b *1c", "1-2:1", "2 0 0"},
		{"closes past dead ones, and opens", "*1o _1o *3b _1c *2c _1c", "0-2:1 2-4:2", "0 1 0 1 0 1"},
	})
}

// P12.1: a row may find one at any distance.
func TestFarAhead(t *testing.T) {
	const many = 5000
	for _, between := range []string{"_1o", "_1b", "_1c", "*1n", "*0b", "*2b", "*1048577b", "^7o"} {
		rows := listed(between)
		list := append([]api.Run{run('*', 1, 'o')}, slices.Repeat(rows, many)...)
		if between == "_1b" || between == "*2b" { // an odd number of them, the last of which is left
			list = append(list, rows...)
		}
		list = append(list, run('*', 1, 'c'), run('_', 1, 'c'))
		last := len(list) - 2
		got := pairsOf(t, list)
		if len(got) == 0 || got[len(got)-1] != (api.Pair{Open: 0, Close: last, N: 1}) {
			t.Errorf("many %s between: %d pairs", between, len(got))
		}
		if left := leftOf(t, list); left[0] != 0 || left[last] != 0 || left[last+1] != 1 {
			t.Errorf("many %s between: %d, %d, %d are left", between, left[0], left[last], left[last+1])
		}
	}
}

// holdMany: each pair, and what is left.
func holdMany(t *testing.T, name string, list []api.Run, pairs int, pair func(i int) api.Pair, left []int) {
	t.Helper()
	got := pairsOf(t, list)
	if len(got) != pairs {
		t.Fatalf("%s: %d pairs, not %d", name, len(got), pairs)
	}
	for i, p := range got {
		if p != pair(i) {
			t.Fatalf("%s: pair %d is %v, not %v", name, i, p, pair(i))
		}
	}
	if !slices.Equal(leftOf(t, list), left) {
		t.Errorf("%s: what is left", name)
	}
}

// P12.1: some thousand rows, of which what is answered can be told beforehand.
func TestManyRows(t *testing.T) {
	const many = 6000
	none := make([]int, many)
	deep := append(slices.Repeat(listed("*3o"), many), slices.Repeat(listed("*3c"), many)...)
	holdMany(t, "deep", deep, 2*many, func(i int) api.Pair {
		return api.Pair{Open: many - 1 - i/2, Close: many + i/2, N: 2 - i%2}
	}, append(none, none...))
	holdMany(t, "flat", slices.Repeat(listed("_1o _2c"), many), many, func(i int) api.Pair {
		return api.Pair{Open: 2 * i, Close: 2*i + 1, N: 1}
	}, slices.Repeat([]int{0, 1}, many))
	holdMany(t, "each with the next one", slices.Repeat(listed("*1b"), 2*many), many, func(i int) api.Pair {
		return api.Pair{Open: 2 * i, Close: 2*i + 1, N: 1}
	}, append(none, none...))
	opens := append(listed("*12000o"), slices.Repeat(listed("*2c"), many)...)
	holdMany(t, "one that opens", opens, many, func(i int) api.Pair {
		return api.Pair{Open: 0, Close: i + 1, N: 2}
	}, append(none, 0))
	closes := append(slices.Repeat(listed("*2o"), many), listed("*12001c")...)
	holdMany(t, "one that closes", closes, many, func(i int) api.Pair {
		return api.Pair{Open: many - 1 - i, Close: many, N: 2}
	}, append(none, 1))
	alike := append(slices.Repeat(listed("*1o"), many), slices.Repeat(listed("_1c *2n"), many)...)
	holdMany(t, "none", alike, 0, nil, append(slices.Repeat([]int{1}, many), slices.Repeat([]int{1, 2}, many)...))
}

// P1: so many rows that no search may go over all of those ahead, again and again: those that close find nothing, or go past what is dead or used up.
func TestLongSearches(t *testing.T) {
	const many = 1 << 19
	for _, c := range []struct {
		name, opens, closes string
		last                int // of the first row
	}{
		{"none fits", "*1o", "*2b", 1},
		{"none has this mark", "*1o", "_1c", 1},
		{"none fits, of three kinds", "*1o _2o *4o", "*2b _1b *5b", 1},
		{"pairs that use marks up, then none fits", "*1o *3o *3c", "*2b", 1},
		{"what is dead, then none fits", "*1o *1o _1o *1c", "_1c *2b", 1},
		{"no marks", "*0o", "*1c", 0},
	} {
		list := append(slices.Repeat(listed(c.opens), many), slices.Repeat(listed(c.closes), many)...)
		if left := leftOf(t, list); len(left) != len(list) || left[0] != c.last {
			t.Errorf("%s: %d, %d", c.name, len(left), left[0])
		}
	}
	// Marks are many, too.
	list := slices.Repeat([]api.Run{run('*', api.MaxText, 'o'), run('*', api.MaxText, 'c')}, many)
	if left := leftOf(t, list); slices.Max(left) != 0 {
		t.Error("of many rows of many marks some are left")
	}
}
