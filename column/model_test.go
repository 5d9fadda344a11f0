package column

import (
	"math"
	"testing"
)

// This file holds the calls against a second telling of the chapter, which lays a text out column by column, at all short texts of some bytes.

// laid: for each column of a text, which byte has it; the first column is col.
func laid(s string, col int) []int {
	if col < 0 {
		col = 0
	}
	if col > top {
		col = top
	}
	var owners []int
	for i, b := range []byte(s) {
		owners = append(owners, i)
		for b == 9 && (col+len(owners))%4 != 0 {
			owners = append(owners, i)
		}
	}
	return owners
}

// blankBeginning: a text up to its first byte that is neither 32 nor 9.
func blankBeginning(s string) string {
	for i, b := range []byte(s) {
		if b != 32 && b != 9 {
			return s[:i]
		}
	}
	return s
}

// modelDrop: of the columns that stay, those of a byte some of which are dropped are left.
func modelDrop(s string, col, n int) (gone, behind, left int) {
	owners := laid(blankBeginning(s), col)
	dropped := 0
	for dropped < len(owners) && dropped < n {
		dropped++
	}
	behind = min(max(col, 0), top) + dropped
	if dropped == 0 {
		return 0, behind, 0
	}
	last := owners[dropped-1]
	for _, owner := range owners[dropped:] {
		if owner == last {
			left++
		}
	}
	gone = last
	if left == 0 {
		gone++
	}
	return gone, behind, left
}

func holdAgainstModel(t *testing.T, s string, col int) {
	t.Helper()
	if got, want := Width(s, col), len(laid(s, col)); got != want {
		t.Fatalf("Width of %q at %d: %d, not %d", s, col, got, want)
	}
	begin := blankBeginning(s)
	all := len(laid(begin, col))
	if columns, bytes := Indent(s, col); columns != all || bytes != len(begin) {
		t.Fatalf("Indent of %q at %d: %d %d, not %d %d", s, col, columns, bytes, all, len(begin))
	}
	for n := -1; n <= all+2; n++ {
		holdDrop(t, s, col, n)
	}
	holdDrop(t, s, col, math.MaxInt64)
	holdDrop(t, s, col, math.MinInt64)
}

func holdDrop(t *testing.T, s string, col, n int) {
	t.Helper()
	wantGone, wantBehind, wantLeft := modelDrop(s, col, n)
	if gone, behind, left := Drop(s, col, n); gone != wantGone || behind != wantBehind || left != wantLeft {
		t.Fatalf("Drop of %q at %d, %d: %d %d %d, not %d %d %d", s, col, n, gone, behind, left, wantGone, wantBehind, wantLeft)
	}
}

// texts: all texts of at most so many of these bytes.
func texts(alphabet string, longest int, yield func(string)) {
	var grow func(string)
	grow = func(s string) {
		yield(s)
		if len(s) == longest {
			return
		}
		for i := range len(alphabet) {
			grow(s + alphabet[i:i+1])
		}
	}
	grow("")
}

// columnsAsked: those that are near to 0, near to the greatest one, large, and wrong.
func columnsAsked() []int {
	asked := []int{1000, 1001, 1002, 1003, 1 << 20, 1<<29 + 3, -4, math.MinInt64, math.MaxInt32, 1<<32 + 1, math.MaxInt64}
	for col := -1; col <= 8; col++ {
		asked = append(asked, col)
	}
	for col := top - 5; col <= top+3; col++ {
		asked = append(asked, col)
	}
	return asked
}

// P4.1 and P4.2 at all short texts: bytes 32 and tabs in every order, other bytes behind and between, bytes that are no characters.
func TestShortTextsAgainstModel(t *testing.T) {
	for _, c := range []struct {
		alphabet string
		longest  int
	}{
		{" \t", 7},
		{" \tx", 5},
		{" \t\n\xff\xc2\xa0", 3},
	} {
		for _, col := range columnsAsked() {
			texts(c.alphabet, c.longest, func(s string) { holdAgainstModel(t, s, col) })
		}
	}
}

// P4.1 and P4.2: every byte but a tab has one column, and none but it and 32 is dropped.
func TestEveryByteAgainstModel(t *testing.T) {
	for b := range 256 {
		one := string([]byte{byte(b)})
		for col := range 9 {
			for _, s := range []string{one, one + "\t", "\t" + one, " " + one + " ", one + one + "\t"} {
				holdAgainstModel(t, s, col)
			}
		}
	}
}

// What is dropped and what is left make up what there was: the rest's indent, from the column behind, is that of the text without the dropped columns.
func TestDropLeavesTheRest(t *testing.T) {
	for _, col := range columnsAsked() {
		texts(" \tx", 4, func(s string) {
			all, _ := Indent(s, col)
			for n := range all + 1 {
				gone, behind, left := Drop(s, col, n)
				if behind > top {
					break // handed in again, it would count as another column
				}
				if rest, _ := Indent(s[gone:], behind); rest != all-n {
					t.Fatalf("%q at %d, %d dropped: %d are left, not %d", s, col, n, rest, all-n)
				}
				if left > 0 && s[gone] != '\t' {
					t.Fatalf("%q at %d, %d dropped: columns of no tab are left", s, col, n)
				}
			}
		})
	}
}

// P1 and P2: any arguments are answered, and twice the same.
func FuzzAgainstModel(f *testing.F) {
	for _, s := range []string{"", "\t x", "  \t\tx\t", "\xff\t", "a\tb"} {
		for _, number := range []int{0, 2, -7, 1 << 40, math.MinInt64, math.MaxInt64} {
			f.Add(s, number, number)
		}
	}
	f.Fuzz(func(t *testing.T, s string, col, n int) {
		if len(s) > 64 {
			s = s[:64]
		}
		for range 2 {
			holdAgainstModel(t, s, col)
			holdDrop(t, s, col, n)
		}
	})
}
