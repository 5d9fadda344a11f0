package emph

import (
	"math/rand"
	"slices"
	"testing"
	"unsafe"

	"stet/api"
)

// This file holds the calls against a second telling of the chapter, which makes one pair after the other, remembers of each row whether it is dead, and looks through all rows ahead each time.

func modelPairs(list []api.Run) ([]api.Pair, []int) {
	var pairs []api.Pair
	left, dead := make([]int, len(list)), make([]bool, len(list))
	for i, r := range list {
		if 1 <= r.N && r.N <= api.MaxText {
			left[i] = r.N
		}
	}
	for closer := 0; closer < len(list); {
		opener := closer - 1
		for opener >= 0 && (dead[opener] || left[opener] == 0 || !modelFits(list[opener], list[closer])) {
			opener--
		}
		if opener < 0 || dead[closer] || left[closer] == 0 {
			closer++
			continue
		}
		n := 1
		if left[opener] >= 2 && left[closer] >= 2 {
			n = 2
		}
		left[opener] -= n
		left[closer] -= n
		pairs = append(pairs, api.Pair{Open: opener, Close: closer, N: n})
		for i := opener + 1; i < closer; i++ {
			dead[i] = true
		}
	}
	return pairs, left
}

// modelFits: whether what both may do, their marks and their numbers allow a pair.
func modelFits(opener, closer api.Run) bool {
	if !opener.Open || !closer.Close || opener.Mark != closer.Mark {
		return false
	}
	if (opener.N+closer.N)%3 != 0 {
		return true
	}
	if opener.N%3 == 0 && closer.N%3 == 0 {
		return true
	}
	return !closer.Open && !opener.Close
}

func holdAgainstModel(t *testing.T, list []api.Run) {
	t.Helper()
	pairs, left := modelPairs(list)
	if got := pairsOf(t, list); !slices.Equal(got, pairs) {
		t.Fatalf("Pairs of %+v: %v, not %v", list, got, pairs)
	}
	if got := leftOf(t, list); !slices.Equal(got, left) {
		t.Fatalf("Left of %+v: %v, not %v", list, got, left)
	}
}

// rowsOf: a row of each mark, number and way.
func rowsOf(marks string, numbers []int, ways string) []api.Run {
	var rows []api.Run
	for _, mark := range []byte(marks) {
		for _, n := range numbers {
			for _, way := range []byte(ways) {
				rows = append(rows, run(mark, n, way))
			}
		}
	}
	return rows
}

// lists: all lists of at most so many of these rows.
func lists(rows []api.Run, longest int, yield func([]api.Run)) {
	list := make([]api.Run, 0, longest)
	var grow func(list []api.Run)
	grow = func(list []api.Run) {
		yield(list)
		if len(list) == longest {
			return
		}
		for _, r := range rows {
			grow(append(list, r))
		}
	}
	grow(list)
}

// P12.1 at all short lists of some rows.
func TestShortListsAgainstModel(t *testing.T) {
	for _, c := range []struct {
		marks   string
		numbers []int
		ways    string
		longest int
	}{
		{"*_", []int{0, 1, 2, 3, 5, 6, api.MaxText + 1}, "nocb", 3},
		{"*_", []int{1, 2, 3}, "nocb", 4},
		{"*_", []int{1, 2}, "ocb", 5},
		{"*", []int{1, 2, 3, 4}, "ocb", 5},
		{"*", []int{1, 2, 3}, "ocb", 6},
		{"*", []int{1, 2}, "ocb", 7},
		{"*_", []int{1}, "ocb", 7},
	} {
		lists(rowsOf(c.marks, c.numbers, c.ways), c.longest, func(list []api.Run) { holdAgainstModel(t, list) })
	}
}

// P12.1 at lists of some dozen and of some thousand rows.
func TestLongListsAgainstModel(t *testing.T) {
	chance := rand.New(rand.NewSource(12))
	for _, c := range []struct {
		rows         []api.Run
		long, rounds int
	}{
		{rowsOf("*_", []int{1, 2, 3, 4}, "ocb"), 12, 30000},
		{rowsOf("*_", []int{0, 1, 2, 3, 4, 5, 6, 7, 8, 9}, "nocb"), 40, 10000},
		{rowsOf("*", []int{1, 2, 3, 6, 7, 20}, "ob"), 60, 3000},
		{rowsOf("*_^a\x00\xff", []int{1, 2, 3, 4}, "ocb"), 100, 3000},
		{rowsOf("*_", []int{1, 2, 4, 5}, "oocb"), 3000, 10},
		{rowsOf("*", []int{1, 2, 3}, "oob"), 3000, 10},
		{rowsOf("*_^#~", []int{-1, 0, 1, 2, 3, 60, api.MaxText + 1}, "nooccb"), 3000, 10},
	} {
		for range c.rounds {
			list := make([]api.Run, chance.Intn(c.long+1))
			for i := range list {
				list[i] = c.rows[chance.Intn(len(c.rows))]
			}
			holdAgainstModel(t, list)
		}
	}
}

// room is the memory of a list: where it begins, and where it ends, spare room too.
type room struct{ from, to uintptr }

func roomOf[T any](list []T) room {
	from := uintptr(unsafe.Pointer(unsafe.SliceData(list)))
	var one T
	return room{from, from + uintptr(cap(list))*unsafe.Sizeof(one)}
}

func (r room) shares(other room) bool { return r.from < other.to && other.from < r.to }

// P12.2: what is answered shares no memory with what is handed in, nor with another answer.
func TestAnswersAreNewMemory(t *testing.T) {
	for _, words := range []string{"*1o", "*1o *1c", "*3o _2b *3b _2c *4c", "*0o *1n", "*9o *9c"} {
		list := lend(listed(words)).list
		given := roomOf(list)
		pairs, left := Pairs(list), Left(list)
		rooms := []room{given, roomOf(pairs), roomOf(Pairs(list)), roomOf(left), roomOf(Left(list))}
		for i := range rooms {
			for j := range i {
				if rooms[i].shares(rooms[j]) {
					t.Errorf("%s: %d and %d share memory", words, i, j)
				}
			}
		}
	}
}

// P12.2: what is written to an answer, and to its spare room, changes neither what was handed in nor the next answer; and what is written to that doesn't change the answer.
func TestAnswersAreApart(t *testing.T) {
	list := listed("*3o _2b *3b _2c *4c")
	wantPairs, wantLeft := modelPairs(list)
	l := lend(list)
	pairs, left := Pairs(l.list), Left(l.list)
	for i := range pairs[:cap(pairs)] {
		pairs[:cap(pairs)][i] = api.Pair{Open: 7, Close: 7, N: 7}
	}
	for i := range left[:cap(left)] {
		left[:cap(left)][i] = 77
	}
	if !l.kept() {
		t.Errorf("what was handed in has changed: %v", l.list)
	}
	pairs, left = Pairs(l.list), Left(l.list)
	clear(l.list[:cap(l.list)])
	if !slices.Equal(pairs, wantPairs) || !slices.Equal(left, wantLeft) {
		t.Errorf("%v, %v, not %v, %v", pairs, left, wantPairs, wantLeft)
	}
}

// P1 and P2: any rows are answered, and twice the same.
func FuzzAgainstModel(f *testing.F) {
	for _, words := range []string{"", "*2o *1c", "*1o *2b *3b *1c", "*1o _1o *1c _1c", "*0o *1b *-1c"} {
		var bytes []byte
		for _, r := range listed(words) {
			way := byte(0)
			if r.Open {
				way++
			}
			if r.Close {
				way += 2
			}
			bytes = append(bytes, r.Mark, byte(r.N), way)
		}
		f.Add(bytes)
	}
	f.Fuzz(func(t *testing.T, bytes []byte) {
		var list []api.Run
		for ; len(bytes) >= 3; bytes = bytes[3:] {
			list = append(list, run(bytes[0], int(int8(bytes[1])), "nocb"[bytes[2]%4]))
		}
		for range 2 {
			holdAgainstModel(t, list)
		}
	})
}
