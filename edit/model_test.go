package edit

import (
	"slices"
	"testing"

	"stet/api"
)

// This file holds the calls against a second telling of the chapter, which sorts nothing and asks every byte and every two edits, at all lists of few edits of a short text.

func modelCheck(s string, edits []api.Edit) api.Errno {
	err := api.OK
	for i, a := range edits {
		if a.From < 0 || a.From > a.To || a.To > len(s) {
			return api.ErrEdit
		}
		for _, b := range edits[:i] {
			if a.To > b.From && b.To > a.From {
				err = api.ErrOverlap
			}
		}
	}
	return err
}

// modelApply: place by place, what is put in there, what is put in for the bytes from there on, and the byte, if no edit puts it out.
func modelApply(s string, edits []api.Edit) string {
	out := ""
	for at := 0; at <= len(s); at++ {
		text, kept := "", at < len(s)
		for _, e := range edits {
			switch {
			case e.From == at && e.To == at:
				out += e.Text
			case e.From == at:
				text = e.Text
			}
			kept = kept && (at < e.From || e.To <= at)
		}
		out += text
		if kept {
			out += s[at : at+1]
		}
	}
	return out
}

// modelMove: how long that is which the edits make of what stands ahead of an offset or, within an edit, of its end.
func modelMove(s string, edits []api.Edit, offset int) int {
	end, ahead := offset, func(e api.Edit) bool { return e.To <= offset }
	for _, e := range edits {
		if e.From < offset && offset < e.To {
			end, ahead = e.To, func(other api.Edit) bool { return other.From < e.To }
		}
	}
	var some []api.Edit
	for _, e := range edits {
		if ahead(e) {
			some = append(some, e)
		}
	}
	return len(modelApply(s[:end], some))
}

// holdOrder: the same edits, each next one greater in From, To and where it stood. The edits' texts must be different.
func holdOrder(t *testing.T, edits []api.Edit) {
	t.Helper()
	got := sorted(t, edits)
	if len(got) != len(edits) {
		t.Fatalf("Sorted %v: %v", edits, got)
	}
	last := []int(nil)
	for _, e := range got {
		key := []int{e.From, e.To, slices.Index(edits, e)}
		if key[2] < 0 || slices.Compare(last, key) >= 0 {
			t.Fatalf("Sorted %v: %v", edits, got)
		}
		last = key
	}
}

func holdAgainstModel(t *testing.T, s string, edits []api.Edit) {
	t.Helper()
	holdOrder(t, edits)
	err := modelCheck(s, edits)
	if got := check(t, s, edits); got != err {
		t.Fatalf("Check %q, %v: %v, not %v", s, edits, got, err)
	}
	want := ""
	if err == api.OK {
		want = modelApply(s, edits)
	}
	if got, gotErr := apply(t, s, edits); got != want || gotErr != err {
		t.Fatalf("Apply %q, %v: %q %v, not %q %v", s, edits, got, gotErr, want, err)
	}
	for offset := 0; offset <= len(s) && err == api.OK; offset++ {
		if got, want := move(t, edits, offset), modelMove(s, edits, offset); got != want {
			t.Fatalf("Move %q, %v, %d: %d, not %d", s, edits, offset, got, want)
		}
	}
}

// lists: all lists of so many edits with numbers from the first to the last one.
func lists(first, last, longest int, yield func([]api.Edit)) {
	texts := []string{"xx", "", "y", "zzz"}
	var grow func([]api.Edit)
	grow = func(edits []api.Edit) {
		yield(edits)
		if len(edits) == longest {
			return
		}
		for from := first; from <= last; from++ {
			for to := first; to <= last; to++ {
				grow(append(slices.Clip(edits), api.Edit{From: from, To: to, Text: texts[len(edits)]}))
			}
		}
	}
	grow(nil)
}

// P2.1 to P2.4 at all short lists, with numbers within the text and around it.
func TestShortListsAgainstModel(t *testing.T) {
	for _, s := range []string{"", "a", "ab"} {
		lists(-1, len(s)+1, 3, func(edits []api.Edit) { holdAgainstModel(t, s, edits) })
	}
	lists(-1, 5, 2, func(edits []api.Edit) { holdAgainstModel(t, "abcd", edits) })
	lists(0, 3, 4, func(edits []api.Edit) { holdAgainstModel(t, "abc", edits) })
}

// P2.1 to P2.4: any edits, of two numbers each.
func FuzzAgainstModel(f *testing.F) {
	f.Add("abc", "\x01\x02\x00\x00\x03\x03\x01\x00")
	f.Add("", "\x00\x00")
	f.Fuzz(func(t *testing.T, s, numbers string) {
		if len(s) > 40 || len(numbers) > 40 {
			t.Skip()
		}
		var edits []api.Edit
		for i := 0; i+1 < len(numbers); i += 2 {
			from := int(int8(numbers[i]))
			edits = append(edits, api.Edit{From: from, To: from + int(int8(numbers[i+1]))%8, Text: string(rune('A' + i))})
		}
		holdAgainstModel(t, s, edits)
	})
}
