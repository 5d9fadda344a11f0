/-
  PROVED: contract of edit.Apply: the text with the edits made, or what is wrong with them. Conditions: the slice lies in memory that holds the edits; at most 300 edits; texts of at most 60000 bytes.
-/
import Derived.Test.YtdjdflannedkbaaCheck
import Derived.Test.YtdjdflannedkbaaShelf
import Derived.Lib.OthersKept
namespace Go.Proofs.Ytdjdflannedkbaa
open Go.ChangeShapes Go.WideShapes Go.ChangeAt Go.RowKit Go.Sort
set_option linter.unusedVariables false

/-- What Apply answers. -/
def appR (s : ByteArray) (es : List Ed) : ByteArray := if chk s.size es = 0 then app s es else ⟨#[]⟩

theorem appR_ok {s : ByteArray} {es : List Ed} (h : chk s.size es = 0) : appR s es = ⟨(appL s.data.toList 0 (srtE es)).toArray⟩ := by unfold appR; rw [if_pos h]; rfl
theorem appR_no {s : ByteArray} {es : List Ed} (h : chk s.size es ≠ 0) : appR s es = ⟨#[]⟩ := by unfold appR; rw [if_neg h]

/-- Edits that are right for a text: each within it, each behind those ahead. -/
def Right (n : Nat) (L : List Ed) : Prop := (∀ e ∈ L, 0 ≤ e.f ∧ e.f ≤ e.t ∧ e.t ≤ n) ∧ L.Pairwise fun a b => a.t ≤ b.f
theorem right_of_chk {n : Nat} {es : List Ed} (h : chk n es = 0) : Right n (srtE es) := by
  obtain ⟨hw, ha⟩ := chk_ok h
  have hw' : ∀ e ∈ srtE es, 0 ≤ e.f ∧ e.f ≤ e.t ∧ e.t ≤ n := fun e he => hw e ((srt_perm es).mem_iff.1 he)
  exact ⟨hw', apL_pairs _ (fun e he => (hw' e he).2.1) ha⟩
theorem Right.next {n : Nat} {L : List Ed} (h : Right n L) (j : Nat) (hj : j < L.length) : ∀ (h' : j + 1 < L.length), L[j].t ≤ L[j + 1].f :=
  fun h' => List.pairwise_iff_getElem.1 h.2 j (j + 1) hj h' (by omega)

theorem extract_list (s : ByteArray) (a b : Nat) : (s.extract a b).data.toList = (s.data.toList.drop a).take (b - a) := by
  simp [ByteArray.data_extract, Array.toList_extract, List.extract]
theorem strCells_list (s : ByteArray) : Lib.strCells s = Lib.byteCells s.data.toList := rfl

/-- What the loop of Apply goes by. -/
def ApRel (s : ByteArray) (L : List Ed) (W1 : World) (d i : Value) (wr : World) : Prop :=
  ∃ (j k : Nat) (acc : List UInt8), j ≤ L.length ∧ i = .int .i64 j ∧ d = .int .i64 k ∧ k ≤ s.size ∧ (∀ h : j < L.length, (k : Int) ≤ L[j].f) ∧
    Lib.IsBuilderF 40 5 W1.heap.size W1.heap.size (Lib.byteCells acc) wr ∧ Below W1.heap.size W1 wr ∧ acc ++ appL s.data.toList k (L.drop j) = appL s.data.toList 0 L ∧ acc.length ≤ j * 120000

set_option maxHeartbeats 4000000 in
set_option maxRecDepth 1000000 in
theorem apply_any (s : ByteArray) (A : Option Addr) (c : Nat) (hA : A = none → c = 0) (es : List Ed) (hl : es.length ≤ 300) (hs : s.size ≤ 60000) (hx : ∀ e ∈ es, e.x.size ≤ 60000) (B : Nat) (w : World) (h : Rd w B A es) :
    Calls Try.prog 11 #[.string s, .slice A es.length c] w fun e w' => e = .returned (.tuple #[.string (appR s es), .int .i64 (chk s.size es)]) ∧ Below w.heap.size w w' := by
  have hc := checked_any s A c hA es (by omega) B w h
  clear hA h
  by_cases hk : chk s.size es = 0
  · have HR := Lib.hid (appR_ok hk)
    have HK := Lib.hid hk
    have hlen : (srtE es).length ≤ 300 := by rw [srt_len]; exact hl
    have hxs : ∀ e ∈ srtE es, e.x.size ≤ 60000 := fun e he => hx e ((srt_perm es).mem_iff.1 he)
    have HRG := Lib.hid (right_of_chk hk)
    clear hx hk
    generalize appR s es = R at HR ⊢
    obtain ⟨L, hL⟩ : ∃ L, L = srtE es := ⟨_, rfl⟩
    rw [← hL] at hlen hxs HRG HR
    have HLL := Lib.hid hL
    clear hL
    have HX := Lib.hid hxs
    clear hxs
    go_enter Try.func11, Try.ntmps11
    go_wp2_with fail
    refine hc.mono ?_
    rintro e W1 ⟨v, he, hb1, hown⟩
    have hown := hown HK.out
    rw [← HLL.out] at hown
    obtain ⟨A2, c2, rfl, hc2, _, hr2⟩ := own_edits hown
    rw [HK.out] at he
    subst he
    clear hown hc
    go_wp2_with fail
    refine (Try.Builder_Grow W1.heap.size W1.heap.size s.size _ (Nat.le_refl _) (heap_alloc_new W1 _) (by simp) (by omega)).mono ?_
    rintro e w2 ⟨rfl, hA2, hb2⟩
    have hz1 : W1.heap.size < w2.heap.size := by have := hb2.size; simp at this; omega
    have HB2 : Hid (Below W1.heap.size W1 w2) := ((Below.refl _ _).alloc (Nat.le_refl _) _).trans hb2
    have HI1 : Hid (Lib.IsBuilderF 40 5 W1.heap.size W1.heap.size (Lib.byteCells []) w2) := Or.inr (Lib.BuilderAtF.of hA2)
    clear hA2 hb2
    go_wp2_with fail
    go_loopw [9, 26] (fun d i wr => ApRel s L W1 d i wr) (fun _ i _ => L.length - (intOf i).toNat)
    case atStart => exact ⟨0, 0, [], Nat.zero_le _, rfl, rfl, Nat.zero_le _, fun h => (HRG.out.1 _ (List.getElem_mem h)).1, HI1.out, HB2.out, rfl, by simp⟩
    case round =>
      clear HI1 HB2 hz1
      obtain ⟨j, k, acc, hj, rfl, rfl, hk1, hk2, hI, hB, hacc, hal⟩ := hrel
      have HACC := Lib.hid hacc
      have HK2 := Lib.hid hk2
      clear hacc hk2
      have hBz := hB.size
      have hbw : W1.heap.size < wr.heap.size := by rcases hI with ⟨_, v, hh, _⟩ | ⟨_, v, hh, _⟩ <;> exact (Array.getElem?_eq_some_iff.1 hh).1
      by_cases hlt : j < L.length
      · obtain ⟨b, o, rfl, hb, c0, c1, c2⟩ := (hr2.below hB) j L[j] (List.getElem?_eq_getElem hlt)
        have hw := HRG.out.1 _ (List.getElem_mem hlt)
        have hxx := HX.out _ (List.getElem_mem hlt)
        have hkk := HK2.out hlt
        have HD := Lib.hid (List.drop_eq_getElem_cons hlt)
        have HNX := Lib.hid (HRG.out.next j hlt)
        have HE : Hid (∃ y, y = L[j]) := ⟨_, rfl⟩
        obtain ⟨y, hy⟩ := HE.out
        rw [← hy] at c0 c1 c2 hw hxx hkk HD HNX
        clear hy HE HK2
        obtain ⟨y0, y1, y2⟩ := y
        simp only at c0 c1 c2 hw hxx hkk
        obtain ⟨f, rfl⟩ : ∃ f : Nat, y0 = f := ⟨y0.toNat, by omega⟩
        obtain ⟨t, rfl⟩ : ∃ t : Nat, y1 = t := ⟨y1.toNat, by omega⟩
        have hbb : (Lib.byteCells acc).length + (s.extract k f).size ≤ 140737488355328 := by
          rw [Lib.byteCells_length]
          have : (s.extract k f).size ≤ s.size := by simp [ByteArray.size_extract]; omega
          omega
        go_wp2_with fail
        refine (Try.Builder_Write W1.heap.size W1.heap.size _ (s.extract k f) _ (hI.alloc _) hbb (by simp; omega)).mono ?_
        rintro e w3 ⟨rfl, h3, b3, k3⟩
        have hbox := k3 wr.heap.size _ (heap_alloc_new wr (.cells #[.int .i64 (f : Int), .int .i64 (t : Int), .string y2] 34)) (by simp; omega) (by intro c fz e; injection e with _ e; cases e)
        have x1 : w3.cell? ⟨wr.heap.size, 1, none⟩ = some (.int .i64 t) := by rw [cell_of_row w3 _ 1 _ _ _ hbox]; rfl
        have x2 : w3.cell? ⟨wr.heap.size, 2, none⟩ = some (.string y2) := by rw [cell_of_row w3 _ 2 _ _ _ hbox]; rfl
        have hB3 : Below W1.heap.size W1 w3 := (hB.alloc hBz _).trans b3
        have HBX := Lib.hid hbox
        have hz3 := b3.size
        have hz3' : wr.heap.size < w3.heap.size := (Array.getElem?_eq_some_iff.1 hbox).1
        rw [strCells_list, ← Lib.byteCells_append] at h3
        have HI3 : Hid (Lib.IsBuilderF 40 5 W1.heap.size W1.heap.size (Lib.byteCells (acc ++ (s.extract k f).data.toList)) w3) := Or.inr h3
        have hl3 : (s.extract k f).data.toList.length ≤ 60000 := by rw [extract_list]; simp; omega
        have hl3' : (Lib.byteCells (acc ++ (s.extract k f).data.toList)).length + y2.size ≤ 140737488355328 := by rw [Lib.byteCells_length, List.length_append]; omega
        clear h3 b3 k3 hbox hI hbb c0 c1 c2
        go_wp2_with fail
        refine (Try.Builder_Write W1.heap.size W1.heap.size _ y2 _ HI3.out hl3' (by omega)).mono ?_
        rintro e w4 ⟨rfl, h4, b4, k4⟩
        have hbox := k4 wr.heap.size _ HBX.out (by simp; omega) (by intro c fz e; injection e with _ e; cases e)
        have x1 : w4.cell? ⟨wr.heap.size, 1, none⟩ = some (.int .i64 t) := by rw [cell_of_row w4 _ 1 _ _ _ hbox]; rfl
        have hB4 : Below W1.heap.size W1 w4 := hB3.trans b4
        rw [strCells_list, ← Lib.byteCells_append] at h4
        have HI4 : Hid (Lib.IsBuilderF 40 5 W1.heap.size W1.heap.size (Lib.byteCells (acc ++ (s.extract k f).data.toList ++ y2.data.toList)) w4) := Or.inr h4
        have HA4 : Hid (acc ++ (s.extract k f).data.toList ++ y2.data.toList ++ appL s.data.toList t (L.drop (j + 1)) = appL s.data.toList 0 L) := by
          show _ = _
          rw [← HACC.out, HD.out, appL, extract_list]
          simp
        have hy2 : y2.data.toList.length ≤ 60000 := by have : y2.data.toList.length = y2.size := by simp
                                                       omega
        have hl4 : (acc ++ (s.extract k f).data.toList ++ y2.data.toList).length ≤ (j + 1) * 120000 := by rw [List.length_append, List.length_append]; omega
        clear h4 b4 k4 hbox HI3 HBX hB3 hl3 hl3' x2 hz3 hz3'
        go_wp2_with fail
        go_roundw
        case rel => exact ⟨j + 1, t, _, by omega, by go_num, rfl, by omega, HNX.out, HI4.out, hB4, HA4.out, hl4⟩
        case measure => simp [intOf]; omega
      · have hbb : (Lib.byteCells acc).length + (s.extract k s.size).size ≤ 140737488355328 := by
          rw [Lib.byteCells_length]
          have : (s.extract k s.size).size ≤ s.size := by simp [ByteArray.size_extract]
          omega
        go_wp2_with fail
        refine (Try.Builder_Write W1.heap.size W1.heap.size _ (s.extract k s.size) _ hI hbb (by omega)).mono ?_
        rintro e w3 ⟨rfl, h3, b3, k3⟩
        have hB3 : Below W1.heap.size W1 w3 := hB.trans b3
        have hz3 := hB3.size
        rw [strCells_list, ← Lib.byteCells_append] at h3
        have HI3 : Hid (Lib.IsBuilderF 40 5 W1.heap.size W1.heap.size (Lib.byteCells (acc ++ (s.extract k s.size).data.toList)) w3) := Or.inr h3
        clear h3 b3 k3 hI hbb
        go_wp2_with fail
        refine (Try.Builder_String W1.heap.size W1.heap.size _ _ HI3.out (by omega)).mono ?_
        rintro e w4 ⟨rfl, _, b4, _⟩
        have HA4 : Hid (acc ++ (s.extract k s.size).data.toList = appL s.data.toList 0 L) := by
          show _ = _
          rw [← HACC.out, List.drop_eq_nil_of_le (by omega), appL, extract_list, List.take_of_length_le (by simp)]
        have hB4 : Below w.heap.size w w4 := chain (Nat.le_refl _) hb1 (hB3.trans b4)
        clear b4 HI3
        rw [HA4.out, ← HR.out]
        go_wp2_with fail
        go_ret2
        exact ⟨by rw [HK.out]; rfl, hB4⟩
  · have HR := Lib.hid (appR_no hk)
    generalize appR s es = R at HR ⊢
    have hne : ((chk s.size es : Int) != 0) = true := by simpa using hk
    obtain ⟨r, hr⟩ : ∃ r, r = chk s.size es := ⟨_, rfl⟩
    rw [← hr] at hne ⊢
    have HRR := Lib.hid hr
    clear hr hk hx
    go_enter Try.func11, Try.ntmps11
    go_wp2_with fail
    refine hc.mono ?_
    rintro e W1 ⟨v, he, hb1, _⟩
    rw [← HRR.out] at he
    subst he
    clear hc
    go_wp2_with fail
    go_ret2
    exact ⟨by rw [HR.out]; rfl, hb1⟩
end Go.Proofs.Ytdjdflannedkbaa
