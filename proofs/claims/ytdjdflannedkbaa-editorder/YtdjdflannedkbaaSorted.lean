/-
  PROVED: contract of edit.Sorted: the edits sorted, those that are alike as they stood, in new memory. Conditions: the slice lies in memory that holds the edits, at most 1000000 of them.
-/
import Derived.Test.YtdjdflannedkbaaRefSort
import Derived.Test.YtdjdflannedkbaaStable
import Derived.StillTailTactics
namespace Go.Proofs.Ytdjdflannedkbaa
open Go.ChangeShapes Go.WideShapes Go.ChangeAt Go.RowKit Go.Sort
set_option linter.unusedVariables false

theorem isNaN_any (x : Int) (w : World) : Calls Try.prog 36 #[.int .i64 x] w fun e w' => e = .returned (.bool false) ∧ w' = w := by
  go_enter Try.func36, Try.ntmps36
  go_wp2
  go_ret
  exact ⟨by simp, rfl⟩

def cmpI (x y : Int) : Int := if x < y then -1 else if y < x then 1 else 0

set_option maxHeartbeats 400000 in
theorem compare_any (x y : Int) (w : World) : Calls Try.prog 27 #[.int .i64 x, .int .i64 y] w fun e w' => e = .returned (.int .i64 (cmpI x y)) ∧ w' = w := by
  by_cases h1 : x < y
  · have HV : Hid (cmpI x y = -1) := by show _ = _; unfold cmpI; rw [if_pos h1]
    generalize cmpI x y = r at HV ⊢
    go_enter Try.func27, Try.ntmps27
    go_wp2_with (go_at_call 36; refine (isNaN_any _ _).mono ?_; rintro e w' ⟨rfl, rfl⟩)
    go_ret
    exact ⟨by rw [HV.out]; rfl, rfl⟩
  · by_cases h2 : y < x
    · have HV : Hid (cmpI x y = 1) := by show _ = _; unfold cmpI; rw [if_neg h1, if_pos h2]
      generalize cmpI x y = r at HV ⊢
      go_enter Try.func27, Try.ntmps27
      go_wp2_with (go_at_call 36; refine (isNaN_any _ _).mono ?_; rintro e w' ⟨rfl, rfl⟩)
      go_ret
      exact ⟨by rw [HV.out]; rfl, rfl⟩
    · have HV : Hid (cmpI x y = 0) := by show _ = _; unfold cmpI; rw [if_neg h1, if_neg h2]
      generalize cmpI x y = r at HV ⊢
      go_enter Try.func27, Try.ntmps27
      go_wp2_with (go_at_call 36; refine (isNaN_any _ _).mono ?_; rintro e w' ⟨rfl, rfl⟩)
      go_ret
      exact ⟨by rw [HV.out]; rfl, rfl⟩

def orI (x y : Int) : Int := if x ≠ 0 then x else y

set_option maxHeartbeats 400000 in
theorem or_any (x y : Int) (b c : Nat) (w : World) (h0 : w.cell? ⟨b, 0, none⟩ = some (.int .i64 x)) (h1 : w.cell? ⟨b, 1, none⟩ = some (.int .i64 y)) :
    Calls Try.prog 26 #[.slice (some ⟨b, 0, none⟩) 2 c] w fun e w' => e = .returned (.int .i64 (orI x y)) ∧ w' = w := by
  have H : Hid (orI x y = if x ≠ 0 then x else y) := rfl
  generalize orI x y = r at H ⊢
  go_enter Try.func26, Try.ntmps26
  go_wp2_with fail
  go_loop [5, 8] (fun _ i => (i = .int .i64 0) ∨ (i = .int .i64 1 ∧ Hid (x = 0)) ∨ (i = .int .i64 2 ∧ Hid (x = 0) ∧ Hid (y = 0))) (fun _ i => 2 - (intOf i).toNat)
  case atStart => exact Or.inl rfl
  case round =>
    rcases hrel with rfl | ⟨rfl, HX⟩ | ⟨rfl, HX, HY⟩
    · by_cases hx : x = 0
      · have hq : ((x : Int) != 0) = false := by simp [hx]
        have HX := Lib.hid hx
        clear hx
        go_wp2_with fail
        go_round
        case rel => exact Or.inr (Or.inl ⟨rfl, HX⟩)
        case measure => simp [intOf]
      · have hq : ((x : Int) != 0) = true := by simp [hx]
        have HX : Hid (¬ x = 0) := hx
        clear hx
        go_wp2_with fail
        go_ret
        exact ⟨by rw [H.out, if_pos HX.out]; rfl, rfl⟩
    · by_cases hx : y = 0
      · have hq : ((y : Int) != 0) = false := by simp [hx]
        have HY := Lib.hid hx
        clear hx
        go_wp2_with fail
        go_round
        case rel => exact Or.inr (Or.inr ⟨rfl, HX, HY⟩)
        case measure => simp [intOf]
      · have hq : ((y : Int) != 0) = true := by simp [hx]
        have HY : Hid (¬ y = 0) := hx
        clear hx
        go_wp2_with fail
        go_ret
        exact ⟨by rw [H.out, if_neg (by simp [HX.out])]; rfl, rfl⟩
    · go_wp2_with fail
      go_ret
      exact ⟨by rw [H.out, if_neg (by simp [HX.out]), HY.out]; rfl, rfl⟩

/-- What the closure of edit.Sorted answers. -/
def cfE (a b : Ed) : Int := orI (cmpI a.f b.f) (cmpI a.t b.t)

theorem ltOf_cfE : ltOf cfE = ltE := by
  funext a b
  unfold ltOf cfE orI cmpI
  rw [Bool.eq_iff_iff, decide_eq_true_eq, ltE_iff]
  by_cases h1 : a.f < b.f
  · simp [h1]
  · by_cases h2 : b.f < a.f
    · simp [h1, h2]; omega
    · have : a.f = b.f := by omega
      by_cases h3 : a.t < b.t
      · simp [this, h3]
      · by_cases h4 : b.t < a.t <;> simp [this, h3, h4]

set_option maxHeartbeats 1000000 in
theorem closure_any (a b : Ed) (w : World) : Calls Try.prog 25 #[eagg a, eagg b] w (Grows (.int .i64 (cfE a b)) w) := by
  obtain ⟨a0, a1, a2⟩ := a
  obtain ⟨b0, b1, b2⟩ := b
  have HV : Hid (cfE ⟨a0, a1, a2⟩ ⟨b0, b1, b2⟩ = orI (cmpI a0 b0) (cmpI a1 b1)) := rfl
  generalize cfE ⟨a0, a1, a2⟩ ⟨b0, b1, b2⟩ = r at HV ⊢
  generalize hx : cmpI a0 b0 = x at HV
  generalize hy : cmpI a1 b1 = y at HV
  have hc1 := fun W => compare_any a0 b0 W
  have hc2 := fun W => compare_any a1 b1 W
  rw [hx] at hc1
  rw [hy] at hc2
  clear hx hy
  have mixed := Try.mixed
  go_enter Try.func25, Try.ntmps25
  go_wp2_with fail
  have f0 : ((w.alloc (.cells #[.int .i64 a0, .int .i64 a1, .string a2] 34)).alloc (.cells #[.int .i64 b0, .int .i64 b1, .string b2] 34)).cell? ⟨w.heap.size, 0, none⟩ = some (.int .i64 a0) := by simp
  have f1 : ((w.alloc (.cells #[.int .i64 a0, .int .i64 a1, .string a2] 34)).alloc (.cells #[.int .i64 b0, .int .i64 b1, .string b2] 34)).cell? ⟨w.heap.size, 1, none⟩ = some (.int .i64 a1) := by simp
  have f2 : ((w.alloc (.cells #[.int .i64 a0, .int .i64 a1, .string a2] 34)).alloc (.cells #[.int .i64 b0, .int .i64 b1, .string b2] 34)).cell? ⟨w.heap.size + 1, 0, none⟩ = some (.int .i64 b0) := by simp
  have f3 : ((w.alloc (.cells #[.int .i64 a0, .int .i64 a1, .string a2] 34)).alloc (.cells #[.int .i64 b0, .int .i64 b1, .string b2] 34)).cell? ⟨w.heap.size + 1, 1, none⟩ = some (.int .i64 b1) := by simp
  have HW : Hid (∃ os, ((w.alloc (.cells #[.int .i64 a0, .int .i64 a1, .string a2] 34)).alloc (.cells #[.int .i64 b0, .int .i64 b1, .string b2] 34)) = grow w os) := ⟨_, by rw [alloc_eq_grow, alloc_eq_grow, grow_grow]⟩
  generalize (w.alloc (.cells #[.int .i64 a0, .int .i64 a1, .string a2] 34)).alloc (.cells #[.int .i64 b0, .int .i64 b1, .string b2] 34) = W at f0 f1 f2 f3 HW ⊢
  refine wp_region_still_tail 10 mixed (by kernel_rfl) ?_
  simp only [List.take_succ_cons, List.take_zero, List.drop_succ_cons, List.drop_zero]
  show wpStill _ _ W.drew (fun a' => wpList _ _ _ _ a' W.drew) _ _
  have f0 : W.drew.cell? ⟨w.heap.size, 0, none⟩ = some (.int .i64 a0) := f0
  have f1 : W.drew.cell? ⟨w.heap.size, 1, none⟩ = some (.int .i64 a1) := f1
  have f2 : W.drew.cell? ⟨w.heap.size + 1, 0, none⟩ = some (.int .i64 b0) := f2
  have f3 : W.drew.cell? ⟨w.heap.size + 1, 1, none⟩ = some (.int .i64 b1) := f3
  have HW2 : Hid (∃ q os, W.drew = grow (w.drewN q) os) := by obtain ⟨os, h⟩ := HW.out; exact ⟨1, os, by rw [h]; rfl⟩
  clear HW
  generalize W.drew = W2 at f0 f1 f2 f3 HW2 ⊢
  still_step
  still_step
  still_step
  still_step
  still_call (hc1 _)
  still_step
  still_step
  still_step
  still_step
  still_call (hc2 _)
  refine wpStill_nil ?_
  clear hc1 hc2 f0 f1 f2 f3
  go_wp2_with fail
  have g0 : (W2.alloc (.cells #[.int .i64 x, .int .i64 y] 3)).cell? ⟨W2.heap.size, 0, none⟩ = some (.int .i64 x) := by simp
  have g1 : (W2.alloc (.cells #[.int .i64 x, .int .i64 y] 3)).cell? ⟨W2.heap.size, 1, none⟩ = some (.int .i64 y) := by simp
  refine (or_any x y _ _ _ g0 g1).mono ?_
  rintro e w' ⟨rfl, rfl⟩
  clear g0 g1
  rw [← HV.out]
  go_wp2_with fail
  go_ret
  obtain ⟨q, os, h⟩ := HW2.out
  exact ⟨rfl, q, _, by rw [h, alloc_eq_grow, grow_grow]⟩

/-- An edit's cells, for the sort's kit. -/
theorem ecell_len (e : Ed) : (ecell e).length = 3 := rfl

theorem cmpLays (blk off size : Nat) (w : World) : CmpLays Try.prog 25 #[] ecell 3 cfE blk off size w := fun _ _ _ _ x y => closure_any x y _

/-- A row that is owned is held. -/
theorem holds_own {w : World} {base g cap : Nat} {L : List Ed} (h : w.ownsRow base 34 3 (.slice (some ⟨g, 0, none⟩) L.length cap) L.length (ecells L)) : HoldsK ecell 3 w g 0 L.toArray := by
  rcases h.2 with ⟨h0, _⟩ | ⟨g', cap', cur, hv, hb, hh, hc, hm, hz, ht⟩
  · cases h0
  · injection hv with hv1 _ hv2
    injection hv1 with hv1
    injection hv1 with hv1
    subst hv1
    intro t htl
    rw [size_flatK] at htl
    have hl : t < L.length * 3 := by simpa using htl
    refine ⟨?_, by simp [World.frozen?, hh]⟩
    rw [get_flatK _ _ _ _ htl]
    have hi : t / 3 < L.length := by omega
    have e1 : w.cell? ⟨g, 0 + t, none⟩ = (ecells L)[t]? := by
      rw [← ht, List.getElem?_take_of_lt hl, Nat.zero_add, cell_of_row w g t cur 34 (0, 0) hh]
      simp
    rw [e1]
    have e2 : L.toArray[t / 3]! = L[t / 3] := by rw [getElem!_pos L.toArray (t / 3) (by simpa using hi)]; simp
    rw [e2]
    obtain ⟨r0, r1, r2⟩ := ecells_at L (t / 3) L[t / 3] (List.getElem?_eq_getElem hi)
    have hm : t % 3 = 0 ∨ t % 3 = 1 ∨ t % 3 = 2 := by omega
    rcases hm with hm | hm | hm <;> rw [hm]
    · rw [show t / 3 * 3 = t by omega] at r0; rw [r0]; rfl
    · rw [show t / 3 * 3 + 1 = t by omega] at r1; rw [r1]; rfl
    · rw [show t / 3 * 3 + 2 = t by omega] at r2; rw [r2]; rfl

/-- The kit's flat row is the list of cells. -/
theorem flat_at (L : List Ed) (j : Nat) (h : j < L.length * 3) : (ecells L)[j]? = some (flatK ecell 3 L.toArray)[j]! := by
  rw [get_flatK _ _ _ _ (by simpa using h)]
  have hi : j / 3 < L.length := by omega
  have e2 : L.toArray[j / 3]! = L[j / 3] := by rw [getElem!_pos L.toArray (j / 3) (by simpa using hi)]; simp
  rw [e2]
  obtain ⟨r0, r1, r2⟩ := ecells_at L (j / 3) L[j / 3] (List.getElem?_eq_getElem hi)
  have hm : j % 3 = 0 ∨ j % 3 = 1 ∨ j % 3 = 2 := by omega
  rcases hm with hm | hm | hm <;> rw [hm]
  · rw [show j / 3 * 3 = j by omega] at r0; rw [r0]; rfl
  · rw [show j / 3 * 3 + 1 = j by omega] at r1; rw [r1]; rfl
  · rw [show j / 3 * 3 + 2 = j by omega] at r2; rw [r2]; rfl

/-- Behind the sort the same slice owns the sorted edits. -/
theorem own_sorted {w : World} {base g cap n : Nat} {os : Array Obj} {L L' : List Ed} (hl : L'.length = L.length) (h : w.ownsRow base 34 3 (.slice (some ⟨g, 0, none⟩) L.length cap) L.length (ecells L)) :
    (sortWorldK ecell 3 w g 0 n L'.toArray os).ownsRow base 34 3 (.slice (some ⟨g, 0, none⟩) L.length cap) L.length (ecells L') := by
  rcases h.2 with ⟨h0, _⟩ | ⟨g', cap', cur, hv, hb, hh, hc, hm, hz, ht⟩
  · cases h0
  · injection hv with hv1 _ hv2
    injection hv1 with hv1
    injection hv1 with hv1
    subst hv1 hv2
    have hg : g < w.heap.size := (Array.getElem?_eq_some_iff.1 hh).1
    refine ⟨by rw [ecells_len, hl], Or.inr ⟨g, cap, putCells id 0 (flatK ecell 3 L'.toArray) cur, rfl, hb, ?_, hc, hm, by simp [putCells, hz], ?_⟩⟩
    · unfold sortWorldK putRowK
      rw [heap_grow_old _ _ (by simpa [putRow, mapBlock, Sort.ahead] using hg)]
      simp [putRow, mapBlock, Sort.ahead, Array.getElem?_modify, hh, onCells]
    · apply List.ext_getElem?
      intro j
      by_cases hj : j < L.length * 3
      · rw [List.getElem?_take_of_lt hj, Array.getElem?_toList, flat_at L' j (by omega)]
        have h1 : j < cur.size := by rw [hz]; have := Nat.mul_le_mul_right 3 hc; omega
        have h2 : j < L'.length * 3 := by omega
        simp [putCells, h1, h2]
      · rw [List.getElem?_take_eq_none (by omega), List.getElem?_eq_none (by rw [ecells_len]; omega)]

theorem below_sorted {w w1 : World} {B g n : Nat} {os : Array Obj} (d : Array Ed) (h : RowKit.Below B w w1) (hB : B ≤ w.heap.size) (hg : B ≤ g) : RowKit.Below B w (sortWorldK ecell 3 w1 g 0 n d os) := by
  have hz := h.size
  refine h.grown (row := some g) ⟨rfl, rfl, rfl, by simp [sortWorldK, putRowK, putRow, mapBlock, Sort.ahead], fun k hk hne => ?_⟩ (by omega) (fun k hk => by cases hk; exact hg)
  unfold sortWorldK putRowK
  rw [heap_grow_old _ _ (by simpa [putRow, mapBlock, Sort.ahead] using hk)]
  have : g ≠ k := fun e => hne (by rw [e])
  simp [putRow, mapBlock, Sort.ahead, Array.getElem?_modify, this]

/-- The sort's call, upon a row of the caller's own. -/
theorem sort_own {w w1 : World} {v : Value} {L : List Ed} (hl : L.length ≤ 1000000) (hown : w1.ownsRow w.heap.size 34 3 v L.length (ecells L)) (hB : RowKit.Below w.heap.size w w1) :
    Calls Try.prog 24 #[v, .func (.func 25) #[] #[]] w1 fun e w' => e = .returned (.tuple #[]) ∧ (w'.ownsRow w.heap.size 34 3 v (srtE L).length (ecells (srtE L)) ∧ RowKit.Below w.heap.size w w') := by
  rcases hown.2 with ⟨rfl, h0⟩ | ⟨g, cap, cur, rfl, hb, hh, hc, hm, hz, ht⟩
  · have e : L = [] := List.eq_nil_of_length_eq_zero h0
    subst e
    exact (sortStable_none srt none 0 _ w1).mono fun e w' ⟨he, hw⟩ => ⟨he, by subst hw; exact ⟨hown, hB⟩⟩
  · have hH := holds_own hown
    have hg : g < w1.heap.size := (Array.getElem?_eq_some_iff.1 hh).1
    have R : RowK ecell 3 w1 g 0 L.toArray := ⟨ecell_len, fun x v hv => by simp [ecell] at hv; rcases hv with rfl | rfl | rfl <;> rfl, hH, hg⟩
    have eg : ∀ args w, (callFunc 25 args).run Try.prog w = .ok (.enter 25 args) w := enters_of Try.func25 (by kernel_rfl) rfl
    have hcall := sortStable_any srt R cfE (by rw [ltOf_cfE]; exact swoE) 25 #[] eg (cmpLays g 0 _ w1) cap L.length (by simp) hl
    refine hcall.mono ?_
    rintro e w' ⟨rfl, d', ⟨ST, SO⟩, n, os, rfl⟩
    rw [ltOf_cfE] at ST SO
    have hd := srt_of_stb ST SO
    have hd' : d' = (srtE L).toArray := by rw [← hd]
    subst hd'
    refine ⟨rfl, ?_, below_sorted _ hB (Nat.le_refl _) hb⟩
    have := own_sorted (n := n) (os := os) (srt_len L) hown
    rw [srt_len]
    exact this

set_option maxHeartbeats 1000000 in
theorem sorted_any (A : Option Addr) (c : Nat) (hA : A = none → c = 0) (es : List Ed) (hl : es.length ≤ 1000000) (B : Nat) (w : World) (h : Rd w B A es) :
    Calls Try.prog 15 #[.slice A es.length c] w (OwnE w (srtE es)) := by
  obtain ⟨i0, hi, hz0, hz1, hz2⟩ := info_parts Try.info34
  have h := h.here
  rcases A with _ | ad
  · have he : es = [] := by
      match es, h with
      | [], _ => rfl
      | e :: r, h => obtain ⟨b, o, e, _⟩ := h 0 e rfl; cases e
    subst he
    obtain rfl : c = 0 := hA rfl
    clear hA
    have hc := sort_own (w := w) (L := []) (by simp) (World.ownsRow_nil w w.heap.size 34 3) (RowKit.Below.refl _ _)
    go_enter Try.func15, Try.ntmps15
    go_wp2_with fail
    refine hc.mono ?_
    rintro e w1 ⟨rfl, HA'⟩
    have HA := Lib.hid HA'
    clear HA' hc
    go_wp2_with fail
    go_ret
    exact ⟨_, rfl, HA.out.1, HA.out.2⟩
  · have HC := Lib.hid h.cells
    clear h hA
    go_enter Try.func15, Try.ntmps15
    go_wp2_with (at_builtin; refine wpList_append_own _ rfl _ _ 22 rfl w.heap.size 34 i0 (.agg #[.int .i64 0, .int .i64 0, .string ⟨#[]⟩]) 3 32 Try.underlying22 hi hz0 hz1 hz2 rfl (by decide) _ _ _ rfl (World.ownsRow_nil w w.heap.size 34 3) ad es.length c (ecells es) rfl (ecells_len es) HC.out (ecells_one es) (by unfold maxLen; omega) (by omega) (by simp) ?_)
    intro v' w2 hown' hgrow _
    have hB : RowKit.Below w.heap.size w w2 := (RowKit.Below.refl _ _).grown hgrow (by simp) (fun k hk => by simp [Value.ownBlock] at hk)
    have hc := sort_own (w := w) (v := v') hl (by first | exact hown' | simpa using hown') hB
    clear hown' hgrow HC hB
    go_wp2_with fail
    refine hc.mono ?_
    rintro e w1 ⟨rfl, HA'⟩
    have HA := Lib.hid HA'
    clear HA' hc
    go_wp2_with fail
    go_ret
    exact ⟨_, rfl, HA.out.1, HA.out.2⟩
end Go.Proofs.Ytdjdflannedkbaa
