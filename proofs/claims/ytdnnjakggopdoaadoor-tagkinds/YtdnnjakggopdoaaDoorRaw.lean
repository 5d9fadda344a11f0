/-
  PROVED: contracts of tag.bounds' size and of tag.Raw: how many bytes of HTML a text begins with. Conditions: the tables of the package hold what their initialisers lay; the text has at most 1000000 bytes.
-/
import Derived.Test.YtdnnjakggopdoaaDoorOther
import Derived.Test.YtdnnjakggopdoaaDoorOpen
namespace Go.Proofs.YtdnnjakggopdoaaDoor
open Go.ChangeShapes Go.WideShapes Go.ChangeAt Go.RowKit
set_option linter.unusedVariables false
set_option linter.unusedSimpArgs false

/-- Where a search finds something, it stands there, and nowhere ahead. -/
theorem index_at (q : List UInt8) : ∀ l : List UInt8, 0 ≤ Lib.index l q → Lib.occAt l q (Lib.index l q).toNat = true ∧ (Lib.index l q).toNat + q.length ≤ l.length ∧ ∀ j, j < (Lib.index l q).toNat → Lib.occAt l q j = false
  | [], h => by
    unfold Lib.index at h ⊢
    cases q with
    | nil => exact ⟨rfl, Nat.le_refl _, fun j hj => by simp at hj⟩
    | cons a q => simp at h
  | b :: l, h => by
    have ih := index_at q l
    unfold Lib.index at h ⊢
    by_cases hp : q.isPrefixOf (b :: l) = true
    · rw [if_pos hp]
      have hl := (List.isPrefixOf_iff_prefix.1 hp).length_le
      exact ⟨by unfold Lib.occAt; simpa using hp, by simpa using hl, fun j hj => by simp at hj⟩
    · rw [if_neg hp] at h ⊢
      by_cases h1 : Lib.index l q = -1
      · rw [h1] at h
        simp at h
      · have h1' : (Lib.index l q == -1) = false := by simpa using h1
        rw [h1'] at h ⊢
        simp only [Bool.false_eq_true, ↓reduceIte] at h ⊢
        have hge := Lib.index_ge l q
        obtain ⟨i1, i2, i3⟩ := ih (by omega)
        have e : (Lib.index l q + 1).toNat = (Lib.index l q).toNat + 1 := by omega
        rw [e]
        refine ⟨by unfold Lib.occAt at i1 ⊢; simpa using i1, by rw [List.length_cons]; omega, fun j hj => ?_⟩
        cases j with
        | zero => unfold Lib.occAt; rw [List.drop_zero]; exact Bool.eq_false_iff.2 hp
        | succ j =>
          have := i3 j (by omega)
          unfold Lib.occAt at this ⊢
          simpa using this
/-- Behind the first end behind the first n bytes. -/
def sizeL (l : List UInt8) (n : Nat) (q : List UInt8) : Nat := if Lib.index (l.drop n) q < 0 then 0 else n + (Lib.index (l.drop n) q).toNat + q.length
def rawL (l : List UInt8) : Nat :=
  if Lib.hasPrefix l [60, 33, 45, 45, 62] then 5 else if Lib.hasPrefix l [60, 33, 45, 45, 45, 62] then 6
  else if isO l 0 then sizeL l 4 [45, 45, 62] else if isO l 1 then sizeL l 2 [63, 62] else if isO l 2 then sizeL l 2 [62] else if isO l 3 then sizeL l 9 [93, 93, 62] else openL l

theorem cell_al {w : World} {o : Obj} {v : Value} (hz : 6 ≤ w.heap.size) (h : w.cell? ⟨3, 0, none⟩ = some v) : (w.alloc o).cell? ⟨3, 0, none⟩ = some v := by
  rw [World.cell?_of_block (w := w)]
  · exact h
  · exact Below.heap_alloc _ _ _ (by show 3 < _; omega)
set_option maxHeartbeats 4000000 in
theorem size_any (b q s : ByteArray) (lt : Bool) (hs : s.size ≤ 1000000) (hb : b.size ≤ s.size) (w : World) (hG : Glob w) :
    Calls Tryd.prog 19 #[.agg #[.string b, .bool lt, .string q], .string s] w fun e w' => e = .returned (.int .i64 (sizeL (lst s) b.size (lst q))) ∧ Below w.heap.size w w' := by
  obtain ⟨m, hm⟩ := hG.m
  have HM := Lib.hid (cell_al (o := .cells #[.string b, .bool lt, .string q] 32) hG.size hm)
  have HI : Hid (∀ W, W.cell? ⟨3, 0, none⟩ = some (.int .i64 m) → Calls Tryd.prog 44 #[.string (s.extract b.size s.size), .string q] W fun e w' => e = .returned (.int .i64 (Lib.index ((lst s).drop b.size) (lst q))) ∧ w' = W) := fun W hW => by
    have h := Tryd.index (s.extract b.size s.size) q m W (by rw [← lst_size, lst_from, List.length_drop, lst_size]; omega) hW
    rw [show (s.extract b.size s.size).data.toList = (lst s).drop b.size from lst_from s b.size] at h
    exact h
  have HB := Lib.hid ((Below.refl w.heap.size w).alloc (Nat.le_refl _) (.cells #[.string b, .bool lt, .string q] 32))
  unfold sizeL
  have hge := Lib.index_ge ((lst s).drop b.size) (lst q)
  by_cases h : Lib.index ((lst s).drop b.size) (lst q) < 0
  · rw [if_pos h]
    generalize Lib.index ((lst s).drop b.size) (lst q) = i at *
    clear hG hm hge
    go_enter Tryd.func19, Tryd.ntmps19
    go_wp2_with fail
    go_quiet (first | (go_at_call 44; refine Calls.quiet_of_same (HI.out _ ?_); exact HM.out))
    go_wp2_with fail
    go_ret
    exact ⟨rfl, below_drewN HB.out _⟩
  · rw [if_neg h]
    have hl := (index_at (lst q) ((lst s).drop b.size) (by omega)).2.1
    rw [List.length_drop, lst_size, lst_size] at hl
    obtain ⟨n, hn⟩ : ∃ n : Nat, Lib.index ((lst s).drop b.size) (lst q) = (n : Int) := ⟨_, (Int.toNat_of_nonneg (by omega)).symm⟩
    rw [hn, Int.toNat_natCast] at hl
    rw [hn] at HI ⊢
    rw [Int.toNat_natCast, lst_size]
    clear hG hm hge h hn
    go_enter Tryd.func19, Tryd.ntmps19
    go_wp2_with fail
    go_quiet (first | (go_at_call 44; refine Calls.quiet_of_same (HI.out _ ?_); exact HM.out))
    go_wp2_with fail
    go_ret
    exact ⟨ret_int (by omega), below_drewN HB.out _⟩
/-- What the loop of tag.Raw goes by. -/
def YRel (l : List UInt8) (w : World) (i : Value) (wr : World) : Prop := wr = w ∧
  (i = .int .i64 0 ∨ (i = .int .i64 1 ∧ Lib.hasPrefix l [60, 33, 45, 45, 62] = false) ∨ (i = .int .i64 2 ∧ Lib.hasPrefix l [60, 33, 45, 45, 62] = false ∧ Lib.hasPrefix l [60, 33, 45, 45, 45, 62] = false))
theorem isO_le (l : List UInt8) (i : Nat) (h : isO l i = true) : (obeg i).length ≤ l.length := by
  unfold isO at h
  rw [Bool.and_eq_true] at h
  exact (List.isPrefixOf_iff_prefix.1 h.1).length_le

set_option maxHeartbeats 16000000 in
theorem raw_any (s : ByteArray) (hs : s.size ≤ 1000000) (w : World) (hG : Glob w) :
    Calls Tryd.prog 9 #[.string s] w fun e w' => e = .returned (.int .i64 (rawL (lst s))) ∧ Below w.heap.size w w' := by
  have HG := Lib.hid hG
  have c0 := hG.c0; have c1 := hG.c1
  have HP0 : Hid (∀ W, Calls Tryd.prog 17 #[.string s, .string { data := #[60, 33, 45, 45, 62] }] W fun e w' => e = .returned (.bool (Lib.hasPrefix (lst s) [60, 33, 45, 45, 62])) ∧ w' = W) := Tryd.hasPrefix s { data := #[60, 33, 45, 45, 62] }
  have HP1 : Hid (∀ W, Calls Tryd.prog 17 #[.string s, .string { data := #[60, 33, 45, 45, 45, 62] }] W fun e w' => e = .returned (.bool (Lib.hasPrefix (lst s) [60, 33, 45, 45, 45, 62])) ∧ w' = W) := Tryd.hasPrefix s { data := #[60, 33, 45, 45, 45, 62] }
  have HO := Lib.hid (other_any s hs w hG)
  clear hG
  go_enter Tryd.func9, Tryd.ntmps9
  go_wp2_with fail
  clear c0 c1
  go_loopw [7] (fun i wr => YRel (lst s) w i wr) (fun i _ => 2 - (intOf i).toNat)
  case atStart => exact ⟨rfl, .inl rfl⟩
  case round =>
    obtain ⟨rfl, hrel⟩ := hrel
    rcases hrel with rfl | ⟨rfl, h0⟩ | ⟨rfl, h0, h1⟩
    · have k := idx_c0
      cases h0 : Lib.hasPrefix (lst s) [60, 33, 45, 45, 62] with
      | true =>
        rw [h0] at HP0
        replace h0 := Lib.hid h0
        go_wp2_with fail
        refine (HP0.out _).mono ?_
        rintro e w1 ⟨rfl, rfl⟩
        go_wp2_with fail
        go_ret
        exact ⟨ret_int (by unfold rawL; rw [h0.out]; rfl), Below.refl _ _⟩
      | false =>
        rw [h0] at HP0
        replace h0 := Lib.hid h0
        go_wp2_with fail
        refine (HP0.out _).mono ?_
        rintro e w1 ⟨rfl, rfl⟩
        go_wp2_with fail
        go_roundw
        case rel => exact ⟨rfl, .inr (.inl ⟨rfl, h0.out⟩)⟩
        case measure => simp [intOf]
    · have k := idx_c1
      replace h0 := Lib.hid h0
      cases h1 : Lib.hasPrefix (lst s) [60, 33, 45, 45, 45, 62] with
      | true =>
        rw [h1] at HP1
        replace h1 := Lib.hid h1
        go_wp2_with fail
        refine (HP1.out _).mono ?_
        rintro e w1 ⟨rfl, rfl⟩
        go_wp2_with fail
        go_ret
        exact ⟨ret_int (by unfold rawL; rw [h0.out, h1.out]; rfl), Below.refl _ _⟩
      | false =>
        rw [h1] at HP1
        replace h1 := Lib.hid h1
        go_wp2_with fail
        refine (HP1.out _).mono ?_
        rintro e w1 ⟨rfl, rfl⟩
        go_wp2_with fail
        go_roundw
        case rel => exact ⟨rfl, .inr (.inr ⟨rfl, h0.out, h1.out⟩)⟩
        case measure => simp [intOf]
    · have HV : Hid (rawL (lst s) = if isO (lst s) 0 then sizeL (lst s) 4 [45, 45, 62] else if isO (lst s) 1 then sizeL (lst s) 2 [63, 62] else if isO (lst s) 2 then sizeL (lst s) 2 [62] else if isO (lst s) 3 then sizeL (lst s) 9 [93, 93, 62] else openL (lst s)) := show _ = _ from by
        unfold rawL
        rw [h0, h1]
        rfl
      clear h0 h1
      have HGU := Lib.hid (fun w' hb => HG.out.under (w' := w') hb)
      unfold otherL at HO
      cases hi : isO (lst s) 0 with
      | true =>
        rw [hi] at HO HV
        simp only [↓reduceIte, Bool.false_eq_true] at HO HV
        have hbs := isO_le (lst s) 0 hi
        rw [lst_size] at hbs
        have HZ := Lib.hid (fun W (hW : Glob W) => size_any ({ data := #[60, 33, 45, 45] }) ({ data := #[45, 45, 62] }) s false hs hbs W hW)
        clear hi hbs
        go_wp2_with fail
        refine HO.out.mono ?_
        rintro e w1 ⟨rfl, hb1⟩
        have B1 := Lib.hid hb1
        have G1 := Lib.hid (HGU.out _ hb1)
        have p0 := G1.out.o0; have p1 := G1.out.o1; have p2 := G1.out.o2
        clear hb1
        go_wp2_with fail
        refine (HZ.out _ G1.out).mono ?_
        rintro e w2 ⟨rfl, hb2⟩
        have B2 := Lib.hid (chain (Nat.le_refl _) B1.out hb2)
        clear hb2
        go_wp2_with fail
        go_ret
        exact ⟨ret_int (by rw [HV.out]), B2.out⟩
      | false =>
        rw [hi] at HO HV
        simp only [↓reduceIte, Bool.false_eq_true] at HO HV
        clear hi
        cases hi : isO (lst s) 1 with
        | true =>
          rw [hi] at HO HV
          simp only [↓reduceIte, Bool.false_eq_true] at HO HV
          have hbs := isO_le (lst s) 1 hi
          rw [lst_size] at hbs
          have HZ := Lib.hid (fun W (hW : Glob W) => size_any ({ data := #[60, 63] }) ({ data := #[63, 62] }) s false hs hbs W hW)
          clear hi hbs
          go_wp2_with fail
          refine HO.out.mono ?_
          rintro e w1 ⟨rfl, hb1⟩
          have B1 := Lib.hid hb1
          have G1 := Lib.hid (HGU.out _ hb1)
          have p0 := G1.out.o3; have p1 := G1.out.o4; have p2 := G1.out.o5
          clear hb1
          go_wp2_with fail
          refine (HZ.out _ G1.out).mono ?_
          rintro e w2 ⟨rfl, hb2⟩
          have B2 := Lib.hid (chain (Nat.le_refl _) B1.out hb2)
          clear hb2
          go_wp2_with fail
          go_ret
          exact ⟨ret_int (by rw [HV.out]), B2.out⟩
        | false =>
          rw [hi] at HO HV
          simp only [↓reduceIte, Bool.false_eq_true] at HO HV
          clear hi
          cases hi : isO (lst s) 2 with
          | true =>
            rw [hi] at HO HV
            simp only [↓reduceIte, Bool.false_eq_true] at HO HV
            have hbs := isO_le (lst s) 2 hi
            rw [lst_size] at hbs
            have HZ := Lib.hid (fun W (hW : Glob W) => size_any ({ data := #[60, 33] }) ({ data := #[62] }) s true hs hbs W hW)
            clear hi hbs
            go_wp2_with fail
            refine HO.out.mono ?_
            rintro e w1 ⟨rfl, hb1⟩
            have B1 := Lib.hid hb1
            have G1 := Lib.hid (HGU.out _ hb1)
            have p0 := G1.out.o6; have p1 := G1.out.o7; have p2 := G1.out.o8
            clear hb1
            go_wp2_with fail
            refine (HZ.out _ G1.out).mono ?_
            rintro e w2 ⟨rfl, hb2⟩
            have B2 := Lib.hid (chain (Nat.le_refl _) B1.out hb2)
            clear hb2
            go_wp2_with fail
            go_ret
            exact ⟨ret_int (by rw [HV.out]), B2.out⟩
          | false =>
            rw [hi] at HO HV
            simp only [↓reduceIte, Bool.false_eq_true] at HO HV
            clear hi
            cases hi : isO (lst s) 3 with
            | true =>
              rw [hi] at HO HV
              simp only [↓reduceIte, Bool.false_eq_true] at HO HV
              have hbs := isO_le (lst s) 3 hi
              rw [lst_size] at hbs
              have HZ := Lib.hid (fun W (hW : Glob W) => size_any ({ data := #[60, 33, 91, 67, 68, 65, 84, 65, 91] }) ({ data := #[93, 93, 62] }) s false hs hbs W hW)
              clear hi hbs
              go_wp2_with fail
              refine HO.out.mono ?_
              rintro e w1 ⟨rfl, hb1⟩
              have B1 := Lib.hid hb1
              have G1 := Lib.hid (HGU.out _ hb1)
              have p0 := G1.out.o9; have p1 := G1.out.o10; have p2 := G1.out.o11
              clear hb1
              go_wp2_with fail
              refine (HZ.out _ G1.out).mono ?_
              rintro e w2 ⟨rfl, hb2⟩
              have B2 := Lib.hid (chain (Nat.le_refl _) B1.out hb2)
              clear hb2
              go_wp2_with fail
              go_ret
              exact ⟨ret_int (by rw [HV.out]), B2.out⟩
            | false =>
              rw [hi] at HO HV
              simp only [↓reduceIte, Bool.false_eq_true] at HO HV
              clear hi
              have HZ := Lib.hid (fun W => open_any s hs W)
              go_wp2_with fail
              refine HO.out.mono ?_
              rintro e w1 ⟨rfl, hb1⟩
              have B1 := Lib.hid hb1
              clear hb1
              go_wp2_with fail
              refine (HZ.out _).mono ?_
              rintro e w2 ⟨rfl, hb2⟩
              have B2 := Lib.hid (chain (Nat.le_refl _) B1.out hb2)
              clear hb2
              go_wp2_with fail
              go_ret
              exact ⟨ret_int (by rw [HV.out]), B2.out⟩
end Go.Proofs.YtdnnjakggopdoaaDoor
