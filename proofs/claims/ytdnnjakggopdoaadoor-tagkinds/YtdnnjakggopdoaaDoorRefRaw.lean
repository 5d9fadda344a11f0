/-
  PROVED: contracts of the document's Begins, upTo and Raw: Raw answers 'rawL', as tag.Raw does. Conditions: the text has at most 1000000 bytes.
-/
import Derived.Test.YtdnnjakggopdoaaDoorRefOpen
import Derived.Test.YtdnnjakggopdoaaDoorRaw
namespace Go.Proofs.YtdnnjakggopdoaaDoor
open Go.ChangeShapes Go.WideShapes Go.ChangeAt Go.RowKit
set_option linter.unusedVariables false
set_option linter.unusedSimpArgs false

theorem pre_is (l p : List UInt8) : Lib.hasPrefix l p = (l.take p.length == p) := by
  unfold Lib.hasPrefix
  rw [Bool.eq_iff_iff, List.isPrefixOf_iff_prefix, beq_iff_eq, List.prefix_iff_eq_take]
  exact eq_comm
set_option maxHeartbeats 2000000 in
theorem begins_any (s p : ByteArray) (w : World) : Calls Tryd.prog 20 #[.string s, .string p] w fun e w' => e = .returned (.bool (Lib.hasPrefix (lst s) (lst p))) ∧ w' = w := by
  have HP : Hid (Lib.hasPrefix (lst s) (lst p) = ((lst s).take p.size == lst p)) := show _ = _ from by rw [pre_is, lst_size]
  by_cases h : p.size ≤ s.size
  · have HE : Hid (((s.extract 0 p.size).toList == p.toList) = ((lst s).take p.size == lst p)) := show _ = _ from by rw [Lib.toList_data, Lib.toList_data, show (s.extract 0 p.size).data.toList = ((lst s).take p.size).drop 0 from lst_cut s 0 p.size, List.drop_zero]
    go_enter Tryd.func20, Tryd.ntmps20
    go_wp2_with fail
    go_ret
    exact ⟨ret_bool (by rw [HP.out]; exact HE.out), rfl⟩
  · have HE : Hid (((lst s).take p.size == lst p) = false) := show _ = _ from by
      rw [beq_eq_false_iff_ne]
      intro e
      have := congrArg List.length e
      rw [List.length_take, lst_size, lst_size] at this
      omega
    go_enter Tryd.func20, Tryd.ntmps20
    go_wp2_with fail
    go_ret
    exact ⟨ret_bool (by rw [HP.out, HE.out]), rfl⟩

theorem occ_drop (l q : List UInt8) (a i : Nat) : Lib.occAt (l.drop a) q i = Lib.occAt l q (a + i) := by unfold Lib.occAt; rw [List.drop_drop]
theorem size_hit (l q : List UInt8) (a j : Nat) (h0 : a ≤ j) (hj : j ≤ l.length) (h1 : ∀ i, a ≤ i → i < j → Lib.occAt l q i = false) (h2 : Lib.occAt l q j = true) : sizeL l a q = j + q.length := by
  have h : Lib.index (l.drop a) q = ((j - a : Nat) : Int) := Lib.index_first (by rw [List.length_drop]; omega) (by rw [occ_drop, Nat.add_sub_cancel' h0]; exact h2) (fun i hi => by rw [occ_drop]; exact h1 _ (by omega) (by omega))
  unfold sizeL
  rw [h, if_neg (by omega), Int.toNat_natCast]
  omega
theorem size_no (l q : List UInt8) (a : Nat) (h1 : ∀ i, a ≤ i → Lib.occAt l q i = false) : sizeL l a q = 0 := by
  have h : Lib.index (l.drop a) q = -1 := Lib.index_none (fun i hi => by rw [occ_drop]; exact h1 _ (by omega))
  unfold sizeL
  rw [h]
  rfl
theorem occ_cut (s q : ByteArray) (j : Nat) (h : j + q.size ≤ s.size) : ((s.extract j (j + q.size)).toList == q.toList) = Lib.occAt (lst s) (lst q) j := by
  rw [Lib.occAt_iff_take _ _ _ (by rw [lst_size, lst_size]; exact h), Lib.toList_data, Lib.toList_data, show (s.extract j (j + q.size)).data.toList = ((lst s).take (j + q.size)).drop j from lst_cut s j (j + q.size), lst_size, List.take_drop]
theorem occ_far (s q : ByteArray) (hq : 0 < q.size) (j : Nat) (h : ¬ j + q.size ≤ s.size) : Lib.occAt (lst s) (lst q) j = false := by
  cases ho : Lib.occAt (lst s) (lst q) j with
  | false => rfl
  | true =>
    rcases Lib.occAt_room ho with h1 | h1
    · rw [lst_size, lst_size] at h1; omega
    · have := congrArg List.length h1; rw [lst_size, List.length_nil] at this; omega
/-- What the loop of the document's upTo goes by. -/
def URel (s q : ByteArray) (a : Nat) (v : Value) (w wr : World) : Prop := ∃ j : Nat, a ≤ j ∧ j ≤ s.size ∧ v = .int .i64 j ∧ (∀ i, a ≤ i → i < j → Lib.occAt (lst s) (lst q) i = false) ∧ wr = w
set_option maxHeartbeats 4000000 in
theorem upToR_any (s q : ByteArray) (hs : s.size ≤ 1000000) (hq : 0 < q.size) (hq2 : q.size ≤ 1000) (a : Nat) (ha : a ≤ s.size) (w : World) : Calls Tryd.prog 21 #[.string s, .int .i64 a, .string q] w fun e w' => e = .returned (.int .i64 (sizeL (lst s) a (lst q))) ∧ w' = w := by
  go_enter Tryd.func21, Tryd.ntmps21
  go_wp2_with fail
  go_loopw [7] (fun v wr => URel s q a v w wr) (fun v _ => s.size - (intOf v).toNat)
  case atStart => exact ⟨a, Nat.le_refl _, ha, rfl, fun i h1 h2 => by omega, rfl⟩
  case round =>
    obtain ⟨j, hja, hj, rfl, hno, rfl⟩ := hrel
    have HO := Lib.hid hno
    clear hno
    by_cases hr : j + q.size ≤ s.size
    · have HC := Lib.hid (occ_cut s q j hr)
      cases ho : Lib.occAt (lst s) (lst q) j with
      | true =>
        have HV : Hid (sizeL (lst s) a (lst q) = j + q.size) := show _ = _ from by rw [size_hit _ _ a j hja (by rw [lst_size]; exact hj) HO.out ho, lst_size]
        rw [ho] at HC
        have hc := HC.out
        clear ho HC
        go_wp2_with fail
        go_ret
        exact ⟨ret_int (by rw [HV.out]; simp), rfl⟩
      | false =>
        have HN : Hid (∀ i, a ≤ i → i < j + 1 → Lib.occAt (lst s) (lst q) i = false) := fun i h1 h2 => by
          by_cases e : i = j
          · rw [e]; exact ho
          · exact HO.out i h1 (by omega)
        rw [ho] at HC
        have hc := HC.out
        clear ho HC
        go_wp2_with fail
        go_roundw
        case rel => exact ⟨j + 1, by omega, by omega, by go_num, HN.out, rfl⟩
        case measure => simp [intOf]; omega
    · have HV : Hid (sizeL (lst s) a (lst q) = 0) := size_no _ _ a (fun i h1 => by
        by_cases e : i < j
        · exact HO.out i h1 e
        · exact occ_far s q hq i (by omega))
      go_wp2_with fail
      go_ret
      exact ⟨ret_int (by rw [HV.out]; rfl), rfl⟩
/-! Raw -/
theorem index_next (q m : List UInt8) (x : UInt8) (ho : q.isPrefixOf (x :: m) = false) : Lib.index (x :: m) q = if Lib.index m q == -1 then -1 else Lib.index m q + 1 := by
  rw [Lib.index, ho]
  simp only [Bool.false_eq_true, ↓reduceIte]
theorem size_skip (l q : List UInt8) (a : Nat) (h : a < l.length) (ho : Lib.occAt l q a = false) : sizeL l a q = sizeL l (a + 1) q := by
  unfold Lib.occAt at ho
  rw [List.drop_eq_getElem_cons h] at ho
  unfold sizeL
  rw [List.drop_eq_getElem_cons h, index_next _ _ _ ho]
  have hge := Lib.index_ge (l.drop (a + 1)) q
  generalize Lib.index (l.drop (a + 1)) q = i at *
  by_cases h1 : i = -1
  · subst h1; rfl
  · have h1' : (i == -1) = false := by simpa using h1
    rw [h1']
    simp only [Bool.false_eq_true, ↓reduceIte]
    rw [if_neg (by omega), if_neg (by omega)]
    omega
theorem up_pos (l : List UInt8) (k : Nat) (x : UInt8) (h : l[k]? = some x) : decide (0 < upL isL (l.drop k) 0) = isL x := by
  rw [upL_zero]
  cases hl : isL x with
  | true =>
    have h1 := upL_step isL l k x h hl
    have h2 := upL_ge isL l (k + 1)
    rw [decide_eq_true_iff]
    omega
  | false =>
    rw [upL_stop isL l k (fun y hy => by rw [h] at hy; cases hy; exact hl)]
    simp
theorem up_none (l : List UInt8) (k : Nat) (h : l.length ≤ k) : decide (0 < upL isL (l.drop k) 0) = false := by
  rw [upL_zero, upL_stop isL l k (fun y hy => by rw [List.getElem?_eq_none h] at hy; cases hy)]
  simp
theorem pre_get {l p : List UInt8} (h : Lib.hasPrefix l p = true) (i : Nat) (x : UInt8) (hx : p[i]? = some x) : l[i]? = some x := by
  obtain ⟨m, rfl⟩ := List.isPrefixOf_iff_prefix.1 h
  have hi := (List.getElem?_eq_some_iff.1 hx).1
  rw [List.getElem?_append_left hi]
  exact hx
theorem isO_three (l : List UInt8) (h : isO l 3 = true) : isO l 2 = false := by
  rw [isO_pre l 3 (by decide)] at h
  have h2 : l[2]? = some 91 := pre_get h 2 91 rfl
  rw [isO_two, up_pos l 2 91 h2]
  rw [show isL 91 = false from rfl, Bool.and_false]
theorem beg_lit (s p : ByteArray) (q : List UInt8) (hq : lst p = q) (w : World) : Calls Tryd.prog 20 #[.string s, .string p] w fun e w' => e = .returned (.bool (Lib.hasPrefix (lst s) q)) ∧ w' = w := by subst hq; exact begins_any s p w
theorem up_lit (s p : ByteArray) (q : List UInt8) (hq : lst p = q) (hp : 0 < p.size ∧ p.size ≤ 1000) (hs : s.size ≤ 1000000) (a : Nat) (ha : a ≤ s.size) (w : World) : Calls Tryd.prog 21 #[.string s, .int .i64 a, .string p] w fun e w' => e = .returned (.int .i64 (sizeL (lst s) a q)) ∧ w' = w := by subst hq; exact upToR_any s p hs hp.1 hp.2 a ha w

set_option maxHeartbeats 16000000 in
theorem refRaw_any (s : ByteArray) (hs : s.size ≤ 1000000) (w : World) : Calls Tryd.prog 10 #[.string s] w fun e w' => e = .returned (.int .i64 (rawL (lst s))) ∧ Below w.heap.size w w' := by
  have P0 := Lib.hid (beg_lit s { data := #[60, 33, 45, 45, 62] } [60, 33, 45, 45, 62] rfl)
  have P1 := Lib.hid (beg_lit s { data := #[60, 33, 45, 45, 45, 62] } [60, 33, 45, 45, 45, 62] rfl)
  have P2 := Lib.hid (beg_lit s { data := #[60, 33, 45, 45] } [60, 33, 45, 45] rfl)
  have P3 := Lib.hid (beg_lit s { data := #[60, 63] } [60, 63] rfl)
  have P4 := Lib.hid (beg_lit s { data := #[60, 33, 91, 67, 68, 65, 84, 65, 91] } [60, 33, 91, 67, 68, 65, 84, 65, 91] rfl)
  have P5 := Lib.hid (beg_lit s { data := #[60, 33] } [60, 33] rfl)
  have HV : Hid (rawL (lst s) = if Lib.hasPrefix (lst s) [60, 33, 45, 45, 62] then 5 else if Lib.hasPrefix (lst s) [60, 33, 45, 45, 45, 62] then 6
    else if isO (lst s) 0 then sizeL (lst s) 4 [45, 45, 62] else if isO (lst s) 1 then sizeL (lst s) 2 [63, 62] else if isO (lst s) 2 then sizeL (lst s) 2 [62] else if isO (lst s) 3 then sizeL (lst s) 9 [93, 93, 62] else openL (lst s)) := rfl
  have i0 : Lib.hasPrefix (lst s) [60, 33, 45, 45] = isO (lst s) 0 := (isO_pre (lst s) 0 (by decide)).symm
  have i1 : Lib.hasPrefix (lst s) [60, 63] = isO (lst s) 1 := (isO_pre (lst s) 1 (by decide)).symm
  have i3 : Lib.hasPrefix (lst s) [60, 33, 91, 67, 68, 65, 84, 65, 91] = isO (lst s) 3 := (isO_pre (lst s) 3 (by decide)).symm
  rw [i0] at P2
  rw [i1] at P3
  rw [i3] at P4
  clear i0 i1 i3
  have l0 := isO_le (lst s) 0
  have l1 := isO_le (lst s) 1
  have l3 := isO_le (lst s) 3
  rw [lst_size] at l0 l1 l3
  have l23 := isO_three (lst s)
  cases hc0 : Lib.hasPrefix (lst s) [60, 33, 45, 45, 62] with
  | true =>
    rw [hc0] at P0 HV
    simp only [↓reduceIte, Bool.false_eq_true] at HV
    clear l0 l1 l3 l23 hc0 P1 P2 P3 P4 P5
    go_enter Tryd.func10, Tryd.ntmps10
    go_wp2_with fail
    refine (P0.out _).mono ?_
    rintro e w1 ⟨rfl, rfl⟩
    go_wp2_with fail
    go_ret
    exact ⟨ret_int (by rw [HV.out]; rfl), Below.refl _ _⟩
  | false =>
    rw [hc0] at P0 HV
    simp only [↓reduceIte, Bool.false_eq_true] at HV
    clear hc0
    cases hc1 : Lib.hasPrefix (lst s) [60, 33, 45, 45, 45, 62] with
    | true =>
      rw [hc1] at P1 HV
      simp only [↓reduceIte, Bool.false_eq_true] at HV
      clear l0 l1 l3 l23 hc1 P2 P3 P4 P5
      go_enter Tryd.func10, Tryd.ntmps10
      go_wp2_with fail
      refine (P0.out _).mono ?_
      rintro e w1 ⟨rfl, rfl⟩
      go_wp2_with fail
      refine (P1.out _).mono ?_
      rintro e w1 ⟨rfl, rfl⟩
      go_wp2_with fail
      go_ret
      exact ⟨ret_int (by rw [HV.out]; rfl), Below.refl _ _⟩
    | false =>
      rw [hc1] at P1 HV
      simp only [↓reduceIte, Bool.false_eq_true] at HV
      clear hc1
      cases h0 : isO (lst s) 0 with
      | true =>
        rw [h0] at P2 HV
        simp only [↓reduceIte, Bool.false_eq_true] at HV
        have U := Lib.hid (up_lit s { data := #[45, 45, 62] } [45, 45, 62] rfl ⟨by decide, by decide⟩ hs 4 (l0 h0))
        clear l0 l1 l3 l23 h0 P3 P4 P5
        go_enter Tryd.func10, Tryd.ntmps10
        go_wp2_with fail
        refine (P0.out _).mono ?_
        rintro e w1 ⟨rfl, rfl⟩
        go_wp2_with fail
        refine (P1.out _).mono ?_
        rintro e w1 ⟨rfl, rfl⟩
        go_wp2_with fail
        refine (P2.out _).mono ?_
        rintro e w1 ⟨rfl, rfl⟩
        go_wp2_with fail
        refine (U.out _).mono ?_
        rintro e w1 ⟨rfl, rfl⟩
        go_wp2_with fail
        go_ret
        exact ⟨ret_int (by rw [HV.out]), Below.refl _ _⟩
      | false =>
        rw [h0] at P2 HV
        simp only [↓reduceIte, Bool.false_eq_true] at HV
        clear h0
        cases h1 : isO (lst s) 1 with
        | true =>
          rw [h1] at P3 HV
          simp only [↓reduceIte, Bool.false_eq_true] at HV
          have U := Lib.hid (up_lit s { data := #[63, 62] } [63, 62] rfl ⟨by decide, by decide⟩ hs 2 (l1 h1))
          clear l0 l1 l3 l23 h1 P4 P5
          go_enter Tryd.func10, Tryd.ntmps10
          go_wp2_with fail
          refine (P0.out _).mono ?_
          rintro e w1 ⟨rfl, rfl⟩
          go_wp2_with fail
          refine (P1.out _).mono ?_
          rintro e w1 ⟨rfl, rfl⟩
          go_wp2_with fail
          refine (P2.out _).mono ?_
          rintro e w1 ⟨rfl, rfl⟩
          go_wp2_with fail
          refine (P3.out _).mono ?_
          rintro e w1 ⟨rfl, rfl⟩
          go_wp2_with fail
          refine (U.out _).mono ?_
          rintro e w1 ⟨rfl, rfl⟩
          go_wp2_with fail
          go_ret
          exact ⟨ret_int (by rw [HV.out]), Below.refl _ _⟩
        | false =>
          rw [h1] at P3 HV
          simp only [↓reduceIte, Bool.false_eq_true] at HV
          clear h1
          cases h3 : isO (lst s) 3 with
          | true =>
            rw [h3] at P4 HV
            simp only [↓reduceIte, Bool.false_eq_true] at HV
            rw [l23 h3] at HV
            simp only [↓reduceIte, Bool.false_eq_true] at HV
            have U := Lib.hid (up_lit s { data := #[93, 93, 62] } [93, 93, 62] rfl ⟨by decide, by decide⟩ hs 9 (l3 h3))
            clear l0 l1 l3 l23 h3 P5
            go_enter Tryd.func10, Tryd.ntmps10
            go_wp2_with fail
            refine (P0.out _).mono ?_
            rintro e w1 ⟨rfl, rfl⟩
            go_wp2_with fail
            refine (P1.out _).mono ?_
            rintro e w1 ⟨rfl, rfl⟩
            go_wp2_with fail
            refine (P2.out _).mono ?_
            rintro e w1 ⟨rfl, rfl⟩
            go_wp2_with fail
            refine (P3.out _).mono ?_
            rintro e w1 ⟨rfl, rfl⟩
            go_wp2_with fail
            refine (P4.out _).mono ?_
            rintro e w1 ⟨rfl, rfl⟩
            go_wp2_with fail
            refine (U.out _).mono ?_
            rintro e w1 ⟨rfl, rfl⟩
            go_wp2_with fail
            go_ret
            exact ⟨ret_int (by rw [HV.out]), Below.refl _ _⟩
          | false =>
            rw [h3] at P4 HV
            simp only [↓reduceIte, Bool.false_eq_true] at HV
            clear l0 l1 l3 l23 h3
            have hsw : isO (lst s) 2 = (Lib.hasPrefix (lst s) [60, 33] && decide (0 < upL isL ((lst s).drop 2) 0)) := isO_two _
            by_cases h2 : 2 < s.size
            · have hx := Lib.data_getElem? s 2 h2
              rw [up_pos (lst s) 2 _ hx] at hsw
              have C := Lib.hid (refLetter_any (s[2]'h2))
              cases hp : Lib.hasPrefix (lst s) [60, 33] with
              | true =>
                rw [hp, Bool.true_and] at hsw
                rw [hp] at P5
                cases hl : isL (s[2]'h2) with
                | true =>
                  rw [hl] at hsw C
                  rw [hsw] at HV
                  have hsk : sizeL (lst s) 2 [62] = sizeL (lst s) 3 [62] := size_skip _ _ 2 (by rw [lst_size]; exact h2) (by
                    cases ho : Lib.occAt (lst s) [62] 2 with
                    | false => rfl
                    | true =>
                      have := Lib.occAt_head (c := 62) (t := []) rfl ho
                      rw [hx] at this
                      rw [Option.some.inj this] at hl
                      cases hl)
                  rw [hsk] at HV
                  simp only [↓reduceIte] at HV
                  have U := Lib.hid (up_lit s { data := #[62] } [62] rfl ⟨by decide, by decide⟩ hs 3 h2)
                  clear hx hp hl hsw hsk
                  go_enter Tryd.func10, Tryd.ntmps10
                  go_wp2_with fail
                  refine (P0.out _).mono ?_
                  rintro e w1 ⟨rfl, rfl⟩
                  go_wp2_with fail
                  refine (P1.out _).mono ?_
                  rintro e w1 ⟨rfl, rfl⟩
                  go_wp2_with fail
                  refine (P2.out _).mono ?_
                  rintro e w1 ⟨rfl, rfl⟩
                  go_wp2_with fail
                  refine (P3.out _).mono ?_
                  rintro e w1 ⟨rfl, rfl⟩
                  go_wp2_with fail
                  refine (P4.out _).mono ?_
                  rintro e w1 ⟨rfl, rfl⟩
                  go_wp2_with fail
                  refine (P5.out _).mono ?_
                  rintro e w1 ⟨rfl, rfl⟩
                  go_wp2_with fail
                  refine (C.out _).mono ?_
                  rintro e w1 ⟨rfl, rfl⟩
                  go_wp2_with fail
                  refine (U.out _).mono ?_
                  rintro e w1 ⟨rfl, rfl⟩
                  go_wp2_with fail
                  go_ret
                  exact ⟨ret_int (by rw [HV.out]), Below.refl _ _⟩
                | false =>
                  rw [hl] at hsw C
                  rw [hsw] at HV
                  simp only [↓reduceIte, Bool.false_eq_true] at HV
                  clear hx hp hl hsw
                  have HO := Lib.hid (refOpen_any s hs)
                  go_enter Tryd.func10, Tryd.ntmps10
                  go_wp2_with fail
                  refine (P0.out _).mono ?_
                  rintro e w1 ⟨rfl, rfl⟩
                  go_wp2_with fail
                  refine (P1.out _).mono ?_
                  rintro e w1 ⟨rfl, rfl⟩
                  go_wp2_with fail
                  refine (P2.out _).mono ?_
                  rintro e w1 ⟨rfl, rfl⟩
                  go_wp2_with fail
                  refine (P3.out _).mono ?_
                  rintro e w1 ⟨rfl, rfl⟩
                  go_wp2_with fail
                  refine (P4.out _).mono ?_
                  rintro e w1 ⟨rfl, rfl⟩
                  go_wp2_with fail
                  refine (P5.out _).mono ?_
                  rintro e w1 ⟨rfl, rfl⟩
                  go_wp2_with fail
                  refine (C.out _).mono ?_
                  rintro e w1 ⟨rfl, rfl⟩
                  go_wp2_with fail
                  refine (HO.out _).mono ?_
                  rintro e w2 ⟨rfl, hb⟩
                  have HB := Lib.hid hb
                  clear hb
                  go_wp2_with fail
                  go_ret
                  exact ⟨ret_int (by rw [HV.out]), HB.out⟩
              | false =>
                rw [hp, Bool.false_and] at hsw
                rw [hp] at P5
                rw [hsw] at HV
                simp only [↓reduceIte, Bool.false_eq_true] at HV
                clear hx hp hsw C
                have HO := Lib.hid (refOpen_any s hs)
                go_enter Tryd.func10, Tryd.ntmps10
                go_wp2_with fail
                refine (P0.out _).mono ?_
                rintro e w1 ⟨rfl, rfl⟩
                go_wp2_with fail
                refine (P1.out _).mono ?_
                rintro e w1 ⟨rfl, rfl⟩
                go_wp2_with fail
                refine (P2.out _).mono ?_
                rintro e w1 ⟨rfl, rfl⟩
                go_wp2_with fail
                refine (P3.out _).mono ?_
                rintro e w1 ⟨rfl, rfl⟩
                go_wp2_with fail
                refine (P4.out _).mono ?_
                rintro e w1 ⟨rfl, rfl⟩
                go_wp2_with fail
                refine (P5.out _).mono ?_
                rintro e w1 ⟨rfl, rfl⟩
                go_wp2_with fail
                refine (HO.out _).mono ?_
                rintro e w2 ⟨rfl, hb⟩
                have HB := Lib.hid hb
                clear hb
                go_wp2_with fail
                go_ret
                exact ⟨ret_int (by rw [HV.out]), HB.out⟩
            · rw [up_none (lst s) 2 (by rw [lst_size]; omega), Bool.and_false] at hsw
              rw [hsw] at HV
              simp only [↓reduceIte, Bool.false_eq_true] at HV
              clear hsw
              have HO := Lib.hid (refOpen_any s hs)
              go_enter Tryd.func10, Tryd.ntmps10
              go_wp2_with fail
              refine (P0.out _).mono ?_
              rintro e w1 ⟨rfl, rfl⟩
              go_wp2_with fail
              refine (P1.out _).mono ?_
              rintro e w1 ⟨rfl, rfl⟩
              go_wp2_with fail
              refine (P2.out _).mono ?_
              rintro e w1 ⟨rfl, rfl⟩
              go_wp2_with fail
              refine (P3.out _).mono ?_
              rintro e w1 ⟨rfl, rfl⟩
              go_wp2_with fail
              refine (P4.out _).mono ?_
              rintro e w1 ⟨rfl, rfl⟩
              go_wp2_with fail
              refine (HO.out _).mono ?_
              rintro e w2 ⟨rfl, hb⟩
              have HB := Lib.hid hb
              clear hb
              go_wp2_with fail
              go_ret
              exact ⟨ret_int (by rw [HV.out]), HB.out⟩
end Go.Proofs.YtdnnjakggopdoaaDoor
