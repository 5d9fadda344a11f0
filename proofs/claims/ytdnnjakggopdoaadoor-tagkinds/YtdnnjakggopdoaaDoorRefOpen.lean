/-
  PROVED: contract of the document's Open: it answers 'openL', as tag.Open does. Conditions: the text has at most 1000000 bytes.
-/
import Derived.Test.YtdnnjakggopdoaaDoorRefAtt
import Derived.Test.YtdnnjakggopdoaaDoorScan3
namespace Go.Proofs.YtdnnjakggopdoaaDoor
open Go.ChangeShapes Go.WideShapes Go.ChangeAt Go.RowKit
set_option linter.unusedVariables false
set_option linter.unusedSimpArgs false

theorem nameR_ge (l : List UInt8) (k : Nat) : k ≤ nameR l k := by
  unfold nameR
  split
  · exact Nat.le_refl _
  · exact upL_ge _ _ _
theorem nameR_le (l : List UInt8) (k : Nat) (h : k ≤ l.length) : nameR l k ≤ l.length := by
  unfold nameR
  split
  · exact h
  · exact (upL_bd _ _ _ h).2
theorem name_none (l : List UInt8) (k : Nat) (h : nameR l k = k) : nameL l k = none := by
  unfold nameR at h
  unfold nameL
  split at h
  · rename_i h0
    rw [if_pos h0]
  · rename_i h0
    exfalso
    have h1 := upL_again isL isN L_N l k
    have h2 := upL_ge isN l (upL isL l k)
    have h3 := upL_ge isL l k
    omega
theorem name_some (l : List UInt8) (k : Nat) (h : ¬ nameR l k = k) : nameL l k = some (nameR l k) := by
  unfold nameR at h ⊢
  unfold nameL
  split at h
  · exact absurd rfl h
  · rename_i h0
    rw [if_neg h0, if_neg h0, upL_again isL isN L_N]
theorem open_no (l : List UInt8) (h : ¬ l[0]? = some 60) : openL l = 0 := by unfold openL tagO; rw [if_neg h]; rfl
theorem open_short (l : List UInt8) (h : l.length < 2) : openL l = 0 := by
  unfold openL tagO
  split
  · rw [if_neg (by rw [List.getElem?_eq_none (by omega)]; simp)]
    unfold openO nameL
    rw [upL_stop _ _ _ (fun x hx => by rw [List.getElem?_eq_none (by omega)] at hx; cases hx)]
    rfl
  · rfl
theorem open_close (l : List UInt8) (h : l[0]? = some 60) (h2 : l[1]? = some 47) : openL l = (closeO l 2).getD 0 := by unfold openL tagO; rw [if_pos h, if_pos h2]
theorem open_open (l : List UInt8) (h : l[0]? = some 60) (h2 : ¬ l[1]? = some 47) : openL l = (openO l 1).getD 0 := by unfold openL tagO; rw [if_pos h, if_neg h2]
theorem close_none (l : List UInt8) (h : nameR l 2 = 2) : closeO l 2 = none := by unfold closeO; rw [name_none l 2 h]
theorem close_some (l : List UInt8) (h : ¬ nameR l 2 = 2) : closeO l 2 = needL l 62 (upL isS l (nameR l 2)) := by unfold closeO; rw [name_some l 2 h]
theorem openO_none (l : List UInt8) (h : nameR l 1 = 1) : openO l 1 = none := by unfold openO; rw [name_none l 1 h]
theorem openO_some (l : List UInt8) (h : ¬ nameR l 1 = 1) : openO l 1 = behO l (attsL l (nameR l 1)) := by unfold openO; rw [name_some l 1 h]; rfl
theorem need_yes {l : List UInt8} {c : UInt8} {k : Nat} (h : l[k]? = some c) : (needL l c k).getD 0 = k + 1 := by unfold needL; rw [if_pos h]; rfl
theorem need_no {l : List UInt8} {c : UInt8} {k : Nat} (h : ¬ l[k]? = some c) : (needL l c k).getD 0 = 0 := by unfold needL; rw [if_neg h]; rfl
theorem none_at {s : ByteArray} {k : Nat} (c : UInt8) (h : ¬ k < s.size) : ¬ (lst s)[k]? = some c := by rw [List.getElem?_eq_none (by rw [lst_size]; omega)]; simp
/-- What the loop of the document's Open goes by. -/
def PRel (s : ByteArray) (a : Nat) (v : Value) (w wr : World) : Prop := ∃ j : Nat, j ≤ s.size ∧ v = .int .i64 j ∧ attsL (lst s) j = attsL (lst s) a ∧ Below w.heap.size w wr
theorem tail_is (l : List UInt8) (j : Nat) : (behO l (some j)).getD 0 = (needL l 62 (past l 47 (upL isS l j))).getD 0 := rfl

set_option maxHeartbeats 32000000 in
set_option maxRecDepth 100000 in
theorem refOpen_any (s : ByteArray) (hs : s.size ≤ 1000000) (w : World) : Calls Tryd.prog 12 #[.string s] w fun e w' => e = .returned (.int .i64 (openL (lst s))) ∧ Below w.heap.size w w' := by
  by_cases h2 : s.size < 2
  · have HV := Lib.hid (open_short (lst s) (by rw [lst_size]; exact h2))
    go_enter Tryd.func12, Tryd.ntmps12
    go_wp2_with fail
    go_ret
    exact ⟨ret_int (by rw [HV.out]; rfl), Below.refl _ _⟩
  · have h0s : 0 < s.size := by omega
    have h1s : 1 < s.size := by omega
    have hx0 := Lib.data_getElem? s 0 h0s
    have hx1 := Lib.data_getElem? s 1 h1s
    have b2 : decide (s.size < 2) = false := by simp; omega
    have b2' : decide ((s.size : Int) < 2) = false := by simp; omega
    by_cases h60 : (s[0]'h0s) = 60
    · have q0 : (((s[0]'h0s).toNat : Int) != 60) = false := by rw [h60]; rfl
      have hl0 : (lst s)[0]? = some 60 := by rw [hx0, h60]
      by_cases h47 : (s[1]'h1s) = 47
      · have q1 : (((s[1]'h1s).toNat : Int) == 47) = true := by rw [h47]; rfl
        have HV := Lib.hid (open_close (lst s) hl0 (by rw [hx1, h47]))
        have HN := Lib.hid (refName_any s hs 2 (by omega))
        have hn1 := nameR_ge (lst s) 2
        have hn2 := nameR_le (lst s) 2 (by rw [lst_size]; omega)
        rw [lst_size] at hn2
        have HB := Lib.hid (refBlanks_any s hs (nameR (lst s) 2) hn2)
        clear hx0 hx1 h60 hl0 h47
        by_cases hn : nameR (lst s) 2 = 2
        · have HV2 : Hid (openL (lst s) = 0) := show _ = _ from by rw [HV.out, close_none _ hn]; rfl
          rw [hn] at HN HB
          clear hn hn1 hn2 HV
          generalize upL isS (lst s) 2 = b at *
          go_enter Tryd.func12, Tryd.ntmps12
          go_wp2_with fail
          refine (HN.out _).mono ?_
          rintro e w1 ⟨rfl, rfl⟩
          go_wp2_with fail
          refine (HB.out _).mono ?_
          rintro e w1 ⟨rfl, rfl⟩
          go_wp2_with fail
          go_ret
          exact ⟨ret_int (by rw [HV2.out]; rfl), Below.refl _ _⟩
        · rw [close_some _ hn] at HV
          have hb := upL_bd isS (lst s) (nameR (lst s) 2) (by rw [lst_size]; exact hn2)
          rw [lst_size] at hb
          have qn : decide ((2 : Int) < (nameR (lst s) 2 : Int)) = true := by simp; omega
          have hn3 : 2 < nameR (lst s) 2 := by omega
          clear hn
          generalize nameR (lst s) 2 = a at *
          generalize upL isS (lst s) a = b at *
          by_cases hbs : b < s.size
          · have hxb := Lib.data_getElem? s b hbs
            by_cases h62 : (s[b]'hbs) = 62
            · have HV2 : Hid (openL (lst s) = b + 1) := show _ = _ from by rw [HV.out, need_yes (by rw [hxb, h62])]
              have qb : (((s[b]'hbs).toNat : Int) == 62) = true := by rw [h62]; rfl
              clear hxb h62 HV
              go_enter Tryd.func12, Tryd.ntmps12
              go_wp2_with fail
              refine (HN.out _).mono ?_
              rintro e w1 ⟨rfl, rfl⟩
              go_wp2_with fail
              refine (HB.out _).mono ?_
              rintro e w1 ⟨rfl, rfl⟩
              go_wp2_with fail
              go_ret
              exact ⟨ret_int (by rw [HV2.out]; rfl), Below.refl _ _⟩
            · have HV2 : Hid (openL (lst s) = 0) := show _ = _ from by rw [HV.out, need_no (by rw [hxb]; exact fun h => h62 (Option.some.inj h))]
              have qb : (((s[b]'hbs).toNat : Int) == 62) = false := u8_not _ 62 (by omega) h62
              clear hxb h62 HV
              go_enter Tryd.func12, Tryd.ntmps12
              go_wp2_with fail
              refine (HN.out _).mono ?_
              rintro e w1 ⟨rfl, rfl⟩
              go_wp2_with fail
              refine (HB.out _).mono ?_
              rintro e w1 ⟨rfl, rfl⟩
              go_wp2_with fail
              go_ret
              exact ⟨ret_int (by rw [HV2.out]; rfl), Below.refl _ _⟩
          · have HV2 : Hid (openL (lst s) = 0) := show _ = _ from by rw [HV.out, need_no (none_at 62 hbs)]
            clear HV
            go_enter Tryd.func12, Tryd.ntmps12
            go_wp2_with fail
            refine (HN.out _).mono ?_
            rintro e w1 ⟨rfl, rfl⟩
            go_wp2_with fail
            refine (HB.out _).mono ?_
            rintro e w1 ⟨rfl, rfl⟩
            go_wp2_with fail
            go_ret
            exact ⟨ret_int (by rw [HV2.out]; rfl), Below.refl _ _⟩
      · have q1 : (((s[1]'h1s).toNat : Int) == 47) = false := u8_not _ 47 (by omega) h47
        have HV := Lib.hid (open_open (lst s) hl0 (by rw [hx1]; exact fun h => h47 (Option.some.inj h)))
        have HN := Lib.hid (refName_any s hs 1 (by omega))
        have hn1 := nameR_ge (lst s) 1
        have hn2 := nameR_le (lst s) 1 (by rw [lst_size]; omega)
        rw [lst_size] at hn2
        clear hx0 hx1 h60 hl0 h47
        by_cases hn : nameR (lst s) 1 = 1
        · have HV2 : Hid (openL (lst s) = 0) := show _ = _ from by rw [HV.out, openO_none _ hn]; rfl
          rw [hn] at HN
          clear hn hn1 hn2 HV
          go_enter Tryd.func12, Tryd.ntmps12
          go_wp2_with fail
          refine (HN.out _).mono ?_
          rintro e w1 ⟨rfl, rfl⟩
          go_wp2_with fail
          go_ret
          exact ⟨ret_int (by rw [HV2.out]; rfl), Below.refl _ _⟩
        · rw [openO_some _ hn] at HV
          have qn : ((nameR (lst s) 1 : Int) == 1) = false := by simp; omega
          have HAT := Lib.hid (fun j hj W => refAtt_any s hs j hj W)
          clear hn
          generalize nameR (lst s) 1 = a at *
          go_enter Tryd.func12, Tryd.ntmps12
          go_wp2_with fail
          refine (HN.out _).mono ?_
          rintro e w1 ⟨rfl, rfl⟩
          clear HN
          go_wp2_with fail
          go_loopw [5] (fun v wr => PRel s a v w1 wr) (fun v _ => s.size - (intOf v).toNat)
          case atStart => exact ⟨a, hn2, rfl, rfl, Below.refl _ _⟩
          case round =>
            obtain ⟨j, hj, rfl, hl, hB⟩ := hrel
            have HL := Lib.hid hl
            have B1 := Lib.hid hB
            have HC := Lib.hid (HAT.out j hj)
            clear hl hB HAT
            cases hat : isAtt (lst s) j with
            | true =>
              cases hae : attE (lst s) j with
              | none =>
                have HV2 : Hid (openL (lst s) = 0) := show _ = _ from by rw [HV.out, ← HL.out, atts_bad _ _ (by rw [lst_size]; exact hj) hat hae]; rfl
                have hr : attR (lst s) j = -1 := by unfold attR; rw [hat, hae]; rfl
                rw [hr] at HC
                clear hat hae hr
                go_wp2_with fail
                refine (HC.out _).mono ?_
                rintro e w2 ⟨rfl, h2⟩
                have B3 := Lib.hid (chain (Nat.le_refl _) B1.out h2)
                clear h2
                go_wp2_with fail
                go_ret
                exact ⟨ret_int (by rw [HV2.out]; rfl), B3.out⟩
              | some i =>
                have hbi := att_bd (lst s) j (by rw [lst_size]; exact hj) hat i hae
                rw [lst_size] at hbi
                have HE := Lib.hid ((atts_step (lst s) j (by rw [lst_size]; exact hj) hat i hae).symm.trans HL.out)
                have hr : attR (lst s) j = (i : Int) := by unfold attR; rw [hat, hae]; rfl
                rw [hr] at HC
                have qi : ((i : Int) == (j : Int)) = false := by simp; omega
                clear hat hae hr
                go_wp2_with fail
                refine (HC.out _).mono ?_
                rintro e w2 ⟨rfl, h2⟩
                have B3 := Lib.hid (chain (Nat.le_refl _) B1.out h2)
                clear h2
                go_wp2_with fail
                go_roundw
                case rel => exact ⟨i, hbi.2, rfl, HE.out, B3.out⟩
                case measure => simp [intOf]; omega
            | false =>
              have hr : attR (lst s) j = (j : Int) := attR_no hat
              rw [hr] at HC
              have HT : Hid (openL (lst s) = (needL (lst s) 62 (past (lst s) 47 (upL isS (lst s) j))).getD 0) := show _ = _ from by rw [HV.out, ← HL.out, atts_stop _ _ (by rw [lst_size]; exact hj) hat, tail_is]
              have HB := Lib.hid (refBlanks_any s hs j hj)
              have hb := upL_bd isS (lst s) j (by rw [lst_size]; exact hj)
              rw [lst_size] at hb
              clear hat hr HV
              generalize upL isS (lst s) j = b at *
              by_cases hbs : b < s.size
              · have hxb := Lib.data_getElem? s b hbs
                by_cases h47 : (s[b]'hbs) = 47
                · have qb : (((s[b]'hbs).toNat : Int) == 47) = true := by rw [h47]; rfl
                  have hp : past (lst s) 47 b = b + 1 := past_yes (by rw [hxb, h47])
                  rw [hp] at HT
                  clear hxb h47 hp
                  by_cases hcs : b + 1 < s.size
                  · have hxc := Lib.data_getElem? s (b + 1) hcs
                    by_cases h62 : (s[b + 1]'hcs) = 62
                    · have HV2 : Hid (openL (lst s) = b + 1 + 1) := show _ = _ from by rw [HT.out, need_yes (by rw [hxc, h62])]
                      have qc : (((s[b + 1]'hcs).toNat : Int) == 62) = true := by rw [h62]; rfl
                      clear hxc h62 HT
                      go_wp2_with fail
                      refine (HC.out _).mono ?_
                      rintro e w2 ⟨rfl, h2⟩
                      have B3 := Lib.hid (chain (Nat.le_refl _) B1.out h2)
                      clear h2
                      go_wp2_with fail
                      refine (HB.out _).mono ?_
                      rintro e w3 ⟨rfl, rfl⟩
                      go_wp2_with fail
                      go_ret
                      exact ⟨ret_int (by rw [HV2.out]; rfl), B3.out⟩
                    · have HV2 : Hid (openL (lst s) = 0) := show _ = _ from by rw [HT.out, need_no (by rw [hxc]; exact fun h => h62 (Option.some.inj h))]
                      have qc : (((s[b + 1]'hcs).toNat : Int) == 62) = false := u8_not _ 62 (by omega) h62
                      clear hxc h62 HT
                      go_wp2_with fail
                      refine (HC.out _).mono ?_
                      rintro e w2 ⟨rfl, h2⟩
                      have B3 := Lib.hid (chain (Nat.le_refl _) B1.out h2)
                      clear h2
                      go_wp2_with fail
                      refine (HB.out _).mono ?_
                      rintro e w3 ⟨rfl, rfl⟩
                      go_wp2_with fail
                      go_ret
                      exact ⟨ret_int (by rw [HV2.out]; rfl), B3.out⟩
                  · have HV2 : Hid (openL (lst s) = 0) := show _ = _ from by rw [HT.out, need_no (none_at 62 hcs)]
                    clear HT
                    go_wp2_with fail
                    refine (HC.out _).mono ?_
                    rintro e w2 ⟨rfl, h2⟩
                    have B3 := Lib.hid (chain (Nat.le_refl _) B1.out h2)
                    clear h2
                    go_wp2_with fail
                    refine (HB.out _).mono ?_
                    rintro e w3 ⟨rfl, rfl⟩
                    go_wp2_with fail
                    go_ret
                    exact ⟨ret_int (by rw [HV2.out]; rfl), B3.out⟩
                · have qb : (((s[b]'hbs).toNat : Int) == 47) = false := u8_not _ 47 (by omega) h47
                  have hp : past (lst s) 47 b = b := past_no (by rw [hxb]; exact fun h => h47 (Option.some.inj h))
                  rw [hp] at HT
                  clear h47 hp
                  by_cases h62 : (s[b]'hbs) = 62
                  · have HV2 : Hid (openL (lst s) = b + 1) := show _ = _ from by rw [HT.out, need_yes (by rw [hxb, h62])]
                    have qc : (((s[b]'hbs).toNat : Int) == 62) = true := by rw [h62]; rfl
                    clear hxb h62 HT
                    go_wp2_with fail
                    refine (HC.out _).mono ?_
                    rintro e w2 ⟨rfl, h2⟩
                    have B3 := Lib.hid (chain (Nat.le_refl _) B1.out h2)
                    clear h2
                    go_wp2_with fail
                    refine (HB.out _).mono ?_
                    rintro e w3 ⟨rfl, rfl⟩
                    go_wp2_with fail
                    go_ret
                    exact ⟨ret_int (by rw [HV2.out]; rfl), B3.out⟩
                  · have HV2 : Hid (openL (lst s) = 0) := show _ = _ from by rw [HT.out, need_no (by rw [hxb]; exact fun h => h62 (Option.some.inj h))]
                    have qc : (((s[b]'hbs).toNat : Int) == 62) = false := u8_not _ 62 (by omega) h62
                    clear hxb h62 HT
                    go_wp2_with fail
                    refine (HC.out _).mono ?_
                    rintro e w2 ⟨rfl, h2⟩
                    have B3 := Lib.hid (chain (Nat.le_refl _) B1.out h2)
                    clear h2
                    go_wp2_with fail
                    refine (HB.out _).mono ?_
                    rintro e w3 ⟨rfl, rfl⟩
                    go_wp2_with fail
                    go_ret
                    exact ⟨ret_int (by rw [HV2.out]; rfl), B3.out⟩
              · have hp : past (lst s) 47 b = b := past_no (none_at 47 hbs)
                rw [hp] at HT
                have HV2 : Hid (openL (lst s) = 0) := show _ = _ from by rw [HT.out, need_no (none_at 62 hbs)]
                clear HT hp
                go_wp2_with fail
                refine (HC.out _).mono ?_
                rintro e w2 ⟨rfl, h2⟩
                have B3 := Lib.hid (chain (Nat.le_refl _) B1.out h2)
                clear h2
                go_wp2_with fail
                refine (HB.out _).mono ?_
                rintro e w3 ⟨rfl, rfl⟩
                go_wp2_with fail
                go_ret
                exact ⟨ret_int (by rw [HV2.out]; rfl), B3.out⟩
    · have q0 : (((s[0]'h0s).toNat : Int) != 60) = true := u8_ne _ 60 (by omega) h60
      have HV := Lib.hid (open_no (lst s) (by rw [hx0]; exact fun h => h60 (Option.some.inj h)))
      clear hx0 hx1 h60
      go_enter Tryd.func12, Tryd.ntmps12
      go_wp2_with fail
      go_ret
      exact ⟨ret_int (by rw [HV.out]; rfl), Below.refl _ _⟩
end Go.Proofs.YtdnnjakggopdoaaDoor
