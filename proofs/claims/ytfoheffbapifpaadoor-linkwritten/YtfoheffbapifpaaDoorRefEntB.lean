/-
  PROVED: contract of the document's own Entity: the entity's text at a place ('entAt'). Conditions: the text has at most 2000000 bytes.
-/
import Derived.Test.YtfoheffbapifpaaDoorRefEntA
namespace Go.Proofs.YtfoheffbapifpaaDoor
open Go.ChangeShapes Go.WideShapes Go.ChangeAt Go.RowKit Go.Sort Go.Maps
set_option linter.unusedVariables false

/-- What the loop over a name goes by. -/
def KRel2 (s : ByteArray) (p : Nat) (i : Value) (w wr : World) : Prop :=
  ∃ j : Nat, j ≤ 8 ∧ p + 1 + j ≤ s.size ∧ i = .int .i64 ((p + 1 + j : Nat) : Int) ∧ cntA 8 ((lst s).drop (p + 1)) = j + cntA (8 - j) ((lst s).drop (p + 1 + j)) ∧ wr = w
/-- A name, told. -/
theorem name_fin (s : ByteArray) (p k : Nat) (hp : p < s.size) (hp1 : p + 1 < s.size) (h38 : (s[p]'hp) = 38) (h35 : (s[p + 1]'hp1) ≠ 35) (hk : cntA 8 ((lst s).drop (p + 1)) = k) :
    entAt ((lst s).drop p) = match look entL (((lst s).drop (p + 1)).take k) with
      | some v => if (lst s)[p + 1 + k]? = some 59 then some (v, k + 2) else none
      | none => none := by
  rw [lst_at s p hp, h38, ent_name _ (by rw [lst_at s (p + 1) hp1]; exact fun h => h35 (Option.some.inj h)) k hk, drop_get]
  generalize look entL _ = L
  cases L <;> rfl
theorem name_cut (s : ByteArray) (a k : Nat) : lst (s.extract a (a + k)) = ((lst s).drop a).take k := by
  rw [lst_cut, List.drop_take, Nat.add_sub_cancel_left]
set_option maxHeartbeats 8000000 in
theorem refEnt_name (s : ByteArray) (p : Nat) (h3 : p + 3 ≤ s.size) (hs : s.size ≤ 2000000) (h38 : (s[p]'(by omega)) = 38) (h35 : (s[p + 1]'(by omega)) ≠ 35) (w : World) : Calls Tryd.prog 59 #[.string s, .int .i64 p] w (EntPost (entAt ((lst s).drop p)) w) := by
  have hp : p < s.size := by omega
  have hp1 : p + 1 < s.size := by omega
  have c0 : (((s[p]'hp).toNat : Int) != 38) = false := by rw [h38]; decide
  have c1 : (((s[p + 1]'hp1).toNat : Int) == 35) = false := by have := ne_u8 _ 35 (by decide) h35; rw [beq_eq_false_iff_ne]; omega
  have HF := Lib.hid (fun k hk => name_fin s p k hp hp1 h38 h35 hk)
  generalize entAt ((lst s).drop p) = o at *
  clear h38 h35
  go_enter Tryd.func59, Tryd.ntmps59
  go_wp2_with fail
  go_loopw [11] (fun i wr => KRel2 s p i w wr) (fun i _ => p + 9 - (intOf i).toNat)
  case atStart => exact ⟨0, by omega, by omega, by simp, by simp, rfl⟩
  case round =>
    obtain ⟨j, hj, hjs, rfl, hcnt, rfl⟩ := hrel
    obtain ⟨k, hk⟩ : ∃ k, k = p + 1 + j := ⟨_, rfl⟩
    rw [← hk] at hcnt hjs ⊢
    have hk1 : p + 1 ≤ k := by omega
    have hk9 : k ≤ p + 9 := by omega
    have HKJ := Lib.hid hk
    have HC := Lib.hid hcnt
    clear hk hcnt
    by_cases hlt : k < s.size
    · by_cases hj8 : j < 8
      · have hjk0 : ((k : Int) - p ≤ 8) := by have := HKJ.out; omega
        have hc := HC.out
        rw [lst_at s k hlt, show 8 - j = (8 - (j + 1)) + 1 by omega, cntA] at hc
        have HLt := Lib.hid (fun W => refLetter_any (s[k]'hlt) W)
        have HDg := Lib.hid (fun W => refDigit_any (s[k]'hlt) W)
        by_cases hl : ltr (s[k]'hlt) = true
        · rw [hl] at hc HLt
          have HV : Hid (cntA 8 ((lst s).drop (p + 1)) = j + 1 + cntA (8 - (j + 1)) ((lst s).drop (p + 1 + (j + 1)))) := show _ = _ from by
            rw [hc, Bool.true_or, if_pos rfl, HKJ.out, show p + 1 + j + 1 = p + 1 + (j + 1) by omega]; omega
          clear hc HC hl HDg HF
          go_wp2_with fail
          refine (HLt.out _).mono ?_
          rintro e w1 ⟨rfl, rfl⟩
          clear HLt
          go_wp2_with fail
          go_roundw
          case rel =>
            have hkj := HKJ.out
            exact ⟨j + 1, by omega, by omega, by rw [hkj]; go_num, HV.out, rfl⟩
          case measure =>
            have hkj := HKJ.out
            simp [intOf]; omega
        · rw [Bool.not_eq_true] at hl
          rw [hl] at hc HLt
          by_cases hd : dgt (s[k]'hlt) = true
          · rw [hd] at hc HDg
            have HV : Hid (cntA 8 ((lst s).drop (p + 1)) = j + 1 + cntA (8 - (j + 1)) ((lst s).drop (p + 1 + (j + 1)))) := show _ = _ from by
              rw [hc, Bool.false_or, if_pos rfl, HKJ.out, show p + 1 + j + 1 = p + 1 + (j + 1) by omega]; omega
            clear hc HC hl hd HF
            go_wp2_with fail
            refine (HLt.out _).mono ?_
            rintro e w1 ⟨rfl, rfl⟩
            clear HLt
            go_wp2_with fail
            refine (HDg.out _).mono ?_
            rintro e w1 ⟨rfl, rfl⟩
            clear HDg
            go_wp2_with fail
            go_roundw
            case rel =>
              have hkj := HKJ.out
              exact ⟨j + 1, by omega, by omega, by rw [hkj]; go_num, HV.out, rfl⟩
            case measure =>
              have hkj := HKJ.out
              simp [intOf]; omega
          · rw [Bool.not_eq_true] at hd
            rw [hd] at hc HDg
            have HV : Hid (cntA 8 ((lst s).drop (p + 1)) = j) := show _ = _ from by
              rw [hc, Bool.false_or, if_neg (by simp)]; omega
            clear hc hl hd
            have hfin := HF.out j HV.out
            rw [← HKJ.out, ← name_cut s (p + 1) j, ← HKJ.out] at hfin
            have HE := Lib.hid (fun W => refEntity_any (s.extract (p + 1) k) W)
            obtain ⟨N, hN⟩ : ∃ N : ByteArray, N = s.extract (p + 1) k := ⟨_, rfl⟩
            rw [← hN] at hfin HE
            have HN := Lib.hid hN
            unfold EntVal at HE
            have hlb := look_bd (lst N)
            change o = match look entL (lst N) with | some v => _ | none => _ at hfin
            change Hid (∀ W, Calls Tryd.prog 81 #[.string N] W fun e w' => e = .returned (.tuple #[.int .i64 ((look entL (lst N)).getD 0), .bool (look entL (lst N)).isSome]) ∧ Below W.heap.size W w') at HE
            generalize look entL (lst N) = L at *
            have hjk : k - (p + 1) = j := by have := HKJ.out; omega
            clear HF HV HC hN
            cases L with
            | none =>
              have HO : Hid (o = none) := hfin
              clear hfin hlb
              go_wp2_with fail
              refine (HLt.out _).mono ?_
              rintro e w1 ⟨rfl, rfl⟩
              clear HLt
              go_wp2_with fail
              refine (HDg.out _).mono ?_
              rintro e w1 ⟨rfl, rfl⟩
              clear HDg
              go_wp2_with fail
              rw [← HN.out]
              refine (HE.out _).mono ?_
              rintro e w1 ⟨rfl, hb⟩
              have HB := Lib.hid hb
              clear hb HE HN
              go_wp2_with fail
              go_ret2
              exact post_nothing HO.out HB.out
            | some v =>
              obtain ⟨hv0, hv1⟩ := hlb v rfl
              have HK := Lib.hid (fun W => refChar_any v (by omega) (by omega) W)
              clear hlb
              · rw [get_in s k hlt] at hfin
                by_cases h59 : (s[k]'hlt) = 59
                · have HO : Hid (o = some (v, j + 2)) := show o = _ from by rw [hfin]; simp only []; rw [if_pos (by rw [h59])]
                  have q1 : (((s[k]'hlt).toNat : Int) != 59) = false := by rw [h59]; decide
                  clear hfin h59
                  go_wp2_with fail
                  refine (HLt.out _).mono ?_
                  rintro e w1 ⟨rfl, rfl⟩
                  clear HLt
                  go_wp2_with fail
                  refine (HDg.out _).mono ?_
                  rintro e w1 ⟨rfl, rfl⟩
                  clear HDg
                  go_wp2_with fail
                  rw [← HN.out]
                  refine (HE.out _).mono ?_
                  rintro e w1 ⟨rfl, hb⟩
                  have HB := Lib.hid hb
                  clear hb HE HN
                  go_wp2_with fail
                  refine (HK.out _).mono ?_
                  rintro e w2 ⟨rfl, hb⟩
                  have HB2 := Lib.hid (chain (Nat.le_refl _) HB.out hb)
                  clear hb HK HB
                  go_wp2_with fail
                  go_ret2
                  exact post_some HO.out (by omega) HB2.out
                · have HO : Hid (o = none) := show o = none from by rw [hfin]; simp only []; rw [if_neg (fun h => h59 (Option.some.inj h))]
                  have q1 : (((s[k]'hlt).toNat : Int) != 59) = true := by have := ne_u8 _ 59 (by decide) h59; rw [bne_iff_ne]; omega
                  clear hfin h59
                  go_wp2_with fail
                  refine (HLt.out _).mono ?_
                  rintro e w1 ⟨rfl, rfl⟩
                  clear HLt
                  go_wp2_with fail
                  refine (HDg.out _).mono ?_
                  rintro e w1 ⟨rfl, rfl⟩
                  clear HDg
                  go_wp2_with fail
                  rw [← HN.out]
                  refine (HE.out _).mono ?_
                  rintro e w1 ⟨rfl, hb⟩
                  have HB := Lib.hid hb
                  clear hb HE HN
                  go_wp2_with fail
                  go_ret2
                  exact post_nothing HO.out HB.out
      · have hj9 : ¬ ((k : Int) - p ≤ 8) := by have := HKJ.out; omega
        have HV : Hid (cntA 8 ((lst s).drop (p + 1)) = j) := show _ = _ from by
          rw [HC.out, show 8 - j = 0 by omega, cntA_zero]; omega
        have hfin := HF.out j HV.out
        rw [← HKJ.out, ← name_cut s (p + 1) j, ← HKJ.out] at hfin
        have HE := Lib.hid (fun W => refEntity_any (s.extract (p + 1) k) W)
        obtain ⟨N, hN⟩ : ∃ N : ByteArray, N = s.extract (p + 1) k := ⟨_, rfl⟩
        rw [← hN] at hfin HE
        have HN := Lib.hid hN
        unfold EntVal at HE
        have hlb := look_bd (lst N)
        change o = match look entL (lst N) with | some v => _ | none => _ at hfin
        change Hid (∀ W, Calls Tryd.prog 81 #[.string N] W fun e w' => e = .returned (.tuple #[.int .i64 ((look entL (lst N)).getD 0), .bool (look entL (lst N)).isSome]) ∧ Below W.heap.size W w') at HE
        generalize look entL (lst N) = L at *
        have hjk : k - (p + 1) = j := by have := HKJ.out; omega
        clear HF HV HC hN
        cases L with
        | none =>
          have HO : Hid (o = none) := hfin
          clear hfin hlb
          go_wp2_with fail
          rw [← HN.out]
          refine (HE.out _).mono ?_
          rintro e w1 ⟨rfl, hb⟩
          have HB := Lib.hid hb
          clear hb HE HN
          go_wp2_with fail
          go_ret2
          exact post_nothing HO.out HB.out
        | some v =>
          obtain ⟨hv0, hv1⟩ := hlb v rfl
          have HK := Lib.hid (fun W => refChar_any v (by omega) (by omega) W)
          clear hlb
          · rw [get_in s k hlt] at hfin
            by_cases h59 : (s[k]'hlt) = 59
            · have HO : Hid (o = some (v, j + 2)) := show o = _ from by rw [hfin]; simp only []; rw [if_pos (by rw [h59])]
              have q1 : (((s[k]'hlt).toNat : Int) != 59) = false := by rw [h59]; decide
              clear hfin h59
              go_wp2_with fail
              rw [← HN.out]
              refine (HE.out _).mono ?_
              rintro e w1 ⟨rfl, hb⟩
              have HB := Lib.hid hb
              clear hb HE HN
              go_wp2_with fail
              refine (HK.out _).mono ?_
              rintro e w2 ⟨rfl, hb⟩
              have HB2 := Lib.hid (chain (Nat.le_refl _) HB.out hb)
              clear hb HK HB
              go_wp2_with fail
              go_ret2
              exact post_some HO.out (by omega) HB2.out
            · have HO : Hid (o = none) := show o = none from by rw [hfin]; simp only []; rw [if_neg (fun h => h59 (Option.some.inj h))]
              have q1 : (((s[k]'hlt).toNat : Int) != 59) = true := by have := ne_u8 _ 59 (by decide) h59; rw [bne_iff_ne]; omega
              clear hfin h59
              go_wp2_with fail
              rw [← HN.out]
              refine (HE.out _).mono ?_
              rintro e w1 ⟨rfl, hb⟩
              have HB := Lib.hid hb
              clear hb HE HN
              go_wp2_with fail
              go_ret2
              exact post_nothing HO.out HB.out
    · have HV : Hid (cntA 8 ((lst s).drop (p + 1)) = j) := show _ = _ from by
        rw [HC.out, lst_out s k (by omega), cntA_nil]; omega
      have hfin := HF.out j HV.out
      rw [← HKJ.out, ← name_cut s (p + 1) j, ← HKJ.out] at hfin
      have HE := Lib.hid (fun W => refEntity_any (s.extract (p + 1) k) W)
      obtain ⟨N, hN⟩ : ∃ N : ByteArray, N = s.extract (p + 1) k := ⟨_, rfl⟩
      rw [← hN] at hfin HE
      have HN := Lib.hid hN
      unfold EntVal at HE
      have hlb := look_bd (lst N)
      change o = match look entL (lst N) with | some v => _ | none => _ at hfin
      change Hid (∀ W, Calls Tryd.prog 81 #[.string N] W fun e w' => e = .returned (.tuple #[.int .i64 ((look entL (lst N)).getD 0), .bool (look entL (lst N)).isSome]) ∧ Below W.heap.size W w') at HE
      generalize look entL (lst N) = L at *
      have hjk : k - (p + 1) = j := by have := HKJ.out; omega
      clear HF HV HC hN
      cases L with
      | none =>
        have HO : Hid (o = none) := hfin
        clear hfin hlb
        go_wp2_with fail
        rw [← HN.out]
        refine (HE.out _).mono ?_
        rintro e w1 ⟨rfl, hb⟩
        have HB := Lib.hid hb
        clear hb HE HN
        go_wp2_with fail
        go_ret2
        exact post_nothing HO.out HB.out
      | some v =>
        obtain ⟨hv0, hv1⟩ := hlb v rfl
        have HK := Lib.hid (fun W => refChar_any v (by omega) (by omega) W)
        clear hlb
        · rw [get_out s k (by omega)] at hfin
          have HO : Hid (o = none) := show o = none from by rw [hfin]; simp only []; rw [if_neg (fun h => by cases h)]
          clear hfin
          go_wp2_with fail
          rw [← HN.out]
          refine (HE.out _).mono ?_
          rintro e w1 ⟨rfl, hb⟩
          have HB := Lib.hid hb
          clear hb HE HN
          go_wp2_with fail
          go_ret2
          exact post_nothing HO.out HB.out
end Go.Proofs.YtfoheffbapifpaaDoor
