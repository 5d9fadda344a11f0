/-
  PROVED: contract of the document's own Dest: the destination at a place and how many bytes it has ('destP'). Conditions: the text has at most 1000000 bytes.
-/
import Derived.Test.YtfoheffbapifpaaDoorRefTitle
namespace Go.Proofs.YtfoheffbapifpaaDoor
open Go.ChangeShapes Go.WideShapes Go.ChangeAt Go.RowKit Go.Sort
set_option linter.unusedVariables false

theorem dest_no (s : ByteArray) (a : Int) (h : a < 0 ∨ (s.size : Int) ≤ a) : destP (frm s a) = ([], 0) := by rw [frm_out s a h]; rfl
theorem dest_60 (s : ByteArray) (p : Nat) (hp : p < s.size) (h : (s[p]'hp) = 60) : destP (frm s p) = toldP (encG 62 [60, 10] ((lst s).drop (p + 1))) := by
  rw [frm_cons s p hp]
  unfold destP
  rw [if_pos (by rw [h]; rfl)]
  rfl
theorem dest_bare (s : ByteArray) (p : Nat) (hp : p < s.size) (h : ¬ (s[p]'hp) = 60) : destP (frm s p) = (plG 0 (((lst s).drop p).take (bareL ((lst s).drop p))), bareL ((lst s).drop p)) := by
  rw [frm_in s p (by omega)]
  unfold destP
  rw [if_neg (by rw [lst_at s p hp]; simpa using h)]
theorem bare_exit2 {l r : List UInt8} {p k n : Nat} (hk : p ≤ k) (h : (bareG false n r).map (k + ·) = (bareG false 0 l).map (p + ·)) (hx : bareG false n r = if n = 0 then some 0 else none) : bareL l = if n = 0 then k - p else 0 := by
  unfold bareL
  rw [hx] at h
  by_cases hn : n = 0
  · rw [if_pos hn] at h ⊢
    cases hb : bareG false 0 l with
    | none => rw [hb] at h; cases h
    | some m => rw [hb] at h; simp at h; simp; omega
  · rw [if_neg hn] at h ⊢
    cases hb : bareG false 0 l with
    | none => rfl
    | some m => rw [hb] at h; cases h
theorem bare_none {l r : List UInt8} {p k n : Nat} (h : (bareG false n r).map (k + ·) = (bareG false 0 l).map (p + ·)) (hx : bareG false n r = none) : bareL l = 0 := by
  unfold bareL
  rw [hx] at h
  cases hb : bareG false 0 l with
  | none => rfl
  | some m => rw [hb] at h; cases h
/-- What the loop of the document's bare destination goes by. -/
def BdRel (s : ByteArray) (p : Nat) (w : World) (i o : Value) (wr : World) : Prop :=
  ∃ k n : Nat, p ≤ k ∧ k ≤ s.size ∧ i = .int .i64 k ∧ o = .int .i64 n ∧ n ≤ 32 ∧ (bareG false n ((lst s).drop k)).map (k + ·) = (bareG false 0 ((lst s).drop p)).map (p + ·) ∧ wr = w

set_option maxHeartbeats 8000000 in
theorem refDest_60 (s : ByteArray) (p : Nat) (hp : p < s.size) (h : (s[p]'hp) = 60) (hs : s.size ≤ 1000000) (w : World) : Calls Tryd.prog 11 #[.string s, .int .i64 p] w fun r w' => r = .returned (pairV (destP (frm s p))) ∧ Below w.heap.size w w' := by
  have hpn := (s[p]'hp).toNat_lt
  have d0 : decide (s.size ≤ p) = false := decide_eq_false (by omega)
  have b60 : (((s[p]'hp).toNat : Int) == 60) = true := eqU _ 60 h
  have HR := Lib.hid (dest_60 s p hp h)
  generalize destP (frm s p) = r at *
  clear h
  go_enter Tryd.func11, Tryd.ntmps11
  go_wp2_with fail
  go_loopw [6] (fun i wr => TiRel 62 [60, 10] s p w i wr) (fun i _ => s.size - (intOf i).toNat)
  case atStart => exact ⟨p + 1, Nat.le_refl _, by omega, by go_num, rfl, rfl⟩
  case round =>
    obtain ⟨k, hk1, hk2, rfl, hl, rfl⟩ := hrel
    have HL := Lib.hid hl
    clear hl
    by_cases hlt : k < s.size
    · have hn := (s[k]'hlt).toNat_lt
      by_cases h10 : (s[k]'hlt) = 10
      · have c10 : (((s[k]'hlt).toNat : Int) != 10) = false := nq_u8 _ 10 h10
        have c62 : (((s[k]'hlt).toNat : Int) != 62) = true := nn_u8 _ 62 (by rw [h10]; decide)
        have HV : Hid (r = ([], 0)) := show _ = _ from by
          rw [HR.out, enc_at 62 [60, 10] s p k hk1 hk2 HL.out (run_at 62 [60, 10] s k hlt (by rw [h10]; rfl)), if_neg (by rw [lst_get s k hlt, h10]; decide)]
          rfl
        clear  h10 HL HR
        go_wp2_with fail
        go_ret2
        rw [HV.out]
        exact ⟨rfl, Below.refl _ _⟩
      have c10 : (((s[k]'hlt).toNat : Int) != 10) = true := nn_u8 _ 10 h10
      by_cases h60 : (s[k]'hlt) = 60
      · have c60 : (((s[k]'hlt).toNat : Int) != 60) = false := nq_u8 _ 60 h60
        have c62 : (((s[k]'hlt).toNat : Int) != 62) = true := nn_u8 _ 62 (by rw [h60]; decide)
        have HV : Hid (r = ([], 0)) := show _ = _ from by
          rw [HR.out, enc_at 62 [60, 10] s p k hk1 hk2 HL.out (run_at 62 [60, 10] s k hlt (by rw [h60]; rfl)), if_neg (by rw [lst_get s k hlt, h60]; decide)]
          rfl
        clear h10 h60 HL HR
        go_wp2_with fail
        go_ret2
        rw [HV.out]
        exact ⟨rfl, Below.refl _ _⟩
      have c60 : (((s[k]'hlt).toNat : Int) != 60) = true := nn_u8 _ 60 h60
      by_cases h1 : (s[k]'hlt) = 62
      · have c1 : (((s[k]'hlt).toNat : Int) != 62) = false := nq_u8 _ 62 h1
        have HV : Hid (r = (plG 0 (lst (s.extract (p + 1) k)), k + 1 - p)) := show _ = _ from by
          rw [HR.out, enc_at 62 [60, 10] s p k hk1 hk2 HL.out (run_at 62 [60, 10] s k hlt (by rw [h1]; rfl)), if_pos (by rw [lst_get s k hlt, h1]), told_cut s p k hk1 hk2]
        have HP := Lib.hid (refPlain_text (s.extract (p + 1) k) (by simp; omega))
        clear h1 h10 h60 HL HR
        generalize plG 0 (lst (s.extract (p + 1) k)) = x at *
        go_wp2_with fail
        refine (HP.out _).mono ?_
        rintro e' w1 ⟨rfl, hb⟩
        have B1 := Lib.hid hb
        clear hb
        go_wp2_with fail
        go_ret2
        rw [HV.out]
        unfold pairV
        refine ⟨ret_pair rfl ?_, B1.out⟩
        simp
        omega
      have c1 : (((s[k]'hlt).toNat : Int) != 62) = true := nn_u8 _ 62 h1
      have HS := Lib.hid (refStep_any s k hlt hs)
      obtain ⟨g1, g2, g3, g4⟩ := run_on (stp 62 [60, 10]) s k hlt (by simp [stp, h1, h10, h60]) _ HL.out
      have HN := Lib.hid g1
      clear h1 h10 h60 HL g1 HR
      generalize stepL ((lst s).drop k) = n at *
      go_wp2_with fail
      refine (HS.out _).mono ?_
      rintro e' y ⟨rfl, rfl⟩
      clear HS
      go_wp2_with fail
      go_roundw
      case rel => exact ⟨k + n, by omega, g2, by go_num, HN.out, rfl⟩
      case measure => simp [intOf]; omega
    · have HV : Hid (r = ([], 0)) := show _ = _ from by
        rw [HR.out, enc_at 62 [60, 10] s p k hk1 hk2 HL.out (run_out _ s k (by omega)), if_neg (by rw [List.getElem?_eq_none (by rw [lst_size]; omega)]; simp)]
        rfl
      clear HL HR
      go_wp2_with fail
      go_ret2
      rw [HV.out]
      exact ⟨rfl, Below.refl _ _⟩

set_option maxHeartbeats 16000000 in
theorem refDest_bare (s : ByteArray) (p : Nat) (hp : p < s.size) (h : ¬ (s[p]'hp) = 60) (hs : s.size ≤ 1000000) (w : World) : Calls Tryd.prog 11 #[.string s, .int .i64 p] w fun r w' => r = .returned (pairV (destP (frm s p))) ∧ Below w.heap.size w w' := by
  have hpn := (s[p]'hp).toNat_lt
  have d0 : decide (s.size ≤ p) = false := decide_eq_false (by omega)
  have b60 : (((s[p]'hp).toNat : Int) == 60) = false := neU _ 60 h
  have HR := Lib.hid (dest_bare s p hp h)
  generalize destP (frm s p) = r at *
  clear h
  go_enter Tryd.func11, Tryd.ntmps11
  go_wp2_with fail
  go_loopw [7, 8] (fun i o wr => BdRel s p w i o wr) (fun i _ _ => s.size - (intOf i).toNat)
  case atStart => exact ⟨p, 0, Nat.le_refl _, by omega, rfl, rfl, by omega, rfl, rfl⟩
  case round =>
    obtain ⟨k, n, hk1, hk2, rfl, rfl, hn32, hl, rfl⟩ := hrel
    have HL := Lib.hid hl
    clear hl
    by_cases hlt : k < s.size
    · have hn := (s[k]'hlt).toNat_lt
      have hcons := lst_at s k hlt
      by_cases h1 : (s[k]'hlt).toNat ≤ 32
      · have hx : bareG false n ((lst s).drop k) = if n = 0 then some 0 else none := by rw [hcons]; exact bare_stop n _ _ (.inl h1)
        have hbl := bare_exit2 hk1 HL.out hx
        clear HL hx hcons
        by_cases hn0 : n = 0
        · subst hn0
          rw [if_pos rfl] at hbl
          by_cases hkp : k = p
          · have HV : Hid (r = ([], 0)) := show _ = _ from by rw [HR.out, hbl, show k - p = 0 by omega]; rfl
            have q0 : ((k : Int) == (p : Int)) = true := by simp [hkp]
            clear hbl HR hkp
            go_wp2_with fail
            go_ret2
            rw [HV.out]
            exact ⟨rfl, Below.refl _ _⟩
          · have HV : Hid (r = (plG 0 (lst (s.extract p k)), k - p)) := show _ = _ from by rw [HR.out, hbl, lst_cut, List.drop_take]
            have HP := Lib.hid (refPlain_text (s.extract p k) (by simp; omega))
            have q0 : ((k : Int) == (p : Int)) = false := by rw [beq_eq_false_iff_ne]; omega
            have q1 : p < k := by omega
            clear hbl HR hkp
            generalize plG 0 (lst (s.extract p k)) = x at *
            go_wp2_with fail
            refine (HP.out _).mono ?_
            rintro e' w1 ⟨rfl, hb⟩
            have B1 := Lib.hid hb
            clear hb
            go_wp2_with fail
            go_ret2
            rw [HV.out]
            unfold pairV
            refine ⟨ret_pair rfl ?_, B1.out⟩
            simp
            omega
        · rw [if_neg hn0] at hbl
          have HV : Hid (r = ([], 0)) := show _ = _ from by rw [HR.out, hbl]; rfl
          have hpos : 0 < n := by omega
          clear hn0 hbl HR
          by_cases hkp : k = p
          · have q0 : ((k : Int) == (p : Int)) = true := by simp [hkp]
            clear hkp
            go_wp2_with fail
            go_ret2
            rw [HV.out]
            exact ⟨rfl, Below.refl _ _⟩
          · have q0 : ((k : Int) == (p : Int)) = false := by rw [beq_eq_false_iff_ne]; omega
            clear hkp
            go_wp2_with fail
            go_ret2
            rw [HV.out]
            exact ⟨rfl, Below.refl _ _⟩
      by_cases h2 : (s[k]'hlt) = 127
      · have hx : bareG false n ((lst s).drop k) = if n = 0 then some 0 else none := by rw [hcons]; exact bare_stop n _ _ (.inr h2)
        have c2 : ((((s[k]'hlt).toNat : Int)) != 127) = false := nq_u8 _ 127 h2
        have hbl := bare_exit2 hk1 HL.out hx
        clear HL hx hcons h2
        by_cases hn0 : n = 0
        · subst hn0
          rw [if_pos rfl] at hbl
          by_cases hkp : k = p
          · have HV : Hid (r = ([], 0)) := show _ = _ from by rw [HR.out, hbl, show k - p = 0 by omega]; rfl
            have q0 : ((k : Int) == (p : Int)) = true := by simp [hkp]
            clear hbl HR hkp
            go_wp2_with fail
            go_ret2
            rw [HV.out]
            exact ⟨rfl, Below.refl _ _⟩
          · have HV : Hid (r = (plG 0 (lst (s.extract p k)), k - p)) := show _ = _ from by rw [HR.out, hbl, lst_cut, List.drop_take]
            have HP := Lib.hid (refPlain_text (s.extract p k) (by simp; omega))
            have q0 : ((k : Int) == (p : Int)) = false := by rw [beq_eq_false_iff_ne]; omega
            have q1 : p < k := by omega
            clear hbl HR hkp
            generalize plG 0 (lst (s.extract p k)) = x at *
            go_wp2_with fail
            refine (HP.out _).mono ?_
            rintro e' w1 ⟨rfl, hb⟩
            have B1 := Lib.hid hb
            clear hb
            go_wp2_with fail
            go_ret2
            rw [HV.out]
            unfold pairV
            refine ⟨ret_pair rfl ?_, B1.out⟩
            simp
            omega
        · rw [if_neg hn0] at hbl
          have HV : Hid (r = ([], 0)) := show _ = _ from by rw [HR.out, hbl]; rfl
          have hpos : 0 < n := by omega
          clear hn0 hbl HR
          by_cases hkp : k = p
          · have q0 : ((k : Int) == (p : Int)) = true := by simp [hkp]
            clear hkp
            go_wp2_with fail
            go_ret2
            rw [HV.out]
            exact ⟨rfl, Below.refl _ _⟩
          · have q0 : ((k : Int) == (p : Int)) = false := by rw [beq_eq_false_iff_ne]; omega
            clear hkp
            go_wp2_with fail
            go_ret2
            rw [HV.out]
            exact ⟨rfl, Below.refl _ _⟩
      have c2 : ((((s[k]'hlt).toNat : Int)) != 127) = true := nn_u8 _ 127 h2
      by_cases h3 : (s[k]'hlt) = 40
      · have c3 : ((((s[k]'hlt).toNat : Int)) == 40) = true := eqU _ 40 h3
        have c5 : ((((s[k]'hlt).toNat : Int)) == 41) = false := neU _ 41 (by rw [h3]; decide)
        by_cases h4 : n = 32
        · have HV : Hid (r = ([], 0)) := show _ = _ from by
            rw [HR.out, bare_none HL.out (by rw [hcons, h3, h4, bare_many])]
            rfl
          clear HL hcons h3 h2 HR
          subst h4
          go_wp2_with fail
          go_ret2
          rw [HV.out]
          exact ⟨rfl, Below.refl _ _⟩
        · have hn31 : n ≤ 31 := by omega
          have HS := Lib.hid (refStep_any s k hlt hs)
          have hs2 : k + stepL ((lst s).drop k) ≤ s.size := by
            have := stepL_len (s[k]'hlt) ((lst s).drop (k + 1))
            rw [← hcons, List.length_drop, lst_size] at this
            omega
          have hs1 := stepL_bd ((lst s).drop k)
          have HN : Hid ((bareG false (n + 1) ((lst s).drop (k + stepL ((lst s).drop k)))).map (k + stepL ((lst s).drop k) + ·) = (bareG false 0 ((lst s).drop p)).map (p + ·)) := show _ = _ from by
            have h := bare_open n ((lst s).drop (k + 1)) h4
            rw [← h3, ← hcons] at h
            rw [← HL.out, h, Option.map_map, List.drop_drop]
            congr 1
            funext k
            simp only [Function.comp]
            omega
          clear hcons HL HR h3 h2 h4
          generalize stepL ((lst s).drop k) = m at *
          go_wp2_with fail
          refine (HS.out _).mono ?_
          rintro e' y ⟨rfl, rfl⟩
          clear HS
          go_wp2_with fail
          go_roundw
          case rel => exact ⟨k + m, n + 1, by omega, hs2, by go_num, by go_num, by omega, HN.out, rfl⟩
          case measure => simp [intOf]; omega
      have c3 : ((((s[k]'hlt).toNat : Int)) == 40) = false := neU _ 40 h3
      by_cases h5 : (s[k]'hlt) = 41
      · have c5 : ((((s[k]'hlt).toNat : Int)) == 41) = true := eqU _ 41 h5
        by_cases h6 : n = 0
        · have hx : bareG false n ((lst s).drop k) = if n = 0 then some 0 else none := by rw [hcons, h5, h6, bare_end]; rfl
          have c6 : ((n : Int) == 0) = true := by simp [h6]
          have hbl := bare_exit2 hk1 HL.out hx
          clear HL hx hcons h2 h3 h5
          by_cases hn0 : n = 0
          · subst hn0
            rw [if_pos rfl] at hbl
            by_cases hkp : k = p
            · have HV : Hid (r = ([], 0)) := show _ = _ from by rw [HR.out, hbl, show k - p = 0 by omega]; rfl
              have q0 : ((k : Int) == (p : Int)) = true := by simp [hkp]
              clear hbl HR hkp
              go_wp2_with fail
              go_ret2
              rw [HV.out]
              exact ⟨rfl, Below.refl _ _⟩
            · have HV : Hid (r = (plG 0 (lst (s.extract p k)), k - p)) := show _ = _ from by rw [HR.out, hbl, lst_cut, List.drop_take]
              have HP := Lib.hid (refPlain_text (s.extract p k) (by simp; omega))
              have q0 : ((k : Int) == (p : Int)) = false := by rw [beq_eq_false_iff_ne]; omega
              have q1 : p < k := by omega
              clear hbl HR hkp
              generalize plG 0 (lst (s.extract p k)) = x at *
              go_wp2_with fail
              refine (HP.out _).mono ?_
              rintro e' w1 ⟨rfl, hb⟩
              have B1 := Lib.hid hb
              clear hb
              go_wp2_with fail
              go_ret2
              rw [HV.out]
              unfold pairV
              refine ⟨ret_pair rfl ?_, B1.out⟩
              simp
              omega
          · exact absurd h6 hn0
        · have c6 : ((n : Int) == 0) = false := by rw [beq_eq_false_iff_ne]; omega
          have HS := Lib.hid (refStep_any s k hlt hs)
          have hs2 : k + stepL ((lst s).drop k) ≤ s.size := by
            have := stepL_len (s[k]'hlt) ((lst s).drop (k + 1))
            rw [← hcons, List.length_drop, lst_size] at this
            omega
          have hs1 := stepL_bd ((lst s).drop k)
          have HN : Hid ((bareG false (n - 1) ((lst s).drop (k + stepL ((lst s).drop k)))).map (k + stepL ((lst s).drop k) + ·) = (bareG false 0 ((lst s).drop p)).map (p + ·)) := show _ = _ from by
            have h := bare_shut n ((lst s).drop (k + 1)) h6
            rw [← h5, ← hcons] at h
            rw [← HL.out, h, Option.map_map, List.drop_drop]
            congr 1
            funext k
            simp only [Function.comp]
            omega
          clear hcons HL HR h5 h3 h2
          generalize stepL ((lst s).drop k) = m at *
          go_wp2_with fail
          refine (HS.out _).mono ?_
          rintro e' y ⟨rfl, rfl⟩
          clear HS
          go_wp2_with fail
          go_roundw
          case rel => exact ⟨k + m, n - 1, by omega, hs2, by go_num, by go_num, by omega, HN.out, rfl⟩
          case measure => simp [intOf]; omega
      have c5 : ((((s[k]'hlt).toNat : Int)) == 41) = false := neU _ 41 h5
      have HS := Lib.hid (refStep_any s k hlt hs)
      have hs2 : k + stepL ((lst s).drop k) ≤ s.size := by
        have := stepL_len (s[k]'hlt) ((lst s).drop (k + 1))
        rw [← hcons, List.length_drop, lst_size] at this
        omega
      have hs1 := stepL_bd ((lst s).drop k)
      have HN : Hid ((bareG false (n) ((lst s).drop (k + stepL ((lst s).drop k)))).map (k + stepL ((lst s).drop k) + ·) = (bareG false 0 ((lst s).drop p)).map (p + ·)) := show _ = _ from by
        have h := bare_more n (s[k]'hlt) ((lst s).drop (k + 1)) (fun h => h.elim h1 h2) h3 h5
        rw [← hcons] at h
        rw [← HL.out, h, Option.map_map, List.drop_drop]
        congr 1
        funext k
        simp only [Function.comp]
        omega
      clear hcons HL HR h5 h3 h2
      generalize stepL ((lst s).drop k) = m at *
      go_wp2_with fail
      refine (HS.out _).mono ?_
      rintro e' y ⟨rfl, rfl⟩
      clear HS
      go_wp2_with fail
      go_roundw
      case rel => exact ⟨k + m, n, by omega, hs2, by go_num, by go_num, by omega, HN.out, rfl⟩
      case measure => simp [intOf]; omega
    · have hx : bareG false n ((lst s).drop k) = if n = 0 then some 0 else none := by rw [lst_out s k (by omega), bare_nil]
      have hbl := bare_exit2 hk1 HL.out hx
      clear HL hx 
      by_cases hn0 : n = 0
      · subst hn0
        rw [if_pos rfl] at hbl
        by_cases hkp : k = p
        · have HV : Hid (r = ([], 0)) := show _ = _ from by rw [HR.out, hbl, show k - p = 0 by omega]; rfl
          have q0 : ((k : Int) == (p : Int)) = true := by simp [hkp]
          clear hbl HR hkp
          go_wp2_with fail
          go_ret2
          rw [HV.out]
          exact ⟨rfl, Below.refl _ _⟩
        · have HV : Hid (r = (plG 0 (lst (s.extract p k)), k - p)) := show _ = _ from by rw [HR.out, hbl, lst_cut, List.drop_take]
          have HP := Lib.hid (refPlain_text (s.extract p k) (by simp; omega))
          have q0 : ((k : Int) == (p : Int)) = false := by rw [beq_eq_false_iff_ne]; omega
          have q1 : p < k := by omega
          clear hbl HR hkp
          generalize plG 0 (lst (s.extract p k)) = x at *
          go_wp2_with fail
          refine (HP.out _).mono ?_
          rintro e' w1 ⟨rfl, hb⟩
          have B1 := Lib.hid hb
          clear hb
          go_wp2_with fail
          go_ret2
          rw [HV.out]
          unfold pairV
          refine ⟨ret_pair rfl ?_, B1.out⟩
          simp
          omega
      · rw [if_neg hn0] at hbl
        have HV : Hid (r = ([], 0)) := show _ = _ from by rw [HR.out, hbl]; rfl
        have hpos : 0 < n := by omega
        clear hn0 hbl HR
        by_cases hkp : k = p
        · have q0 : ((k : Int) == (p : Int)) = true := by simp [hkp]
          clear hkp
          go_wp2_with fail
          go_ret2
          rw [HV.out]
          exact ⟨rfl, Below.refl _ _⟩
        · have q0 : ((k : Int) == (p : Int)) = false := by rw [beq_eq_false_iff_ne]; omega
          clear hkp
          go_wp2_with fail
          go_ret2
          rw [HV.out]
          exact ⟨rfl, Below.refl _ _⟩

theorem refDest_any (s : ByteArray) (a : Int) (hs : s.size ≤ 1000000) (w : World) : Calls Tryd.prog 11 #[.string s, .int .i64 a] w fun r w' => r = .returned (pairV (destP (frm s a))) ∧ Below w.heap.size w w' := by
  by_cases hout : a < 0 ∨ (s.size : Int) ≤ a
  · rw [dest_no s a hout]
    by_cases h0 : a < 0
    · clear hout
      go_enter Tryd.func11, Tryd.ntmps11
      go_wp2_with fail
      go_ret2
      exact ⟨rfl, Below.refl _ _⟩
    · have h1 : (s.size : Int) ≤ a := by omega
      clear hout
      go_enter Tryd.func11, Tryd.ntmps11
      go_wp2_with fail
      go_ret2
      exact ⟨rfl, Below.refl _ _⟩
  obtain ⟨p, rfl⟩ : ∃ p : Nat, a = p := ⟨a.toNat, by omega⟩
  have hp : p < s.size := by omega
  by_cases h : (s[p]'hp) = 60
  · exact refDest_60 s p hp h hs w
  · exact refDest_bare s p hp h hs w
end Go.Proofs.YtfoheffbapifpaaDoor
