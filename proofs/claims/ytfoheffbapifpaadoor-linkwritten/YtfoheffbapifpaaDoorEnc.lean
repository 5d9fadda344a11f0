/-
  PROVED: contracts of link.enclosed and link.bare: what stands between a beginning and the first such end ('encO'), and how many bytes a destination without marks around it has ('bareL'). Conditions: the text has at most 1000000 bytes.
-/
import Derived.Test.YtfoheffbapifpaaDoorSteps
import Derived.WalkMore
namespace Go.Proofs.YtfoheffbapifpaaDoor
open Go.ChangeShapes Go.WideShapes Go.ChangeAt Go.RowKit Go.Sort
set_option linter.unusedVariables false

theorem cut8_any (s : ByteArray) (c : UInt8) (w : World) : Calls Tryd.prog 46 #[.string s, .string { data := #[c] }] w fun e w' => (∃ D : ByteArray, e = .returned (.tuple #[.string D, .bool (decide ((lst s).head? = some c))]) ∧ ((lst s).head? = some c → lst D = (lst s).drop 1)) ∧ w' = w := by
  refine (Tryd.cutPrefix s { data := #[c] } w).mono fun e w' ⟨h1, h2⟩ => ⟨⟨⟨(Lib.trimPrefix (lst s) [c]).toArray⟩, ?_, fun h => ?_⟩, h2⟩
  · rw [h1, ← pre_one]
  · rw [lst_mk]
    unfold Lib.trimPrefix
    rw [pre_one, decide_eq_true h]
    rfl
def encV : Option (List UInt8) → Value
  | some t => .tuple #[.string ⟨t.toArray⟩, .bool true]
  | none => .tuple #[.string { data := #[] }, .bool false]
/-- What a scan's loop goes by. -/
def EnRel (p : UInt8 → Bool) (D : ByteArray) (w : World) (i : Value) (wr : World) : Prop :=
  ∃ j : Nat, j ≤ D.size ∧ i = .int .i64 j ∧ j + runG p false ((lst D).drop j) = runG p false (lst D) ∧ Below w.heap.size w wr
theorem lst_get (D : ByteArray) (j : Nat) (h : j < D.size) : (lst D)[j]? = some (D[j]'h) := Lib.data_getElem? D j h
theorem encO_cons (c e : UInt8) (o l b : List UInt8) (hh : l.head? = some c) (hb : b = l.drop 1) : encO c e o l = encG e o b := by
  cases l with
  | nil => cases hh
  | cons x l =>
    cases hh
    subst hb
    simp [encO]
theorem encO_not (c e : UInt8) (o l : List UInt8) (hh : ¬ l.head? = some c) : encO c e o l = none := by
  cases l with
  | nil => rfl
  | cons x l =>
    have : ¬ x = c := fun h => hh (by rw [h]; rfl)
    simp [encO, this]

set_option maxHeartbeats 4000000 in
theorem enc_any (s : ByteArray) (c e : UInt8) (o : ByteArray) (hs : s.size ≤ 1000000) (w : World) : Calls Tryd.prog 20 #[.string s, .string { data := #[c] }, .int .u8 e.toNat, .string o] w fun r w' => r = .returned (encV (encO c e (lst o) (lst s))) ∧ Below w.heap.size w w' := by
  have HC := Lib.hid (cut8_any s c)
  by_cases hh : (lst s).head? = some c
  · rw [decide_eq_true hh] at HC
    have HO : Hid (∀ D : ByteArray, lst D = (lst s).drop 1 → encO c e (lst o) (lst s) = encG e (lst o) (lst D) ∧ D.size ≤ 1000000) := by
      intro D hD
      refine ⟨encO_cons c e (lst o) (lst s) (lst D) hh hD, ?_⟩
      rw [← lst_size, hD, List.length_drop, lst_size]; omega
    have HH := Lib.hid hh
    clear hh
    generalize encO c e (lst o) (lst s) = r at *
    go_enter Tryd.func20, Tryd.ntmps20
    go_wp2_with fail
    refine (HC.out _).mono ?_
    rintro e' w1 ⟨⟨D, rfl, hD⟩, rfl⟩
    obtain ⟨hR, hDs⟩ := HO.out D (hD HH.out)
    have HR := Lib.hid hR
    clear HO hD hR HC HH
    go_wp2_with fail
    go_loopw [12] (fun i wr => EnRel (stp e (lst o)) D w1 i wr) (fun i _ => D.size - (intOf i).toNat)
    case atStart => exact ⟨0, Nat.zero_le _, rfl, by simp, Below.refl _ _⟩
    case round =>
      obtain ⟨j, hj, rfl, hl, hb⟩ := hrel
      have HL := Lib.hid hl
      have HB := Lib.hid hb
      clear hl hb
      by_cases hlt : j < D.size
      · have hn := (D[j]'hlt).toNat_lt
        have hen := e.toNat_lt
        have hcons := lst_at D j hlt
        by_cases h1 : (D[j]'hlt) = e
        · have c1 := eqU _ _ h1
          have HK : Hid (r = some ((lst D).take j)) := show _ = _ from by
            rw [HR.out]
            refine enc_yes e _ _ j ?_ ?_
            · rw [← HL.out, hcons, run_stop _ _ _ (by rw [h1]; simp [stp])]; rfl
            · rw [lst_get D j hlt, h1]
          have HE : Hid (D.extract 0 j = ⟨((lst D).take j).toArray⟩) := of_lst _ _ (by rw [lst_cut]; simp)
          clear hcons h1 HL HR
          go_wp2_with fail
          go_ret2
          rw [HE.out, HK.out]
          exact ⟨rfl, HB.out⟩
        · have c1 := neU _ _ h1
          cases hc : (lst o).contains (D[j]'hlt) with
          | true =>
            have HI := Lib.hid (has_byte o (D[j]'hlt) true hc)
            have HK : Hid (r = none) := show _ = _ from by
              rw [HR.out]
              refine enc_no e _ _ j ?_ ?_
              · rw [← HL.out, hcons, run_stop _ _ _ (by simp only [stp, hc, Bool.or_true])]; rfl
              · rw [lst_get D j hlt]; exact fun h => h1 (Option.some.inj h)
            clear hcons h1 HL HR hc
            go_wp2_with fail
            refine (HI.out _).mono ?_
            rintro e' w2 ⟨⟨i, rfl, hi⟩, rfl⟩
            clear HI
            go_wp2_with fail
            go_ret2
            rw [HK.out]
            exact ⟨rfl, HB.out⟩
          | false =>
            have HI := Lib.hid (has_byte o (D[j]'hlt) false hc)
            have HS := Lib.hid (step_any D j hlt hDs)
            have hst : stp e (lst o) (D[j]'hlt) = false := by simp only [stp, hc, Bool.or_false]; simpa using h1
            have hs2 : j + stepL ((lst D).drop j) ≤ D.size := by
              have := stepL_len (D[j]'hlt) ((lst D).drop (j + 1))
              rw [← hcons, List.length_drop, lst_size] at this
              omega
            have hs1 := stepL_bd ((lst D).drop j)
            have HN : Hid (j + stepL ((lst D).drop j) + runG (stp e (lst o)) false ((lst D).drop (j + stepL ((lst D).drop j))) = runG (stp e (lst o)) false (lst D)) := show _ = _ from by
              rw [← HL.out]
              have h := run_go (stp e (lst o)) (D[j]'hlt) ((lst D).drop (j + 1)) hst
              rw [← hcons, List.drop_drop] at h
              omega
            clear hcons h1 HL hc hst
            generalize stepL ((lst D).drop j) = n at *
            go_wp2_with fail
            refine (HI.out _).mono ?_
            rintro e' w2 ⟨⟨i, rfl, hi⟩, rfl⟩
            clear HI
            go_wp2_with fail
            refine (HS.out _).mono ?_
            rintro e' w3 hG
            obtain ⟨rfl, hb⟩ := hG.below
            have HB3 := Lib.hid (chain (Nat.le_refl _) HB.out hb)
            clear hG hb HS HB
            go_wp2_with fail
            go_roundw
            case rel => exact ⟨j + n, hs2, by go_num, HN.out, HB3.out⟩
            case measure => simp [intOf]; omega
      · have HK : Hid (r = none) := show _ = _ from by
          rw [HR.out]
          refine enc_no e _ _ j ?_ ?_
          · rw [← HL.out, lst_out D j (by omega), run_nil]; rfl
          · rw [List.getElem?_eq_none (by rw [lst_size]; omega)]; simp
        clear HL HR
        go_wp2_with fail
        go_ret2
        rw [HK.out]
        exact ⟨rfl, HB.out⟩
  · rw [decide_eq_false hh] at HC
    rw [encO_not c e (lst o) (lst s) hh]
    clear hh
    go_enter Tryd.func20, Tryd.ntmps20
    go_wp2_with fail
    refine (HC.out _).mono ?_
    rintro e' w1 ⟨⟨D, rfl, hD⟩, rfl⟩
    clear HC hD
    go_wp2_with fail
    go_ret2
    exact ⟨rfl, Below.refl _ _⟩
/-- What bare's loop goes by. -/
def BaRel (s : ByteArray) (w : World) (i o : Value) (wr : World) : Prop :=
  ∃ j n : Nat, j ≤ s.size ∧ i = .int .i64 j ∧ o = .int .i64 n ∧ n ≤ 32 ∧ (bareG false n ((lst s).drop j)).map (j + ·) = bareG false 0 (lst s) ∧ Below w.heap.size w wr
theorem bare_exit {l r : List UInt8} {j n : Nat} (h : (bareG false n r).map (j + ·) = bareG false 0 l) (hx : bareG false n r = if n = 0 then some 0 else none) : bareL l = if n = 0 then j else 0 := by
  unfold bareL
  rw [← h, hx]
  split <;> rfl

set_option maxHeartbeats 8000000 in
theorem bare_any (s : ByteArray) (hs : s.size ≤ 1000000) (w : World) : Calls Tryd.prog 27 #[.string s] w fun r w' => r = .returned (.int .i64 (bareL (lst s))) ∧ Below w.heap.size w w' := by
  go_enter Tryd.func27, Tryd.ntmps27
  go_wp2_with fail
  go_step3
  go_wp2_with fail
  go_step3
  go_wp2_with fail
  go_loopw [3, 4] (fun i o wr => BaRel s w i o wr) (fun i _ _ => s.size - (intOf i).toNat)
  case atStart => exact ⟨0, 0, Nat.zero_le _, rfl, rfl, by omega, by simp, Below.refl _ _⟩
  case round =>
    obtain ⟨j, n, hj, rfl, rfl, hn32, hl, hb⟩ := hrel
    have HL := Lib.hid hl
    have HB := Lib.hid hb
    clear hl hb
    by_cases hlt : j < s.size
    · have hn := (s[j]'hlt).toNat_lt
      have hcons := lst_at s j hlt
      by_cases h1 : (s[j]'hlt).toNat ≤ 32
      · have hx : bareG false n ((lst s).drop j) = if n = 0 then some 0 else none := by rw [hcons]; exact bare_stop n _ _ (.inl h1)
        have HV := Lib.hid (bare_exit HL.out hx)
        clear HL hx hcons
        by_cases hn0 : n = 0
        · subst hn0
          rw [if_pos rfl] at HV
          go_wp2_with fail
          try rw [Exit.noGoto_ret]
          go_ret
          rw [HV.out]
          exact ⟨rfl, HB.out⟩
        · rw [if_neg hn0] at HV
          have hpos : 0 < n := by omega
          clear hn0
          go_wp2_with fail
          try rw [Exit.noGoto_ret]
          go_ret
          rw [HV.out]
          exact ⟨rfl, HB.out⟩
      by_cases h2 : (s[j]'hlt) = 127
      · have hx : bareG false n ((lst s).drop j) = if n = 0 then some 0 else none := by rw [hcons]; exact bare_stop n _ _ (.inr h2)
        have c2 := eqU _ _ h2
        change ((((s[j]'hlt).toNat : Int)) == 127) = true at c2
        have HV := Lib.hid (bare_exit HL.out hx)
        clear HL hx hcons h2
        by_cases hn0 : n = 0
        · subst hn0
          rw [if_pos rfl] at HV
          go_wp2_with fail
          try rw [Exit.noGoto_ret]
          go_ret
          rw [HV.out]
          exact ⟨rfl, HB.out⟩
        · rw [if_neg hn0] at HV
          have hpos : 0 < n := by omega
          clear hn0
          go_wp2_with fail
          try rw [Exit.noGoto_ret]
          go_ret
          rw [HV.out]
          exact ⟨rfl, HB.out⟩
      have c2 : ((((s[j]'hlt).toNat : Int)) == 127) = false := neU _ 127 h2
      by_cases h3 : (s[j]'hlt) = 40
      · have c3 : ((((s[j]'hlt).toNat : Int)) == 40) = true := eqU _ 40 h3
        by_cases h4 : n = 32
        · have HV : Hid (bareL (lst s) = 0) := show _ = _ from by
            unfold bareL
            rw [← HL.out, hcons, h3, h4, bare_many]
            rfl
          clear HL hcons h3 h2
          subst h4
          go_wp2_with fail
          try rw [Exit.noGoto_ret]
          go_ret
          rw [HV.out]
          exact ⟨rfl, HB.out⟩
        · have c4 : ((n : Int) == 32) = false := by rw [beq_eq_false_iff_ne]; omega
          have HS := Lib.hid (step_any s j hlt hs)
          have hs2 : j + stepL ((lst s).drop j) ≤ s.size := by
            have := stepL_len (s[j]'hlt) ((lst s).drop (j + 1))
            rw [← hcons, List.length_drop, lst_size] at this
            omega
          have hs1 := stepL_bd ((lst s).drop j)
          have HN : Hid ((bareG false (n + 1) ((lst s).drop (j + stepL ((lst s).drop j)))).map (j + stepL ((lst s).drop j) + ·) = bareG false 0 (lst s)) := show _ = _ from by
            have h := bare_open n ((lst s).drop (j + 1)) h4
            rw [← h3, ← hcons] at h
            rw [← HL.out, h, Option.map_map, List.drop_drop]
            congr 1
            funext k
            simp only [Function.comp]
            omega
          clear hcons HL h3 h2
          generalize stepL ((lst s).drop j) = m at *
          go_wp2_with fail
          refine (HS.out _).mono ?_
          rintro e' w3 hG
          obtain ⟨rfl, hb⟩ := hG.below
          have HB3 := Lib.hid (chain (Nat.le_refl _) HB.out hb)
          clear hG hb HS HB
          go_wp2_with fail
          go_roundw
          case rel => exact ⟨j + m, n + 1, hs2, by go_num, by go_num, by omega, HN.out, HB3.out⟩
          case measure => simp [intOf]; omega
      have c3 : ((((s[j]'hlt).toNat : Int)) == 40) = false := neU _ 40 h3
      by_cases h5 : (s[j]'hlt) = 41
      · have c5 : ((((s[j]'hlt).toNat : Int)) == 41) = true := eqU _ 41 h5
        by_cases h6 : n = 0
        · have hx : bareG false n ((lst s).drop j) = if n = 0 then some 0 else none := by rw [hcons, h5, h6, bare_end]; rfl
          have HV := Lib.hid (bare_exit HL.out hx)
          rw [if_pos h6] at HV
          clear HL hx hcons h2 h3 h5
          subst h6
          go_wp2_with fail
          try rw [Exit.noGoto_ret]
          go_ret
          rw [HV.out]
          exact ⟨rfl, HB.out⟩
        · have c6 : ((n : Int) == 0) = false := by rw [beq_eq_false_iff_ne]; omega
          have HS := Lib.hid (step_any s j hlt hs)
          have hs2 : j + stepL ((lst s).drop j) ≤ s.size := by
            have := stepL_len (s[j]'hlt) ((lst s).drop (j + 1))
            rw [← hcons, List.length_drop, lst_size] at this
            omega
          have hs1 := stepL_bd ((lst s).drop j)
          have HN : Hid ((bareG false (n - 1) ((lst s).drop (j + stepL ((lst s).drop j)))).map (j + stepL ((lst s).drop j) + ·) = bareG false 0 (lst s)) := show _ = _ from by
            have h := bare_shut n ((lst s).drop (j + 1)) h6
            rw [← h5, ← hcons] at h
            rw [← HL.out, h, Option.map_map, List.drop_drop]
            congr 1
            funext k
            simp only [Function.comp]
            omega
          clear hcons HL h5 h3 h2
          generalize stepL ((lst s).drop j) = m at *
          go_wp2_with fail
          refine (HS.out _).mono ?_
          rintro e' w3 hG
          obtain ⟨rfl, hb⟩ := hG.below
          have HB3 := Lib.hid (chain (Nat.le_refl _) HB.out hb)
          clear hG hb HS HB
          go_wp2_with fail
          go_roundw
          case rel => exact ⟨j + m, n - 1, hs2, by go_num, by go_num, by omega, HN.out, HB3.out⟩
          case measure => simp [intOf]; omega
      have c5 : ((((s[j]'hlt).toNat : Int)) == 41) = false := neU _ 41 h5
      have HS := Lib.hid (step_any s j hlt hs)
      have hs2 : j + stepL ((lst s).drop j) ≤ s.size := by
        have := stepL_len (s[j]'hlt) ((lst s).drop (j + 1))
        rw [← hcons, List.length_drop, lst_size] at this
        omega
      have hs1 := stepL_bd ((lst s).drop j)
      have HN : Hid ((bareG false (n) ((lst s).drop (j + stepL ((lst s).drop j)))).map (j + stepL ((lst s).drop j) + ·) = bareG false 0 (lst s)) := show _ = _ from by
        have h := bare_more n (s[j]'hlt) ((lst s).drop (j + 1)) (fun h => h.elim h1 h2) h3 h5
        rw [← hcons] at h
        rw [← HL.out, h, Option.map_map, List.drop_drop]
        congr 1
        funext k
        simp only [Function.comp]
        omega
      clear hcons HL h5 h3 h2
      generalize stepL ((lst s).drop j) = m at *
      go_wp2_with fail
      refine (HS.out _).mono ?_
      rintro e' w3 hG
      obtain ⟨rfl, hb⟩ := hG.below
      have HB3 := Lib.hid (chain (Nat.le_refl _) HB.out hb)
      clear hG hb HS HB
      go_wp2_with fail
      go_roundw
      case rel => exact ⟨j + m, n, hs2, by go_num, by go_num, by omega, HN.out, HB3.out⟩
      case measure => simp [intOf]; omega
    · have hx : bareG false n ((lst s).drop j) = if n = 0 then some 0 else none := by rw [lst_out s j (by omega), bare_nil]
      have HV := Lib.hid (bare_exit HL.out hx)
      clear HL hx 
      by_cases hn0 : n = 0
      · subst hn0
        rw [if_pos rfl] at HV
        go_wp2_with fail
        try rw [Exit.noGoto_ret]
        go_ret
        rw [HV.out]
        exact ⟨rfl, HB.out⟩
      · rw [if_neg hn0] at HV
        have hpos : 0 < n := by omega
        clear hn0
        go_wp2_with fail
        try rw [Exit.noGoto_ret]
        go_ret
        rw [HV.out]
        exact ⟨rfl, HB.out⟩
end Go.Proofs.YtfoheffbapifpaaDoor
