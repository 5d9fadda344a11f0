/-
  PROVED: contracts of escape.numberOf and escape.Entity: the number told between an entity's marks ('numOf'), and the entity's text at a place ('entAt'). Conditions: the text has at most 2000000 bytes.
-/
import Derived.Test.YtfoheffbapifpaaDoorChars
import Derived.Test.YtfoheffbapifpaaDoorEntity
import Derived.Test.YtfoheffbapifpaaDoorShelf
import Derived.Deep.CutBlock
import Derived.Deep.DeepCutAuto
import Derived.Deep.LoopGhost
namespace Go.Proofs.YtfoheffbapifpaaDoor
open Go.ChangeShapes Go.WideShapes Go.ChangeAt Go.RowKit Go.Sort Go.Maps
set_option linter.unusedVariables false

theorem pre_one (l : List UInt8) (c : UInt8) : Lib.hasPrefix l [c] = decide (l.head? = some c) := by
  unfold Lib.hasPrefix
  cases l with
  | nil => rfl
  | cons x l =>
    simp only [List.isPrefixOf, List.head?_cons, Bool.and_true, Option.some.injEq]
    by_cases h : c = x
    · subst h; simp
    · have h' : ¬ x = c := fun e => h e.symm
      simp [h, h']
theorem cut_any (s : ByteArray) (w : World) : Calls Tryd.prog 46 #[.string s, .string { data := #[35] }] w fun e w' => (∃ D : ByteArray, e = .returned (.tuple #[.string D, .bool (decide ((lst s).head? = some 35))]) ∧ ((lst s).head? = some 35 → lst D = (lst s).drop 1)) ∧ w' = w := by
  refine (Tryd.cutPrefix s { data := #[35] } w).mono fun e w' ⟨h1, h2⟩ => ⟨⟨⟨(Lib.trimPrefix (lst s) [35]).toArray⟩, ?_, fun h => ?_⟩, h2⟩
  · rw [h1, ← pre_one]
  · rw [lst_mk]
    unfold Lib.trimPrefix
    rw [pre_one, decide_eq_true h]
    rfl
theorem has_any (s : ByteArray) (c : UInt8) (w : World) : Calls Tryd.prog 25 #[.string s, .string { data := #[c] }] w fun e w' => e = .returned (.bool (decide ((lst s).head? = some c))) ∧ w' = w :=
  (Tryd.hasPrefix s { data := #[c] } w).mono fun e w' ⟨h1, h2⟩ => ⟨by rw [h1, ← pre_one], h2⟩
theorem num_ret {a b : Option Int} (h : a = b) : numRet a = numRet b := by rw [h]
theorem numOf_name (l : List UInt8) (h : ¬ l.head? = some 35) : numOf l = look entL l := by unfold numOf; rw [if_neg h]
theorem numOf_hex (l : List UInt8) (h : l.head? = some 35) (h2 : (l.drop 1).head? = some 120 ∨ (l.drop 1).head? = some 88) : numOf l = valE 16 ((l.drop 1).drop 1) := by unfold numOf; rw [if_pos h, if_pos h2, List.drop_drop]
theorem numOf_dec (l : List UInt8) (h : l.head? = some 35) (h2 : ¬ ((l.drop 1).head? = some 120 ∨ (l.drop 1).head? = some 88)) : numOf l = valE 10 (l.drop 1) := by unfold numOf; rw [if_pos h, if_neg h2]
theorem lst_tail (D : ByteArray) : lst (D.extract 1 D.size) = (lst D).drop 1 := lst_from D 1
theorem size_of_lst (s : ByteArray) (l : List UInt8) (h : lst s = l) : s.size = l.length := by rw [← lst_size, h]
theorem head_size (D : ByteArray) (c : UInt8) (h : (lst D).head? = some c) : 1 ≤ D.size := by
  rw [← lst_size]
  cases hl : lst D with
  | nil => rw [hl] at h; cases h
  | cons x l => rw [List.length_cons]; omega

set_option maxHeartbeats 2000000 in
theorem numberOf_any (s : ByteArray) (hs : s.size ≤ 8) (w : World) : Calls Tryd.prog 88 #[.string s] w fun e w' => e = numRet (numOf (lst s)) ∧ Below w.heap.size w w' := by
  have HC := Lib.hid (cut_any s)
  by_cases h35 : (lst s).head? = some 35
  · rw [decide_eq_true h35] at HC
    have HT : Hid (∀ D : ByteArray, lst D = (lst s).drop 1 → D.size ≤ 8 ∧ ((lst D).head? = some 120 ∨ (lst D).head? = some 88 → numOf (lst s) = valE 16 (lst (D.extract 1 D.size))) ∧ (¬ ((lst D).head? = some 120 ∨ (lst D).head? = some 88) → numOf (lst s) = valE 10 (lst D))) := by
      intro D hD
      have hz : D.size ≤ 8 := by rw [size_of_lst D _ hD, List.length_drop, lst_size]; omega
      refine ⟨hz, fun h => ?_, fun h => ?_⟩
      · rw [lst_tail, hD]; rw [hD] at h; exact numOf_hex _ h35 h
      · rw [hD]; rw [hD] at h; exact numOf_dec _ h35 h
    have H35 := Lib.hid h35
    clear h35
    generalize numOf (lst s) = o at *
    go_enter Tryd.func88, Tryd.ntmps88
    go_wp2_with fail
    refine (HC.out _).mono ?_
    rintro e w1 ⟨⟨D, rfl, hD⟩, rfl⟩
    obtain ⟨hz, hx, hd⟩ := HT.out D (hD H35.out)
    have HX := Lib.hid hx
    have HD := Lib.hid hd
    have P1 := Lib.hid (has_any D 120)
    have P2 := Lib.hid (has_any D 88)
    clear hx hd hD HT HC H35
    by_cases c1 : (lst D).head? = some 120
    · rw [decide_eq_true c1] at P1
      have hq := head_size D _ c1
      have HV := Lib.hid (HX.out (Or.inl c1))
      have HW := Lib.hid (fun W => value_16 (D.extract 1 D.size) (by simp; omega) W)
      clear HX HD c1 P2
      go_wp2_with fail
      refine (P1.out _).mono ?_
      rintro e w1 ⟨rfl, rfl⟩
      go_wp2_with fail
      refine (HW.out _).mono ?_
      rintro e w1 ⟨rfl, rfl⟩
      rw [← HV.out]
      clear HV HW P1
      unfold numRet
      go_wp2_with fail
      go_ret2
      exact ⟨rfl, Below.refl _ _⟩
    · rw [decide_eq_false c1] at P1
      by_cases c2 : (lst D).head? = some 88
      · rw [decide_eq_true c2] at P2
        have hq := head_size D _ c2
        have HV := Lib.hid (HX.out (Or.inr c2))
        have HW := Lib.hid (fun W => value_16 (D.extract 1 D.size) (by simp; omega) W)
        clear HX HD c1 c2
        go_wp2_with fail
        refine (P1.out _).mono ?_
        rintro e w1 ⟨rfl, rfl⟩
        go_wp2_with fail
        refine (P2.out _).mono ?_
        rintro e w1 ⟨rfl, rfl⟩
        go_wp2_with fail
        refine (HW.out _).mono ?_
        rintro e w1 ⟨rfl, rfl⟩
        rw [← HV.out]
        clear HV HW P1 P2
        unfold numRet
        go_wp2_with fail
        go_ret2
        exact ⟨rfl, Below.refl _ _⟩
      · rw [decide_eq_false c2] at P2
        have HV := Lib.hid (HD.out (fun h => h.elim c1 c2))
        have HW := Lib.hid (fun W => value_10 D hz W)
        clear HX HD c1 c2
        go_wp2_with fail
        refine (P1.out _).mono ?_
        rintro e w1 ⟨rfl, rfl⟩
        go_wp2_with fail
        refine (P2.out _).mono ?_
        rintro e w1 ⟨rfl, rfl⟩
        go_wp2_with fail
        refine (HW.out _).mono ?_
        rintro e w1 ⟨rfl, rfl⟩
        rw [← HV.out]
        clear HV HW P1 P2
        unfold numRet
        go_wp2_with fail
        go_ret2
        exact ⟨rfl, Below.refl _ _⟩
  · rw [decide_eq_false h35] at HC
    have HE : Hid (∀ W, Calls Tryd.prog 97 #[.string s] W fun e w' => e = numRet (numOf (lst s)) ∧ Below W.heap.size W w') := fun W => by
      refine (entity_any s (by unfold maxLen; omega) W).mono fun e w' ⟨h1, h2⟩ => ⟨?_, h2⟩
      rw [numOf_name _ h35]
      exact h1
    generalize numOf (lst s) = o at *
    clear h35
    go_enter Tryd.func88, Tryd.ntmps88
    go_wp2_with fail
    refine (HC.out _).mono ?_
    rintro e w1 ⟨⟨D, rfl, _⟩, rfl⟩
    go_wp2_with fail
    refine (HE.out _).mono ?_
    rintro e w1 ⟨rfl, hb⟩
    have HB := Lib.hid hb
    clear hb HE HC
    unfold numRet
    go_wp2_with fail
    go_ret2
    exact ⟨rfl, HB.out⟩

/-! ### the entity's text at a place -/
theorem val_bd (b : Nat) (hb : b ≤ 16) : ∀ (ds : List UInt8) (j : Nat) (v u : Int), 0 ≤ v → v < 16 ^ j → val b ds v = some u → 0 ≤ u ∧ u < 16 ^ (j + ds.length)
  | [], j, v, u, h0, h1, h => by
    rw [val] at h
    injection h with h
    subst h
    exact ⟨h0, h1⟩
  | d :: ds, j, v, u, h0, h1, h => by
    rw [val] at h
    by_cases hd : hexV d < b
    · rw [if_pos hd] at h
      have hs := bd_step v j b _ hb hd h0 h1
      have := val_bd b hb ds (j + 1) _ u hs.1 hs.2 h
      rw [List.length_cons, show j + (ds.length + 1) = j + 1 + ds.length by omega]
      exact this
    · rw [if_neg hd] at h; cases h
theorem valE_bd (b : Nat) (hb : b ≤ 16) (ds : List UInt8) (u : Int) (hl : ds.length ≤ 8) (h : valE b ds = some u) : 0 ≤ u ∧ u ≤ 4294967296 := by
  unfold valE at h
  by_cases hd : ds = []
  · rw [if_pos hd] at h; cases h
  · rw [if_neg hd] at h
    have h1 := val_bd b hb ds 0 0 u (by omega) (by decide) h
    have h2 := bd_top (0 + ds.length) (by omega)
    omega
theorem numOf_bd (l : List UInt8) (u : Int) (hl : l.length ≤ 8) (h : numOf l = some u) : 0 ≤ u ∧ u ≤ 4294967296 := by
  unfold numOf at h
  split at h
  · split at h
    · exact valE_bd 16 (by decide) _ u (by rw [List.length_drop]; omega) h
    · exact valE_bd 10 (by decide) _ u (by rw [List.length_drop]; omega) h
  · have := look_bd l u h
    omega
/-- What an Entity leaves. -/
def EntPost (o : Option (Int × Nat)) (w : World) (e : Ending) (w' : World) : Prop := e = .returned (.tuple #[.string ⟨(entB o).toArray⟩, .int .i64 (entN o)]) ∧ Below w.heap.size w w'
theorem empty_is : (⟨([] : List UInt8).toArray⟩ : ByteArray) = { data := #[] } := rfl
theorem post_none (w : World) : EntPost none w (.returned (.tuple #[.string { data := #[] }, .int .i64 0])) w := ⟨rfl, Below.refl _ _⟩
theorem ent_out (s : ByteArray) (a : Int) (h : a < 0 ∨ (s.size : Int) ≤ a) (hs : s.size ≤ 2000000) (w : World) : Calls Tryd.prog 67 #[.string s, .int .i64 a] w (EntPost none w) := by
  rcases h with h | h
  · go_enter Tryd.func67, Tryd.ntmps67
    go_wp2_with fail
    go_ret2
    exact post_none _
  · go_enter Tryd.func67, Tryd.ntmps67
    go_wp2_with fail
    go_ret2
    exact post_none _
theorem u8_back (c : UInt8) : ((c.toNat : Int)).toNat.toUInt8 = c := by simp
theorem ne_u8 (a : UInt8) (n : Nat) (hn : n < 256) (h : a ≠ n.toUInt8) : a.toNat ≠ n := fun e => h (by rw [← e]; simp)
theorem eq_u8 (a : UInt8) (n : Nat) (hn : n < 256) (h : a = n.toUInt8) : a.toNat = n := by
  subst h
  rw [UInt8.toNat_ofNat']
  exact Nat.mod_eq_of_lt hn
theorem lst_head (s : ByteArray) (n : Nat) : lst (s.extract 0 n) = (lst s).take n := by rw [lst_cut, List.drop_zero]
/-- The text behind a place. -/
theorem entAt_amp (t : List UInt8) : entAt (38 :: t) = if Lib.indexByte (t.take 9) 59 < 0 then none else (numOf (t.take (Lib.indexByte (t.take 9) 59).toNat)).map fun v => (v, (Lib.indexByte (t.take 9) 59).toNat + 2) := by rw [entAt, if_pos rfl]

set_option maxHeartbeats 4000000 in
theorem ent_in (s : ByteArray) (p : Nat) (hp : p < s.size) (hs : s.size ≤ 2000000) (w : World) : Calls Tryd.prog 67 #[.string s, .int .i64 p] w (EntPost (entAt ((lst s).drop p)) w) := by
  have hn := (s[p]'hp).toNat_lt
  by_cases h38 : (s[p]'hp) = 38
  · have c0 : (((s[p]'hp).toNat : Int) != 38) = false := by rw [h38]; decide
    obtain ⟨T, hT⟩ : ∃ T : ByteArray, T = s.extract (p + 1) s.size := ⟨_, rfl⟩
    have hTs : T.size ≤ 2000000 := by rw [hT]; simp; omega
    have hTl : lst T = (lst s).drop (p + 1) := by rw [hT]; exact lst_from s (p + 1)
    have HT := Lib.hid hT
    obtain ⟨m, hm, hm2⟩ : ∃ m : Nat, min (T.size : Int) 9 = m ∧ m = min T.size 9 := ⟨min T.size 9, by omega, rfl⟩
    obtain ⟨M, hM⟩ : ∃ M : ByteArray, M = T.extract 0 m := ⟨_, rfl⟩
    have hMl : lst M = (lst T).take 9 := by
      rw [hM, lst_head, hm2]
      by_cases h9 : T.size ≤ 9
      · rw [Nat.min_eq_left h9, List.take_of_length_le (by rw [lst_size]; exact Nat.le_refl _), List.take_of_length_le (by rw [lst_size]; exact h9)]
      · rw [Nat.min_eq_right (by omega)]
    have HM := Lib.hid hM
    have HI : Hid (∀ W, Calls Tryd.prog 48 #[.string M, .int .u8 59] W fun e w' => e = .returned (.int .i64 (Lib.indexByte ((lst T).take 9) 59)) ∧ w' = W) := fun W => by
      refine (Tryd.indexByte M 59 W).mono fun e w' ⟨h1, h2⟩ => ⟨?_, h2⟩
      rw [h1]
      show Ending.returned (.int .i64 (Lib.indexByte (lst M) 59)) = _
      rw [hMl]
    have hent : entAt ((lst s).drop p) = if Lib.indexByte ((lst T).take 9) 59 < 0 then none else (numOf ((lst T).take (Lib.indexByte ((lst T).take 9) 59).toNat)).map fun v => (v, (Lib.indexByte ((lst T).take 9) 59).toNat + 2) := by
      rw [lst_at s p hp, h38, ← hTl, entAt_amp]
    have hle : Lib.indexByte ((lst T).take 9) 59 < 0 ∨ ∃ e : Nat, Lib.indexByte ((lst T).take 9) 59 = e ∧ e ≤ 8 ∧ e ≤ T.size := by
      by_cases h : Lib.indexByte ((lst T).take 9) 59 < 0
      · exact Or.inl h
      · obtain ⟨a, r, h1, h2, h3⟩ := idx_some 59 _ (Int.not_lt.1 h)
        have hl := congrArg List.length h1
        rw [List.length_take, List.length_append, List.length_cons, lst_size] at hl
        exact Or.inr ⟨a.length, h3, by omega, by omega⟩
    have hmT : m ≤ T.size := by omega
    clear hT hM hm2 h38 hTl hMl
    rcases hle with hneg | ⟨e, he, he8, heT⟩
    · rw [if_pos hneg] at hent
      rw [hent]
      clear hent
      generalize Lib.indexByte ((lst T).take 9) 59 = i at *
      go_enter Tryd.func67, Tryd.ntmps67
      go_upto_region 4 with fail
      rw [← HT.out]
      go_wp2_with fail
      rw [← HM.out]
      refine (HI.out _).mono ?_
      rintro e w1 ⟨rfl, rfl⟩
      clear HI HM HT
      go_wp2_with fail
      go_ret2
      exact post_none _
    · rw [he] at hent HI
      rw [if_neg (by omega), Int.toNat_natCast] at hent
      obtain ⟨N, hN⟩ : ∃ N : ByteArray, N = T.extract 0 e := ⟨_, rfl⟩
      have hNl : lst N = (lst T).take e := by rw [hN, lst_head]
      have hNs : N.size ≤ 8 := by rw [← lst_size, hNl, List.length_take]; omega
      rw [← hNl] at hent
      have HN := Lib.hid hN
      have HU := Lib.hid (fun W => numberOf_any N hNs W)
      have hbd : ∀ u, numOf (lst N) = some u → 0 ≤ u ∧ u ≤ 4294967296 := fun u h => numOf_bd _ u (by rw [lst_size]; exact hNs) h
      rw [hent]
      clear hent hN hNl he
      generalize numOf (lst N) = o at *
      cases o with
      | none =>
        clear hbd
        go_enter Tryd.func67, Tryd.ntmps67
        go_upto_region 4 with fail
        rw [← HT.out]
        go_wp2_with fail
        rw [← HM.out]
        refine (HI.out _).mono ?_
        rintro e w1 ⟨rfl, rfl⟩
        clear HI HM HT
        go_wp2_with fail
        rw [← HN.out]
        refine (HU.out _).mono ?_
        rintro e w1 ⟨rfl, hb⟩
        have HB := Lib.hid hb
        clear hb HU HN
        unfold numRet
        go_wp2_with fail
        go_ret2
        exact ⟨rfl, HB.out⟩
      | some v =>
        obtain ⟨hv0, hv1⟩ := hbd v rfl
        clear hbd
        have HK := Lib.hid (fun W => character_any v hv0 hv1 W)
        go_enter Tryd.func67, Tryd.ntmps67
        go_upto_region 4 with fail
        rw [← HT.out]
        go_wp2_with fail
        rw [← HM.out]
        refine (HI.out _).mono ?_
        rintro e w1 ⟨rfl, rfl⟩
        clear HI HM HT
        go_wp2_with fail
        rw [← HN.out]
        refine (HU.out _).mono ?_
        rintro e w1 ⟨rfl, hb⟩
        have HB := Lib.hid hb
        clear hb HU HN
        unfold numRet
        go_wp2_with fail
        refine (HK.out _).mono ?_
        rintro e w1 ⟨rfl, rfl⟩
        clear HK
        go_wp2_with fail
        go_ret2
        exact ⟨by show _ = _; congr 4; simp [entN]; omega, HB.out⟩
  · have c0 : (((s[p]'hp).toNat : Int) != 38) = true := by
      have := ne_u8 _ 38 (by decide) h38
      rw [bne_iff_ne]
      omega
    have HV : Hid (entAt ((lst s).drop p) = none) := show entAt ((lst s).drop p) = none from by rw [lst_at s p hp, entAt_not _ _ h38]
    rw [HV.out]
    clear h38 HV
    go_enter Tryd.func67, Tryd.ntmps67
    go_wp2_with fail
    go_ret2
    exact post_none _
end Go.Proofs.YtfoheffbapifpaaDoor
