/-
  PROVED: contract of link.Define: the definition at a place and how many bytes it has ('defL'). Conditions: the text has at most 1000000 bytes.
-/
import Derived.Test.YtfoheffbapifpaaDoorDefWays
import Derived.Test.YtfoheffbapifpaaDoorDefPure
namespace Go.Proofs.YtfoheffbapifpaaDoor
open Go.ChangeShapes Go.WideShapes Go.ChangeAt Go.RowKit Go.Sort
set_option linter.unusedVariables false

/-- What Define answers. -/
def defV (a : Int) : Option (List UInt8 × List UInt8 × List UInt8 × Nat × Nat) → Value
  | some (x, y, z, t, n) => .tuple #[.agg #[.string ⟨x.toArray⟩, .string ⟨y.toArray⟩, .string ⟨z.toArray⟩, .int .i64 a, .int .i64 (a + t)], .int .i64 n]
  | none => .tuple #[.agg #[.string { data := #[] }, .string { data := #[] }, .string { data := #[] }, .int .i64 0, .int .i64 0], .int .i64 0]
theorem frm_pos (s : ByteArray) (a : Int) (h : frm s a ≠ []) : ∃ p : Nat, a = p ∧ p < s.size ∧ frm s a = (lst s).drop p := by
  by_cases h0 : a < 0 ∨ (s.size : Int) ≤ a
  · exact absurd (frm_out s a h0) h
  · refine ⟨a.toNat, by omega, by omega, ?_⟩
    rw [show a = (a.toNat : Int) by omega, frm_in s a.toNat (by omega)]
    rfl
theorem lab_lt (s : ByteArray) (a : Int) (h : (labP (frm s a)).2 ≠ 0) : frm s a ≠ [] := fun e => h (by rw [e]; rfl)
theorem dlen (s : ByteArray) (p : Nat) : ((lst s).drop p).length = s.size - p := by rw [List.length_drop, lst_size]
theorem defV_some (p : Nat) (x y z : List UInt8) (t n : Nat) (X Y Z : ByteArray) (T N : Int) (hX : (⟨x.toArray⟩ : ByteArray) = X) (hY : (⟨y.toArray⟩ : ByteArray) = Y) (hZ : (⟨z.toArray⟩ : ByteArray) = Z) (hT : (p : Int) + t = T) (hN : (n : Int) = N) :
    Value.tuple #[.agg #[.string X, .string Y, .string Z, .int .i64 p, .int .i64 T], .int .i64 N] = defV p (some (x, y, z, t, n)) := by
  subst hX hY hZ hT hN
  rfl

theorem define_any (s : ByteArray) (a : Int) (hs : s.size ≤ 1000000) (w : World) : Calls Tryd.prog 14 #[.string s, .int .i64 a] w fun r w' => r = .returned (defV a (defL (frm s a))) ∧ Below w.heap.size w w' := by
  have hL := fun W => label_any s a hs W
  rcases def_ways (frm s a) with ⟨h0, hd⟩ | ⟨x, n, hl, hn, hnl, hxl, hrest⟩
  · rw [hd]
    exact def_a s _ a _ hs h0 hL w
  have hne : frm s a ≠ [] := lab_lt s a (by rw [hl]; show n ≠ 0; omega)
  obtain ⟨p, rfl, hp, hf⟩ := frm_pos s a hne
  rw [hl] at hL
  rw [hf] at hnl hrest hl ⊢
  clear hne hf
  rw [dlen] at hnl
  simp only [List.drop_drop] at hrest
  have h25 : ∀ W, Calls Tryd.prog 25 #[.string (s.extract (p + n) s.size), .string { data := #[58] }] W fun r w' => r = .returned (.bool (decide (((lst s).drop (p + n)).head? = some 58))) ∧ w' = W := fun W => by
    have h := has_any (s.extract (p + n) s.size) 58 W
    rw [lst_from] at h
    exact h
  rcases hrest with ⟨h58, hd⟩ | ⟨h58, hn1, hrest⟩
  · rw [hd]
    rw [decide_eq_false h58] at h25
    exact def_b s _ p n hs (by omega) hn hL h25 w
  rw [decide_eq_true h58] at h25
  rw [dlen] at hn1
  have hpn : p + n + 1 ≤ s.size := by omega
  have h29 := fun W => behind_any s (p + n + 1) hpn hs W
  rw [show ((p + n + 1 : Nat) : Int) = (p : Int) + n + 1 by omega] at h29
  rw [← Nat.add_assoc p n 1] at hrest
  rcases hrest with ⟨hc, hd⟩ | ⟨hc, q, y, k, hq, hql, hdst, hrest⟩
  · rw [hd]
    rw [decide_eq_false (by omega)] at h29
    exact def_c s _ p n _ hs hpn hn hL h25 h29 w
  rw [decide_eq_true hc] at h29
  rw [dlen] at hql
  rw [show p + n + 1 + gapN ((lst s).drop (p + n + 1)) = p + q by omega] at h29
  have h10 := fun W => dest_any s ((p + q : Nat) : Int) hs W
  rw [frm_in s (p + q) (by omega), hdst] at h10
  rcases hrest with ⟨hk, hd⟩ | ⟨hk, hqk, hd⟩
  · rw [hd]
    exact def_d s _ _ p n (p + q) k hs hpn hn (by omega) hk hL h25 h29 h10 w
  rw [dlen] at hqk
  rw [hd]
  clear hd
  obtain ⟨X, hX, hX2⟩ := made x
  have hXs : X.size ≤ 2000000 := by rw [← lst_size, hX]; omega
  have h17 := fun W => fold_any X hXs W
  simp only [pairV, hX2] at hL
  rw [show X.data.toList = x from hX] at h17
  have h30 := fun W => titB_any s (p + q + k) (by omega) hs W
  have h31 := fun W => lineEnd_any s (p + q + k) (by omega) hs W
  rw [show ((p + q + k : Nat) : Int) = ((p + q : Nat) : Int) + k by omega] at h30 h31
  rw [show p + (q + k) = p + q + k by omega]
  rcases fin_ways (foldB x) y (q + k) ((lst s).drop (p + q + k)) with ⟨hT, hv⟩ | ⟨v, e, hT, he, hel, hr, hv⟩ | ⟨v, e, m, hT, he, hel, hr, hem, hv⟩
  · rw [hv]
    rw [hT] at h30
    cases hm : restL ((lst s).drop (p + q + k)) with
    | none =>
      rw [hm] at h31
      exact def_nh s X _ _ p n (p + q) k hs hpn hn (by omega) (by omega) hk hL h25 h29 h10 h17 h30 h31 w
    | some m =>
      have hmb := rest_le _ _ hm
      rw [dlen] at hmb
      rw [hm] at h31
      refine (def_ng s X _ _ p n (p + q) k (p + q + k + m) hs hpn hn (by omega) (by omega) hk (by omega) hL h25 h29 h10 h17 h30 h31 w).mono fun r w' ⟨h1, h2⟩ => ⟨?_, h2⟩
      rw [h1]
      exact congrArg Ending.returned (defV_some p _ _ [] (q + k) (q + k + m) _ _ _ _ _ rfl rfl rfl (by omega) (by omega))
  · rw [hv]
    rw [hT] at h30
    rw [dlen] at hel
    have h31e := fun W => lineEnd_any s (p + q + k + e) (by omega) hs W
    rw [← List.drop_drop, hr] at h31e
    cases hm : restL ((lst s).drop (p + q + k)) with
    | none =>
      rw [hm] at h31
      exact def_fh s X _ _ _ p n (p + q) k (p + q + k + e) hs hpn hn (by omega) (by omega) hk (by omega) (by omega) hL h25 h29 h10 h17 h30 h31e h31 w
    | some m =>
      have hmb := rest_le _ _ hm
      rw [dlen] at hmb
      rw [hm] at h31
      refine (def_fg s X _ _ _ p n (p + q) k (p + q + k + e) (p + q + k + m) hs hpn hn (by omega) (by omega) hk (by omega) (by omega) (by omega) hL h25 h29 h10 h17 h30 h31e h31 w).mono fun r w' ⟨h1, h2⟩ => ⟨?_, h2⟩
      rw [h1]
      exact congrArg Ending.returned (defV_some p _ _ [] (q + k) (q + k + m) _ _ _ _ _ rfl rfl rfl (by omega) (by omega))
  · rw [hv]
    rw [hT] at h30
    rw [dlen] at hel hem
    have h31e := fun W => lineEnd_any s (p + q + k + e) (by omega) hs W
    rw [← List.drop_drop, hr] at h31e
    refine (def_e s X _ _ _ p n (p + q) k (p + q + k + e) (p + q + k + e + m) hs hpn hn (by omega) (by omega) hk (by omega) (by omega) (by omega) hL h25 h29 h10 h17 h30 h31e w).mono fun r w' ⟨h1, h2⟩ => ⟨?_, h2⟩
    rw [h1]
    exact congrArg Ending.returned (defV_some p _ _ v (q + k + e) (q + k + (e + m)) _ _ _ _ _ rfl rfl rfl (by omega) (by omega))
end Go.Proofs.YtfoheffbapifpaaDoor
