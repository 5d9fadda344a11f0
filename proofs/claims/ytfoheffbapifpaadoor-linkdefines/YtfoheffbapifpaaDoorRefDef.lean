/-
  PROVED: contract of the document's own Define: the definition at a place and how many bytes it has ('defL'). Conditions: the text has at most 1000000 bytes.
-/
import Derived.Test.YtfoheffbapifpaaDoorRefWays
import Derived.Test.YtfoheffbapifpaaDoorDefAny
import Derived.Test.YtfoheffbapifpaaDoorRefDest
import Derived.Test.YtfoheffbapifpaaDoorRefFold2
namespace Go.Proofs.YtfoheffbapifpaaDoor
open Go.ChangeShapes Go.WideShapes Go.ChangeAt Go.RowKit Go.Sort
set_option linter.unusedVariables false

theorem restV_some (p : Nat) (l : List UInt8) (m : Nat) (h : restL l = some m) : restV p l = ((p + m : Nat) : Int) := by unfold restV; rw [h]; rfl
theorem restV_none (p : Nat) (l : List UInt8) (h : restL l = none) : restV p l = -1 := by unfold restV; rw [h]; rfl
theorem refDefine_any (s : ByteArray) (a : Int) (hs : s.size ≤ 1000000) (w : World) : Calls Tryd.prog 15 #[.string s, .int .i64 a] w fun r w' => r = .returned (defV a (defL (frm s a))) ∧ Below w.heap.size w w' := by
  have hL := fun W => refLabel_any s a hs W
  rcases def_ways (frm s a) with ⟨h0, hd⟩ | ⟨x, n, hl, hn, hnl, hxl, hrest⟩
  · rw [hd]
    exact rdef_a s _ a _ hs h0 hL w
  have hne : frm s a ≠ [] := lab_lt s a (by rw [hl]; show n ≠ 0; omega)
  obtain ⟨p, rfl, hp, hf⟩ := frm_pos s a hne
  rw [hl] at hL
  rw [hf] at hnl hrest hl ⊢
  clear hne hf
  rw [dlen] at hnl
  simp only [List.drop_drop] at hrest
  rcases hrest with ⟨h58, hd⟩ | ⟨h58, hn1, hrest⟩
  · rw [hd]
    by_cases hpn : p + n < s.size
    · rw [lst_at s (p + n) hpn] at h58
      exact rdef_b2 s _ p n hs hpn hn (fun e => h58 (by rw [e]; rfl)) hL w
    · exact rdef_b1 s _ p n hs (by omega) (by omega) (by omega) hn hL w
  rw [dlen] at hn1
  have hpn : p + n < s.size := by omega
  have h58' : (s[p + n]'hpn) = 58 := by
    rw [lst_at s (p + n) hpn] at h58
    simpa using h58
  have h32 := fun W => refGap_any s (p + n + 1) (by omega) hs W
  rw [show ((p + n + 1 : Nat) : Int) = (p : Int) + n + 1 by omega] at h32
  rw [← Nat.add_assoc p n 1] at hrest
  unfold gapV at h32
  rcases hrest with ⟨hc, hd⟩ | ⟨hc, q, y, k, hq, hql, hdst, hrest⟩
  · rw [hd]
    rw [if_neg (by omega)] at h32
    exact rdef_c s _ p n hs hpn hn h58' hL h32 w
  rw [if_pos hc] at h32
  rw [dlen] at hql
  rw [show p + n + 1 + gapN ((lst s).drop (p + n + 1)) = p + q by omega] at h32
  have h11 := fun W => refDest_any s ((p + q : Nat) : Int) hs W
  rw [frm_in s (p + q) (by omega), hdst] at h11
  rcases hrest with ⟨hk, hd⟩ | ⟨hk, hqk, hd⟩
  · rw [hd]
    exact rdef_d s _ _ p n (p + q) k hs hpn hn h58' (by omega) hk hL h32 h11 w
  rw [dlen] at hqk
  rw [hd]
  clear hd
  obtain ⟨X, hX, hX2⟩ := made x
  have hXs : X.size ≤ 2000000 := by rw [← lst_size, hX]; omega
  have h33 := fun W => refFold_any X hXs W
  simp only [pairV, hX2] at hL
  rw [show X.data.toList = x from hX] at h33
  have h34 := fun W => refRest_any s (p + q + k) (by omega) hs W
  have h32b := fun W => refGap_any s (p + q + k) (by omega) hs W
  rw [show ((p + q + k : Nat) : Int) = ((p + q : Nat) : Int) + k by omega] at h34 h32b
  rw [show p + (q + k) = p + q + k by omega]
  have eD : ∀ j, (lst s).drop (p + q + k + j) = ((lst s).drop (p + q + k)).drop j := fun j => by rw [List.drop_drop]
  have hgl := gapN_le ((lst s).drop (p + q + k))
  rw [dlen] at hgl
  have hrl : ∀ m, restL ((lst s).drop (p + q + k)) = some m → p + q + k + m ≤ s.size := fun m hm => by
    have h := rest_le _ _ hm
    rw [dlen] at h
    omega
  have fin : ∀ m : Nat, Ending.returned (Value.tuple #[.agg #[.string ⟨(foldB x).toArray⟩, .string ⟨y.toArray⟩, .string { data := #[] }, .int .i64 p, .int .i64 (((p + q : Nat) : Int) + k)], .int .i64 (((p + q + k + m : Nat) : Int) - p)]) = .returned (defV p (some (foldB x, y, [], q + k, q + k + m))) := fun m =>
    congrArg Ending.returned (defV_some p _ _ [] (q + k) (q + k + m) _ _ _ _ _ rfl rfl rfl (by omega) (by omega))
  have fw := fin_ways (foldB x) y (q + k) ((lst s).drop (p + q + k))
  unfold gapV at h32b
  rcases titB_ways ((lst s).drop (p + q + k)) with ⟨hT, hw⟩ | ⟨hT, hc1, hg0, ht0⟩ | ⟨hc1, hg0, ht0, htl, hT⟩
  · have hv : finL (foldB x) y (q + k) ((lst s).drop (p + q + k)) = (restL ((lst s).drop (p + q + k))).map fun n => (foldB x, y, [], q + k, q + k + n) := by
      rcases fw with ⟨_, h⟩ | ⟨v, e, h, _⟩ | ⟨v, e, m, h, _⟩
      · exact h
      · rw [hT] at h; cases h
      · rw [hT] at h; cases h
    rw [hv]
    have hbg : (if gapC ((lst s).drop (p + q + k)) ≤ 1 then ((p + q + k + gapN ((lst s).drop (p + q + k)) : Nat) : Int) else -1) ≤ ((p + q : Nat) : Int) + k := by
      split <;> omega
    cases hm : restL ((lst s).drop (p + q + k)) with
    | none =>
      rw [restV_none _ _ hm] at h34
      exact rdef_t0n s X _ _ p n (p + q) k _ hs hpn hn h58' (by omega) (by omega) hk hbg hL h32 h11 h33 h34 h32b w
    | some m =>
      rw [restV_some _ _ m hm] at h34
      refine (rdef_t0g s X _ _ p n (p + q) k (p + q + k + m) _ hs hpn hn h58' (by omega) (by omega) hk (hrl m hm) hbg hL h32 h11 h33 h34 h32b w).mono fun r w' ⟨h1, h2⟩ => ⟨?_, h2⟩
      rw [h1]
      exact fin m
  · have hv : finL (foldB x) y (q + k) ((lst s).drop (p + q + k)) = (restL ((lst s).drop (p + q + k))).map fun n => (foldB x, y, [], q + k, q + k + n) := by
      rcases fw with ⟨_, h⟩ | ⟨v, e, h, _⟩ | ⟨v, e, m, h, _⟩
      · exact h
      · rw [hT] at h; cases h
      · rw [hT] at h; cases h
    rw [hv]
    rw [if_pos hc1] at h32b
    have h13 := fun W => refTitle_any s ((p + q + k + gapN ((lst s).drop (p + q + k)) : Nat) : Int) hs W
    rw [frm_in s _ (by omega), eD] at h13
    cases hm : restL ((lst s).drop (p + q + k)) with
    | none =>
      rw [restV_none _ _ hm] at h34
      exact rdef_t1n s X _ _ _ p n (p + q) k _ _ hs hpn hn h58' (by omega) (by omega) hk (by omega) (by omega) ht0 hL h32 h11 h33 h34 h32b h13 w
    | some m =>
      rw [restV_some _ _ m hm] at h34
      refine (rdef_t1g s X _ _ _ p n (p + q) k (p + q + k + m) _ _ hs hpn hn h58' (by omega) (by omega) hk (by omega) (by omega) (hrl m hm) ht0 hL h32 h11 h33 h34 h32b h13 w).mono fun r w' ⟨h1, h2⟩ => ⟨?_, h2⟩
      rw [h1]
      exact fin m
  · rw [if_pos hc1] at h32b
    have h13 := fun W => refTitle_any s ((p + q + k + gapN ((lst s).drop (p + q + k)) : Nat) : Int) hs W
    rw [frm_in s _ (by omega), eD] at h13
    rw [dlen] at htl
    generalize titleP (((lst s).drop (p + q + k)).drop (gapN ((lst s).drop (p + q + k)))) = tv at *
    obtain ⟨v, t⟩ := tv
    simp only [] at hT ht0 htl
    have h34e := fun W => refRest_any s (p + q + k + gapN ((lst s).drop (p + q + k)) + t) (by omega) hs W
    rw [show ((p + q + k + gapN ((lst s).drop (p + q + k)) + t : Nat) : Int) = ((p + q + k + gapN ((lst s).drop (p + q + k)) : Nat) : Int) + t by omega, Nat.add_assoc (p + q + k), eD] at h34e
    rcases fw with ⟨h, _⟩ | ⟨v', e, h, he, hel, hr, hv⟩ | ⟨v', e, m, h, he, hel, hr, hem, hv⟩
    · rw [hT] at h; cases h
    · rw [hT] at h
      cases h
      rw [hv]
      rw [restV_none _ _ hr] at h34e
      cases hm : restL ((lst s).drop (p + q + k)) with
      | none =>
        rw [restV_none _ _ hm] at h34
        exact rdef_t2n s X _ _ _ p n (p + q) k _ _ hs hpn hn h58' (by omega) (by omega) hk (by omega) (by omega) ht0 (by omega) hL h32 h11 h33 h34 h32b h13 h34e w
      | some m =>
        rw [restV_some _ _ m hm] at h34
        refine (rdef_t2g s X _ _ _ p n (p + q) k (p + q + k + m) _ _ hs hpn hn h58' (by omega) (by omega) hk (by omega) (by omega) (hrl m hm) ht0 (by omega) hL h32 h11 h33 h34 h32b h13 h34e w).mono fun r w' ⟨h1, h2⟩ => ⟨?_, h2⟩
        rw [h1]
        exact fin m
    · rw [hT] at h
      cases h
      rw [hv]
      rw [dlen] at hem
      rw [restV_some _ _ m hr] at h34e
      refine (rdef_e s X _ _ _ p n (p + q) k _ _ (p + q + k + (gapN ((lst s).drop (p + q + k)) + t) + m) _ hs hpn hn h58' (by omega) (by omega) hk (by omega) (by omega) ht0 (by omega) (by omega) hL h32 h11 h33 h34 h32b h13 h34e w).mono fun r w' ⟨h1, h2⟩ => ⟨?_, h2⟩
      rw [h1]
      exact congrArg Ending.returned (defV_some p _ _ v (q + k + (gapN ((lst s).drop (p + q + k)) + t)) (q + k + (gapN ((lst s).drop (p + q + k)) + t + m)) _ _ _ _ _ rfl rfl rfl (by omega) (by omega))
end Go.Proofs.YtfoheffbapifpaaDoor
