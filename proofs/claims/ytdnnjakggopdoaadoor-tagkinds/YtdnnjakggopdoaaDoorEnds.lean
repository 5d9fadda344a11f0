/-
  PROVED: contracts of tag.endsVerbatim and tag.Ends: is a line the last one of an HTML block? Conditions: the tables of the package hold what their initialisers lay; the text has at most 1000000 bytes.
-/
import Derived.Test.YtdnnjakggopdoaaDoorVerb
namespace Go.Proofs.YtdnnjakggopdoaaDoor
open Go.ChangeShapes Go.WideShapes Go.ChangeAt Go.RowKit Go.Sort
set_option linter.unusedVariables false
set_option linter.unusedSimpArgs false

/-- Has a text the end of the i-th of the verbatim tags in it? -/
def isVe (l : List UInt8) (i : Nat) : Bool := Lib.contains (l.map lowb) (vend i)
def endV (l : List UInt8) : Bool := isVe l 0 || isVe l 1 || isVe l 2 || isVe l 3
def endsL (l : List UInt8) (k : Int) : Bool := if k = 1 then endV l else if k < 2 ∨ 6 ≤ k then false else Lib.contains l (oend (k - 2).toNat)
theorem has_lit (s p : ByteArray) (q : List UInt8) (hq : lst p = q) (hs : s.size ≤ 1000000) (w : World) (hG : Glob w) : Calls Tryd.prog 38 #[.string s, .string p] w fun e w' => e = .returned (.bool (Lib.contains (lst s) q)) ∧ w' = w := by
  subst hq
  obtain ⟨m, hm⟩ := hG.m
  exact Tryd.contains s p m w (by omega) hm

set_option maxHeartbeats 16000000 in
theorem endV_any (s : ByteArray) (hs : s.size ≤ 1000000) (w : World) (hG : Glob w) :
    Calls Tryd.prog 37 #[.string s] w fun e w' => e = .returned (.bool (endV (lst s))) ∧ RowKit.Below w.heap.size w w' := by
  have HG := Lib.hid (fun w' (hb : RowKit.Below w.heap.size w w') => hG.under hb)
  obtain ⟨A, hA⟩ : ∃ A : ByteArray, A = ⟨((lst s).map lowb).toArray⟩ := ⟨_, rfl⟩
  have hAl : lst A = (lst s).map lowb := by rw [hA, lst_mk]
  have HS : Hid (∀ W, Calls Tryd.prog 51 #[.string s] W fun e w' => e = .returned (.string A) ∧ RowKit.Below W.heap.size W w') := fun W => by rw [hA]; exact smallP_any s hs W
  have hAs : A.size ≤ 1000000 := by rw [← lst_size, hAl, List.length_map, lst_size]; exact hs
  have C0 : Hid (∀ W, Glob W → Calls Tryd.prog 38 #[.string A, .string { data := #[60, 47, 112, 114, 101, 62] }] W fun e w' => e = .returned (.bool (isVe (lst s) 0)) ∧ w' = W) := fun W hW => by
    unfold isVe
    rw [← hAl]
    exact has_lit A ({ data := #[60, 47, 112, 114, 101, 62] } : ByteArray) (vend 0) rfl hAs W hW
  have C1 : Hid (∀ W, Glob W → Calls Tryd.prog 38 #[.string A, .string { data := #[60, 47, 115, 99, 114, 105, 112, 116, 62] }] W fun e w' => e = .returned (.bool (isVe (lst s) 1)) ∧ w' = W) := fun W hW => by
    unfold isVe
    rw [← hAl]
    exact has_lit A ({ data := #[60, 47, 115, 99, 114, 105, 112, 116, 62] } : ByteArray) (vend 1) rfl hAs W hW
  have C2 : Hid (∀ W, Glob W → Calls Tryd.prog 38 #[.string A, .string { data := #[60, 47, 115, 116, 121, 108, 101, 62] }] W fun e w' => e = .returned (.bool (isVe (lst s) 2)) ∧ w' = W) := fun W hW => by
    unfold isVe
    rw [← hAl]
    exact has_lit A ({ data := #[60, 47, 115, 116, 121, 108, 101, 62] } : ByteArray) (vend 2) rfl hAs W hW
  have C3 : Hid (∀ W, Glob W → Calls Tryd.prog 38 #[.string A, .string { data := #[60, 47, 116, 101, 120, 116, 97, 114, 101, 97, 62] }] W fun e w' => e = .returned (.bool (isVe (lst s) 3)) ∧ w' = W) := fun W hW => by
    unfold isVe
    rw [← hAl]
    exact has_lit A ({ data := #[60, 47, 116, 101, 120, 116, 97, 114, 101, 97, 62] } : ByteArray) (vend 3) rfl hAs W hW
  clear hA hAl hAs hG
  go_enter Tryd.func37, Tryd.ntmps37
  go_wp2_with fail
  refine (HS.out _).mono ?_
  rintro e w1 ⟨rfl, hb1⟩
  have B1 := Lib.hid hb1
  have G1 := Lib.hid (HG.out _ hb1)
  have v0 := G1.out.v0
  have v1 := G1.out.v1
  have v2 := G1.out.v2
  have v3 := G1.out.v3
  have v4 := G1.out.v4
  have v5 := G1.out.v5
  have v6 := G1.out.v6
  have v7 := G1.out.v7
  have v8 := G1.out.v8
  have v9 := G1.out.v9
  have v10 := G1.out.v10
  have v11 := G1.out.v11
  clear hb1 HS
  go_wp2_with fail
  clear v0 v1 v2 v3 v4 v5 v6 v7 v8 v9 v10 v11
  go_loopw [9] (fun i wr => ZRel (isVe (lst s)) w i wr) (fun i _ => 4 - (intOf i).toNat)
  case atStart => exact ⟨B1.out, .inl rfl⟩
  case round =>
    obtain ⟨hB, hrel⟩ := hrel
    have HB := Lib.hid hB
    have hsz := hB.size
    clear hB
    rcases hrel with rfl | ⟨rfl, h0⟩ | ⟨rfl, h0, h1⟩ | ⟨rfl, h0, h1, h2⟩ | ⟨rfl, h0, h1, h2, h3⟩
    · skip
      have HA := Lib.hid (HB.out.alloc hsz (.cells #[.string { data := #[60, 112, 114, 101] }, .bool false, .string { data := #[60, 47, 112, 114, 101, 62] }] 32))
      have GA := Lib.hid (HG.out _ HA.out)
      have k := idx_v0
      obtain ⟨v, hv⟩ : ∃ v, v = isVe (lst s) 0 := ⟨_, rfl⟩
      rw [← hv] at C0
      have H := Lib.hid hv.symm
      clear hv
      cases v
      · go_wp2_with fail
        refine (C0.out _ GA.out).mono ?_
        rintro e w2 ⟨rfl, rfl⟩
        go_wp2_with fail
        go_roundw
        case rel => exact ⟨HA.out, .inr (.inl ⟨rfl, H.out⟩)⟩
        case measure => simp [intOf]
      · go_wp2_with fail
        refine (C0.out _ GA.out).mono ?_
        rintro e w2 ⟨rfl, rfl⟩
        go_wp2_with fail
        go_ret
        exact ⟨ret_bool (by unfold endV; rw [H.out]; rfl), HA.out⟩
    · skip
      replace h0 := Lib.hid h0
      have HA := Lib.hid (HB.out.alloc hsz (.cells #[.string { data := #[60, 115, 99, 114, 105, 112, 116] }, .bool false, .string { data := #[60, 47, 115, 99, 114, 105, 112, 116, 62] }] 32))
      have GA := Lib.hid (HG.out _ HA.out)
      have k := idx_v1
      obtain ⟨v, hv⟩ : ∃ v, v = isVe (lst s) 1 := ⟨_, rfl⟩
      rw [← hv] at C1
      have H := Lib.hid hv.symm
      clear hv
      cases v
      · go_wp2_with fail
        refine (C1.out _ GA.out).mono ?_
        rintro e w2 ⟨rfl, rfl⟩
        go_wp2_with fail
        go_roundw
        case rel => exact ⟨HA.out, .inr (.inr (.inl ⟨rfl, h0.out, H.out⟩))⟩
        case measure => simp [intOf]
      · go_wp2_with fail
        refine (C1.out _ GA.out).mono ?_
        rintro e w2 ⟨rfl, rfl⟩
        go_wp2_with fail
        go_ret
        exact ⟨ret_bool (by unfold endV; rw [h0.out, H.out]; rfl), HA.out⟩
    · skip
      replace h0 := Lib.hid h0
      replace h1 := Lib.hid h1
      have HA := Lib.hid (HB.out.alloc hsz (.cells #[.string { data := #[60, 115, 116, 121, 108, 101] }, .bool false, .string { data := #[60, 47, 115, 116, 121, 108, 101, 62] }] 32))
      have GA := Lib.hid (HG.out _ HA.out)
      have k := idx_v2
      obtain ⟨v, hv⟩ : ∃ v, v = isVe (lst s) 2 := ⟨_, rfl⟩
      rw [← hv] at C2
      have H := Lib.hid hv.symm
      clear hv
      cases v
      · go_wp2_with fail
        refine (C2.out _ GA.out).mono ?_
        rintro e w2 ⟨rfl, rfl⟩
        go_wp2_with fail
        go_roundw
        case rel => exact ⟨HA.out, .inr (.inr (.inr (.inl ⟨rfl, h0.out, h1.out, H.out⟩)))⟩
        case measure => simp [intOf]
      · go_wp2_with fail
        refine (C2.out _ GA.out).mono ?_
        rintro e w2 ⟨rfl, rfl⟩
        go_wp2_with fail
        go_ret
        exact ⟨ret_bool (by unfold endV; rw [h0.out, h1.out, H.out]; rfl), HA.out⟩
    · skip
      replace h0 := Lib.hid h0
      replace h1 := Lib.hid h1
      replace h2 := Lib.hid h2
      have HA := Lib.hid (HB.out.alloc hsz (.cells #[.string { data := #[60, 116, 101, 120, 116, 97, 114, 101, 97] }, .bool false, .string { data := #[60, 47, 116, 101, 120, 116, 97, 114, 101, 97, 62] }] 32))
      have GA := Lib.hid (HG.out _ HA.out)
      have k := idx_v3
      obtain ⟨v, hv⟩ : ∃ v, v = isVe (lst s) 3 := ⟨_, rfl⟩
      rw [← hv] at C3
      have H := Lib.hid hv.symm
      clear hv
      cases v
      · go_wp2_with fail
        refine (C3.out _ GA.out).mono ?_
        rintro e w2 ⟨rfl, rfl⟩
        go_wp2_with fail
        go_roundw
        case rel => exact ⟨HA.out, .inr (.inr (.inr (.inr ⟨rfl, h0.out, h1.out, h2.out, H.out⟩)))⟩
        case measure => simp [intOf]
      · go_wp2_with fail
        refine (C3.out _ GA.out).mono ?_
        rintro e w2 ⟨rfl, rfl⟩
        go_wp2_with fail
        go_ret
        exact ⟨ret_bool (by unfold endV; rw [h0.out, h1.out, h2.out, H.out]; rfl), HA.out⟩
    · skip
      replace h0 := Lib.hid h0
      replace h1 := Lib.hid h1
      replace h2 := Lib.hid h2
      replace h3 := Lib.hid h3
      go_wp2_with fail
      go_ret
      exact ⟨ret_bool (by unfold endV; rw [h0.out, h1.out, h2.out, h3.out]; rfl), HB.out⟩

set_option maxHeartbeats 8000000 in
theorem ends_any (s : ByteArray) (hs : s.size ≤ 1000000) (k : Int) (hk : -9223372036854775808 ≤ k ∧ k ≤ 9223372036854775807) (w : World) (hG : Glob w) :
    Calls Tryd.prog 15 #[.string s, .int .i64 k] w fun e w' => e = .returned (.bool (endsL (lst s) k)) ∧ RowKit.Below w.heap.size w w' := by
  by_cases h1 : k = 1
  · subst h1
    have HE : Hid (∀ W, Glob W → Calls Tryd.prog 37 #[.string s] W fun e w' => e = .returned (.bool (endsL (lst s) 1)) ∧ RowKit.Below W.heap.size W w') := fun W hW => endV_any s hs W hW
    have HG := Lib.hid hG
    generalize endsL (lst s) 1 = v at *
    clear hG
    go_enter Tryd.func15, Tryd.ntmps15
    go_wp2_with fail
    refine (HE.out _ HG.out).mono ?_
    rintro e w1 ⟨rfl, hb1⟩
    have B1 := Lib.hid hb1
    clear hb1
    go_wp2_with fail
    go_ret
    exact ⟨rfl, B1.out⟩
  · have q1 : (k == 1) = false := by simpa using h1
    by_cases h2 : k < 2 ∨ 6 ≤ k
    · have HV : Hid (endsL (lst s) k = false) := show _ = _ from by unfold endsL; rw [if_neg h1, if_pos h2]
      clear hG
      rcases h2 with h2 | h2
      · have q2 : decide (k < 2) = true := by simpa using h2
        clear h1
        go_enter Tryd.func15, Tryd.ntmps15
        go_wp2_with fail
        go_ret
        exact ⟨ret_bool (by rw [HV.out]), Below.refl _ _⟩
      · have q2 : decide (k < 2) = false := by simp; omega
        have q3 : decide (6 ≤ k) = true := by simpa using h2
        clear h1
        go_enter Tryd.func15, Tryd.ntmps15
        go_wp2_with fail
        go_ret
        exact ⟨ret_bool (by rw [HV.out]), Below.refl _ _⟩
    · have hk4 : k = 2 ∨ k = 3 ∨ k = 4 ∨ k = 5 := by omega
      clear h1 h2 q1
      have HG := Lib.hid hG
      have o0 := hG.o0
      have o1 := hG.o1
      have o2 := hG.o2
      have o3 := hG.o3
      have o4 := hG.o4
      have o5 := hG.o5
      have o6 := hG.o6
      have o7 := hG.o7
      have o8 := hG.o8
      have o9 := hG.o9
      have o10 := hG.o10
      have o11 := hG.o11
      clear hG
      rcases hk4 with rfl | rfl | rfl | rfl
      · have HC : Hid (∀ W, Glob W → Calls Tryd.prog 38 #[.string s, .string { data := #[45, 45, 62] }] W fun e w' => e = .returned (.bool (endsL (lst s) 2)) ∧ w' = W) := fun W hW => has_lit s ({ data := #[45, 45, 62] } : ByteArray) (oend 0) rfl hs W hW
        generalize endsL (lst s) 2 = v at *
        go_enter Tryd.func15, Tryd.ntmps15
        go_wp2_with fail
        refine (HC.out _ HG.out).mono ?_
        rintro e w1 ⟨rfl, rfl⟩
        go_wp2_with fail
        go_ret
        exact ⟨rfl, Below.refl _ _⟩
      · have HC : Hid (∀ W, Glob W → Calls Tryd.prog 38 #[.string s, .string { data := #[63, 62] }] W fun e w' => e = .returned (.bool (endsL (lst s) 3)) ∧ w' = W) := fun W hW => has_lit s ({ data := #[63, 62] } : ByteArray) (oend 1) rfl hs W hW
        generalize endsL (lst s) 3 = v at *
        go_enter Tryd.func15, Tryd.ntmps15
        go_wp2_with fail
        refine (HC.out _ HG.out).mono ?_
        rintro e w1 ⟨rfl, rfl⟩
        go_wp2_with fail
        go_ret
        exact ⟨rfl, Below.refl _ _⟩
      · have HC : Hid (∀ W, Glob W → Calls Tryd.prog 38 #[.string s, .string { data := #[62] }] W fun e w' => e = .returned (.bool (endsL (lst s) 4)) ∧ w' = W) := fun W hW => has_lit s ({ data := #[62] } : ByteArray) (oend 2) rfl hs W hW
        generalize endsL (lst s) 4 = v at *
        go_enter Tryd.func15, Tryd.ntmps15
        go_wp2_with fail
        refine (HC.out _ HG.out).mono ?_
        rintro e w1 ⟨rfl, rfl⟩
        go_wp2_with fail
        go_ret
        exact ⟨rfl, Below.refl _ _⟩
      · have HC : Hid (∀ W, Glob W → Calls Tryd.prog 38 #[.string s, .string { data := #[93, 93, 62] }] W fun e w' => e = .returned (.bool (endsL (lst s) 5)) ∧ w' = W) := fun W hW => has_lit s ({ data := #[93, 93, 62] } : ByteArray) (oend 3) rfl hs W hW
        generalize endsL (lst s) 5 = v at *
        go_enter Tryd.func15, Tryd.ntmps15
        go_wp2_with fail
        refine (HC.out _ HG.out).mono ?_
        rintro e w1 ⟨rfl, rfl⟩
        go_wp2_with fail
        go_ret
        exact ⟨rfl, Below.refl _ _⟩
end Go.Proofs.YtdnnjakggopdoaaDoor
