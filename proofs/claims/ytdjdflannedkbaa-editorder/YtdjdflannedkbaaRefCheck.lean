/-
  PROVED: contract of the document's own Check: what is wrong with edits of a text. Conditions: the slice lies in memory that holds the edits, at most 1000000 of them.
-/
import Derived.Test.YtdjdflannedkbaaCheck
namespace Go.Proofs.Ytdjdflannedkbaa
open Go.ChangeShapes Go.WideShapes Go.ChangeAt Go.RowKit Go.Sort
set_option linter.unusedVariables false

set_option maxHeartbeats 4000000 in
theorem refCheck_any (s : ByteArray) (A : Option Addr) (c : Nat) (es : List Ed) (hl : es.length ≤ 1000000) (hs : s.size ≤ 140737488355328) (B : Nat) (w : World) (h : Rd w B A es) :
    Calls Try.prog 17 #[.string s, .slice A es.length c] w fun e w' => e = .returned (.int .i64 (chk s.size es)) ∧ Below w.heap.size w w' := by
  have mixed := Try.mixed
  have h := h.here
  go_enter Try.func17, Try.ntmps17
  go_wp2_with fail
  go_loopw [5] (fun i wr => ∃ j n : Nat, i = .int .i64 j ∧ j ≤ es.length ∧ Hid (∀ e ∈ es.take j, inE s.size e = true) ∧ wr = w.drewN n) (fun i _ => es.length - (intOf i).toNat)
  case atStart => exact ⟨0, 0, rfl, Nat.zero_le _, (show Hid _ from fun e he => by simp at he), rfl⟩
  case round =>
    obtain ⟨j, n, rfl, hj, HT, rfl⟩ := hrel
    by_cases hlt : j < es.length
    · obtain ⟨b, o, rfl, hb, c0, c1, c2⟩ := h j es[j] (List.getElem?_eq_getElem hlt)
      have HX : Hid (∃ y, y = es[j]) := ⟨_, rfl⟩
      obtain ⟨y, hy⟩ := HX.out
      rw [← hy] at c0 c1 c2
      have HY := Lib.hid hy
      clear hy HX c2
      have hltz : (j : Int) < (es.length : Int) := by omega
      by_cases q : inE s.size y = true
      · have HT2 : Hid (∀ e ∈ es.take (j + 1), inE s.size e = true) := take_all hlt HT.out (by rw [← HY.out]; exact q)
        obtain ⟨q0, q1, q2⟩ := (inE_iff _ _).1 q
        have d0 : decide (y.f < 0) = false := decide_eq_false (by omega)
        have d1 : decide (y.t < y.f) = false := decide_eq_false (by omega)
        have d2 : decide ((s.size : Int) < y.t) = false := decide_eq_false (by omega)
        have d3 : decide (y.f > y.t) = false := decide_eq_false (by omega)
        have d4 : decide (y.t > (s.size : Int)) = false := decide_eq_false (by omega)
        clear q HT HY
        go_wp2_with fail
        go_quiet (fail)
        go_wp2_with fail
        go_roundw
        case rel => exact ⟨j + 1, n + nq, by go_num, by omega, HT2, rfl⟩
        case measure => simp [intOf]; omega
      · have HV : Hid (chk s.size es = 20) := chk_in hlt (by rw [← HY.out]; simpa using q)
        have q' : ¬ (0 ≤ y.f ∧ y.f ≤ y.t ∧ y.t ≤ (s.size : Int)) := fun hh => q ((inE_iff _ _).2 hh)
        clear q HY HT
        by_cases a0 : y.f < 0
        · have d0 : decide (y.f < 0) = true := decide_eq_true a0
          clear q'
          go_wp2_with fail
          go_quiet (fail)
          go_wp2_with fail
          go_ret
          exact ⟨by rw [HV.out]; rfl, below_drewN (below_drewN (Below.refl _ _) _) _⟩
        · have d0 : decide (y.f < 0) = false := decide_eq_false a0
          by_cases a1 : y.t < y.f
          · have d1 : decide (y.t < y.f) = true := decide_eq_true a1
            have d3 : decide (y.f > y.t) = true := decide_eq_true a1
            clear q'
            go_wp2_with fail
            go_quiet (fail)
            go_wp2_with fail
            go_ret
            exact ⟨by rw [HV.out]; rfl, below_drewN (below_drewN (Below.refl _ _) _) _⟩
          · have a2 : (s.size : Int) < y.t := by omega
            have d1 : decide (y.t < y.f) = false := decide_eq_false a1
            have d3 : decide (y.f > y.t) = false := decide_eq_false a1
            have d2 : decide ((s.size : Int) < y.t) = true := decide_eq_true a2
            have d4 : decide (y.t > (s.size : Int)) = true := decide_eq_true a2
            clear q'
            go_wp2_with fail
            go_quiet (fail)
            go_wp2_with fail
            go_ret
            exact ⟨by rw [HV.out]; rfl, below_drewN (below_drewN (Below.refl _ _) _) _⟩
    · have HT2 : Hid (∀ e ∈ es, inE s.size e = true) := by have := HT.out; rw [List.take_of_length_le (by omega)] at this; exact this
      clear HT
      have hcall := refSorted_any A c es hl _ (w.drewN n) (h.drewN n)
      go_wp2_with fail
      refine hcall.mono ?_
      rintro e w2 hO
      obtain ⟨v, rfl, hown, hb2⟩ := hO
      have hB2 : Below w.heap.size w w2 := chain (Nat.le_refl _) (below_drewN (Below.refl _ _) n) hb2
      have hlen := srt_len es
      have hlen2 : (srtE es).length ≤ 1000000 := by omega
      clear hlen hcall hb2 h
      obtain ⟨A2, c2, rfl, hc2, _, hr2⟩ := own_edits hown
      clear hown
      have HC1 : Hid (apL (srtE es) = false → chk s.size es = 21) := fun h => chk_ap HT2.out h
      have HC0 : Hid (apL (srtE es) = true → chk s.size es = 0) := fun h => chk_yes HT2.out h
      obtain ⟨L, hL⟩ : ∃ L, L = srtE es := ⟨_, rfl⟩
      rw [← hL] at hr2 hlen2 HC0 HC1 hc2 ⊢
      clear hL HT2
      go_wp2_with fail
      go_loopw [7] (fun i wr => ∃ j n : Nat, i = .int .i64 j ∧ (j + 1 ≤ L.length ∨ j = 0) ∧ Hid (∀ k (hk : k + 1 < L.length), k < j → (L[k]'(by omega)).t ≤ L[k + 1].f) ∧ wr = w2.drewN n) (fun i _ => L.length - (intOf i).toNat)
      case atStart => exact ⟨0, 0, rfl, Or.inr rfl, (show Hid _ from fun k hk hk0 => absurd hk0 (Nat.not_lt_zero _)), rfl⟩
      case round =>
        obtain ⟨j, n, rfl, hj, HK, rfl⟩ := hrel
        by_cases hlt : j + 1 < L.length
        · obtain ⟨b, o, rfl, hb, c0, c1, c2⟩ := hr2 j L[j] (List.getElem?_eq_getElem (by omega))
          obtain ⟨b', o', e', hb', k0, k1, k2⟩ := hr2 (j + 1) L[j + 1] (List.getElem?_eq_getElem hlt)
          injection e' with e'
          injection e' with e1 e2
          subst e1 e2
          have HX : Hid (∃ x y, x = L[j] ∧ y = L[j + 1]) := ⟨_, _, rfl, rfl⟩
          obtain ⟨x, y, hx, hy⟩ := HX.out
          rw [← hx] at c0 c1 c2
          rw [← hy] at k0 k1 k2
          have HXY : Hid (x = L[j] ∧ y = L[j + 1]) := ⟨hx, hy⟩
          clear hx hy HX
          have z0 : IntKind.i64.wrap ((j : Int) + 1) = (j : Int) + 1 := by rw [IntKind.wrap_i64]; omega
          have z1 : (j : Int) + 1 < (L.length : Int) := by omega
          have z2 : (j : Int) < (L.length : Int) := by omega
          have z3 : (0 : Int) ≤ (j : Int) + 1 := by omega
          have z4 : ((j : Int) + 1).toNat = j + 1 := by omega
          by_cases hv : x.t ≤ y.f
          · have HK2 : Hid (∀ k (hk : k + 1 < L.length), k < j + 1 → (L[k]'(by omega)).t ≤ L[k + 1].f) := fun k hk hkj => by
              by_cases q : k = j
              · subst q; have := hv; rw [HXY.out.1, HXY.out.2] at this; exact this
              · exact HK.out k hk (by omega)
            have d0 : decide (y.f < x.t) = false := decide_eq_false (by omega)
            have d1 : decide (x.t > y.f) = false := decide_eq_false (by omega)
            clear HK HXY
            go_wp2_with fail
            go_quiet (fail)
            go_wp2_with fail
            go_roundw
            case rel => exact ⟨j + 1, n + nq, by go_num, Or.inl (by omega), HK2, rfl⟩
            case measure => simp [intOf]; omega
          · have HV : Hid (chk s.size es = 21) := HC1.out (apL_no L j hlt (by have := hv; rw [HXY.out.1, HXY.out.2] at this; exact this))
            have d0 : decide (y.f < x.t) = true := decide_eq_true (by omega)
            have d1 : decide (x.t > y.f) = true := decide_eq_true (by omega)
            clear HK HXY
            go_wp2_with fail
            go_quiet (fail)
            go_wp2_with fail
            go_ret
            exact ⟨by rw [HV.out]; rfl, below_drewN (below_drewN hB2 _) _⟩
        · have HV : Hid (chk s.size es = 0) := HC0.out ((apL_iff L).2 fun k hk => HK.out k hk (by omega))
          have hlt' : ¬ (j : Int) + 1 < (L.length : Int) := by omega
          go_wp2_with fail
          go_ret
          exact ⟨by rw [HV.out]; rfl, below_drewN hB2 _⟩
end Go.Proofs.Ytdjdflannedkbaa
