/-
  PROVED: stetlaw07.EscapeAgain returns true for every text: a URL's bytes are visible ones and none of < > the double quote and the backslash, and written again it is the same. Conditions: none beside the row's own.
-/
import Derived.Test.YtjadchdkpokopaaAlive
import Derived.WalkKit
import Derived.ProofKit
import Derived.OpenShut
import Derived.ShutString
namespace Go.Proofs.Ytjadchdkpokopaa.escapeAgain
open Go.ChangeShapes Go.WideShapes Go.ChangeAt Go.RowKit
open Go.ChangeMaps (open_string shut_string)
set_option linter.unusedVariables false      -- a walk need not use every 'w<i>' (that an integer argument fits its kind)

theorem own : ownKnob Try.prog.godebug = none := by kernel_rfl

/-- What a loop that only looks goes by. -/
def ULoop (U : ByteArray) (i : Value) (w wr : World) : Prop := ∃ p : Nat, p ≤ U.size ∧ i = .int .i64 p ∧ wr = w
set_option maxHeartbeats 4000000 in
set_option maxRecDepth 100000 in
theorem walk (a0 : ByteArray) (w0 : a0.size ≤ maxLen) (w : World) :
    Calls Try.prog 7 #[.string a0] w fun e w' => e = .returned (.bool true) ∧ Below w.heap.size w w' := by
  by_cases hl : 20000 < a0.size
  · go_enter Try.func7, Try.ntmps7
    go_wp2_with fail
    refine (alive_any _).mono ?_
    rintro e w1 ⟨rfl, hb⟩
    have B1 := Lib.hid hb
    have z1 := hb.size
    clear hb
    go_wp2_with fail
    go_ret
    exact ⟨rfl, B1.out⟩
  · have hs : a0.size ≤ 2000000 := by omega
    obtain ⟨U, hU, hU2⟩ := made (urlL (cleanB (lst a0)))
    have zU : U.size ≤ 240000 := by
      rw [← lst_size, hU]
      have h1 := urlL_len (cleanB (lst a0))
      have h2 := clean_len (lst a0)
      rw [lst_size] at h2
      omega
    have H1 : Hid (∀ W, Calls Try.prog 16 #[.string a0] W fun e w' => e = .returned (.string U) ∧ Below W.heap.size W w') := fun W => by
      have h := url_text a0 hs W
      rw [hU2] at h
      exact h
    have H2 : Hid (∀ W, Calls Try.prog 16 #[.string U] W fun e w' => e = .returned (.string U) ∧ Below W.heap.size W w') := fun W => by
      have h := url_text U (by omega) W
      rw [hU, url_clean, url_again, hU2] at h
      exact h
    have HOK : Hid (∀ (p : Nat) (hp : p < U.size), okU (U[p]'hp) = true) := fun p hp => url_ok (cleanB (lst a0)) _ (by rw [← hU]; exact List.mem_of_getElem? (Lib.data_getElem? U p hp))
    clear hU hU2
    go_enter Try.func7, Try.ntmps7
    go_wp2_with fail
    refine (alive_any _).mono ?_
    rintro e w1 ⟨rfl, hb⟩
    have B1 := Lib.hid hb
    have z1 := hb.size
    clear hb
    go_wp2_with fail
    refine (H1.out _).mono ?_
    rintro e w2 ⟨rfl, hb⟩
    have B2 := Lib.hid (chain (Nat.le_refl _) B1.out hb)
    clear hb B1 H1
    go_wp2_with fail
    go_loopw [4] (fun i wr => ULoop U i w2 wr) (fun i _ => U.size - (intOf i).toNat)
    case atStart => exact ⟨0, Nat.zero_le _, rfl, rfl⟩
    case round =>
      obtain ⟨p, hp, rfl, rfl⟩ := hrel
      by_cases hlt : p < U.size
      · have hk := HOK.out p hlt
        unfold okU at hk
        rw [decide_eq_true_eq] at hk
        obtain ⟨k1, k2, k3, k4, k5, k6⟩ := hk
        have c1 : (((U[p]'hlt).toNat : Int) == 60) = false := by rw [beq_eq_false_iff_ne]; omega
        have c2 : (((U[p]'hlt).toNat : Int) == 62) = false := by rw [beq_eq_false_iff_ne]; omega
        have c3 : (((U[p]'hlt).toNat : Int) == 34) = false := by rw [beq_eq_false_iff_ne]; omega
        have c4 : (((U[p]'hlt).toNat : Int) == 92) = false := by rw [beq_eq_false_iff_ne]; omega
        clear k3 k4 k5 k6
        go_wp2_with fail
        go_roundw
        case rel => exact ⟨p + 1, by omega, by go_num, rfl⟩
        case measure => simp [intOf]; omega
      · go_wp2_with fail
        refine (H2.out _).mono ?_
        rintro e w3 ⟨rfl, hb⟩
        have B3 := Lib.hid (chain (Nat.le_refl _) B2.out hb)
        clear hb B2 H2
        go_wp2_with fail
        go_ret
        exact ⟨rfl, B3.out⟩

set_option maxRecDepth 100000 in
theorem lifted (os : Os) (started : os.Started) (H : Type) (enc : TypeId × Value → H) :
    ReturnsInHanded {} Try.checked os 7 .any (Rows.escapeAgainSpec.pre6 enc Try.prog Try.f7 Rows.escapeAgainRow.domain false) (Rows.escapeAgainSpec.post enc Try.prog Try.f7 false true false false) := by
  refine returnsInHanded_of_change (C := Try.checked) own started (by kernel_rfl) Try.func7
    (ChangeSpec.witness6 (enc := enc) (C := Try.checked) false ⟨#[], #[.string ByteArray.empty], []⟩ 8 (by kernel_rfl) (by kernel_rfl) (by kernel_rfl) (by kernel_rfl)) ?_
  intro W base args ds gs before hval0 hW hcnd _
  have hval : ∀ (j : Nat) t v, Try.f7.params[j]? = some t → args[j]? = some v → Value.okWide Try.prog W .any base t v := hval0
  have hW' := hW
  obtain ⟨p, q, hA0, hV, rfl, hfz, hnd⟩ := hW
  have hA : DataW.TrodAll enc Try.prog W 0 (fun _ => true) true Try.f7.params.toList args.toList ds p := hA0
  rw [Try.params7] at hA hval
  obtain ⟨v0, vs0, d0, ds0, p0, q0, hargs, rfl, rfl, h0, r0⟩ := trodAll_cons hA
  obtain ⟨rfl, rfl, rfl⟩ := trodAll_nil r0
  obtain rfl : args = #[v0] := by cases args; simp_all
  obtain ⟨rfl, rfl⟩ := trodVars_none hV
  obtain ⟨a0, rfl, rfl, rfl, w0⟩ := open_string Try.underlying9 (hval 0 9 v0 rfl rfl) h0
  clear hA0 hval0
  simp only [List.append_nil] at hW'
  refine (walk a0 w0 W).mono fun e W' ⟨he, hg⟩ => ?_
  subst he
  exact ⟨_, rfl, _, _, _, [], [], [], hW', (trodAll_cons_mk (shut_bool Try.underlying4 _) trodAll_mk0), (trodAll_cons_mk (shut_string Try.underlying9 w0) trodAll_mk0), rfl, hg.frame _, fun h => by cases h⟩

theorem over : Rows.escapeAgainRow.holds Try.pinned (OpenSpec.ofChange Rows.escapeAgainSpec) :=
  OpenClaim.holds_of_wide 7 Try.f7 rfl rfl rfl rfl rfl rfl rfl ⟨rfl, rfl, rfl, rfl, rfl⟩ rfl rfl rfl rfl rfl (by kernel_rfl) Try.func7 (by kernel_rfl)
    (of_decide_eq_true (by kernel_rfl)) (by unfold Func.isWrapper; first | (rw [if_pos (by decide +kernel)]; kernel_rfl) | (rw [if_neg (by decide +kernel)]; exact ⟨rfl, rfl⟩))
    (fun os started H enc _ => lifted os started H enc)

theorem proved : Rows.EscapeAgainSaid :=
  over
#print axioms proved
end Go.Proofs.Ytjadchdkpokopaa.escapeAgain
