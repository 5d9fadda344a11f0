/-
  PROVED: what the binder's map of searches says stays so. Conditions: as each says.
-/
import Derived.Test.YtldillhgpjmjpaaKeys
import Derived.Test.YtldillhgpjmjpaaFindPure
import Derived.Maps.Views
namespace Go.Proofs.Ytldillhgpjmjpaa
open Go.ChangeShapes Go.WideShapes Go.ChangeAt Go.RowKit Go.Sort
set_option linter.unusedVariables false

/-- What the map of searches says: of the rows ahead of such a place none fits. -/
def Memo (L : List Rw) (st : List Nat) (c : Nat) (D : DataW Unit) : Prop :=
  ∀ (x : Rw) (kl : Lit) (e : Int), 0 ≤ x.n → keyOf Try.prog 60 (skey x.m (x.n % 3) x.o) = some kl → D.atKey kl (.lit (.int .i64 0)) = .lit (.int .i64 e) → e ≤ c ∧ ∀ o ∈ st, (o : Int) < e → fit x (rw L o) = false
theorem fit_congr {x y : Rw} (hm : x.m = y.m) (hn : x.n % 3 = y.n % 3) (ho : x.o = y.o) (r : Rw) : fit x r = fit y r := by
  unfold fit
  rw [hm, ho, hn]
  have : (x.n + r.n) % 3 = (y.n + r.n) % 3 := by omega
  rw [this]
theorem Memo.start (L : List Rw) : Memo L [] 0 (.map []) := by
  intro x kl e _ _ he
  have h0 : (DataW.map [] : DataW Unit).atKey kl (.lit (.int .i64 0)) = .lit (.int .i64 0) := rfl
  rw [h0] at he
  injection he with he
  injection he with _ he
  subst he
  exact ⟨by omega, fun o ho => by simp at ho⟩
theorem Memo.sub {L : List Rw} {st st' : List Nat} {c : Nat} {D : DataW Unit} (h : Memo L st c D) (hs : ∀ o ∈ st', o ∈ st) : Memo L st' c D := by
  intro x kl e h0 hk he
  obtain ⟨h1, h2⟩ := h x kl e h0 hk he
  exact ⟨h1, fun o ho => h2 o (hs o ho)⟩
theorem Memo.up {L : List Rw} {st : List Nat} {c c' : Nat} {D : DataW Unit} (h : Memo L st c D) (hc : c ≤ c') : Memo L st c' D := by
  intro x kl e h0 hk he
  obtain ⟨h1, h2⟩ := h x kl e h0 hk he
  exact ⟨by omega, h2⟩
theorem Memo.push {L : List Rw} {st : List Nat} {c : Nat} {D : DataW Unit} (h : Memo L st c D) : Memo L (c :: st) c D := by
  intro x kl e h0 hk he
  obtain ⟨h1, h2⟩ := h x kl e h0 hk he
  refine ⟨h1, fun o ho hoe => ?_⟩
  rcases List.mem_cons.1 ho with rfl | ho
  · omega
  · exact h2 o ho hoe
theorem Memo.put {L : List Rw} {st : List Nat} {c : Nat} {D : DataW Unit} (h : Memo L st c D) (hD : Go.Maps.IsMap D) (x0 : Rw) (kl0 : Lit) (hk0 : keyOf Try.prog 60 (skey x0.m (x0.n % 3) x0.o) = some kl0) (hf : ∀ o ∈ st, fit x0 (rw L o) = false) :
    Memo L st c (D.put kl0 (.lit (.int .i64 c))) := by
  intro x kl e h0 hk he
  by_cases hkk : kl = kl0
  · subst hkk
    rw [Go.Maps.atKey_put_same hD (Try.keyed.key hk)] at he
    injection he with he
    injection he with _ he
    subst he
    refine ⟨Int.le_refl _, fun o ho _ => ?_⟩
    have hv := Try.keyed.inj hk hk0
    injection hv with hv
    simp at hv
    obtain ⟨e1, e2, e3⟩ := hv
    rw [fit_congr e1 e2 e3]
    exact hf o ho
  · rw [Go.Maps.atKey_put_other hkk] at he
    exact h x kl e h0 hk he
end Go.Proofs.Ytldillhgpjmjpaa
