/-
  PROVED: contracts of the binder's left and of its iterator: how many marks each row has left, in order. Conditions: the binder lies so.
-/
import Derived.Test.YtldillhgpjmjpaaBind
import Derived.RangeFuncNested
import Derived.RangeFuncBound
import Derived.RangeFuncCalls
import Derived.RangeFuncLeaves
import Derived.Shelf.Abstract
import Derived.Shelf.RegionOpen
import Derived.OwnWalkIn
import Derived.TacticsInMore
import Derived.LoopNIn
import Derived.LoopIn
import Derived.Maps.AppendAt
namespace Go.Proofs.Ytldillhgpjmjpaa
open Go.ChangeShapes Go.WideShapes Go.ChangeAt Go.RowKit Go.Sort Go.Shelf
set_option linter.unusedVariables false
attribute [local go_sem] Oper.semAt_some

/-- What a round leaves as it was: the rows' block. -/
def KpR (v : Value) (W W' : World) : Prop := ∀ q, v.ownBlock = some q → W'.heap[q]? = W.heap[q]?
theorem KpR.own {v : Value} {W W' : World} (h : KpR v W W') {base e size n : Nat} {xs : List Value} (ho : W.ownsRow base e size v n xs) : W'.ownsRow base e size v n xs := by
  obtain ⟨h1, h2⟩ := ho
  refine ⟨h1, ?_⟩
  rcases h2 with h2 | ⟨g, cap, cur, hv, hg, hh, r⟩
  · exact Or.inl h2
  · exact Or.inr ⟨g, cap, cur, hv, hg, (h g (by rw [hv]; rfl)).trans hh, r⟩
theorem KpR.trans {v : Value} {A B C : World} (h : KpR v A B) (k : KpR v B C) : KpR v A C := fun q hq => (k q hq).trans (h q hq)

def leftXs (lf : Nat → Nat) (n : Nat) : List Nat := (List.range n).map lf
theorem leftXs_take (lf : Nat → Nat) (n i : Nat) (hi : i < n) : (leftXs lf n).take i ++ [lf i] = (leftXs lf n).take (i + 1) := by
  unfold leftXs
  rw [List.take_succ_eq_append_getElem (by simpa using hi)]
  simp

set_option maxRecDepth 100000 in
set_option maxHeartbeats 4000000 in
theorem left1_in (F : Fence) (n : Nat) (h24 : F.fn 24) (hro : F.round = none) (hn : 1 ≤ n) (l Bn base g N : Nat) (L : List Rw) (lf : Nat → Nat) (A : Option Addr) (cR : Nat) (J Jx : List Nat → World → Prop) (W : World) (hN : N ≤ 100000)
    (hJ : AbidesFrom W.heap.size J)
    (hY : ∀ pre (x : Nat) W, J pre W → pre.length < N → YieldAt F (n - 1) Try.prog l #[.int .i64 (x : Int)] W fun e W' =>
      (e = .returned (.bool true) ∧ J (pre ++ [x]) W' ∧ KpR (.slice A N cR) W W') ∨ (e = .returned (.bool false) ∧ Jx (pre ++ [x]) W'))
    (hBn : W.cell? ⟨Bn, 0, none⟩ = some (ptr g)) (hg : W.cell? ⟨g, 0, none⟩ = some (.slice A N cR)) (hR : W.ownsRow base 53 5 (.slice A N cR) N (wcells L lf N)) (h0 : J [] W) :
    CallsIn F n Try.prog 24 #[.func (.yield l) #[] #[], .pointer (some ⟨Bn, 0, none⟩)] W fun e W' => (∃ v, e = .returned v) ∧
      ((∃ ys, ys = leftXs lf N ∧ J ys W') ∨ (∃ pre, pre <+: leftXs lf N ∧ Jx pre W')) := by
  refine callsIn_of_wp Try.func24 rfl h24 ?_ hro
  simp only [Try.ntmps24, List.size_toArray, List.length_cons, List.length_nil, Nat.reduceAdd, Nat.reduceSub, Array.replicate_succ, Array.replicate_zero, List.push_toArray, List.append_toArray, List.nil_append, List.cons_append]
  gi_wp2
  gi_loopw [10] (fun v wr => ∃ i : Nat, v = .int .i64 i ∧ i ≤ N ∧ wr.ownsRow base 53 5 (.slice A N cR) N (wcells L lf N) ∧ J ((leftXs lf N).take i) wr)
    (fun v wr => N - (intOf v).toNat)
  case atStart => exact ⟨0, rfl, Nat.zero_le _, hR, h0⟩
  case round =>
    obtain ⟨i, rfl, hi, hr, hJs⟩ := hrel
    by_cases hlt : i < N
    · obtain ⟨q, cc, hv, _, hq, _, hat, _⟩ := own_at hr (by omega)
      obtain rfl : A = some ⟨q, 0, none⟩ := by injection hv
      have c0 : wr.cell? ⟨q, i * 5, none⟩ = some (.int .u8 (rw L i).m) := hat _ _ (wcells_at L lf N i 0 hlt (by omega))
      have c1 : wr.cell? ⟨q, i * 5 + 1, none⟩ = some (.int .i64 (rw L i).n) := hat _ _ (wcells_at L lf N i 1 hlt (by omega))
      have c2 : wr.cell? ⟨q, i * 5 + 2, none⟩ = some (.bool (rw L i).o) := hat _ _ (wcells_at L lf N i 2 hlt (by omega))
      have c3 : wr.cell? ⟨q, i * 5 + 3, none⟩ = some (.bool (rw L i).c) := hat _ _ (wcells_at L lf N i 3 hlt (by omega))
      have c4 : wr.cell? ⟨q, i * 5 + 4, none⟩ = some (.int .i64 (lf i)) := hat _ _ (wcells_at L lf N i 4 hlt (by omega))
      have hJ2 : J ((leftXs lf N).take i) (wr.alloc (.cells #[.int .u8 (rw L i).m, .int .i64 (rw L i).n, .bool (rw L i).o, .bool (rw L i).c, .int .i64 (lf i)] 53)) := hJ _ _ _ none hJs (World.grownBy_alloc _ _ _) (fun r e => by cases e)
      obtain ⟨fn, tmps, assign, body, hy, hRd⟩ := hY _ (lf i) _ hJ2 (by rw [List.length_take]; omega)
      have hK0 : KpR (.slice (some ⟨q, 0, none⟩) N cR) wr (wr.alloc (.cells #[.int .u8 (rw L i).m, .int .i64 (rw L i).n, .bool (rw L i).o, .bool (rw L i).c, .int .i64 (lf i)] 53)) := fun k hk => by
        have : k = q := by simpa [Value.ownBlock] using hk.symm
        subst this
        exact heap_alloc_old wr _ hq
      have HK := Lib.hid (And.intro hr hK0)
      have HX := Lib.hid (leftXs_take lf N i hlt)
      have HRd := Lib.hid hRd
      clear hat hr hK0 hJs hJ2 hRd hJ hv
      gi_wp2
      refine (HRd.out).mono ?_
      rintro e W3 (⟨rfl, hJ3, hk3⟩ | ⟨rfl, hJx3⟩)
      · rw [HX.out] at hJ3
        gi_wp2
        go_roundw
        case rel => exact ⟨i + 1, by go_num, by omega, (HK.out.2.trans hk3).own HK.out.1, hJ3⟩
        case measure => simp [intOf]; omega
      · rw [HX.out] at hJx3
        gi_wp2
        refine bodyPost_ret (results_none rfl _ _ _) rfl ?_
        exact ⟨⟨_, rfl⟩, .inr ⟨_, List.take_prefix _ _, hJx3⟩⟩
    · have hi2 : i = N := by omega
      subst hi2
      gi_wp2
      go_end0
      refine ⟨⟨_, rfl⟩, .inl ⟨_, rfl, ?_⟩⟩
      rw [List.take_of_length_le (by simp [leftXs])] at hJs
      exact hJs

theorem left_stops (F : Fence) (n : Nat) (h24 : F.fn 24) (hro : F.round = none) (hn : 1 ≤ n) (Bn base g N : Nat) (L : List Rw) (lf : Nat → Nat) (A : Option Addr) (cR : Nat) (w : World) (hN : N ≤ 100000)
    (hBl : Bn < w.heap.size) (hgl : g < w.heap.size) (hBn : w.cell? ⟨Bn, 0, none⟩ = some (ptr g)) (hg : w.cell? ⟨g, 0, none⟩ = some (.slice A N cR)) (hR : w.ownsRow base 53 5 (.slice A N cR) N (wcells L lf N)) :
    SeqStopsK F n Try.prog 24 #[.pointer (some ⟨Bn, 0, none⟩)] (fun x : Nat => #[Value.int .i64 (x : Int)]) (KpR (.slice A N cR)) (fun ys => ys = leftXs lf N) (fun pre => pre <+: leftXs lf N) N w := fun l J Jx W hW hJ _ hY h0 =>
  left1_in F n h24 hro hn l Bn base g N L lf A cR J Jx W hN hJ (fun pre x W1 h1 h2 => hY pre x W1 h1 h2) ((hW.cell (p := ⟨Bn, 0, none⟩) hBl).trans hBn) ((hW.cell (p := ⟨g, 0, none⟩) hgl).trans hg) (own_below hR hW) h0

set_option maxHeartbeats 1000000 in
theorem left_any (g : Nat) (w : World) : Calls Try.prog 19 #[ptr g] w fun e w' => e = .returned (.func (.func 24) #[] #[.pointer (some ⟨w.heap.size, 0, none⟩)]) ∧ w' = w.alloc (.cells #[ptr g] 42) := by
  go_enter Try.func19, Try.ntmps19
  go_wp2_with fail
  go_ret
  exact ⟨rfl, rfl⟩
theorem rows_own {β : Type} (base e size n : Nat) (v : Value) (xs : List Value) : Own (fun (_ : β) W => W.ownsRow base e size v n xs) := by
  rintro s X Y row hr hg hrow
  refine hr.kept hg ?_
  rcases hr.2 with ⟨rfl, _⟩ | ⟨g, cap, cur, rfl, _, hgb, _⟩
  · exact .inl rfl
  · refine .inr fun e' => ?_
    obtain ⟨o, ho, hc⟩ := hrow g (by simpa [Value.ownBlock] using e'.symm)
    rw [hgb] at ho; cases ho; cases hc
end Go.Proofs.Ytldillhgpjmjpaa
