/-
  PROVED: contracts of tree.holds, levelFits, textFits, signFits, linkFits, titleFits, tightFits, fits, fitsIn: they answer 'hoB', 'lvB', 'txB', 'sgB', 'lnB', 'tiB', 'tgB', 'fitB', 'inB'. Conditions: none but that the slices' lengths are integers.
-/
import Derived.Test.YtdfhgcknelgdmaaDoorRows
import Derived.Test.YtdfhgcknelgdmaaDoorFitPure
import Derived.WalkKit
import Derived.IntWalk
import Derived.WalkSpells
import Derived.WalkLawsBesides
import Derived.Deep.QuietTactic
import Derived.BigQuiet
import Derived.WalkSmall
import Derived.Lib.Strings
import Derived.Lib.Hide
import Derived.Deep.RegionHeld3
import Derived.Lib.SmallJoins
import Derived.OwnWalk
import Derived.Shelf.SlSortCmp.QuietGrown
namespace Go.Proofs.YtdfhgcknelgdmaaDoor
open Go.ChangeShapes Go.WideShapes Go.ChangeAt Go.RowKit Go.Sort
set_option linter.unusedVariables false

/-- A call that draws, and lays blocks of its own. -/
def Grows (v : Value) (w : World) (e : Ending) (w' : World) : Prop := e = .returned v ∧ ∃ q os, w' = grow (w.drewN q) os
theorem Grows.below {v : Value} {w w' : World} {e : Ending} (h : Grows v w e w') : e = .returned v ∧ Below w.heap.size w w' := by
  obtain ⟨he, q, os, rfl⟩ := h
  exact ⟨he, rfl, rfl, rfl, by rw [size_grow]; exact Nat.le_add_right _ _, fun i hi => heap_grow_old (w.drewN q) os hi⟩
theorem chain {B : Nat} {a b c : World} (hB : B ≤ a.heap.size) (h : Below B a b) (k : Below b.heap.size b c) : Below B a c := h.trans (k.mono (Nat.le_trans hB h.size))
theorem grown_alloc (w : World) (o : Obj) : ∃ q os, w.alloc o = grow (w.drewN q) os := ⟨0, #[o], by rw [World.drewN_zero, alloc_eq_grow]⟩

/-- A node as a value. -/
abbrev nagg (n : Nd) (kv pv : Value) : Value := .agg #[.int .i64 n.k, .int .i64 n.f, .int .i64 n.t, .int .i64 n.l, .string n.x, .string n.u, .string n.h, .bool n.g, kv, pv]

theorem retB {b c : Bool} (h : b = c) : Ending.returned (Value.bool b) = Ending.returned (Value.bool c) := by rw [h]

set_option maxHeartbeats 4000000 in
theorem holds_any (p k : Int) (w : World) : Calls Tryd.prog 45 #[.int .i64 p, .int .i64 k] w fun e w' => e = .returned (.bool (hoB p k)) ∧ w' = w := by
  go_enter Tryd.func45, Tryd.ntmps45
  go_wp2_with fail
  all_goals go_ret
  all_goals refine ⟨retB ?_, rfl⟩
  all_goals (simp_all [hoB] <;> first | done | omega | (rw [Bool.eq_iff_iff]; simp; done) | (rw [Bool.eq_iff_iff]; simp; omega) | (rw [Bool.eq_iff_iff]; simp_all; done))

set_option maxHeartbeats 4000000 in
theorem sign_any (s : ByteArray) (b : Bool) (w : World) : Calls Tryd.prog 60 #[.string s, .bool b] w fun e w' => e = .returned (.bool (sgB s b)) ∧ w' = w := by
  go_enter Tryd.func60, Tryd.ntmps60
  go_wp2_with fail
  all_goals go_ret
  all_goals refine ⟨retB ?_, rfl⟩
  all_goals (simp_all [sgB] <;> first | done | omega | (rw [Bool.eq_iff_iff]; simp; done) | (rw [Bool.eq_iff_iff]; simp; omega) | (rw [Bool.eq_iff_iff]; simp_all; done))

set_option maxHeartbeats 4000000 in
theorem level_any (n : Nd) (kv pv : Value) (w : World) : Calls Tryd.prog 40 #[nagg n kv pv] w (Grows (.bool (lvB n.k n.l)) w) := by
  obtain ⟨k, f, t, l, x, u, h, g, ks, ps⟩ := n
  go_enter Tryd.func40, Tryd.ntmps40
  go_wp2_with fail
  all_goals go_ret
  all_goals refine ⟨retB ?_, grown_alloc _ _⟩
  all_goals (simp_all [lvB] <;> first | done | omega | (rw [Bool.eq_iff_iff]; simp; done) | (rw [Bool.eq_iff_iff]; simp; omega) | (rw [Bool.eq_iff_iff]; simp_all; done))

set_option maxHeartbeats 4000000 in
theorem link_any (n : Nd) (kv pv : Value) (w : World) : Calls Tryd.prog 42 #[nagg n kv pv] w (Grows (.bool (lnB n.k n.u)) w) := by
  obtain ⟨k, f, t, l, x, u, h, g, ks, ps⟩ := n
  go_enter Tryd.func42, Tryd.ntmps42
  go_wp2_with fail
  all_goals go_ret
  all_goals refine ⟨retB ?_, grown_alloc _ _⟩
  all_goals (simp_all [lnB, isE] <;> first | done | omega | (rw [Bool.eq_iff_iff]; simp; done) | (rw [Bool.eq_iff_iff]; simp; omega) | (rw [Bool.eq_iff_iff]; simp_all; done))

set_option maxHeartbeats 4000000 in
theorem title_any (n : Nd) (kv pv : Value) (w : World) : Calls Tryd.prog 43 #[nagg n kv pv] w (Grows (.bool (tiB n.k n.h)) w) := by
  obtain ⟨k, f, t, l, x, u, h, g, ks, ps⟩ := n
  go_enter Tryd.func43, Tryd.ntmps43
  go_wp2_with fail
  all_goals go_ret
  all_goals refine ⟨retB ?_, grown_alloc _ _⟩
  all_goals (simp_all [tiB, isE] <;> first | done | omega | (rw [Bool.eq_iff_iff]; simp; done) | (rw [Bool.eq_iff_iff]; simp; omega) | (rw [Bool.eq_iff_iff]; simp_all; done))

set_option maxHeartbeats 4000000 in
theorem tight_any (n : Nd) (kv pv : Value) (w : World) : Calls Tryd.prog 44 #[nagg n kv pv] w (Grows (.bool (tgB n.k n.g)) w) := by
  obtain ⟨k, f, t, l, x, u, h, g, ks, ps⟩ := n
  go_enter Tryd.func44, Tryd.ntmps44
  go_wp2_with fail
  all_goals go_ret
  all_goals refine ⟨retB ?_, grown_alloc _ _⟩
  all_goals (simp_all [tgB] <;> first | done | omega | (rw [Bool.eq_iff_iff]; simp; done) | (rw [Bool.eq_iff_iff]; simp; omega) | (rw [Bool.eq_iff_iff]; simp_all; done))

set_option maxHeartbeats 4000000 in
theorem text_any (n : Nd) (kv pv : Value) (w : World) : Calls Tryd.prog 41 #[nagg n kv pv] w (Grows (.bool (txB n.k n.l n.x)) w) := by
  obtain ⟨k, f, t, l, x, u, h, g, ks, ps⟩ := n
  by_cases hk : k = 3
  · subst hk
    have HS : Hid (∀ W, Calls Tryd.prog 60 #[.string x, .bool (l == -1)] W fun e w' => e = .returned (.bool (sgB x (l == -1))) ∧ w' = W) := fun W => sign_any x _ W
    go_enter Tryd.func41, Tryd.ntmps41
    go_wp2_with fail
    refine (HS.out _).mono ?_
    rintro e y ⟨rfl, rfl⟩
    go_wp2_with fail
    go_ret
    refine ⟨retB ?_, grown_alloc _ _⟩
    have e : (l == -1) = decide (l = -1) := by rw [Bool.eq_iff_iff]; simp
    rw [e]
    rfl
  · go_enter Tryd.func41, Tryd.ntmps41
    go_wp2_with fail
    all_goals go_ret
    all_goals refine ⟨retB ?_, grown_alloc _ _⟩
    all_goals (simp_all [txB, isE] <;> first | done | omega | (rw [Bool.eq_iff_iff]; simp; done) | (rw [Bool.eq_iff_iff]; simp; omega) | (rw [Bool.eq_iff_iff]; simp_all; done))


/-! ### fits, fitsIn -/
/-- Block g holds just these cells, none of them frozen. -/
def Holds (w : World) (g : Nat) (t : TypeId) (cs : Array Value) : Prop := w.heap[g]? = some (.cells cs t (0, 0))
theorem Holds.lt {w : World} {g : Nat} {t : TypeId} {cs : Array Value} (h : Holds w g t cs) : g < w.heap.size := (Array.getElem?_eq_some_iff.1 h).1
theorem Holds.at {w : World} {g : Nat} {t : TypeId} {cs : Array Value} (h : Holds w g t cs) (i : Nat) : w.cell? ⟨g, i, none⟩ = cs[i]? := cell_of_row w g i cs t (0, 0) h
theorem Holds.soft {w : World} {g : Nat} {t : TypeId} {cs : Array Value} (h : Holds w g t cs) (i : Nat) : w.frozen? ⟨g, i, none⟩ = false := by
  unfold Holds at h
  simp [World.frozen?, h]
theorem Holds.under {w w' : World} {g B : Nat} {t : TypeId} {cs : Array Value} (h : Holds w g t cs) (hb : Below B w w') (hg : g < B) : Holds w' g t cs := (hb.block g hg).trans h
theorem Holds.made (w : World) (t : TypeId) (cs : Array Value) : Holds (w.alloc (.cells cs t)) w.heap.size t cs := heap_alloc_new w _
theorem Holds.set {w : World} {g : Nat} {t : TypeId} {cs : Array Value} (h : Holds w g t cs) (i : Nat) (u : Value) : Holds (w.setCell ⟨g, i, none⟩ u) g t (cs.setIfInBounds i u) := by
  unfold Holds at h ⊢
  simp [World.setCell, Array.getElem?_modify, h]
theorem Holds.past {w : World} {g : Nat} {t : TypeId} {cs : Array Value} (h : Holds w g t cs) {p : Addr} (hp : g ≠ p.block) (u : Value) : Holds (w.setCell p u) g t cs := (Below.heap_setCell w p u g hp).trans h
/-- More blocks, more draws. -/
def Gr (w w' : World) : Prop := ∃ q os, w' = grow (w.drewN q) os
theorem Gr.refl (w : World) : Gr w w := ⟨0, #[], by rw [World.drewN_zero]; simp⟩
theorem drewN_drewN (w : World) (a b : Nat) : (w.drewN a).drewN b = w.drewN (a + b) := by
  unfold World.drewN; simp [Nat.add_assoc]
theorem Gr.trans {a b c : World} (h : Gr a b) (k : Gr b c) : Gr a c := by
  obtain ⟨q, os, rfl⟩ := h
  obtain ⟨q', os', rfl⟩ := k
  refine ⟨q + q', os ++ os', ?_⟩
  rw [show (grow (a.drewN q) os).drewN q' = grow ((a.drewN q).drewN q') os from rfl, grow_grow, drewN_drewN]
theorem Gr.alloc (w : World) (o : Obj) : Gr w (w.alloc o) := grown_alloc w o
theorem Gr.below {w w' : World} (h : Gr w w') : Below w.heap.size w w' := (Grows.below (v := .bool true) ⟨rfl, h⟩).2
theorem Gr.holds {w w' : World} {g : Nat} {t : TypeId} {cs : Array Value} (h : Gr w w') (hh : Holds w g t cs) : Holds w' g t cs := hh.under h.below hh.lt

/-- Block g holds a node. -/
def BoxN (w : World) (g : Nat) (n : Nd) (kv pv : Value) : Prop := Holds w g 39 #[.int .i64 n.k, .int .i64 n.f, .int .i64 n.t, .int .i64 n.l, .string n.x, .string n.u, .string n.h, .bool n.g, kv, pv]

set_option maxHeartbeats 8000000 in
theorem fitsIn_any (p n : Nd) (pk pp kv pv : Value) (w : World) : Calls Tryd.prog 27 #[nagg p pk pp, nagg n kv pv] w (Grows (.bool (inB p n)) w) := by
  have HF : Hid (inB p n = (decide (p.f ≤ n.f) && (decide (n.t ≤ p.t) && hoB p.k n.k))) := rfl
  have HO : Hid (∀ W, Calls Tryd.prog 45 #[.int .i64 p.k, .int .i64 n.k] W fun e w' => e = .returned (.bool (hoB p.k n.k)) ∧ w' = W) := fun W => holds_any _ _ W
  generalize hoB p.k n.k = b at HF HO
  generalize inB p n = R at HF
  obtain ⟨k, f, t, l, x, u, h, g, ks, ps⟩ := n
  obtain ⟨k', f', t', l', x', u', h', g', ks', ps'⟩ := p
  simp only at HF HO
  have hr : ∀ v, v = R → Ending.returned (Value.bool v) = Ending.returned (Value.bool R) := fun v hv => by rw [hv]
  have HR := Lib.hid hr
  clear hr
  go_enter Tryd.func27, Tryd.ntmps27
  go_wp2_with (refine (HO.out _).mono ?_; rintro e y ⟨rfl, rfl⟩)
  all_goals go_ret
  all_goals refine ⟨HR.out _ ?_, (Gr.alloc _ _).trans (Gr.alloc _ _)⟩
  all_goals rw [HF.out]
  all_goals (simp_all <;> first | done | omega | (rw [Bool.eq_iff_iff]; simp; done) | (rw [Bool.eq_iff_iff]; simp; omega))

/-! ### the document's -/
set_option maxHeartbeats 4000000 in
theorem block_any (k : Int) (w : World) : Calls Tryd.prog 58 #[.int .i64 k] w fun e w' => e = .returned (.bool (decide (2 ≤ k) && decide (k ≤ 9) && decide (k ≠ 4))) ∧ w' = w := by
  go_enter Tryd.func58, Tryd.ntmps58
  go_wp2_with fail
  all_goals go_ret
  all_goals refine ⟨retB ?_, rfl⟩
  all_goals (simp_all <;> first | done | omega | (rw [Bool.eq_iff_iff]; simp; done) | (rw [Bool.eq_iff_iff]; simp; omega) | (rw [Bool.eq_iff_iff]; simp_all; done))

set_option maxHeartbeats 4000000 in
theorem inline_any (k : Int) (w : World) : Calls Tryd.prog 59 #[.int .i64 k] w fun e w' => e = .returned (.bool (decide (10 ≤ k) && decide (k ≤ 18))) ∧ w' = w := by
  go_enter Tryd.func59, Tryd.ntmps59
  go_wp2_with fail
  all_goals go_ret
  all_goals refine ⟨retB ?_, rfl⟩
  all_goals (simp_all <;> first | done | omega | (rw [Bool.eq_iff_iff]; simp; done) | (rw [Bool.eq_iff_iff]; simp; omega) | (rw [Bool.eq_iff_iff]; simp_all; done))

set_option maxHeartbeats 4000000 in
theorem rholds_any (p k : Int) (w : World) : Calls Tryd.prog 39 #[.int .i64 p, .int .i64 k] w fun e w' => e = .returned (.bool (hoB p k)) ∧ w' = w := by
  have HB : Hid (∀ W, Calls Tryd.prog 58 #[.int .i64 k] W fun e w' => e = .returned (.bool (decide (2 ≤ k) && decide (k ≤ 9) && decide (k ≠ 4))) ∧ w' = W) := fun W => block_any k W
  have HI : Hid (∀ W, Calls Tryd.prog 59 #[.int .i64 k] W fun e w' => e = .returned (.bool (decide (10 ≤ k) && decide (k ≤ 18))) ∧ w' = W) := fun W => inline_any k W
  have HE : Hid (hoB p k = if p = 1 ∨ p = 2 ∨ p = 4 then decide (2 ≤ k) && decide (k ≤ 9) && decide (k ≠ 4) else if p = 3 then decide (k = 4) else if p = 5 ∨ p = 6 ∨ p = 14 ∨ p = 15 ∨ p = 16 ∨ p = 17 then decide (10 ≤ k) && decide (k ≤ 18) else false) := rfl
  generalize (decide (2 ≤ k) && decide (k ≤ 9) && decide (k ≠ 4)) = B1 at HB HE
  generalize (decide (10 ≤ k) && decide (k ≤ 18)) = B2 at HI HE
  generalize hoB p k = R at HE
  go_enter Tryd.func39, Tryd.ntmps39
  go_wp2_with (first | (refine (HB.out _).mono ?_; rintro e y ⟨rfl, rfl⟩) | (refine (HI.out _).mono ?_; rintro e y ⟨rfl, rfl⟩))
  all_goals go_ret
  all_goals refine ⟨retB ?_, rfl⟩
  all_goals rw [HE.out]
  all_goals (simp_all <;> first | done | (rw [Bool.eq_iff_iff]; simp; done))
end Go.Proofs.YtdfhgcknelgdmaaDoor
