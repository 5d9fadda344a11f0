/-
  PROVED: contracts of tree.tight, tree.level, tree.span. Conditions: the node's numbers are integers of 64 bits; the table of powers of ten lies as its initialiser lays it.
-/
import Derived.Test.YtdfhgcknelgdmaaDoorQuote
import Derived.Lib.ItoaLen
namespace Go.Proofs.YtdfhgcknelgdmaaDoor
open Go.ChangeShapes Go.WideShapes Go.ChangeAt Go.RowKit Go.Sort
set_option linter.unusedVariables false

/-- The tables. -/
structure Glob (w : World) : Prop where
  tab : Lib.TabIs Tryd.prog w "internal/strconv.uint64pow10" .u64 Lib.pow10Tab
  nm : ∀ k : Nat, k < 19 → w.cell? ⟨0, k, none⟩ = some (.string ⟨(nameL (k : Int)).toArray⟩)
  sz : 5 ≤ w.heap.size
theorem gnamed2 : Tryd.prog.globalNamed "internal/strconv.uint64pow10" = some 2 := by kernel_rfl
theorem Glob.under {w w' : World} {B : Nat} (h : Glob w) (hb : Below B w w') (hB : 5 ≤ B) : Glob w' := by
  refine ⟨?_, fun k hk => (hb.cell (p := ⟨0, k, none⟩) (by show 0 < B; omega)).trans (h.nm k hk), Nat.le_trans h.sz hb.size⟩
  have := h.tab
  unfold Lib.TabIs World.var? at *
  rw [gnamed2] at this ⊢
  simp only [Option.bind_some] at this ⊢
  rw [hb.block 2 (by omega)]
  exact this
theorem Glob.on {w w' : World} (h : Glob w) (hb : Below w.heap.size w w') : Glob w' := h.under hb h.sz

def I64 (a : Int) : Prop := -9223372036854775808 ≤ a ∧ a ≤ 9223372036854775807
/-- A node's numbers are a machine's. -/
def NumN (n : Nd) : Prop := I64 n.f ∧ I64 n.t ∧ I64 n.l

theorem itoa_text (a : Int) (h : I64 a) (w : World) (hg : Glob w) : Calls Tryd.prog 66 #[.int .i64 a] w fun e w' => e = .returned (.string ⟨(Lib.itoa a).toArray⟩) ∧ Below w.heap.size w w' :=
  (Tryd.itoa_any a h.1 h.2 w hg.tab).mono fun e w' h => Grows.below (v := .string ⟨(Lib.itoa a).toArray⟩) h

theorem tight_text (n : Nd) (kv pv : Value) (w : World) : Calls Tryd.prog 54 #[nagg n kv pv] w fun e w' => e = .returned (.string ⟨(tigL n).toArray⟩) ∧ Below w.heap.size w w' := by
  obtain ⟨k, f, t, l, x, u, h, g, ks, ps⟩ := n
  cases g with
  | true =>
    go_enter Tryd.func54, Tryd.ntmps54
    go_wp2_with fail
    go_ret
    exact ⟨rfl, (Below.refl _ _).alloc (Nat.le_refl _) _⟩
  | false =>
    go_enter Tryd.func54, Tryd.ntmps54
    go_wp2_with fail
    go_ret
    exact ⟨rfl, (Below.refl _ _).alloc (Nat.le_refl _) _⟩

set_option maxHeartbeats 2000000 in
theorem level_text (n : Nd) (hn : I64 n.l) (kv pv : Value) (w : World) (hg : Glob w) : Calls Tryd.prog 53 #[nagg n kv pv] w fun e w' => e = .returned (.string ⟨(levL n).toArray⟩) ∧ Below w.heap.size w w' := by
  obtain ⟨k, f, t, l, x, u, h, g, ks, ps⟩ := n
  have HI : Hid (∀ W, Below w.heap.size w W → Calls Tryd.prog 66 #[.int .i64 l] W fun e w' => e = .returned (.string ⟨(Lib.itoa l).toArray⟩) ∧ Below W.heap.size W w') := fun W hb => itoa_text l hn W (hg.on hb)
  have HL : Hid (levL ⟨k, f, t, l, x, u, h, g, ks, ps⟩ = if l = 0 then [] else Lib.itoa l) := rfl
  clear hg hn
  generalize levL ⟨k, f, t, l, x, u, h, g, ks, ps⟩ = R at HL
  by_cases h0 : l = 0
  · have HR : Hid (R = []) := by have := HL.out; rw [if_pos h0] at this; exact this
    have q : (l == 0) = true := by simp [h0]
    clear h0 HL
    go_enter Tryd.func53, Tryd.ntmps53
    go_wp2_with fail
    go_ret
    exact ⟨by rw [HR.out]; rfl, (Below.refl _ _).alloc (Nat.le_refl _) _⟩
  · have HR : Hid (R = Lib.itoa l) := by have := HL.out; rw [if_neg h0] at this; exact this
    have q : (l == 0) = false := by simp [h0]
    clear h0 HL
    go_enter Tryd.func53, Tryd.ntmps53
    go_wp2_with fail
    refine (HI.out _ ((Below.refl _ _).alloc (Nat.le_refl _) _)).mono ?_
    rintro e w1 ⟨rfl, hb⟩
    have HB : Hid (Below w.heap.size w w1) := ((Below.refl _ _).alloc (Nat.le_refl _) _).trans (hb.mono (by simp))
    clear hb
    go_wp2_with fail
    go_ret
    exact ⟨by rw [HR.out]; rfl, HB.out⟩

theorem lst_app (a b : ByteArray) : lst (a ++ b) = lst a ++ lst b := by simp [lst]
theorem of_lst (s : ByteArray) (l : List UInt8) (h : lst s = l) : s = ⟨l.toArray⟩ := by rw [← h]

set_option maxHeartbeats 4000000 in
set_option maxRecDepth 100000 in
theorem span_text (n : Nd) (hf : I64 n.f) (ht : I64 n.t) (b : Bool) (kv pv : Value) (w : World) (hg : Glob w) : Calls Tryd.prog 52 #[nagg n kv pv, .bool b] w fun e w' => e = .returned (.string ⟨(spanL n b).toArray⟩) ∧ Below w.heap.size w w' := by
  cases b with
  | false =>
    obtain ⟨k, f, t, l, x, u, h, g, ks, ps⟩ := n
    go_enter Tryd.func52, Tryd.ntmps52
    go_wp2_with fail
    go_ret
    exact ⟨rfl, (Below.refl _ _).alloc (Nat.le_refl _) _⟩
  | true =>
    obtain ⟨W1, hW1⟩ : ∃ W1, W1 = w.alloc (.cells #[.int .i64 n.k, .int .i64 n.f, .int .i64 n.t, .int .i64 n.l, .string n.x, .string n.u, .string n.h, .bool n.g, kv, pv] 39) := ⟨_, rfl⟩
    have hh : Holds W1 w.heap.size 39 #[.int .i64 n.k, .int .i64 n.f, .int .i64 n.t, .int .i64 n.l, .string n.x, .string n.u, .string n.h, .bool n.g, kv, pv] := by rw [hW1]; exact Holds.made w 39 _
    have bl : Below w.heap.size w W1 := by rw [hW1]; exact (Below.refl _ _).alloc (Nat.le_refl _) _
    have HR : Hid (spanL n true = Lib.itoa n.f ++ (45 :: Lib.itoa n.t)) := rfl
    have y1 := cell_regrown (v := .int .i64 n.f) (hh.at 1)
    have y2 := cell_regrown (v := .int .i64 n.t) (hh.at 2)
    obtain ⟨F, hF⟩ : ∃ F : ByteArray, lst F = Lib.itoa n.f := ⟨⟨(Lib.itoa n.f).toArray⟩, lst_mk _⟩
    obtain ⟨G, hG⟩ : ∃ F : ByteArray, lst F = Lib.itoa n.t := ⟨⟨(Lib.itoa n.t).toArray⟩, lst_mk _⟩
    have HFL : Hid (F.size ≤ 100 ∧ G.size ≤ 100) := by
      have h1 := Lib.itoa_length_le n.f hf.1 hf.2
      have h2 := Lib.itoa_length_le n.t ht.1 ht.2
      rw [← hF, lst_size] at h1
      rw [← hG, lst_size] at h2
      exact ⟨by omega, by omega⟩
    have H1 : Hid (∀ d os, Calls Tryd.prog 66 #[.int .i64 n.f] (grow (redrawn W1 d) os) fun e w'' => e = .returned (.string F) ∧ ∃ p : Regrown, w'' = grow (redrawn W1 p.d) p.os) := fun d os => Calls.regrown_of (by
      have := itoa_text n.f hf (grow (redrawn W1 d) os) (hg.on (bl.trans ((below_regrown W1 d os).mono bl.size)))
      rw [← hF, ← of_lst F _ rfl] at this; exact this)
    have H2 : Hid (∀ d os, Calls Tryd.prog 66 #[.int .i64 n.t] (grow (redrawn W1 d) os) fun e w'' => e = .returned (.string G) ∧ ∃ p : Regrown, w'' = grow (redrawn W1 p.d) p.os) := fun d os => Calls.regrown_of (by
      have := itoa_text n.t ht (grow (redrawn W1 d) os) (hg.on (bl.trans ((below_regrown W1 d os).mono bl.size)))
      rw [← hG, ← of_lst G _ rfl] at this; exact this)
    have HEnd : Hid (∀ d os, Below w.heap.size w (grow (redrawn W1 d) os)) := fun d os => bl.trans ((below_regrown W1 d os).mono bl.size)
    have HW1 := Lib.hid hW1
    have HFe := Lib.hid hF
    have HGe := Lib.hid hG
    obtain ⟨z1, z2⟩ := HFL.out
    clear hW1 hh bl hg hF hG hf ht
    go_enter Tryd.func52, Tryd.ntmps52
    go_wp2_with fail
    rw [← HW1.out]
    refine wp_region_quiet_below (by kernel_rfl) (by kernel_rfl) ?_
    repeat (go_big_quiet_step (first | (go_at_call 66; exact H1.out _ _) | (go_at_call 66; exact H2.out _ _)))
    refine wpQuiet_nil ?_
    intro _ hw'
    obtain ⟨⟨dq, osq⟩, hw''⟩ := hw'
    subst hw''
    have HZ := Lib.hid (HEnd.out dq osq)
    clear y1 y2
    generalize grow (redrawn W1 dq) osq = w3 at HZ ⊢
    go_wp2_with fail
    go_ret
    refine ⟨?_, HZ.out⟩
    have e : F ++ { data := #[45] } ++ G = ⟨(spanL n true).toArray⟩ := of_lst _ _ (by rw [lst_app, lst_app, HFe.out, HGe.out, HR.out]; simp; rfl)
    rw [← e]
    rfl
end Go.Proofs.YtdfhgcknelgdmaaDoor
