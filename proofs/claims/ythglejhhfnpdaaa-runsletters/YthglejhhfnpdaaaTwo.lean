/-
  PROVED: facts on two rows of bytes that grow side by side, and on a byte made a text. Conditions: none.
-/
import Derived.Test.YthglejhhfnpdaaaOwn
import Derived.Test.YthglejhhfnpdaaaAlive
import Derived.Deep.AppendLies
namespace Go.Proofs.Ythglejhhfnpdaaa
open Go.ChangeShapes Go.WideShapes Go.ChangeAt Go.RowKit Go.Sort
set_option linter.unusedVariables false

/-- What stands in the blocks that there were, but those of M, is as it was. -/
structure Kept (M : Nat → Prop) (w w' : World) : Prop where
  os : w'.os = w.os
  tape : w'.tape = w.tape
  output : w'.output = w.output
  size : w.heap.size ≤ w'.heap.size
  block : ∀ k, k < w.heap.size → ¬ M k → w'.heap[k]? = w.heap[k]?
theorem Kept.refl (M : Nat → Prop) (w : World) : Kept M w w := ⟨rfl, rfl, rfl, Nat.le_refl _, fun _ _ _ => rfl⟩
theorem Kept.of_below {w w' : World} {B : Nat} (M : Nat → Prop) (h : Below B w w') (hB : w.heap.size ≤ B) : Kept M w w' := ⟨h.os, h.tape, h.output, h.size, fun k hk _ => h.block k (by omega)⟩
theorem Kept.mono {M M' : Nat → Prop} {w w' : World} (h : Kept M w w') (hm : ∀ k, k < w.heap.size → M k → M' k) : Kept M' w w' := ⟨h.os, h.tape, h.output, h.size, fun k hk hn => h.block k hk (fun hh => hn (hm k hk hh))⟩
/-- One step behind the other: what the second one touches is of M or new. -/
theorem Kept.trans {M M' : Nat → Prop} {a b c : World} (h : Kept M a b) (k : Kept M' b c) (hm : ∀ i, i < a.heap.size → M' i → M i) : Kept M a c :=
  ⟨k.os.trans h.os, k.tape.trans h.tape, k.output.trans h.output, Nat.le_trans h.size k.size, fun i hi hn => (k.block i (Nat.lt_of_lt_of_le hi h.size) (fun hh => hn (hm i hi hh))).trans (h.block i hi hn)⟩
theorem Kept.below {M : Nat → Prop} {w w' : World} {B : Nat} (h : Kept M w w') (hB : B ≤ w.heap.size) (hm : ∀ k, M k → B ≤ k) : Below B w w' := ⟨h.os, h.tape, h.output, h.size, fun k hk => h.block k (by omega) (fun hh => by have := hm k hh; omega)⟩
theorem Kept.set (M : Nat → Prop) (w : World) (p : Addr) (u : Value) (hp : M p.block) : Kept M w (w.setCell p u) :=
  ⟨rfl, rfl, rfl, by simp, fun k hk hn => Below.heap_setCell w p u k (fun e => hn (by rw [e]; exact hp))⟩
theorem Kept.alloc (M : Nat → Prop) (w : World) (o : Obj) : Kept M w (w.alloc o) := ⟨rfl, rfl, rfl, by simp, fun k hk _ => heap_alloc_old w o hk⟩
theorem Kept.drew (M : Nat → Prop) (w : World) (n : Nat) : Kept M w (w.drewN n) := ⟨rfl, rfl, rfl, Nat.le_refl _, fun _ _ _ => rfl⟩
theorem Kept.grown (M : Nat → Prop) {w w' : World} {row : Option Nat} (h : w.grownBy w' row) (hr : ∀ k, row = some k → M k) : Kept M w w' :=
  ⟨h.os, h.tape, h.output, h.size, fun k hk hn => h.block k hk (fun e => hn (hr k e.symm))⟩
theorem Kept.holds {M : Nat → Prop} {w w' : World} {g : Nat} {t : TypeId} {cs : Array Value} (h : Kept M w w') (hh : Holds w g t cs) (hn : ¬ M g) : Holds w' g t cs := (h.block g hh.lt hn).trans hh
theorem Kept.own {M : Nat → Prop} {w w' : World} {base e size n : Nat} {v : Value} {xs : List Value} (h : Kept M w w') (ho : w.ownsRow base e size v n xs) (hn : ∀ k, v.ownBlock = some k → ¬ M k) : w'.ownsRow base e size v n xs := by
  obtain ⟨h1, h2⟩ := ho
  refine ⟨h1, ?_⟩
  rcases h2 with h2 | ⟨g, cap, cur, hv, hg, hh, r⟩
  · exact Or.inl h2
  · exact Or.inr ⟨g, cap, cur, hv, hg, (h.block g (Array.getElem?_eq_some_iff.1 hh).1 (hn g (by rw [hv]; rfl))).trans hh, r⟩


/-- Two rows of bytes of the call's own, in blocks of their own: k bytes 42, k bytes 95. -/
def Two (w : World) (B k : Nat) (v u : Value) (wr : World) : Prop :=
  ∃ g h c d, v = .slice (some ⟨g, 0, none⟩) k c ∧ u = .slice (some ⟨h, 0, none⟩) k d ∧ g ≠ h ∧ wr.ownsRow B 5 1 v k (Lib.byteCells (List.replicate k 42)) ∧ wr.ownsRow B 5 1 u k (Lib.byteCells (List.replicate k 95)) ∧ B = w.heap.size ∧ Below B w wr
theorem own_lt {w : World} {base e size n g c : Nat} {xs : List Value} (h : w.ownsRow base e size (.slice (some ⟨g, 0, none⟩) n c) n xs) : base ≤ g ∧ g < w.heap.size := own_block_ge h g rfl
theorem rep_step (k : Nat) (b : UInt8) : Lib.byteCells (List.replicate k b) ++ Lib.byteCells [b] = Lib.byteCells (List.replicate (k + 1) b) := by
  rw [← Lib.byteCells_append, List.replicate_succ']
theorem conv_one (w : World) (v : Int) (X : UInt8) (h : (X.toNat : Int) = v) (H : Nat) (hH : H = w.heap.size) : (convert 28 9 (.slice (some ⟨H, 0, none⟩) 1 1)).run Try.prog (w.alloc (.cells #[.int .u8 v] 5)) = .ok (.string ⟨#[X]⟩) (w.alloc (.cells #[.int .u8 v] 5)) := by
  subst hH
  refine run_convert_bytes_back _ 28 9 5 ⟨w.heap.size, 0, none⟩ 1 [X] Try.underlying28 Try.underlying5 Try.underlying9 ?_
  intro j hj
  have hj0 : j = 0 := by simp at hj; exact hj
  subst hj0
  subst h
  simp [Addr.add]
theorem rep_string {w : World} {B g c k : Nat} {b : UInt8} (h : w.ownsRow B 5 1 (.slice (some ⟨g, 0, none⟩) k c) k (Lib.byteCells (List.replicate k b))) (n : Nat) (hn : k = n) : (convert 28 9 (.slice (some ⟨g, 0, none⟩) n c)).run Try.prog w = .ok (.string ⟨(List.replicate n b).toArray⟩) w := by
  subst hn
  obtain ⟨a, c', e, hc⟩ := own_string (l := List.replicate k b) (by rw [List.length_replicate]; exact h) (fun h => by cases h)
  simp only [Value.slice.injEq] at e
  obtain ⟨e1, _, e3⟩ := e
  exact hc
theorem lst_app (a b : ByteArray) : lst (a ++ b) = lst a ++ lst b := by
  show (a ++ b).data.toList = _
  simp
theorem no_mem {P : UInt8 → Prop} : ∀ x ∈ ([] : List UInt8), P x := fun x hx => by cases hx
theorem one_mem {P : UInt8 → Prop} {X : UInt8} (h : P X) : ∀ x ∈ [X], P x := fun x hx => by rw [List.mem_singleton.1 hx]; exact h
theorem made_val (s : ByteArray) (c : UInt8) (n : Nat) (pre suf : List UInt8) (hk : c = 42 ∨ c = 95) (hs : lst s = pre ++ List.replicate n c ++ suf) (hn : 0 < n) (hz : s.size ≤ 50000) (h1 : pre.length ≤ 1) (h2 : suf.length ≤ 1)
    (hp : ∀ x ∈ pre, x.toNat < 128) (hu : ∀ x ∈ suf, x.toNat < 128 ∧ x ≠ c) (a : Int) (ha : a = pre.length) (bx mx bY my : Bool) (e1 : isBlank (sideL pre) = bx) (e2 : isMark (sideL pre) = mx) (e3 : isBlank (sideL suf) = bY) (e4 : isMark (sideL suf) = my) (v : Value) (hv : rowB c n bx mx bY my = v) (w : World) :
    Calls Try.prog 8 #[.string s, .int .i64 a] w fun e w' => e = .returned (.tuple #[v, .bool true]) ∧ Below w.heap.size w w' := by
  rw [← hv]
  exact made_scan s c n pre suf hk hs hn hz h1 h2 hp hu a ha bx mx bY my e1 e2 e3 e4 w
theorem val1 (n : Nat) : rowB 42 n false false false false = .agg #[.int .u8 42, .int .i64 n, .bool true, .bool true] := rfl
theorem val2 (n : Nat) : rowB 95 n false false false false = .agg #[.int .u8 95, .int .i64 n, .bool false, .bool false] := rfl
theorem val3 (n : Nat) : rowB 42 n true false true false = .agg #[.int .u8 42, .int .i64 n, .bool false, .bool false] := rfl
theorem val4 (n : Nat) : rowB 95 n true false true false = .agg #[.int .u8 95, .int .i64 n, .bool false, .bool false] := rfl
theorem val5 (n : Nat) : rowB 42 n true false false false = .agg #[.int .u8 42, .int .i64 n, .bool true, .bool false] := rfl
theorem val6 (n : Nat) : rowB 95 n false false true false = .agg #[.int .u8 95, .int .i64 n, .bool false, .bool true] := rfl
end Go.Proofs.Ythglejhhfnpdaaa
