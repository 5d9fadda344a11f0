/-
  PROVED: how trees lie in memory ('Is': a slice of integers, 'Qs': of pieces, 'Tr': of nodes), and what of it stays; contracts of CopyInts, CopyPieces, SameInts, SamePieces. Conditions: as each says.
-/
import Derived.Test.YtdfhgcknelgdmaaDoorFits
namespace Go.Proofs.YtdfhgcknelgdmaaDoor
open Go.ChangeShapes Go.WideShapes Go.ChangeAt Go.RowKit Go.Sort
set_option linter.unusedVariables false

/-- Slice memory at A, below block B, holds the integers L. -/
def Is (w : World) (B : Nat) (A : Option Addr) (L : List Int) : Prop :=
  ∀ i l, L[i]? = some l → ∃ b o, A = some ⟨b, o, none⟩ ∧ b < B ∧ w.cell? ⟨b, o + i, none⟩ = some (.int .i64 l)
/-- .. holds the pieces L. -/
def Qs (w : World) (B : Nat) (A : Option Addr) (L : List (Int × Int)) : Prop :=
  ∀ i l, L[i]? = some l → ∃ b o, A = some ⟨b, o, none⟩ ∧ b < B ∧ w.cell? ⟨b, o + i * 2, none⟩ = some (.int .i64 l.1) ∧ w.cell? ⟨b, o + i * 2 + 1, none⟩ = some (.int .i64 l.2)
/-- What a node's slices hold. -/
def Sub (w : World) (B : Nat) (n : Nd) (kv pv : Value) : Prop :=
  ∃ KA kc PA pc, kv = .slice KA n.ks.length kc ∧ (KA = none → kc = 0) ∧ Is w B KA n.ks ∧ pv = .slice PA n.ps.length pc ∧ (PA = none → pc = 0) ∧ Qs w B PA n.ps
/-- The ten cells of a node. -/
structure Ten (w : World) (b o : Nat) (n : Nd) (kv pv : Value) : Prop where
  c0 : w.cell? ⟨b, o, none⟩ = some (.int .i64 n.k)
  c1 : w.cell? ⟨b, o + 1, none⟩ = some (.int .i64 n.f)
  c2 : w.cell? ⟨b, o + 2, none⟩ = some (.int .i64 n.t)
  c3 : w.cell? ⟨b, o + 3, none⟩ = some (.int .i64 n.l)
  c4 : w.cell? ⟨b, o + 4, none⟩ = some (.string n.x)
  c5 : w.cell? ⟨b, o + 5, none⟩ = some (.string n.u)
  c6 : w.cell? ⟨b, o + 6, none⟩ = some (.string n.h)
  c7 : w.cell? ⟨b, o + 7, none⟩ = some (.bool n.g)
  c8 : w.cell? ⟨b, o + 8, none⟩ = some kv
  c9 : w.cell? ⟨b, o + 9, none⟩ = some pv
/-- Slice memory at A, below block B, holds the nodes T. -/
def Tr (w : World) (B : Nat) (A : Option Addr) (T : List Nd) : Prop :=
  ∀ i n, T[i]? = some n → ∃ b o kv pv, A = some ⟨b, o, none⟩ ∧ b < B ∧ Ten w b (o + i * 10) n kv pv ∧ Sub w B n kv pv

theorem Is.below {w w' : World} {A : Option Addr} {L : List Int} {B : Nat} (h : Is w B A L) (hb : Below B w w') : Is w' B A L := by
  intro i l hi
  obtain ⟨b, o, e, hlt, h0⟩ := h i l hi
  exact ⟨b, o, e, hlt, (hb.cell (p := ⟨b, o + i, none⟩) hlt).trans h0⟩
theorem Is.more {w : World} {A : Option Addr} {L : List Int} {B B' : Nat} (h : Is w B A L) (hb : B ≤ B') : Is w B' A L := by
  intro i l hi
  obtain ⟨b, o, e, hlt, r⟩ := h i l hi
  exact ⟨b, o, e, by omega, r⟩
theorem Qs.below {w w' : World} {A : Option Addr} {L : List (Int × Int)} {B : Nat} (h : Qs w B A L) (hb : Below B w w') : Qs w' B A L := by
  intro i l hi
  obtain ⟨b, o, e, hlt, h0, h1⟩ := h i l hi
  exact ⟨b, o, e, hlt, (hb.cell (p := ⟨b, o + i * 2, none⟩) hlt).trans h0, (hb.cell (p := ⟨b, o + i * 2 + 1, none⟩) hlt).trans h1⟩
theorem Qs.more {w : World} {A : Option Addr} {L : List (Int × Int)} {B B' : Nat} (h : Qs w B A L) (hb : B ≤ B') : Qs w B' A L := by
  intro i l hi
  obtain ⟨b, o, e, hlt, r⟩ := h i l hi
  exact ⟨b, o, e, by omega, r⟩
theorem Sub.below {w w' : World} {n : Nd} {kv pv : Value} {B : Nat} (h : Sub w B n kv pv) (hb : Below B w w') : Sub w' B n kv pv := by
  obtain ⟨KA, kc, PA, pc, e1, e2, e3, e4, e5, e6⟩ := h
  exact ⟨KA, kc, PA, pc, e1, e2, e3.below hb, e4, e5, e6.below hb⟩
theorem Sub.more {w : World} {n : Nd} {kv pv : Value} {B B' : Nat} (h : Sub w B n kv pv) (hb : B ≤ B') : Sub w B' n kv pv := by
  obtain ⟨KA, kc, PA, pc, e1, e2, e3, e4, e5, e6⟩ := h
  exact ⟨KA, kc, PA, pc, e1, e2, e3.more hb, e4, e5, e6.more hb⟩
theorem Ten.below {w w' : World} {b o : Nat} {n : Nd} {kv pv : Value} {B : Nat} (h : Ten w b o n kv pv) (hlt : b < B) (hb : Below B w w') : Ten w' b o n kv pv :=
  ⟨(hb.cell (p := ⟨b, o, none⟩) hlt).trans h.c0, (hb.cell (p := ⟨b, o + 1, none⟩) hlt).trans h.c1, (hb.cell (p := ⟨b, o + 2, none⟩) hlt).trans h.c2, (hb.cell (p := ⟨b, o + 3, none⟩) hlt).trans h.c3, (hb.cell (p := ⟨b, o + 4, none⟩) hlt).trans h.c4, (hb.cell (p := ⟨b, o + 5, none⟩) hlt).trans h.c5, (hb.cell (p := ⟨b, o + 6, none⟩) hlt).trans h.c6, (hb.cell (p := ⟨b, o + 7, none⟩) hlt).trans h.c7, (hb.cell (p := ⟨b, o + 8, none⟩) hlt).trans h.c8, (hb.cell (p := ⟨b, o + 9, none⟩) hlt).trans h.c9⟩
theorem Tr.below {w w' : World} {A : Option Addr} {T : List Nd} {B : Nat} (h : Tr w B A T) (hb : Below B w w') : Tr w' B A T := by
  intro i n hi
  obtain ⟨b, o, kv, pv, e, hlt, h0, h1⟩ := h i n hi
  exact ⟨b, o, kv, pv, e, hlt, h0.below hlt hb, h1.below hb⟩
theorem Tr.more {w : World} {A : Option Addr} {T : List Nd} {B B' : Nat} (h : Tr w B A T) (hb : B ≤ B') : Tr w B' A T := by
  intro i n hi
  obtain ⟨b, o, kv, pv, e, hlt, h0, h1⟩ := h i n hi
  exact ⟨b, o, kv, pv, e, by omega, h0, h1.more hb⟩
theorem Tr.on {w w' : World} {A : Option Addr} {T : List Nd} (h : Tr w w.heap.size A T) (hb : Below w.heap.size w w') : Tr w' w'.heap.size A T := (h.below hb).more hb.size
theorem Is.on {w w' : World} {A : Option Addr} {T : List Int} (h : Is w w.heap.size A T) (hb : Below w.heap.size w w') : Is w' w'.heap.size A T := (h.below hb).more hb.size
theorem Qs.on {w w' : World} {A : Option Addr} {T : List (Int × Int)} (h : Qs w w.heap.size A T) (hb : Below w.heap.size w w') : Qs w' w'.heap.size A T := (h.below hb).more hb.size

/-! ### rows of one's own -/
def icells (L : List Int) : List Value := L.map (.int .i64)
def qcells (L : List (Int × Int)) : List Value := L.flatMap fun p => [.int .i64 p.1, .int .i64 p.2]
theorem icells_len (L : List Int) : (icells L).length = L.length := by simp [icells]
theorem icells_one (L : List Int) : ∀ u ∈ icells L, u.oneCell' = true := by
  intro u hu
  obtain ⟨x, _, rfl⟩ := List.mem_map.1 hu
  rfl
theorem qcells_len (L : List (Int × Int)) : (qcells L).length = L.length * 2 := by
  induction L with
  | nil => rfl
  | cons x L ih =>
    have e : qcells (x :: L) = [.int .i64 x.1, .int .i64 x.2] ++ qcells L := rfl
    rw [e, List.length_append, ih, List.length_cons]; simp; omega
theorem qcells_one (L : List (Int × Int)) : ∀ u ∈ qcells L, u.oneCell' = true := by
  intro u hu
  obtain ⟨e, _, he⟩ := List.mem_flatMap.1 hu
  simp at he
  rcases he with rfl | rfl <;> rfl
theorem qcells_at : ∀ (L : List (Int × Int)) (i : Nat) (l : Int × Int), L[i]? = some l → (qcells L)[i * 2]? = some (.int .i64 l.1) ∧ (qcells L)[i * 2 + 1]? = some (.int .i64 l.2)
  | [], i, l, h => by simp at h
  | x :: L, 0, l, h => by
    simp at h
    subst h
    exact ⟨rfl, rfl⟩
  | x :: L, i + 1, l, h => by
    have h1 := qcells_at L i l (by simpa using h)
    have e : qcells (x :: L) = [.int .i64 x.1, .int .i64 x.2] ++ qcells L := rfl
    refine ⟨?_, ?_⟩
    · rw [e, List.getElem?_append_right (by simp; omega), show (i + 1) * 2 - [Value.int .i64 x.1, Value.int .i64 x.2].length = i * 2 from by simp; omega]; exact h1.1
    · rw [e, List.getElem?_append_right (by simp; omega), show (i + 1) * 2 + 1 - [Value.int .i64 x.1, Value.int .i64 x.2].length = i * 2 + 1 from by simp; omega]; exact h1.2
theorem add_none (b o n : Nat) : (⟨b, o, none⟩ : Addr).add n = ⟨b, o + n, none⟩ := by unfold Addr.add; split <;> simp_all

theorem Is.cells {w : World} {B : Nat} {ad : Addr} {L : List Int} (h : Is w B (some ad) L) : ∀ j u, (icells L)[j]? = some u → w.cell? (ad.add j) = some u := by
  intro j u hu
  unfold icells at hu
  rw [List.getElem?_map] at hu
  cases hl : L[j]? with
  | none => rw [hl] at hu; cases hu
  | some l =>
    rw [hl] at hu
    obtain ⟨b, o, e, _, h0⟩ := h j l hl
    injection e with e
    subst e
    simp at hu
    subst hu
    rw [add_none]
    exact h0
theorem Qs.cells {w : World} {B : Nat} {ad : Addr} {L : List (Int × Int)} (h : Qs w B (some ad) L) : ∀ j u, (qcells L)[j]? = some u → w.cell? (ad.add j) = some u := by
  intro j u hu
  have hj : j < (qcells L).length := (List.getElem?_eq_some_iff.1 hu).1
  rw [qcells_len] at hj
  have hi : j / 2 < L.length := by omega
  obtain ⟨a0, a1⟩ := qcells_at L (j / 2) L[j / 2] (List.getElem?_eq_getElem hi)
  obtain ⟨b, o, e, _, h0, h1⟩ := h (j / 2) L[j / 2] (List.getElem?_eq_getElem hi)
  injection e with e
  subst e
  rw [add_none]
  have hm : j % 2 = 0 ∨ j % 2 = 1 := by omega
  rcases hm with hm | hm
  · rw [show j / 2 * 2 = j by omega] at a0 h0; rw [hu] at a0; rw [a0]; exact h0
  · rw [show j / 2 * 2 + 1 = j by omega] at a1; rw [show o + j / 2 * 2 + 1 = o + j by omega] at h1; rw [hu] at a1; rw [a1]; exact h1

/-- What a slice that owns integers is. -/
theorem own_ints {w : World} {base : Nat} {v : Value} {L : List Int} (h : w.ownsRow base 3 1 v L.length (icells L)) :
    ∃ A c, v = .slice A L.length c ∧ L.length ≤ c ∧ (A = none → c = 0) ∧ Is w w.heap.size A L := by
  rcases h.2 with ⟨rfl, h0⟩ | ⟨g, cap, cur, rfl, hb, hh, hc, hm, hz, ht⟩
  · have e : L = [] := List.eq_nil_of_length_eq_zero h0
    subst e
    exact ⟨none, 0, rfl, Nat.le_refl _, fun _ => rfl, fun i l hi => by simp at hi⟩
  · have hlt : g < w.heap.size := (Array.getElem?_eq_some_iff.1 hh).1
    refine ⟨some ⟨g, 0, none⟩, cap, rfl, hc, (fun h => by cases h), fun i l hi => ?_⟩
    have hil : i < L.length := (List.getElem?_eq_some_iff.1 hi).1
    refine ⟨g, 0, rfl, hlt, ?_⟩
    have e : (icells L)[i]? = some (.int .i64 l) := by simp [icells, hi]
    rw [← e, ← ht, List.getElem?_take_of_lt (by omega), Nat.zero_add, cell_of_row w g i cur 3 (0, 0) hh]
    simp
theorem own_pieces {w : World} {base : Nat} {v : Value} {L : List (Int × Int)} (h : w.ownsRow base 42 2 v L.length (qcells L)) :
    ∃ A c, v = .slice A L.length c ∧ L.length ≤ c ∧ (A = none → c = 0) ∧ Qs w w.heap.size A L := by
  rcases h.2 with ⟨rfl, h0⟩ | ⟨g, cap, cur, rfl, hb, hh, hc, hm, hz, ht⟩
  · have e : L = [] := List.eq_nil_of_length_eq_zero h0
    subst e
    exact ⟨none, 0, rfl, Nat.le_refl _, fun _ => rfl, fun i l hi => by simp at hi⟩
  · have hlt : g < w.heap.size := (Array.getElem?_eq_some_iff.1 hh).1
    refine ⟨some ⟨g, 0, none⟩, cap, rfl, hc, (fun h => by cases h), fun i l hi => ?_⟩
    have hil : i < L.length := (List.getElem?_eq_some_iff.1 hi).1
    have key : ∀ j, j < L.length * 2 → w.cell? ⟨g, 0 + j, none⟩ = (qcells L)[j]? := by
      intro j hj
      rw [← ht, List.getElem?_take_of_lt hj, Nat.zero_add, cell_of_row w g j cur 42 (0, 0) hh]
      simp
    have h3 := qcells_at L i l hi
    refine ⟨g, 0, rfl, hlt, ?_, ?_⟩
    · rw [key _ (by omega)]; exact h3.1
    · have := key (i * 2 + 1) (by omega)
      rw [← Nat.add_assoc] at this
      rw [this]; exact h3.2
theorem own_below {w w' : World} {base e size n : Nat} {v : Value} {xs : List Value} (h : w.ownsRow base e size v n xs) (hb : Below w.heap.size w w') : w'.ownsRow base e size v n xs := by
  obtain ⟨h1, h2⟩ := h
  refine ⟨h1, ?_⟩
  rcases h2 with h2 | ⟨g, cap, cur, hv, hg, hh, r⟩
  · exact Or.inl h2
  · have hlt : g < w.heap.size := (Array.getElem?_eq_some_iff.1 hh).1
    exact Or.inr ⟨g, cap, cur, hv, hg, (hb.block g hlt).trans hh, r⟩
theorem own_block_ge {w : World} {base e size n : Nat} {v : Value} {xs : List Value} (h : w.ownsRow base e size v n xs) : ∀ g, v.ownBlock = some g → base ≤ g ∧ g < w.heap.size := by
  intro g hg
  rcases h.2 with ⟨rfl, _⟩ | ⟨g', cap, cur, rfl, hb, hh, r⟩
  · simp [Value.ownBlock] at hg
  · simp [Value.ownBlock] at hg
    subst hg
    exact ⟨hb, (Array.getElem?_eq_some_iff.1 hh).1⟩
theorem own_base {w : World} {base base' e size n : Nat} {v : Value} {xs : List Value} (h : w.ownsRow base e size v n xs) (hb : base' ≤ base) : w.ownsRow base' e size v n xs := by
  obtain ⟨h1, h2⟩ := h
  refine ⟨h1, ?_⟩
  rcases h2 with h2 | ⟨g, cap, cur, hv, hg, r⟩
  · exact Or.inl h2
  · exact Or.inr ⟨g, cap, cur, hv, by omega, r⟩
theorem own_empty (w : World) (base e size : Nat) (hb : base ≤ w.heap.size) : (w.alloc (.cells #[] e)).ownsRow base e size (.slice (some ⟨w.heap.size, 0, none⟩) 0 0) 0 [] := by
  refine ⟨by simp, Or.inr ⟨w.heap.size, 0, #[], rfl, hb, heap_alloc_new w _, Nat.le_refl _, Nat.zero_le _, by simp, by simp⟩⟩

theorem Tryd.info3 : (Tryd.prog.info? 3).map (fun i => (i.zero, i.size, i.bytes)) = some (some (.int .i64 0), 1, 8) := by kernel_rfl
theorem Tryd.info42 : (Tryd.prog.info? 42).map (fun i => (i.zero, i.size, i.bytes)) = some (some (.agg #[.int .i64 0, .int .i64 0]), 2, 16) := by kernel_rfl
theorem Tryd.info39 : (Tryd.prog.info? 39).map (fun i => (i.zero, i.size, i.bytes)) = some (some (.agg #[.int .i64 0, .int .i64 0, .int .i64 0, .int .i64 0, .string ⟨#[]⟩, .string ⟨#[]⟩, .string ⟨#[]⟩, .bool false, .slice none 0 0, .slice none 0 0]), 10, 136) := by kernel_rfl

/-! ### CopyInts, CopyPieces -/
/-- A call that answers integers in new memory. -/
def OwnI (w : World) (L : List Int) (e : Ending) (w' : World) : Prop :=
  ∃ v, e = .returned v ∧ w'.ownsRow w.heap.size 3 1 v L.length (icells L) ∧ Below w.heap.size w w'
def OwnQ (w : World) (L : List (Int × Int)) (e : Ending) (w' : World) : Prop :=
  ∃ v, e = .returned v ∧ w'.ownsRow w.heap.size 42 2 v L.length (qcells L) ∧ Below w.heap.size w w'

set_option maxHeartbeats 1000000 in
theorem copyInts_any (A : Option Addr) (c : Nat) (hA : A = none → c = 0) (L : List Int) (hl : L.length ≤ 1000000) (w : World) (h : Is w w.heap.size A L) :
    Calls Tryd.prog 22 #[.slice A L.length c] w (OwnI w L) := by
  obtain ⟨i0, hi, hz0, hz1, hz2⟩ := info_parts Tryd.info3
  rcases A with _ | ad
  · have he : L = [] := by
      match L, h with
      | [], _ => rfl
      | e :: r, h => obtain ⟨b, o, e, _⟩ := h 0 e rfl; cases e
    subst he
    obtain rfl : c = 0 := hA rfl
    clear hA
    go_enter Tryd.func22, Tryd.ntmps22
    go_wp2
    go_ret
    exact ⟨_, rfl, own_empty w w.heap.size 3 1 (Nat.le_refl _), (Below.refl _ _).alloc (Nat.le_refl _) _⟩
  · have hc := (h.on ((Below.refl _ _).alloc (Nat.le_refl _) (.cells #[] 3))).cells
    have HC := Lib.hid hc
    clear hc h hA
    go_enter Tryd.func22, Tryd.ntmps22
    go_wp2_with (at_builtin; refine wpList_append_own _ rfl _ _ 30 rfl w.heap.size 3 i0 (.int .i64 0) 1 8 Tryd.underlying30 hi hz0 hz1 hz2 rfl (by decide) _ _ _ rfl (own_empty w w.heap.size 3 1 (Nat.le_refl _)) ad L.length c (icells L) rfl (by rw [icells_len, Nat.mul_one]) HC.out (icells_one L) (by unfold maxLen; omega) (by omega) (by simp) ?_)
    intro v' w2 hown' hgrow _
    have HO := Lib.hid hown'
    have HB : Hid (Below w.heap.size w w2) := ((Below.refl _ _).alloc (Nat.le_refl _) _).grown hgrow (by simp) (fun k hk => by simp [Value.ownBlock] at hk; omega)
    clear hown' hgrow HC
    go_wp2_with fail
    go_ret
    exact ⟨_, rfl, by have := HO.out; simpa using this, HB.out⟩

set_option maxHeartbeats 1000000 in
theorem copyPieces_any (A : Option Addr) (c : Nat) (hA : A = none → c = 0) (L : List (Int × Int)) (hl : L.length ≤ 1000000) (w : World) (h : Qs w w.heap.size A L) :
    Calls Tryd.prog 23 #[.slice A L.length c] w (OwnQ w L) := by
  obtain ⟨i0, hi, hz0, hz1, hz2⟩ := info_parts Tryd.info42
  rcases A with _ | ad
  · have he : L = [] := by
      match L, h with
      | [], _ => rfl
      | e :: r, h => obtain ⟨b, o, e, _⟩ := h 0 e rfl; cases e
    subst he
    obtain rfl : c = 0 := hA rfl
    clear hA
    go_enter Tryd.func23, Tryd.ntmps23
    go_wp2
    go_ret
    exact ⟨_, rfl, own_empty w w.heap.size 42 2 (Nat.le_refl _), (Below.refl _ _).alloc (Nat.le_refl _) _⟩
  · have hc := (h.on ((Below.refl _ _).alloc (Nat.le_refl _) (.cells #[] 42))).cells
    have HC := Lib.hid hc
    clear hc h hA
    go_enter Tryd.func23, Tryd.ntmps23
    go_wp2_with (at_builtin; refine wpList_append_own _ rfl _ _ 37 rfl w.heap.size 42 i0 (.agg #[.int .i64 0, .int .i64 0]) 2 16 Tryd.underlying37 hi hz0 hz1 hz2 rfl (by decide) _ _ _ rfl (own_empty w w.heap.size 42 2 (Nat.le_refl _)) ad L.length c (qcells L) rfl (qcells_len L) HC.out (qcells_one L) (by unfold maxLen; omega) (by omega) (by simp) ?_)
    intro v' w2 hown' hgrow _
    have HO := Lib.hid hown'
    have HB : Hid (Below w.heap.size w w2) := ((Below.refl _ _).alloc (Nat.le_refl _) _).grown hgrow (by simp) (fun k hk => by simp [Value.ownBlock] at hk; omega)
    clear hown' hgrow HC
    go_wp2_with fail
    go_ret
    exact ⟨_, rfl, by have := HO.out; simpa using this, HB.out⟩
end Go.Proofs.YtdfhgcknelgdmaaDoor
