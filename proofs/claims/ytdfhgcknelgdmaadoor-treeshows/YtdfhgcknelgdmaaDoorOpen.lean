/-
  PROVED: an argument that is a tree, opened: its nodes as a list, its cells, its bounds. Conditions: the row's own.
-/
import Derived.Test.YtdfhgcknelgdmaaDoorWeigh
import Derived.Test.YtdfhgcknelgdmaaDoorOwn
import Derived.Test.YtdfhgcknelgdmaaDoorLine
import Derived.ProofKit
import Derived.OpenShut
import Derived.ShutString
import Derived.Deep.Slices
import Derived.Deep.Fields
import Derived.SizedLaws
import Derived.Carry
namespace Go.Proofs.YtdfhgcknelgdmaaDoor
open Go.ChangeShapes Go.WideShapes Go.ChangeAt Go.RowKit Go.Joins Go.Deep
set_option linter.unusedVariables false

theorem Tryd.own : ownKnob Tryd.prog.godebug = none := by kernel_rfl
theorem Tryd.laidOut : laidOutB Tryd.prog = true := by kernel_rfl
theorem Tryd.cells39 : Tryd.prog.cellsOf 39 = 10 := by kernel_rfl
theorem Tryd.cells42 : Tryd.prog.cellsOf 42 = 2 := by kernel_rfl
theorem Tryd.cells24 : Tryd.prog.cellsOf 24 = 1 := by kernel_rfl
theorem Tryd.cells22 : Tryd.prog.cellsOf 22 = 1 := by kernel_rfl
theorem Tryd.cells30 : Tryd.prog.cellsOf 30 = 1 := by kernel_rfl
theorem Tryd.cells37 : Tryd.prog.cellsOf 37 = 1 := by kernel_rfl
theorem Tryd.cells3 : Tryd.prog.cellsOf 3 = 1 := by kernel_rfl
theorem Tryd.cells4 : Tryd.prog.cellsOf 4 = 1 := by kernel_rfl
theorem Tryd.cells9 : Tryd.prog.cellsOf 9 = 1 := by kernel_rfl
theorem Tryd.bytes39 : Tryd.prog.bytesOf 39 = 136 := by kernel_rfl
theorem Tryd.bytes42 : Tryd.prog.bytesOf 42 = 16 := by kernel_rfl
theorem Tryd.bytes3 : Tryd.prog.bytesOf 3 = 8 := by kernel_rfl

theorem i64_bd {a : Int} (h : (Lit.int .i64 a).wf = true) : I64 a := by
  unfold Lit.wf at h
  rw [Bool.and_eq_true, decide_eq_true_iff, decide_eq_true_iff] at h
  exact h

theorem weightsAll_mem {H : Type} {P : Program} {e : TypeId} : ∀ {l : List (DataW H)} {d : DataW H}, d ∈ l → ∀ n ∈ d.weights P e, n ∈ DataW.weightsAll P e l
  | x :: r, d, hd, n, hn => by
    rw [DataW.weightsAll, List.mem_append]
    rcases List.mem_cons.1 hd with rfl | hd
    · exact Or.inl hn
    · exact Or.inr (weightsAll_mem hd n hn)

theorem spot_none {w : World} {a : Addr} {v : Value} (h : w.cell? a = some v) : a = ⟨a.block, a.off, none⟩ := by
  obtain ⟨b, o, sp⟩ := a
  cases sp with
  | none => rfl
  | some x =>
    exfalso
    unfold World.cell? at h
    simp only [Option.isSome_some, if_true] at h
    split at h <;> cases h

section
variable {H : Type} {enc : TypeId × Value → H} {W : World} {base : Nat} {spare : Nat → Bool} {held : Bool}

theorem open_ints {fuel : Nat} {v : Value} {x : DataW H × List MemPlace} (h : DataW.trod enc Tryd.prog W base spare held fuel 30 [v] = some x) (hwt : ∀ n ∈ x.1.weights Tryd.prog 30, n ≤ reachBytes) :
    ∃ (A : Option Addr) (c : Nat) (L : List Int), v = .slice A L.length c ∧ (A = none → c = 0) ∧ Is W W.heap.size A L ∧ L.length ≤ 140737488355328 := by
  have hr : reachBytes = 140737488351232 := rfl
  rcases open_slice Tryd.underlying30 h with ⟨hcs, hx⟩ | ⟨a, len, cap, m, n, D, Pl, hcs, _, hlc, _, hm, hx, hi⟩
  · simp at hcs
    subst hcs
    exact ⟨none, 0, [], rfl, fun _ => rfl, fun i l hi => by simp at hi, by simp⟩
  · simp at hcs
    subst hcs
    subst hx
    have hlm : len ≤ m := by rw [hm]; split <;> omega
    have hlen : len ≤ 140737488355328 := by
      have := hwt ((((List.range len).map D).length + ((List.range (m - len)).map fun j => D (len + j)).length) * Tryd.prog.bytesOf 3) (by simp only [DataW.weights, Tryd.underlying30]; exact List.mem_cons_self)
      rw [Tryd.bytes3, List.length_map, List.length_range] at this
      omega
    have each : ∀ i, ∃ e : Int, i < len → W.cell? (a.add i) = some (.int .i64 e) := by
      intro i
      by_cases hil : i < len
      · obtain ⟨cs', hc, ht⟩ := hi i (by omega)
        rw [Tryd.cells3] at hc
        obtain ⟨e, rfl, _, _⟩ := DataW.trod_int Tryd.underlying3 ht
        obtain ⟨_, _, hat⟩ := World.cells?_some hc
        have := hat 0 (by omega)
        rw [Nat.mul_one] at this
        refine ⟨e, fun _ => ?_⟩
        simpa [Addr.add] using this
      · exact ⟨0, fun h => absurd h hil⟩
    obtain ⟨g, hg⟩ : ∃ g : Nat → Int, ∀ i, i < len → W.cell? (a.add i) = some (.int .i64 (g i)) := ⟨fun i => Classical.choose (each i), fun i => Classical.choose_spec (each i)⟩
    refine ⟨some a, cap, (List.range len).map g, by simp, (fun h => by cases h), fun i l hi => ?_, by simpa using hlen⟩
    have hil : i < len := by have := (List.getElem?_eq_some_iff.1 hi).1; simpa using this
    rw [List.getElem?_map, List.getElem?_range hil] at hi
    simp at hi
    subst hi
    have h0 := hg 0 (by omega)
    rw [show a.add 0 = a by simp [Addr.add]] at h0
    have ha := spot_none h0
    have hq := hg i hil
    rw [ha, add_none] at hq
    exact ⟨a.block, a.off, by rw [← ha], World.block_lt_of_cell? _ _ h0, hq⟩

set_option maxRecDepth 100000 in
theorem open_piece {fuel : Nat} {cs : List Value} {x : DataW H × List MemPlace} (h : DataW.trod enc Tryd.prog W base spare held fuel 42 cs = some x) :
    ∃ e : Int × Int, cs = [.int .i64 e.1, .int .i64 e.2] := by
  obtain ⟨xs, n, _, hx, hcl, hxl, hf⟩ := DataW.trod_struct Tryd.underlying42 h
  rw [Tryd.cells42] at hcl
  match cs, hcl, xs, hxl with
  | [c0, c1], _, [x0, x1], _ =>
    have h0 := hf 0 _ rfl
    have h1 := hf 1 _ rfl
    simp [Tryd.cells3] at h0 h1
    obtain ⟨a, ha, rfl, _⟩ := DataW.trod_int Tryd.underlying3 h0
    obtain ⟨b, hb, rfl, _⟩ := DataW.trod_int Tryd.underlying3 h1
    simp at ha hb
    subst ha hb
    exact ⟨(a, b), rfl⟩

theorem open_pieces {fuel : Nat} {v : Value} {x : DataW H × List MemPlace} (h : DataW.trod enc Tryd.prog W base spare held fuel 37 [v] = some x) (hwt : ∀ n ∈ x.1.weights Tryd.prog 37, n ≤ reachBytes) :
    ∃ (A : Option Addr) (c : Nat) (L : List (Int × Int)), v = .slice A L.length c ∧ (A = none → c = 0) ∧ Qs W W.heap.size A L ∧ L.length ≤ 140737488355328 := by
  have hr : reachBytes = 140737488351232 := rfl
  rcases open_slice Tryd.underlying37 h with ⟨hcs, hx⟩ | ⟨a, len, cap, m, n, D, Pl, hcs, _, hlc, _, hm, hx, hi⟩
  · simp at hcs
    subst hcs
    exact ⟨none, 0, [], rfl, fun _ => rfl, fun i l hi => by simp at hi, by simp⟩
  · simp at hcs
    subst hcs
    subst hx
    have hlm : len ≤ m := by rw [hm]; split <;> omega
    have hlen : len ≤ 140737488355328 := by
      have := hwt ((((List.range len).map D).length + ((List.range (m - len)).map fun j => D (len + j)).length) * Tryd.prog.bytesOf 42) (by simp only [DataW.weights, Tryd.underlying37]; exact List.mem_cons_self)
      rw [Tryd.bytes42, List.length_map, List.length_range] at this
      omega
    have each : ∀ i, ∃ e : Int × Int, i < len → (W.cell? ((a.add (i * 2)).add 0) = some (.int .i64 e.1) ∧ W.cell? ((a.add (i * 2)).add 1) = some (.int .i64 e.2)) := by
      intro i
      by_cases hil : i < len
      · obtain ⟨cs', hc, ht⟩ := hi i (by omega)
        rw [Tryd.cells42] at hc
        obtain ⟨e, rfl⟩ := open_piece ht
        obtain ⟨_, _, hat⟩ := World.cells?_some hc
        exact ⟨e, fun _ => ⟨hat 0 (by omega), hat 1 (by omega)⟩⟩
      · exact ⟨(0, 0), fun h => absurd h hil⟩
    obtain ⟨g, hg⟩ : ∃ g : Nat → Int × Int, ∀ i, i < len → (W.cell? ((a.add (i * 2)).add 0) = some (.int .i64 (g i).1) ∧ W.cell? ((a.add (i * 2)).add 1) = some (.int .i64 (g i).2)) := ⟨fun i => Classical.choose (each i), fun i => Classical.choose_spec (each i)⟩
    refine ⟨some a, cap, (List.range len).map g, by simp, (fun h => by cases h), fun i l hi => ?_, by simpa using hlen⟩
    have hil : i < len := by have := (List.getElem?_eq_some_iff.1 hi).1; simpa using this
    rw [List.getElem?_map, List.getElem?_range hil] at hi
    simp at hi
    subst hi
    have h0 := (hg 0 (by omega)).1
    rw [show (a.add (0 * 2)).add 0 = a by simp [Addr.add]] at h0
    have ha := spot_none h0
    obtain ⟨q0, q1⟩ := hg i hil
    rw [ha, add_none, add_none] at q0 q1
    exact ⟨a.block, a.off, by rw [← ha], World.block_lt_of_cell? _ _ h0, q0, q1⟩

set_option maxRecDepth 100000 in
set_option maxHeartbeats 2000000 in
theorem open_node {fuel : Nat} {cs : List Value} {x : DataW H × List MemPlace} (h : DataW.trod enc Tryd.prog W base spare held fuel 39 cs = some x) (hwt : ∀ m ∈ x.1.weights Tryd.prog 39, m ≤ reachBytes) :
    ∃ (n : Nd) (kv pv : Value), cs = ncell n kv pv ∧ Sub W W.heap.size n kv pv ∧ NumN n ∧ n.x.size ≤ 140737488355328 ∧ n.u.size ≤ 140737488355328 ∧ n.h.size ≤ 140737488355328 ∧ n.ks.length ≤ 140737488355328 ∧ n.ps.length ≤ 140737488355328 := by
  have hr : reachBytes = 140737488351232 := rfl
  obtain ⟨xs, n, _, hx, hcl, hxl, hf⟩ := DataW.trod_struct Tryd.underlying39 h
  rw [Tryd.cells39] at hcl
  match cs, hcl, xs, hxl with
  | [c0, c1, c2, c3, c4, c5, c6, c7, c8, c9], _, [x0, x1, x2, x3, x4, x5, x6, x7, x8, x9], _ =>
    have h0 := hf 0 _ rfl
    have h1 := hf 1 _ rfl
    have h2 := hf 2 _ rfl
    have h3 := hf 3 _ rfl
    have h4 := hf 4 _ rfl
    have h5 := hf 5 _ rfl
    have h6 := hf 6 _ rfl
    have h7 := hf 7 _ rfl
    have h8 := hf 8 _ rfl
    have h9 := hf 9 _ rfl
    simp [Tryd.cells3, Tryd.cells4, Tryd.cells9, Tryd.cells30, Tryd.cells37] at h0 h1 h2 h3 h4 h5 h6 h7 h8 h9
    obtain ⟨v0, e0, rfl, _⟩ := DataW.trod_int Tryd.underlying3 h0
    obtain ⟨v1, e1, rfl, w1⟩ := DataW.trod_int Tryd.underlying3 h1
    obtain ⟨v2, e2, rfl, w2⟩ := DataW.trod_int Tryd.underlying3 h2
    obtain ⟨v3, e3, rfl, w3⟩ := DataW.trod_int Tryd.underlying3 h3
    obtain ⟨v4, e4, rfl, _⟩ := DataW.trod_string Tryd.underlying9 h4
    obtain ⟨v5, e5, rfl, _⟩ := DataW.trod_string Tryd.underlying9 h5
    obtain ⟨v6, e6, rfl, _⟩ := DataW.trod_string Tryd.underlying9 h6
    obtain ⟨v7, e7, rfl, _⟩ := DataW.trod_bool Tryd.underlying4 h7
    simp at e0 e1 e2 e3 e4 e5 e6 e7
    subst e0 e1 e2 e3 e4 e5 e6 e7
    rw [hx] at hwt
    simp [DataW.weights, DataW.weightsEach, Tryd.underlying39] at hwt
    obtain ⟨l4, l5, l6, l89⟩ := hwt
    obtain ⟨KA, kc, ks, rfl, k1, k2, k3⟩ := open_ints h8 (fun m hm => l89 m (Or.inl hm))
    obtain ⟨PA, pc, ps, rfl, p1, p2, p3⟩ := open_pieces h9 (fun m hm => l89 m (Or.inr hm))
    exact ⟨⟨v0, v1, v2, v3, v4, v5, v6, v7, ks, ps⟩, _, _, rfl, ⟨KA, kc, PA, pc, rfl, k1, k2, rfl, p1, p2⟩, ⟨i64_bd w1, i64_bd w2, i64_bd w3⟩, by show v4.size ≤ _; omega, by show v5.size ≤ _; omega, by show v6.size ≤ _; omega, k3, p3⟩

set_option maxHeartbeats 2000000 in
theorem open_nodes {fuel : Nat} {v : Value} {x : DataW H × List MemPlace} (h : DataW.trod enc Tryd.prog W base spare held fuel 22 [v] = some x) (hwt : ∀ n ∈ x.1.weights Tryd.prog 22, n ≤ reachBytes) :
    ∃ (A : Option Addr) (c : Nat) (T : List Nd), v = .slice A T.length c ∧ (A = none → c = 0) ∧ Tr W W.heap.size A T ∧ Wide T ∧ ∀ n ∈ T, NumN n := by
  have hr : reachBytes = 140737488351232 := rfl
  rcases open_slice Tryd.underlying22 h with ⟨hcs, hx⟩ | ⟨a, len, cap, m, n, D, Pl, hcs, _, hlc, _, hm, hx, hi⟩
  · simp at hcs
    subst hcs
    exact ⟨none, 0, [], rfl, fun _ => rfl, fun i l hi => by simp at hi, ⟨by simp, fun n hn => by simp at hn⟩, fun n hn => by simp at hn⟩
  · simp at hcs
    subst hcs
    subst hx
    have hlm : len ≤ m := by rw [hm]; split <;> omega
    have hlen : len ≤ 140737488355328 := by
      have := hwt ((((List.range len).map D).length + ((List.range (m - len)).map fun j => D (len + j)).length) * Tryd.prog.bytesOf 39) (by simp only [DataW.weights, Tryd.underlying22]; exact List.mem_cons_self)
      rw [Tryd.bytes39, List.length_map, List.length_range] at this
      omega
    have each : ∀ i, ∃ (t : Nd × Value × Value), i < len → ((∀ j u, (ncell t.1 t.2.1 t.2.2)[j]? = some u → W.cell? ((a.add (i * 10)).add j) = some u) ∧ Sub W W.heap.size t.1 t.2.1 t.2.2 ∧ NumN t.1 ∧ t.1.x.size ≤ 140737488355328 ∧ t.1.u.size ≤ 140737488355328 ∧ t.1.h.size ≤ 140737488355328 ∧ t.1.ks.length ≤ 140737488355328 ∧ t.1.ps.length ≤ 140737488355328) := by
      intro i
      by_cases hil : i < len
      · obtain ⟨cs', hc, ht⟩ := hi i (by omega)
        rw [Tryd.cells39] at hc
        obtain ⟨e, kv, pv, rfl, r⟩ := open_node ht (fun k hk => hwt k (by
          simp only [DataW.weights, Tryd.underlying22]
          exact List.mem_cons_of_mem _ (List.mem_append_left _ (weightsAll_mem (List.mem_map.2 ⟨i, List.mem_range.2 hil, rfl⟩) _ hk))))
        obtain ⟨_, _, hat⟩ := World.cells?_some hc
        refine ⟨(e, kv, pv), fun _ => ⟨fun j u hu => ?_, r⟩⟩
        have hj : j < 10 := (List.getElem?_eq_some_iff.1 hu).1
        exact (hat j hj).trans hu
      · exact ⟨(⟨0, 0, 0, 0, ⟨#[]⟩, ⟨#[]⟩, ⟨#[]⟩, false, [], []⟩, .bool false, .bool false), fun h => absurd h hil⟩
    obtain ⟨g, hg⟩ : ∃ g : Nat → Nd × Value × Value, ∀ i, i < len → ((∀ j u, (ncell (g i).1 (g i).2.1 (g i).2.2)[j]? = some u → W.cell? ((a.add (i * 10)).add j) = some u) ∧ Sub W W.heap.size (g i).1 (g i).2.1 (g i).2.2 ∧ NumN (g i).1 ∧ (g i).1.x.size ≤ 140737488355328 ∧ (g i).1.u.size ≤ 140737488355328 ∧ (g i).1.h.size ≤ 140737488355328 ∧ (g i).1.ks.length ≤ 140737488355328 ∧ (g i).1.ps.length ≤ 140737488355328) :=
      ⟨fun i => Classical.choose (each i), fun i => Classical.choose_spec (each i)⟩
    refine ⟨some a, cap, (List.range len).map fun i => (g i).1, by simp, (fun h => by cases h), fun i l hi => ?_, ⟨by simpa using hlen, fun e he => ?_⟩, fun e he => ?_⟩
    · have hil : i < len := by have := (List.getElem?_eq_some_iff.1 hi).1; simpa using this
      rw [List.getElem?_map, List.getElem?_range hil] at hi
      simp at hi
      subst hi
      have h0 := (hg 0 (by omega)).1 0 _ rfl
      rw [show (a.add (0 * 10)).add 0 = a by simp [Addr.add]] at h0
      have ha := spot_none h0
      obtain ⟨hc, hs, _⟩ := hg i hil
      rw [ha] at hc
      have key : ∀ j u, (ncell (g i).1 (g i).2.1 (g i).2.2)[j]? = some u → W.cell? ⟨a.block, a.off + i * 10 + j, none⟩ = some u := fun j u hu => by
        have := hc j u hu
        rw [add_none, add_none] at this
        exact this
      exact ⟨a.block, a.off, _, _, by rw [← ha], World.block_lt_of_cell? _ _ h0, ⟨key 0 _ rfl, key 1 _ rfl, key 2 _ rfl, key 3 _ rfl, key 4 _ rfl, key 5 _ rfl, key 6 _ rfl, key 7 _ rfl, key 8 _ rfl, key 9 _ rfl⟩, hs⟩
    · obtain ⟨i, hi, rfl⟩ := List.mem_map.1 he
      exact (hg i (List.mem_range.1 hi)).2.2.2
    · obtain ⟨i, hi, rfl⟩ := List.mem_map.1 he
      exact (hg i (List.mem_range.1 hi)).2.2.1

set_option maxRecDepth 100000 in
/-- A tree that came in. -/
theorem open_tree {v : Value} {d : DataW H} {p : List MemPlace} (hv : ∃ cs, v = .agg cs) (h : DataW.Trod enc Tryd.prog W base spare held 24 v d p) (hwt : ∀ n ∈ d.weights Tryd.prog 24, n ≤ reachBytes) :
    ∃ (A : Option Addr) (c : Nat) (T : List Nd), v = .agg #[.slice A T.length c] ∧ (A = none → c = 0) ∧ Tr W W.heap.size A T ∧ Wide T ∧ ∀ n ∈ T, NumN n := by
  obtain ⟨⟨cs⟩, rfl⟩ := hv
  obtain ⟨fuel, hf⟩ := h
  obtain ⟨xs, n, _, hx, hcl, hxl, hfs⟩ := DataW.trod_struct Tryd.underlying24 hf
  rw [Tryd.cells24] at hcl
  simp [Value.cells] at hcl
  match cs, hcl, xs, hxl with
  | [c0], _, [x0], _ =>
    have h0 := hfs 0 _ rfl
    simp [Tryd.cells22, Value.cells] at h0
    simp only [Prod.mk.injEq] at hx
    obtain ⟨A, c, T, rfl, r⟩ := open_nodes h0 (fun m hm => hwt m (by rw [hx.1]; simp [DataW.weights, DataW.weightsEach, Tryd.underlying24]; exact hm))
    exact ⟨A, c, T, rfl, r⟩
end
end Go.Proofs.YtdfhgcknelgdmaaDoor
