/-
  PROVED: an argument that is a slice of rows, opened: its rows as a list, its cells, its bounds. Conditions: the row's own.
-/
import Derived.Test.YtldillhgpjmjpaaAlive
import Derived.ProofKit
import Derived.OpenShut
import Derived.ShutString
import Derived.Deep.Slices
import Derived.Deep.Fields
import Derived.SizedLaws
import Derived.Carry
namespace Go.Proofs.Ytldillhgpjmjpaa
open Go.ChangeShapes Go.WideShapes Go.ChangeAt Go.RowKit Go.Joins Go.Deep
set_option linter.unusedVariables false

theorem Try.own : ownKnob Try.prog.godebug = none := by kernel_rfl
theorem Try.cells35 : Try.prog.cellsOf 35 = 4 := by kernel_rfl
theorem Try.bytes35 : Try.prog.bytesOf 35 = 24 := by kernel_rfl

theorem weightsAll_mem {H : Type} {P : Program} {e : TypeId} : ∀ {l : List (DataW H)} {d : DataW H}, d ∈ l → ∀ n ∈ d.weights P e, n ∈ DataW.weightsAll P e l
  | x :: r, d, hd, n, hn => by
    rw [DataW.weightsAll, List.mem_append]
    rcases List.mem_cons.1 hd with rfl | hd
    · exact Or.inl hn
    · exact Or.inr (weightsAll_mem hd n hn)

theorem spot_none {w : World} {a : Addr} {v : Value} (h : w.cell? a = some v) : a = ⟨a.block, a.off, none⟩ := by
  obtain ⟨b, o, sp⟩ := a
  cases sp with
  | none => rfl
  | some x =>
    exfalso
    unfold World.cell? at h
    simp only [Option.isSome_some, if_true] at h
    split at h <;> cases h

theorem add_none (b o n : Nat) : (⟨b, o, none⟩ : Addr).add n = ⟨b, o + n, none⟩ := by unfold Addr.add; split <;> simp_all

section
variable {H : Type} {enc : TypeId × Value → H} {W : World} {base : Nat} {spare : Nat → Bool} {held : Bool}

/-- One row, read. -/
theorem open_run {fuel : Nat} {cs : List Value} {x : DataW H × List MemPlace} (h : DataW.trod enc Try.prog W base spare held fuel 35 cs = some x) :
    ∃ r : Rw, cs = rcell r ∧ (Lit.int .u8 r.m).wf = true ∧ (Lit.int .i64 r.n).wf = true := by
  obtain ⟨xs, n, _, hx, hcl, hxl, hf⟩ := DataW.trod_struct Try.underlying35 h
  rw [Try.cells35] at hcl
  match cs, hcl, xs, hxl with
  | [c0, c1, c2, c3], _, [x0, x1, x2, x3], _ =>
    have h0 := hf 0 _ rfl
    have h1 := hf 1 _ rfl
    have h2 := hf 2 _ rfl
    have h3 := hf 3 _ rfl
    simp [Try.cells3, Try.cells4, Try.cells5] at h0 h1 h2 h3
    obtain ⟨a, ha, _, wa⟩ := DataW.trod_int Try.underlying5 h0
    obtain ⟨b, hb, _, wb⟩ := DataW.trod_int Try.underlying3 h1
    obtain ⟨c, hc, _⟩ := DataW.trod_bool Try.underlying4 h2
    obtain ⟨d, hd, _⟩ := DataW.trod_bool Try.underlying4 h3
    simp at ha hb hc hd
    subst ha hb hc hd
    exact ⟨⟨a, b, c, d⟩, rfl, by assumption, by assumption⟩

theorem open_runs {v : Value} {d : DataW H} {p : List MemPlace} (hv : ∃ a len cap, v = .slice a len cap) (h : DataW.Trod enc Try.prog W base spare held 22 v d p) (hwt : ∀ n ∈ d.weights Try.prog 22, n ≤ reachBytes) :
    ∃ (A : Option Addr) (c : Nat) (L : List Rw), v = .slice A L.length c ∧ (A = none → c = 0) ∧ Rdc W W.heap.size A (rcells L) ∧ L.length ≤ 140737488355328 ∧ (∀ r ∈ L, (Lit.int .u8 r.m).wf = true) ∧ ∀ r ∈ L, (Lit.int .i64 r.n).wf = true := by
  obtain ⟨a0, len0, cap0, rfl⟩ := hv
  obtain ⟨fuel, hf⟩ := h
  rcases open_slice Try.underlying22 hf with ⟨hcs, hx⟩ | ⟨a, len, cap, m, n, D, Pl, hcs, _, hlc, _, hm, hx, hi⟩
  · simp [Value.cells] at hcs
    obtain ⟨rfl, rfl, rfl⟩ := hcs
    exact ⟨none, 0, [], rfl, fun _ => rfl, fun i l hi => by simp [rcells] at hi, by simp, fun e he => by simp at he, fun e he => by simp at he⟩
  · simp [Value.cells] at hcs
    obtain ⟨rfl, rfl, rfl⟩ := hcs
    injection hx with hx1 hx2
    subst hx1
    have hlm : len0 ≤ m := by rw [hm]; split <;> omega
    have hr : reachBytes = 140737488351232 := rfl
    have hlen : len0 ≤ 140737488355328 := by
      have := hwt ((((List.range len0).map D).length + ((List.range (m - len0)).map fun j => D (len0 + j)).length) * Try.prog.bytesOf 35) (by simp only [DataW.weights, Try.underlying22]; exact List.mem_cons_self)
      rw [Try.bytes35, List.length_map, List.length_range] at this
      omega
    have each : ∀ i, ∃ r : Rw, i < len0 → ((∀ j, j < 4 → W.cell? ((a.add (i * 4)).add j) = (rcell r)[j]?) ∧ (Lit.int .u8 r.m).wf = true ∧ (Lit.int .i64 r.n).wf = true) := by
      intro i
      by_cases hil : i < len0
      · obtain ⟨cs', hc, ht⟩ := hi i (by omega)
        rw [Try.cells35] at hc
        obtain ⟨r, rfl, w1, w2⟩ := open_run ht
        obtain ⟨_, _, hat⟩ := World.cells?_some hc
        exact ⟨r, fun _ => ⟨fun j hj => hat j hj, w1, w2⟩⟩
      · exact ⟨default, fun h => absurd h hil⟩
    have hg : ∃ g : Nat → Rw, ∀ i, i < len0 → ((∀ j, j < 4 → W.cell? ((a.add (i * 4)).add j) = (rcell (g i))[j]?) ∧ (Lit.int .u8 (g i).m).wf = true ∧ (Lit.int .i64 (g i).n).wf = true) :=
      ⟨fun i => Classical.choose (each i), fun i => Classical.choose_spec (each i)⟩
    obtain ⟨g, hg⟩ := hg
    refine ⟨some a, cap0, (List.range len0).map g, by simp, (fun h => by cases h), fun j u hj => ?_, by simpa using hlen, fun r hr => ?_, fun r hr => ?_⟩
    · have hjl : j < (rcells ((List.range len0).map g)).length := (List.getElem?_eq_some_iff.1 hj).1
      rw [rcells_len, List.length_map, List.length_range] at hjl
      obtain ⟨i, k, rfl, hk⟩ : ∃ i k, j = i * 4 + k ∧ k < 4 := ⟨j / 4, j % 4, by omega, by omega⟩
      have hil : i < len0 := by omega
      have e1 := fm_at rcell_len ((List.range len0).map g) i k (g i) (by simp [hil]) hk
      rw [rcells, e1] at hj
      have h0 := (hg i hil).1 k hk
      have h00 := (hg 0 (by omega)).1 0 (by omega)
      rw [show (a.add (0 * 4)).add 0 = a by simp [Addr.add]] at h00
      have h00' : W.cell? a = some (.int .u8 (g 0).m) := h00
      have ha := spot_none h00'
      have hb := World.block_lt_of_cell? _ _ h00'
      refine ⟨a.block, a.off, ha.symm ▸ rfl, hb, ?_⟩
      rw [ha, add_none, add_none] at h0
      rw [← Nat.add_assoc]
      rw [h0]
      exact hj
    · obtain ⟨i, hi, rfl⟩ := List.mem_map.1 hr
      exact (hg i (List.mem_range.1 hi)).2.1
    · obtain ⟨i, hi, rfl⟩ := List.mem_map.1 hr
      exact (hg i (List.mem_range.1 hi)).2.2
end
end Go.Proofs.Ytldillhgpjmjpaa
