/-
  PROVED: an argument that is a slice of edits, opened: its edits as a list, its cells, its bounds. Conditions: the row's own.
-/
import Derived.Test.YtdjdflannedkbaaMem
import Derived.ProofKit
import Derived.OpenShut
import Derived.ShutString
import Derived.Deep.Slices
import Derived.Deep.Fields
import Derived.SizedLaws
import Derived.Carry
namespace Go.Proofs.Ytdjdflannedkbaa
open Go.ChangeShapes Go.WideShapes Go.ChangeAt Go.RowKit Go.Joins Go.Deep
set_option linter.unusedVariables false

theorem Try.own : ownKnob Try.prog.godebug = none := by kernel_rfl
theorem Try.laidOut : laidOutB Try.prog = true := by kernel_rfl
theorem Try.cells34 : Try.prog.cellsOf 34 = 3 := by kernel_rfl
theorem Try.cells3 : Try.prog.cellsOf 3 = 1 := by kernel_rfl
theorem Try.cells9 : Try.prog.cellsOf 9 = 1 := by kernel_rfl
theorem Try.bytes34 : Try.prog.bytesOf 34 = 32 := by kernel_rfl

theorem weightsAll_mem {H : Type} {P : Program} {e : TypeId} : ∀ {l : List (DataW H)} {d : DataW H}, d ∈ l → ∀ n ∈ d.weights P e, n ∈ DataW.weightsAll P e l
  | x :: r, d, hd, n, hn => by
    rw [DataW.weightsAll, List.mem_append]
    rcases List.mem_cons.1 hd with rfl | hd
    · exact Or.inl hn
    · exact Or.inr (weightsAll_mem hd n hn)

theorem spot_none {w : World} {a : Addr} {v : Value} (h : w.cell? a = some v) : a = ⟨a.block, a.off, none⟩ := by
  obtain ⟨b, o, sp⟩ := a
  cases sp with
  | none => rfl
  | some x =>
    exfalso
    unfold World.cell? at h
    simp only [Option.isSome_some, if_true] at h
    split at h <;> cases h

theorem add_none (b o n : Nat) : (⟨b, o, none⟩ : Addr).add n = ⟨b, o + n, none⟩ := by unfold Addr.add; split <;> simp_all

section
variable {H : Type} {enc : TypeId × Value → H} {W : World} {base : Nat} {spare : Nat → Bool} {held : Bool}

/-- One edit, read. -/
theorem open_edit {fuel : Nat} {cs : List Value} {x : DataW H × List MemPlace} (h : DataW.trod enc Try.prog W base spare held fuel 34 cs = some x) :
    ∃ e : Ed, cs = [.int .i64 e.f, .int .i64 e.t, .string e.x] ∧ x.1 = .agg [.lit (.int .i64 e.f), .lit (.int .i64 e.t), .lit (.string e.x.data.toList)] := by
  obtain ⟨xs, n, _, hx, hcl, hxl, hf⟩ := DataW.trod_struct Try.underlying34 h
  rw [Try.cells34] at hcl
  match cs, hcl, xs, hxl with
  | [c0, c1, c2], _, [x0, x1, x2], _ =>
    have h0 := hf 0 _ rfl
    have h1 := hf 1 _ rfl
    have h2 := hf 2 _ rfl
    simp [Try.cells3, Try.cells9] at h0 h1 h2
    obtain ⟨a, ha, rfl, _⟩ := DataW.trod_int Try.underlying3 h0
    obtain ⟨b, hb, rfl, _⟩ := DataW.trod_int Try.underlying3 h1
    obtain ⟨c, hc, rfl, _⟩ := DataW.trod_string Try.underlying9 h2
    simp at ha hb hc
    subst ha hb hc
    exact ⟨⟨a, b, c⟩, rfl, by rw [hx]; rfl⟩

theorem open_edits {v : Value} {d : DataW H} {p : List MemPlace} (hv : ∃ a len cap, v = .slice a len cap) (h : DataW.Trod enc Try.prog W base spare held 22 v d p) (hwt : ∀ n ∈ d.weights Try.prog 22, n ≤ reachBytes) :
    ∃ (A : Option Addr) (c : Nat) (es : List Ed), v = .slice A es.length c ∧ (A = none → c = 0) ∧ Rd W W.heap.size A es ∧ es.length ≤ 140737488355328 ∧ ∀ e ∈ es, e.x.size ≤ 140737488355328 := by
  obtain ⟨a0, len0, cap0, rfl⟩ := hv
  obtain ⟨fuel, hf⟩ := h
  rcases open_slice Try.underlying22 hf with ⟨hcs, hx⟩ | ⟨a, len, cap, m, n, D, Pl, hcs, _, hlc, _, hm, hx, hi⟩
  · simp [Value.cells] at hcs
    obtain ⟨rfl, rfl, rfl⟩ := hcs
    exact ⟨none, 0, [], rfl, fun _ => rfl, fun i l hi => by simp at hi, by simp, fun e he => by simp at he⟩
  · simp [Value.cells] at hcs
    obtain ⟨rfl, rfl, rfl⟩ := hcs
    injection hx with hx1 hx2
    subst hx1
    have hlm : len0 ≤ m := by rw [hm]; split <;> omega
    have hr : reachBytes = 140737488351232 := rfl
    have hlen : len0 ≤ 140737488355328 := by
      have := hwt ((((List.range len0).map D).length + ((List.range (m - len0)).map fun j => D (len0 + j)).length) * Try.prog.bytesOf 34) (by simp only [DataW.weights, Try.underlying22]; exact List.mem_cons_self)
      rw [Try.bytes34, List.length_map, List.length_range] at this
      omega
    have each : ∀ i, ∃ e : Ed, i < len0 → (W.cell? ((a.add (i * 3)).add 0) = some (.int .i64 e.f) ∧ W.cell? ((a.add (i * 3)).add 1) = some (.int .i64 e.t) ∧ W.cell? ((a.add (i * 3)).add 2) = some (.string e.x) ∧ e.x.size ≤ 140737488355328) := by
      intro i
      by_cases hil : i < len0
      · obtain ⟨cs', hc, ht⟩ := hi i (by omega)
        rw [Try.cells34] at hc
        obtain ⟨e, rfl, hD⟩ := open_edit ht
        obtain ⟨_, _, hat⟩ := World.cells?_some hc
        refine ⟨e, fun _ => ⟨hat 0 (by omega), hat 1 (by omega), hat 2 (by omega), ?_⟩⟩
        have hmem : e.x.data.toList.length ∈ (D i).weights Try.prog 34 := by
          rw [show D i = _ from hD]
          simp [DataW.weights, DataW.weightsEach, Try.underlying34]
        have h2 := hwt e.x.data.toList.length (by
          simp only [DataW.weights, Try.underlying22]
          refine List.mem_cons_of_mem _ (List.mem_append_left _ (weightsAll_mem (List.mem_map.2 ⟨i, List.mem_range.2 hil, rfl⟩) _ hmem)))
        simp at h2
        omega
      · exact ⟨default, fun h => absurd h hil⟩
    have hg : ∃ g : Nat → Ed, ∀ i, i < len0 → (W.cell? ((a.add (i * 3)).add 0) = some (.int .i64 (g i).f) ∧ W.cell? ((a.add (i * 3)).add 1) = some (.int .i64 (g i).t) ∧ W.cell? ((a.add (i * 3)).add 2) = some (.string (g i).x) ∧ (g i).x.size ≤ 140737488355328) :=
      ⟨fun i => Classical.choose (each i), fun i => Classical.choose_spec (each i)⟩
    obtain ⟨g, hg⟩ := hg
    refine ⟨some a, cap0, (List.range len0).map g, by simp, (fun h => by cases h), fun i l hi => ?_, by simpa using hlen, fun e he => ?_⟩
    · rw [List.getElem?_map] at hi
      have hil : i < len0 := by
        rcases Nat.lt_or_ge i len0 with q | q
        · exact q
        · rw [List.getElem?_eq_none (by simpa using q)] at hi; cases hi
      rw [List.getElem?_range hil] at hi
      simp at hi
      subst hi
      obtain ⟨q0, q1, q2, _⟩ := hg i hil
      have h00 := (hg 0 (by omega)).1
      rw [show (a.add (0 * 3)).add 0 = a by simp [Addr.add]] at h00
      have ha := spot_none h00
      have hb := World.block_lt_of_cell? _ _ h00
      refine ⟨a.block, a.off, by rw [← ha], hb, ?_⟩
      rw [ha, add_none, add_none] at q0 q1 q2
      exact ⟨q0, q1, q2⟩
    · obtain ⟨i, hi, rfl⟩ := List.mem_map.1 he
      exact (hg i (List.mem_range.1 hi)).2.2.2
end
end Go.Proofs.Ytdjdflannedkbaa
