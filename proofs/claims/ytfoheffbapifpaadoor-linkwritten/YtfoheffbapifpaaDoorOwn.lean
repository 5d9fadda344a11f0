/-
  PROVED: contract of the document's own Bytes: a character's bytes; and facts on rows of bytes that a call has laid. Conditions: the number is a character's.
-/
import Derived.Test.YtfoheffbapifpaaDoorEscPure
import Derived.Test.YtfoheffbapifpaaDoorRefRune
import Derived.Lib.AppendStr
import Derived.Lib.UnsafeStr
import Derived.Laws.IdiomStrings
namespace Go.Proofs.YtfoheffbapifpaaDoor
open Go.ChangeShapes Go.WideShapes Go.ChangeAt Go.RowKit Go.Sort
set_option linter.unusedVariables false

/-- A new row of bytes. -/
def NewBytes (l : List UInt8) (w : World) (e : Ending) (w' : World) : Prop :=
  ∃ b, e = .returned (.slice (some ⟨b, 0, none⟩) l.length l.length) ∧ w.heap.size ≤ b ∧ b < w'.heap.size ∧ (∀ j u, (Lib.byteCells l)[j]? = some u → w'.cell? ((⟨b, 0, none⟩ : Addr).add j) = some u) ∧ Below w.heap.size w w'
theorem newBytes_of {l : List UInt8} {w : World} {n : Nat} {cs : Array Value} (hc : cs = (Lib.byteCells l).toArray) (hn : n = l.length) : NewBytes l w (.returned (.slice (some ⟨w.heap.size, 0, none⟩) n n)) (w.alloc (.cells cs 5)) := by
  subst hc
  subst hn
  refine ⟨w.heap.size, rfl, Nat.le_refl _, by simp, ?_, (Below.refl _ _).alloc (Nat.le_refl _) _⟩
  intro j u hj
  have e : (⟨w.heap.size, 0, none⟩ : Addr).add j = ⟨w.heap.size, j, none⟩ := by
    unfold Addr.add
    split
    · rename_i h; subst h; rfl
    · simp
  rw [e]
  simpa using hj

theorem cells_rune (r : Int) (cs : List Int) (h : Lib.encodeRuneZ r = cs) : (cs.map fun x => Value.int .u8 x).toArray = (Lib.byteCells (Lib.encodeRune r)).toArray := by
  rw [Lib.byteCells_encodeRune]
  unfold Lib.runeCells
  rw [h]
theorem enc_size (r : Int) : (Lib.encodeRune r).length = (Lib.encodeRuneZ r).length := by unfold Lib.encodeRune; rw [List.length_map]

set_option maxHeartbeats 2000000 in
theorem bytes_any (r : Int) (hg : Good r) (w : World) : Calls Tryd.prog 85 #[.int .i64 r] w (NewBytes (Lib.encodeRune r) w) := by
  unfold Good at hg
  by_cases h1 : r < 128
  · have HZ := Lib.hid (Lib.encodeRuneZ_one (r := r) (by omega) (by omega))
    go_enter Tryd.func85, Tryd.ntmps85
    go_wp2_with fail
    go_ret
    exact newBytes_of (cells_rune r [r] HZ.out) (by rw [enc_size, HZ.out]; rfl)
  · by_cases h2 : r < 2048
    · have HZ := Lib.hid (Lib.encodeRuneZ_two (r := r) (by omega) (by omega))
      go_enter Tryd.func85, Tryd.ntmps85
      go_wp2_with fail
      go_ret
      exact newBytes_of (cells_rune r _ HZ.out) (by rw [enc_size, HZ.out]; rfl)
    · by_cases h3 : r < 65536
      · have HZ := Lib.hid (Lib.encodeRuneZ_three (r := r) (by omega))
        go_enter Tryd.func85, Tryd.ntmps85
        go_wp2_with fail
        go_ret
        exact newBytes_of (cells_rune r _ HZ.out) (by rw [enc_size, HZ.out]; rfl)
      · have HZ := Lib.hid (Lib.encodeRuneZ_four (r := r) (by omega) (by omega))
        go_enter Tryd.func85, Tryd.ntmps85
        go_wp2_with fail
        go_ret
        exact newBytes_of (cells_rune r _ HZ.out) (by rw [enc_size, HZ.out]; rfl)

theorem Tryd.info5 : (Tryd.prog.info? 5).map (fun i => (i.zero, i.size, i.bytes)) = some (some (.int .u8 0), 1, 1) := by kernel_rfl
theorem own_below {w w' : World} {base e size n : Nat} {v : Value} {xs : List Value} (h : w.ownsRow base e size v n xs) (hb : Below w.heap.size w w') : w'.ownsRow base e size v n xs := by
  obtain ⟨h1, h2⟩ := h
  refine ⟨h1, ?_⟩
  rcases h2 with h2 | ⟨g, cap, cur, hv, hg, hh, r⟩
  · exact Or.inl h2
  · have hlt : g < w.heap.size := (Array.getElem?_eq_some_iff.1 hh).1
    exact Or.inr ⟨g, cap, cur, hv, hg, (hb.block g hlt).trans hh, r⟩
theorem own_block_ge {w : World} {base e size n : Nat} {v : Value} {xs : List Value} (h : w.ownsRow base e size v n xs) : ∀ g, v.ownBlock = some g → base ≤ g ∧ g < w.heap.size := by
  intro g hv
  rcases h.2 with ⟨rfl, _⟩ | ⟨g', cap, cur, rfl, hb, hh, _⟩
  · cases hv
  · have hv' : some g' = some g := hv
    cases hv'
    exact ⟨hb, (Array.getElem?_eq_some_iff.1 hh).1⟩
theorem own_empty5 (w : World) (base : Nat) (hb : base ≤ w.heap.size) : (w.alloc (.cells #[] 5)).ownsRow base 5 1 (.slice (some ⟨w.heap.size, 0, none⟩) 0 0) 0 [] := by
  refine ⟨by simp, Or.inr ⟨w.heap.size, 0, #[], rfl, hb, heap_alloc_new w _, Nat.le_refl _, Nat.zero_le _, by simp, by simp⟩⟩
theorem own_shape {w : World} {B n : Nat} {v : Value} {xs : List Value} (h : w.ownsRow B 5 1 v n xs) (hv : v ≠ .slice none 0 0) : ∃ g c, v = .slice (some ⟨g, 0, none⟩) n c := by
  rcases h.2 with ⟨rfl, _⟩ | ⟨g, cap, cur, rfl, hb, hh, hc, hm, hz, ht⟩
  · exact absurd rfl hv
  · exact ⟨g, cap, rfl⟩
theorem own_string {w : World} {B : Nat} {v : Value} {l : List UInt8} (h : w.ownsRow B 5 1 v l.length (Lib.byteCells l)) (hv : v ≠ .slice none 0 0) : ∃ a c, v = .slice (some a) l.length c ∧ (convert 43 9 v).run Tryd.prog w = .ok (.string ⟨l.toArray⟩) w := by
  rcases h.2 with ⟨rfl, _⟩ | ⟨g, cap, cur, rfl, hb, hh, hc, hm, hz, ht⟩
  · exact absurd rfl hv
  · refine ⟨⟨g, 0, none⟩, cap, rfl, ?_⟩
    refine run_convert_bytes_back w 43 9 5 ⟨g, 0, none⟩ cap l Tryd.underlying43 Tryd.underlying5 Tryd.underlying9 ?_
    intro j hj
    exact h.cells (g := g) rfl j _ (by unfold Lib.byteCells; rw [List.getElem?_map, List.getElem?_eq_getElem hj]; rfl)
theorem new1 (w : World) (a : Value) : ∀ j u, [a][j]? = some u → (w.alloc (.cells #[a] 5)).cell? ((⟨w.heap.size, 0, none⟩ : Addr).add j) = some u := by
  intro j u hj
  match j, hj with
  | 0, hj => simp at hj; subst hj; simp [Addr.add]
theorem one1 (a : Int) : ∀ u ∈ [Value.int .u8 a], u.oneCell' = true := by
  intro u hu
  simp at hu
  subst hu; rfl
theorem bytes_one (l : List UInt8) : ∀ u ∈ Lib.byteCells l, u.oneCell' = true := by
  intro u hu
  unfold Lib.byteCells at hu
  obtain ⟨x, _, rfl⟩ := List.mem_map.1 hu
  rfl

end Go.Proofs.YtfoheffbapifpaaDoor
