/-
  PROVED: small facts for the walk of the document's own Show. Conditions: as each says.
-/
import Derived.Test.YtdfhgcknelgdmaaDoorRefQuote
import Derived.Test.YtdfhgcknelgdmaaDoorRefPar
import Derived.Test.YtdfhgcknelgdmaaDoorShow
import Derived.Lib.AppendStr
import Derived.Deep.CutBlock
import Derived.Deep.CutRange
import Derived.Deep.LoopGhost
namespace Go.Proofs.YtdfhgcknelgdmaaDoor
open Go.ChangeShapes Go.WideShapes Go.ChangeAt Go.RowKit Go.Sort
set_option linter.unusedVariables false
set_option linter.unusedSimpArgs false

/-- What stands while a text is made: its bytes in memory of its own, a node in its block. -/
structure StR (W : World) (g : Nat) (cs : Array Value) (acc : List UInt8) (v : Value) (wx : World) : Prop where
  own : wx.ownsRow W.heap.size 5 1 v acc.length (Lib.byteCells acc)
  ne : v ≠ .slice none 0 0
  nd : Holds wx g 39 cs
  bl : Below W.heap.size W wx
theorem StR.call {W wx w' : World} {g : Nat} {cs : Array Value} {acc : List UInt8} {v : Value} (h : StR W g cs acc v wx) (hb : Below wx.heap.size wx w') : StR W g cs acc v w' :=
  ⟨own_below h.own hb, h.ne, h.nd.under hb h.nd.lt, h.bl.trans (hb.mono h.bl.size)⟩
theorem StR.app0 {W wx w' : World} {g : Nat} {cs : Array Value} {acc x : List UInt8} {v v' : Value} (h : StR W g cs acc v wx) (hg : wx.grownBy w' v.ownBlock) (ho : w'.ownsRow W.heap.size 5 1 v' (acc.length + x.length) (Lib.byteCells acc ++ Lib.byteCells x)) (hv : v' ≠ .slice none 0 0) : StR W g cs (acc ++ x) v' w' :=
  ⟨by rw [List.length_append, Lib.byteCells_append]; exact ho, hv, grown_holds hg h.nd (own_holds_ne h.own h.nd (by decide)), h.bl.grown hg h.bl.size (fun k hk => (own_block_ge h.own k hk).1)⟩
theorem StR.alloc {W wx : World} {g : Nat} {cs : Array Value} {acc : List UInt8} {v : Value} (h : StR W g cs acc v wx) (o : Obj) : StR W g cs acc v (wx.alloc o) := h.call ((Below.refl _ _).alloc (Nat.le_refl _) _)
theorem StR.drew {W wx : World} {g : Nat} {cs : Array Value} {acc : List UInt8} {v : Value} (h : StR W g cs acc v wx) : StR W g cs acc v wx.drew := ⟨h.own, h.ne, h.nd, h.bl.drew⟩
def LineIs (v : Value) (l : List UInt8) : Prop := ∃ X : ByteArray, v = .string X ∧ lst X = l
theorem made (l : List UInt8) : ∃ A : ByteArray, lst A = l ∧ (⟨l.toArray⟩ : ByteArray) = A := ⟨⟨l.toArray⟩, lst_mk l, rfl⟩
theorem dep_le {P : List Int} (hp : ∀ (j : Nat), 0 < j → j < P.length → ∃ q : Nat, P[j]? = some (q : Int) ∧ q < j) : ∀ j, j < P.length → depA P j ≤ j := by
  intro m
  induction m using Nat.strongRecOn with
  | _ m ih =>
    intro hm
    rcases Nat.eq_zero_or_pos m with rfl | hmp
    · exact Nat.le_refl _
    · obtain ⟨r, hr, hrm⟩ := hp m hmp (by omega)
      rw [depA_succ P m r hmp hr hrm]
      have := ih r hrm (by omega)
      omega
theorem nm_at (k : Nat) (hk : k < 19) : (#[.string { data := #[] }, .string { data := #[100, 111, 99] }, .string { data := #[113, 117, 111, 116, 101] }, .string { data := #[108, 105, 115, 116] }, .string { data := #[105, 116, 101, 109] }, .string { data := #[112, 97, 114, 97] }, .string { data := #[104, 101, 97, 100] }, .string { data := #[114, 117, 108, 101] }, .string { data := #[99, 111, 100, 101] }, .string { data := #[104, 116, 109, 108] }, .string { data := #[116, 101, 120, 116] }, .string { data := #[115, 111, 102, 116] }, .string { data := #[104, 97, 114, 100] }, .string { data := #[115, 112, 97, 110] }, .string { data := #[101, 109] }, .string { data := #[115, 116, 114, 111, 110, 103] }, .string { data := #[108, 105, 110, 107] }, .string { data := #[105, 109, 97, 103, 101] }, .string { data := #[114, 97, 119] }] : Array Value)[k]? = some (.string ⟨(nameL (k : Int)).toArray⟩) := by
  have : k = 0 ∨ k = 1 ∨ k = 2 ∨ k = 3 ∨ k = 4 ∨ k = 5 ∨ k = 6 ∨ k = 7 ∨ k = 8 ∨ k = 9 ∨ k = 10 ∨ k = 11 ∨ k = 12 ∨ k = 13 ∨ k = 14 ∨ k = 15 ∨ k = 16 ∨ k = 17 ∨ k = 18 := by omega
  rcases this with rfl | rfl | rfl | rfl | rfl | rfl | rfl | rfl | rfl | rfl | rfl | rfl | rfl | rfl | rfl | rfl | rfl | rfl | rfl <;> rfl
/-- The code behind so many statements; a statement; what is within. -/
def tl : Code → Code
  | .seq _ b => b
  | c => c
def hd1 : Code → Code
  | .seq a _ => a
  | c => c
def inBl : Code → Code
  | .block _ c => c
  | c => c
def inLo : Code → Code
  | .loop c => c
  | c => c
noncomputable def rsAt : Nat → Code
  | 0 => Tryd.f18.body.getD .skip
  | n + 1 => tl (rsAt n)
/-- The round of the loop over the nodes. -/
noncomputable def bAt : Nat → Code
  | 0 => inBl (hd1 (tl (inLo (inBl (tl (hd1 (rsAt 5)))))))
  | n + 1 => tl (bAt n)
end Go.Proofs.YtdfhgcknelgdmaaDoor
