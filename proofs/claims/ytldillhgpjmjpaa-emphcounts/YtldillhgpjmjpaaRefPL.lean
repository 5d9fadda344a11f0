/-
  PROVED: contracts of the document's own Pairs and Left. Conditions: as solve's.
-/
import Derived.Test.YtldillhgpjmjpaaRef
namespace Go.Proofs.Ytldillhgpjmjpaa
open Go.ChangeShapes Go.WideShapes Go.ChangeAt Go.RowKit Go.Sort
set_option linter.unusedVariables false

set_option maxHeartbeats 1000000 in
theorem refPairs_any (A : Option Addr) (ca : Nat) (L : List Rw) (hl : L.length ≤ 600) (w : World) (h : Rdc w w.heap.size A (rcells L)) :
    Calls Try.prog 12 #[.slice A L.length ca] w (OwnR w 33 3 (pairsM L).length (bcells (pairsM L))) := by
  have H := Lib.hid (solve_any A ca L hl w h)
  clear h
  go_enter Try.func12, Try.ntmps12
  go_wp2_with fail
  refine (H.out).mono ?_
  rintro e w2 ⟨vP, vL, rfl, h1, h2, h3⟩
  have HX : Hid (OwnR w 33 3 (pairsM L).length (bcells (pairsM L)) (.returned vP) w2) := ⟨vP, rfl, h1, h3⟩
  clear h1 h2 h3
  go_wp2_with fail
  go_ret
  exact HX.out
set_option maxHeartbeats 1000000 in
theorem refLeft_any (A : Option Addr) (ca : Nat) (L : List Rw) (hl : L.length ≤ 600) (w : World) (h : Rdc w w.heap.size A (rcells L)) :
    Calls Try.prog 15 #[.slice A L.length ca] w (OwnR w 3 1 (leftM L).length (ints (leftM L))) := by
  have H := Lib.hid (solve_any A ca L hl w h)
  clear h
  go_enter Try.func15, Try.ntmps15
  go_wp2_with fail
  refine (H.out).mono ?_
  rintro e w2 ⟨vP, vL, rfl, h1, h2, h3⟩
  have HX : Hid (OwnR w 3 1 (leftM L).length (ints (leftM L)) (.returned vL) w2) := ⟨vL, rfl, h2, h3⟩
  clear h1 h2 h3
  go_wp2_with fail
  go_ret
  exact HX.out
end Go.Proofs.Ytldillhgpjmjpaa
