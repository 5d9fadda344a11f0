/-
  PROVED: contract of the document's own Entity: the number of the name in the document's list, and whether it is there. Conditions: none.
-/
import Derived.Test.YtfoheffbapifpaaDoorEntity
import Derived.Test.YtfoheffbapifpaaDoorLit
namespace Go.Proofs.YtfoheffbapifpaaDoor
open Go.ChangeShapes Go.WideShapes Go.ChangeAt Go.RowKit Go.Sort Go.Maps
set_option linter.unusedVariables false

/-- The two tables' cells. -/
def nameC : Array Value := (entL.map fun p => Value.string ⟨p.1.toArray⟩).toArray
def numC : Array Value := (entL.map fun p => Value.int .i64 p.2).toArray

theorem look_skip (k : List UInt8) (M : List Ent) : ∀ L : List Ent, (∀ p ∈ L, p.1 ≠ k) → look (L ++ M) k = look M k
  | [], _ => rfl
  | p :: L, h => by rw [List.cons_append, look_cons, if_neg (h p (List.mem_cons_self ..)), look_skip k M L (fun q hq => h q (List.mem_cons_of_mem _ hq))]

/-- What the loop of the document's Entity goes by. -/
def ERel (s : ByteArray) (i : Value) : Prop := ∃ j : Nat, j ≤ 53 ∧ i = .int .i64 j ∧ ∀ p ∈ entL.take j, p.1 ≠ s.data.toList

set_option maxHeartbeats 4000000 in
set_option maxRecDepth 100000 in
theorem refEntity_any (s : ByteArray) (w : World) : Calls Tryd.prog 81 #[.string s] w fun e w' => EntVal s e ∧ Below w.heap.size w w' := by
  obtain ⟨C1, h1⟩ : ∃ C, C = nameC := ⟨_, rfl⟩
  obtain ⟨C2, h2⟩ : ∃ C, C = numC := ⟨_, rfl⟩
  have H1 := Lib.hid h1
  have H2 := Lib.hid h2
  clear h1 h2
  go_enter Tryd.func81, Tryd.ntmps81
  go_wp2_with (first
    | (refine wpList_lit 89 _ 7 4 C1 rfl rfl rfl rfl rfl rfl rfl rfl (by rw [H1.out]; kernel_rfl) _ Tryd.zeroValue89 (by rw [H1.out]; kernel_rfl) (by rw [H1.out]; kernel_rfl) (by rw [H1.out]; kernel_rfl) (fun _ => rfl) (fun _ => rfl) ?_)
    | (refine wpList_lit 90 _ 8 5 C2 rfl rfl rfl rfl rfl rfl rfl rfl (by rw [H2.out]; kernel_rfl) _ Tryd.zeroValue90 (by rw [H2.out]; kernel_rfl) (by rw [H2.out]; kernel_rfl) (by rw [H2.out]; kernel_rfl) (fun _ => rfl) (fun _ => rfl) ?_))
  have HB : Hid (Below w.heap.size w ((w.alloc (.cells C1 89)).alloc (.cells C2 90))) := ((Below.refl _ _).alloc (Nat.le_refl _) _).alloc (by simp) _
  have HC1 : Hid (∀ j p, entL[j]? = some p → ((w.alloc (.cells C1 89)).alloc (.cells C2 90)).cell? ⟨w.heap.size, j, none⟩ = some (.string ⟨p.1.toArray⟩)) := by
    intro j p hp
    rw [World.cell?_alloc_lt _ _ _ (by simp), H1.out]
    simp [nameC, hp]
  have HC2 : Hid (∀ j p, entL[j]? = some p → ((w.alloc (.cells C1 89)).alloc (.cells C2 90)).cell? ⟨w.heap.size + 1, j, none⟩ = some (.int .i64 p.2)) := by
    intro j p hp
    have e : w.heap.size + 1 = (w.alloc (.cells C1 89)).heap.size := by simp
    rw [e, H2.out]
    simp [numC, hp]
  generalize (w.alloc (.cells C1 89)).alloc (.cells C2 90) = W at *
  clear H1 H2
  go_loop [6] (fun i => ERel s i) (fun i => 53 - (intOf i).toNat)
  case atStart => exact ⟨0, by omega, rfl, fun p hp => by simp at hp⟩
  case round =>
    obtain ⟨j, hj, rfl, hn⟩ := hrel
    have HN := Lib.hid hn
    clear hn
    by_cases hlt : j < 53
    · have hlen : j < entL.length := hlt
      have c1 := HC1.out j entL[j] (List.getElem?_eq_getElem hlen)
      have c2 := HC2.out j entL[j] (List.getElem?_eq_getElem hlen)
      obtain ⟨y, hy⟩ : ∃ y, y = entL[j] := ⟨_, rfl⟩
      rw [← hy] at c1 c2
      have HY := Lib.hid hy
      clear hy
      obtain ⟨y0, y1⟩ := y
      obtain ⟨Y, hY⟩ : ∃ Y : ByteArray, Y = ⟨y0.toArray⟩ := ⟨_, rfl⟩
      simp only [← hY] at c1
      have HYL : Hid (Y.data.toList = y0) := show Y.data.toList = y0 from by rw [hY]
      clear hY
      have hlook : look entL s.data.toList = if y0 = s.data.toList then some y1 else look (entL.drop (j + 1)) s.data.toList := by
        have e1 : entL = entL.take j ++ (y0, y1) :: entL.drop (j + 1) := by
          rw [HY.out, List.getElem_cons_drop, List.take_append_drop]
        conv => lhs; rw [e1]
        rw [look_skip _ _ _ HN.out, look_cons]
      have HL := Lib.hid hlook
      clear hlook
      by_cases he : y0 = s.data.toList
      · have HV : Hid (EntVal s (.returned (.tuple #[.int .i64 y1, .bool true]))) := show EntVal s _ from by
          unfold EntVal
          rw [HL.out, if_pos he]
          rfl
        have hq : (Y.toList == s.toList) = true := by
          rw [Lib.toList_data, Lib.toList_data, HYL.out]; simpa using he
        clear he
        go_wp2_with fail
        go_ret2
        exact ⟨HV.out, HB.out⟩
      · have HN2 : Hid (∀ p ∈ entL.take (j + 1), p.1 ≠ s.data.toList) := show ∀ p ∈ entL.take (j + 1), p.1 ≠ s.data.toList from by
          intro p hp
          rw [List.take_succ_eq_append_getElem hlen] at hp
          rcases List.mem_append.1 hp with hp | hp
          · exact HN.out p hp
          · simp at hp
            rw [hp, ← HY.out]
            exact he
        have hq : (Y.toList == s.toList) = false := by
          rw [Lib.toList_data, Lib.toList_data, HYL.out]; simpa using he
        clear he
        go_wp2_with fail
        go_round
        case rel => exact ⟨j + 1, by omega, by simp, HN2.out⟩
        case measure => simp [intOf]; omega
    · have HV : Hid (EntVal s (.returned (.tuple #[.int .i64 0, .bool false]))) := show EntVal s _ from by
        unfold EntVal
        have e : entL.take j = entL := List.take_of_length_le (by show entL.length ≤ j; have : entL.length = 53 := rfl; omega)
        have h := HN.out
        rw [e] at h
        rw [look_none _ _ h]
        rfl
      go_wp2_with fail
      go_ret2
      exact ⟨HV.out, HB.out⟩
end Go.Proofs.YtfoheffbapifpaaDoor
