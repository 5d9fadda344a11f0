/-
  PROVED: contracts of class.Block and of the closure within it: is the text, in small letters, a block tag? Conditions: the tables of unicode/utf8 are laid; the text has at most 2000000 bytes.
-/
import Derived.Test.YtdnnjakggopdoaaDoorShelfMap
import Derived.Test.YtdnnjakggopdoaaDoorTagPure
namespace Go.Proofs.YtdnnjakggopdoaaDoor
open Go.ChangeShapes Go.WideShapes Go.ChangeAt Go.RowKit Go.Sort Go.Shelf
set_option linter.unusedVariables false

theorem inOne (r : Int) : inSps r [(65, 90)] = decide (65 ≤ r ∧ r ≤ 90) := by
  rw [Bool.eq_iff_iff]
  simp [inSps, inSp]

set_option maxHeartbeats 1000000 in
theorem closure_any (r : Int) (h0 : 0 ≤ r) (h1 : r ≤ 1114111) (w : World) : Calls Tryd.prog 69 #[.int .i32 r] w fun e w' => e = .returned (.int .i32 (lowR r)) ∧ Below w.heap.size w w' := by
  by_cases h : 65 ≤ r ∧ r ≤ 90
  · have HL : Hid (lowR r = r + 32) := show lowR r = r + 32 from by unfold lowR; rw [if_pos h]
    have HV : Hid (inSps r [(65, 90)] = true) := show inSps r [(65, 90)] = true from by rw [inOne]; exact decide_eq_true h
    obtain ⟨h2, h3⟩ := h
    go_enter Tryd.func69, Tryd.ntmps69
    go_wp2_with fail
    refine (within_new r [(65, 90)] 1 rfl (by decide) _ w rfl true HV.out).mono ?_
    rintro e w' hG
    have HG := Lib.hid (hG.below).2
    obtain ⟨rfl, _⟩ := hG
    go_wp2_with fail
    go_ret
    exact ⟨by rw [HL.out]; rfl, HG.out⟩
  · have HL : Hid (lowR r = r) := show lowR r = r from by unfold lowR; rw [if_neg h]
    have HV : Hid (inSps r [(65, 90)] = false) := show inSps r [(65, 90)] = false from by rw [inOne]; exact decide_eq_false h
    clear h
    go_enter Tryd.func69, Tryd.ntmps69
    go_wp2_with fail
    refine (within_new r [(65, 90)] 1 rfl (by decide) _ w rfl false HV.out).mono ?_
    rintro e w' hG
    have HG := Lib.hid (hG.below).2
    obtain ⟨rfl, _⟩ := hG
    go_wp2_with fail
    go_ret
    exact ⟨by rw [HL.out]; rfl, HG.out⟩

theorem enters69 : ∀ args w, (callFunc 69 args).run Tryd.prog w = .ok (.enter 69 args) w := by
  intro args w
  kernel_rfl
theorem map_any (s : ByteArray) (hs : s.size ≤ 2000000) (w : World) (hT : Lib.Utf8Tabs 4 5 w) :
    Calls Tryd.prog 68 #[.func (.func 69) #[] #[], .string s] w fun e w' => e = .returned (.string ⟨(Lib.mapD lowR s.data.toList).toArray⟩) ∧ Below w.heap.size w w' :=
  Tryd.strings_Map 69 #[] enters69 lowR s w (by omega) (fun W x hx _ => closure_any (x : Int) (by omega) (by omega) W) (fun x hx => by unfold lowR; split <;> omega) hT

theorem isTag_of (x : ByteArray) : isTag x.data.toList = tagL.any (fun t => x.toList == t) := by
  unfold isTag
  rw [Lib.toList_data]
  congr 1
  funext t
  rw [Bool.eq_iff_iff, beq_iff_eq, beq_iff_eq]
  exact eq_comm
theorem contra {b : Bool} (h : b = true) (k : b = false) : False := by rw [h] at k; cases k
theorem ret_true {v : Bool} (h : v = true) : Ending.returned (.bool true) = .returned (.bool v) := by rw [h]
theorem ret_false {v : Bool} (h : v = false) : Ending.returned (.bool false) = .returned (.bool v) := by rw [h]

set_option maxHeartbeats 8000000 in
set_option maxRecDepth 100000 in
theorem switch_any (s x : ByteArray) (hs : s.size ≤ 2000000) (w : World) (hT : Lib.Utf8Tabs 4 5 w) (hx : Lib.mapD lowR s.data.toList = x.data.toList) :
    Calls Tryd.prog 55 #[.string s] w fun e w' => e = .returned (.bool (isTag x.data.toList)) ∧ Below w.heap.size w w' := by
  have HC : Hid (∀ W, Lib.Utf8Tabs 4 5 W → Calls Tryd.prog 68 #[.func (.func 69) #[] #[], .string s] W fun e w' => e = .returned (.string x) ∧ Below W.heap.size W w') := fun W hW => by
    have h := map_any s hs W hW
    rw [hx] at h
    simpa using h
  obtain ⟨v, hv⟩ : ∃ v, v = isTag x.data.toList := ⟨_, rfl⟩
  rw [← hv]
  have HV := Lib.hid hv
  have HY : Hid (∀ t, (x.toList == t) = true → t ∈ tagL → v = true) := fun t h1 h2 => by
    rw [HV.out, isTag_of]; exact List.any_eq_true.2 ⟨t, h2, h1⟩
  clear hv hx
  go_enter Tryd.func55, Tryd.ntmps55
  go_wp2_with fail
  refine (HC.out _ hT).mono ?_
  rintro e w1 ⟨rfl, hb1⟩
  have HB := Lib.hid hb1
  clear hb1 HC hT
  go_wp2_with fail
  all_goals go_ret
  all_goals first
    | exact ⟨ret_true (HY.out _ (by assumption) (by decide +kernel)), HB.out⟩
    | exact (contra (by assumption) (by assumption)).elim
    | (refine ⟨ret_false ?_, HB.out⟩; rw [HV.out, isTag_of]; simp only [tagL, List.any_cons, List.any_nil, Bool.or_self, *])
theorem block_any (s : ByteArray) (hs : s.size ≤ 2000000) (w : World) (hT : Lib.Utf8Tabs 4 5 w) :
    Calls Tryd.prog 55 #[.string s] w fun e w' => e = .returned (.bool (isTag (Lib.mapD lowR s.data.toList))) ∧ Below w.heap.size w w' :=
  switch_any s ⟨(Lib.mapD lowR s.data.toList).toArray⟩ hs w hT (by simp)
end Go.Proofs.YtdnnjakggopdoaaDoor
