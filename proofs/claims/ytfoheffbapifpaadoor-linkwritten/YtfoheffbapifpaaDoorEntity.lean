/-
  PROVED: contract of class.Entity: the number of the name in the document's list, and whether it is there. Conditions: the name's length fits an int.
-/
import Derived.Test.YtfoheffbapifpaaDoorEnt
import Derived.Maps.OwnOps
namespace Go.Proofs.YtfoheffbapifpaaDoor
open Go.ChangeShapes Go.WideShapes Go.ChangeAt Go.RowKit Go.Sort Go.Maps
set_option linter.unusedVariables false

theorem zero3 (w : World) : (zeroValue 3).run Tryd.prog w = .ok (.int .i64 0) w := by kernel_rfl
/-- What an Entity answers. -/
def EntVal (s : ByteArray) (e : Ending) : Prop := e = .returned (.tuple #[.int .i64 ((look entL s.data.toList).getD 0), .bool (look entL s.data.toList).isSome])
theorem entVal_of {s : ByteArray} {L : List Ent} {c : Int} {b : Bool} (hd : (L.map fun p => p.1).Nodup) (hL : look L s.data.toList = look entL s.data.toList) (hc : (mapOf L).atKey (.string s.data.toList) (.lit (.int .i64 0)) = .lit (.int .i64 c)) (hb : b = has (mapOf L) (.string s.data.toList)) :
    EntVal s (.returned (.tuple #[.int .i64 c, .bool b])) := by
  unfold EntVal
  rw [hb, mapOf_has, mapOf_at L hd _ c hc, hL]

set_option maxHeartbeats 1000000 in
theorem entity_2 (s : ByteArray) (h : s.size = 2) (w : World) : Calls Tryd.prog 97 #[.string s] w fun e w' => EntVal s e ∧ Below w.heap.size w w' := by
  have hs : s.size ≤ maxLen := by unfold maxLen; omega
  have HC : Hid (∀ W, Calls Tryd.prog 103 #[.int .i64 (s.size : Int)] W (MapPost ent2 W)) := fun W => by rw [h]; exact entities_2 W
  have HE := Lib.hid (fun c b => entVal_of (s := s) (L := ent2) (c := c) (b := b) (by decide +kernel) (look2 _ (by rw [Array.length_toList]; exact h)))
  clear h
  go_enter Tryd.func97, Tryd.ntmps97
  go_wp2_with fail
  refine (HC.out _).mono ?_
  rintro e w1 ⟨B, n, rfl, hown, hb1⟩
  have HB := Lib.hid hb1
  clear hb1 HC
  go_wp2_with (at_lookup; refine wpList_lookup_own_ok_int _ rfl _ _ 97 rfl 9 3 .i64 law9 Tryd.underlying97 Tryd.underlying3 (zero3 _) B n _ rfl hown _ _ rfl (Go.WideMaps.keyOf_string_mk Tryd.underlying9 hs) ?_; intro c hat hwc)
  go_ret2
  exact ⟨HE.out _ _ (by assumption) rfl, HB.out⟩
set_option maxHeartbeats 1000000 in
theorem entity_3 (s : ByteArray) (h : s.size = 3) (w : World) : Calls Tryd.prog 97 #[.string s] w fun e w' => EntVal s e ∧ Below w.heap.size w w' := by
  have hs : s.size ≤ maxLen := by unfold maxLen; omega
  have HC : Hid (∀ W, Calls Tryd.prog 103 #[.int .i64 (s.size : Int)] W (MapPost ent3 W)) := fun W => by rw [h]; exact entities_3 W
  have HE := Lib.hid (fun c b => entVal_of (s := s) (L := ent3) (c := c) (b := b) (by decide +kernel) (look3 _ (by rw [Array.length_toList]; exact h)))
  clear h
  go_enter Tryd.func97, Tryd.ntmps97
  go_wp2_with fail
  refine (HC.out _).mono ?_
  rintro e w1 ⟨B, n, rfl, hown, hb1⟩
  have HB := Lib.hid hb1
  clear hb1 HC
  go_wp2_with (at_lookup; refine wpList_lookup_own_ok_int _ rfl _ _ 97 rfl 9 3 .i64 law9 Tryd.underlying97 Tryd.underlying3 (zero3 _) B n _ rfl hown _ _ rfl (Go.WideMaps.keyOf_string_mk Tryd.underlying9 hs) ?_; intro c hat hwc)
  go_ret2
  exact ⟨HE.out _ _ (by assumption) rfl, HB.out⟩
set_option maxHeartbeats 1000000 in
theorem entity_4 (s : ByteArray) (h : s.size = 4) (w : World) : Calls Tryd.prog 97 #[.string s] w fun e w' => EntVal s e ∧ Below w.heap.size w w' := by
  have hs : s.size ≤ maxLen := by unfold maxLen; omega
  have HC : Hid (∀ W, Calls Tryd.prog 103 #[.int .i64 (s.size : Int)] W (MapPost ent4 W)) := fun W => by rw [h]; exact entities_4 W
  have HE := Lib.hid (fun c b => entVal_of (s := s) (L := ent4) (c := c) (b := b) (by decide +kernel) (look4 _ (by rw [Array.length_toList]; exact h)))
  clear h
  go_enter Tryd.func97, Tryd.ntmps97
  go_wp2_with fail
  refine (HC.out _).mono ?_
  rintro e w1 ⟨B, n, rfl, hown, hb1⟩
  have HB := Lib.hid hb1
  clear hb1 HC
  go_wp2_with (at_lookup; refine wpList_lookup_own_ok_int _ rfl _ _ 97 rfl 9 3 .i64 law9 Tryd.underlying97 Tryd.underlying3 (zero3 _) B n _ rfl hown _ _ rfl (Go.WideMaps.keyOf_string_mk Tryd.underlying9 hs) ?_; intro c hat hwc)
  go_ret2
  exact ⟨HE.out _ _ (by assumption) rfl, HB.out⟩
set_option maxHeartbeats 1000000 in
theorem entity_5 (s : ByteArray) (h : s.size = 5) (w : World) : Calls Tryd.prog 97 #[.string s] w fun e w' => EntVal s e ∧ Below w.heap.size w w' := by
  have hs : s.size ≤ maxLen := by unfold maxLen; omega
  have HC : Hid (∀ W, Calls Tryd.prog 103 #[.int .i64 (s.size : Int)] W (MapPost ent5 W)) := fun W => by rw [h]; exact entities_5 W
  have HE := Lib.hid (fun c b => entVal_of (s := s) (L := ent5) (c := c) (b := b) (by decide +kernel) (look5 _ (by rw [Array.length_toList]; exact h)))
  clear h
  go_enter Tryd.func97, Tryd.ntmps97
  go_wp2_with fail
  refine (HC.out _).mono ?_
  rintro e w1 ⟨B, n, rfl, hown, hb1⟩
  have HB := Lib.hid hb1
  clear hb1 HC
  go_wp2_with (at_lookup; refine wpList_lookup_own_ok_int _ rfl _ _ 97 rfl 9 3 .i64 law9 Tryd.underlying97 Tryd.underlying3 (zero3 _) B n _ rfl hown _ _ rfl (Go.WideMaps.keyOf_string_mk Tryd.underlying9 hs) ?_; intro c hat hwc)
  go_ret2
  exact ⟨HE.out _ _ (by assumption) rfl, HB.out⟩
set_option maxHeartbeats 1000000 in
theorem entity_6 (s : ByteArray) (h : s.size = 6) (w : World) : Calls Tryd.prog 97 #[.string s] w fun e w' => EntVal s e ∧ Below w.heap.size w w' := by
  have hs : s.size ≤ maxLen := by unfold maxLen; omega
  have HC : Hid (∀ W, Calls Tryd.prog 103 #[.int .i64 (s.size : Int)] W (MapPost ent6 W)) := fun W => by rw [h]; exact entities_6 W
  have HE := Lib.hid (fun c b => entVal_of (s := s) (L := ent6) (c := c) (b := b) (by decide +kernel) (look6 _ (by rw [Array.length_toList]; exact h)))
  clear h
  go_enter Tryd.func97, Tryd.ntmps97
  go_wp2_with fail
  refine (HC.out _).mono ?_
  rintro e w1 ⟨B, n, rfl, hown, hb1⟩
  have HB := Lib.hid hb1
  clear hb1 HC
  go_wp2_with (at_lookup; refine wpList_lookup_own_ok_int _ rfl _ _ 97 rfl 9 3 .i64 law9 Tryd.underlying97 Tryd.underlying3 (zero3 _) B n _ rfl hown _ _ rfl (Go.WideMaps.keyOf_string_mk Tryd.underlying9 hs) ?_; intro c hat hwc)
  go_ret2
  exact ⟨HE.out _ _ (by assumption) rfl, HB.out⟩
theorem entity_no (s : ByteArray) (hs : s.size ≤ maxLen) (h : ¬ (2 ≤ s.size ∧ s.size ≤ 6)) (w : World) : Calls Tryd.prog 97 #[.string s] w fun e w' => EntVal s e ∧ Below w.heap.size w w' := by
  have HC := Lib.hid (fun W => entities_no (s.size : Int) (by omega) W)
  have HE : Hid (EntVal s (.returned (.tuple #[.int .i64 0, .bool false]))) := show EntVal s _ from by
    unfold EntVal
    rw [look_out _ (by rw [Array.length_toList]; exact h)]
    rfl
  have hnil := fun W : World => Maps.look_nil (w := W) true law9 Tryd.underlying97 (zero3 W) (Go.WideMaps.keyOf_string_mk Tryd.underlying9 hs)
  clear h
  go_enter Tryd.func97, Tryd.ntmps97
  go_wp2_with fail
  refine (HC.out _).mono ?_
  rintro e w1 ⟨rfl, rfl⟩
  clear HC
  go_wp2_with fail
  go_ret2
  exact ⟨HE.out, Below.refl _ _⟩
theorem entity_any (s : ByteArray) (hs : s.size ≤ maxLen) (w : World) : Calls Tryd.prog 97 #[.string s] w fun e w' => EntVal s e ∧ Below w.heap.size w w' := by
  by_cases h2 : s.size = 2
  · exact entity_2 s h2 w
  by_cases h3 : s.size = 3
  · exact entity_3 s h3 w
  by_cases h4 : s.size = 4
  · exact entity_4 s h4 w
  by_cases h5 : s.size = 5
  · exact entity_5 s h5 w
  by_cases h6 : s.size = 6
  · exact entity_6 s h6 w
  exact entity_no s hs (by omega) w

end Go.Proofs.YtfoheffbapifpaaDoor
