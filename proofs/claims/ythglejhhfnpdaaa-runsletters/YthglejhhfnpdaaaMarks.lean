/-
  PROVED: contracts of class.Blank, Mark, Plain and lift, and of the document's own Blank, Mark, Plain: each tells whether the number lies in one of the chapter's spans. Conditions: none.
-/
import Derived.Test.YthglejhhfnpdaaaSpans
namespace Go.Proofs.Ythglejhhfnpdaaa
open Go.ChangeShapes Go.WideShapes Go.ChangeAt Go.RowKit Go.Sort
set_option linter.unusedVariables false

def blankL : List Sp := [(9, 10), (12, 13), (32, 32), (160, 160), (5760, 5760), (8192, 8202), (8239, 8239), (8287, 8287), (12288, 12288)]
def plainL : List Sp := [(33, 47), (58, 64), (91, 96), (123, 126)]
def markL : List Sp := [(161, 169), (171, 172), (174, 177), (180, 180), (182, 184), (187, 187), (191, 191), (215, 215), (247, 247), (8208, 8231), (8240, 8286), (8352, 8384), (8592, 8703), (12289, 12291), (12296, 12305)]
def liftL : List Sp := [(65, 90), (192, 214), (216, 222), (913, 929), (931, 939), (1040, 1071)]
def isBlank (r : Int) : Bool := inSps r blankL
def isPlain (r : Int) : Bool := inSps r plainL
def isMark (r : Int) : Bool := if r < 128 then inSps r plainL else inSps r markL

/-- The cells of a row of spans that was just laid. -/
theorem span_cells (w : World) (L : List Sp) (b : Nat) (cs : Array Value) (T : TypeId) (hb : b = w.heap.size) (h : cs = (L.flatMap fun p => [Value.int .i64 p.1, .int .i64 p.2]).toArray) :
    ∀ j p, L[j]? = some p → (w.alloc (.cells cs T)).cell? ⟨b, j * 2, none⟩ = some (.int .i64 p.1) ∧ (w.alloc (.cells cs T)).cell? ⟨b, j * 2 + 1, none⟩ = some (.int .i64 p.2) := by
  subst hb
  subst h
  have key : ∀ (L : List Sp) (j : Nat) (p : Sp), L[j]? = some p → (L.flatMap fun p => [Value.int .i64 p.1, .int .i64 p.2])[j * 2]? = some (.int .i64 p.1) ∧ (L.flatMap fun p => [Value.int .i64 p.1, .int .i64 p.2])[j * 2 + 1]? = some (.int .i64 p.2) := by
    intro L
    induction L with
    | nil => intro j p h; simp at h
    | cons x L ih =>
      intro j p h
      match j, h with
      | 0, h => simp at h; subst h; exact ⟨rfl, rfl⟩
      | j + 1, h =>
        have := ih j p (by simpa using h)
        rw [List.flatMap_cons, show (j + 1) * 2 = j * 2 + 2 from by omega, show j * 2 + 2 + 1 = j * 2 + 1 + 2 from by omega]
        exact this
  intro j p h
  obtain ⟨h0, h1⟩ := key L j p h
  constructor
  · simpa using h0
  · simpa using h1

theorem grow_chain (w : World) (q q' : Nat) (os os' : Array Obj) : grow ((grow (w.drewN q) os).drewN q') os' = grow (w.drewN (q + q')) (os ++ os') := by
  rw [← grow_grow, ← World.drewN_drewN]; rfl

theorem within_new (r : Int) (L : List Sp) (n : Nat) (hn : n = L.length) (hl : L.length ≤ 1000000) (cs : Array Value) (w : World) (h : cs = (L.flatMap fun p => [Value.int .i64 p.1, .int .i64 p.2]).toArray) (v : Bool) (hv : inSps r L = v) :
    Calls Try.prog 24 #[.int .i64 r, .slice (some ⟨w.heap.size, 0, none⟩) n n] (w.alloc (.cells cs 43)) (Grows (.bool v) w) := by
  subst hn
  subst hv
  refine (within_any r L hl w.heap.size L.length _ (span_cells w L _ cs 43 rfl h)).mono ?_
  rintro e w' ⟨rfl, q, os, rfl⟩
  exact ⟨rfl, q, #[.cells cs 43] ++ os, by rw [alloc_eq_grow, ← grow_grow]; rfl⟩

set_option maxHeartbeats 1000000 in
theorem blank_any (r : Int) (w : World) : Calls Try.prog 22 #[.int .i64 r] w (Grows (.bool (isBlank r)) w) := by
  go_enter Try.func22, Try.ntmps22
  go_wp2_with fail
  refine (within_new r blankL 9 rfl (by decide) _ w rfl _ rfl).mono ?_
  rintro e w' ⟨rfl, hG⟩
  have HG := Lib.hid hG
  clear hG
  go_wp2_with fail
  go_ret
  exact ⟨rfl, HG.out⟩

theorem bool_of {b : Bool} {p : Prop} (h : b = true ↔ p) : (p → b = true) ∧ (¬ p → b = false) := by
  refine ⟨h.2, fun hp => ?_⟩
  cases b with
  | false => rfl
  | true => exact absurd (h.1 rfl) hp
theorem isBlank_iff (r : Int) : isBlank r = true ↔ r = 9 ∨ r = 10 ∨ r = 12 ∨ r = 13 ∨ r = 32 ∨ r = 160 ∨ r = 5760 ∨ (8192 ≤ r ∧ r ≤ 8202) ∨ r = 8239 ∨ r = 8287 ∨ r = 12288 := by
  simp only [isBlank, inSps, inSp, blankL, List.any_cons, List.any_nil, Bool.or_false, Bool.or_eq_true, Bool.and_eq_true, decide_eq_true_eq]
  omega
theorem isPlain_iff (r : Int) : inSps r plainL = true ↔ (33 ≤ r ∧ r ≤ 47) ∨ (58 ≤ r ∧ r ≤ 64) ∨ (91 ≤ r ∧ r ≤ 96) ∨ (123 ≤ r ∧ r ≤ 126) := by
  simp only [inSps, inSp, plainL, List.any_cons, List.any_nil, Bool.or_false, Bool.or_eq_true, Bool.and_eq_true, decide_eq_true_eq]
theorem isHigh_iff (r : Int) : inSps r markL = true ↔ (161 ≤ r ∧ r ≤ 169) ∨ (171 ≤ r ∧ r ≤ 172) ∨ (174 ≤ r ∧ r ≤ 177) ∨ r = 180 ∨ (182 ≤ r ∧ r ≤ 184) ∨ r = 187 ∨ r = 191 ∨ r = 215 ∨ r = 247 ∨ (8208 ≤ r ∧ r ≤ 8231) ∨ (8240 ≤ r ∧ r ≤ 8286) ∨ (8352 ≤ r ∧ r ≤ 8384) ∨ (8592 ≤ r ∧ r ≤ 8703) ∨ (12289 ≤ r ∧ r ≤ 12291) ∨ (12296 ≤ r ∧ r ≤ 12305) := by
  simp only [inSps, inSp, markL, List.any_cons, List.any_nil, Bool.or_false, Bool.or_eq_true, Bool.and_eq_true, decide_eq_true_eq]
  omega
theorem isMark_iff (r : Int) : isMark r = true ↔ (33 ≤ r ∧ r ≤ 47) ∨ (58 ≤ r ∧ r ≤ 64) ∨ (91 ≤ r ∧ r ≤ 96) ∨ (123 ≤ r ∧ r ≤ 126) ∨ (161 ≤ r ∧ r ≤ 169) ∨ (171 ≤ r ∧ r ≤ 172) ∨ (174 ≤ r ∧ r ≤ 177) ∨ r = 180 ∨ (182 ≤ r ∧ r ≤ 184) ∨ r = 187 ∨ r = 191 ∨ r = 215 ∨ r = 247 ∨ (8208 ≤ r ∧ r ≤ 8231) ∨ (8240 ≤ r ∧ r ≤ 8286) ∨ (8352 ≤ r ∧ r ≤ 8384) ∨ (8592 ≤ r ∧ r ≤ 8703) ∨ (12289 ≤ r ∧ r ≤ 12291) ∨ (12296 ≤ r ∧ r ≤ 12305) := by
  unfold isMark
  split
  · rw [isPlain_iff]; omega
  · rw [isHigh_iff]; omega

set_option maxHeartbeats 1000000 in
theorem refBlank_any (r : Int) (w : World) : Calls Try.prog 16 #[.int .i64 r] w fun e w' => e = .returned (.bool (isBlank r)) ∧ w' = w := by
  have HI := Lib.hid (isBlank_iff r)
  generalize isBlank r = v at HI ⊢
  go_enter Try.func16, Try.ntmps16
  go_wp2_with fail
  all_goals (go_ret; refine ⟨congrArg (fun b => Ending.returned (Value.bool b)) (?_ : _ = v), rfl⟩; rw [Bool.eq_iff_iff, HI.out]; try simp only [Bool.or_eq_true, beq_iff_eq, decide_eq_true_eq, true_iff]; try omega)

set_option maxHeartbeats 1000000 in
theorem refPlain_any (r : Int) (w : World) : Calls Try.prog 21 #[.int .u8 r] w fun e w' => e = .returned (.bool (inSps r plainL)) ∧ w' = w := by
  have HI := Lib.hid (isPlain_iff r)
  generalize inSps r plainL = v at HI ⊢
  go_enter Try.func21, Try.ntmps21
  go_wp2_with fail
  all_goals (go_ret; refine ⟨congrArg (fun b => Ending.returned (Value.bool b)) (?_ : _ = v), rfl⟩; rw [Bool.eq_iff_iff, HI.out]; try simp only [Bool.or_eq_true, decide_eq_true_eq, true_iff, false_iff, Bool.false_eq_true]; try omega)

set_option maxHeartbeats 2000000 in
theorem mark_any (r : Int) (w : World) : Calls Try.prog 23 #[.int .i64 r] w (Grows (.bool (isMark r)) w) := by
  by_cases h : r < 128
  · have HV : Hid (isMark r = inSps r plainL) := show isMark r = inSps r plainL from by unfold isMark; rw [if_pos h]
    rw [HV.out]
    go_enter Try.func23, Try.ntmps23
    go_wp2_with fail
    refine (within_new r plainL 4 rfl (by decide) _ w rfl _ rfl).mono ?_
    rintro e w' ⟨rfl, hG⟩
    have HG := Lib.hid hG
    clear hG
    go_wp2_with fail
    go_ret
    exact ⟨rfl, HG.out⟩
  · have HV : Hid (isMark r = inSps r markL) := show isMark r = inSps r markL from by unfold isMark; rw [if_neg h]
    rw [HV.out]
    go_enter Try.func23, Try.ntmps23
    go_wp2_with fail
    refine (within_new r markL 15 rfl (by decide) _ w rfl _ rfl).mono ?_
    rintro e w' ⟨rfl, hG⟩
    have HG := Lib.hid hG
    clear hG
    go_wp2_with fail
    go_ret
    exact ⟨rfl, HG.out⟩

theorem toU8 (r : Int) (h0 : 0 ≤ r) (h1 : r < 256) : IntKind.u8.wrap r = r := by
  simp [IntKind.wrap, IntKind.signed, IntKind.bits]; omega

/-- How much more a character is when it is folded to one. -/
def liftZ (r : Int) : Int := if inSps r liftL = true then 32 else if 1024 ≤ r ∧ r ≤ 1039 then 80 else 0
theorem inOne (r : Int) : inSps r [(1024, 1039)] = decide (1024 ≤ r ∧ r ≤ 1039) := by
  rw [Bool.eq_iff_iff]
  simp [inSps, inSp]

end Go.Proofs.Ythglejhhfnpdaaa
