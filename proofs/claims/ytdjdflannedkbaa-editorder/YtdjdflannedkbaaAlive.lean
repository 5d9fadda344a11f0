/-
  PROVED: contract of the law's own alive: it answers true. Conditions: none.
-/
import Derived.Test.YtdjdflannedkbaaApply
import Derived.Test.YtdjdflannedkbaaMove
namespace Go.Proofs.Ytdjdflannedkbaa
open Go.ChangeShapes Go.WideShapes Go.ChangeAt Go.RowKit Go.Sort
set_option linter.unusedVariables false

def al1 : List Ed := [⟨3, 3, ⟨#[33]⟩⟩, ⟨1, 2, ⟨#[120, 120]⟩⟩]
def al2 : List Ed := [⟨0, 2, ⟨#[]⟩⟩, ⟨1, 3, ⟨#[]⟩⟩]
def abc : ByteArray := ⟨#[97, 98, 99]⟩

theorem al1_srt : srtE al1 = [⟨1, 2, ⟨#[120, 120]⟩⟩, ⟨3, 3, ⟨#[33]⟩⟩] := by
  show insE ⟨1, 2, ⟨#[120, 120]⟩⟩ (insE ⟨3, 3, ⟨#[33]⟩⟩ []) = _
  rw [insE, insE, if_pos (by decide)]
theorem al2_srt : srtE al2 = al2 := by
  show insE ⟨1, 3, ⟨#[]⟩⟩ (insE ⟨0, 2, ⟨#[]⟩⟩ []) = _
  rw [insE, insE, if_neg (by decide), insE]; rfl
theorem al1_chk : chk abc.size al1 = 0 := by
  unfold chk; rw [al1_srt]; decide
theorem al2_chk : chk abc.size al2 = 21 := by
  unfold chk; rw [al2_srt]; decide
theorem al1_app : appR abc al1 = ⟨#[97, 120, 120, 99, 33]⟩ := by
  rw [appR_ok al1_chk, al1_srt]; rfl
theorem al1_mv : mvB 2 al1 + mvA 2 al1 = 3 := by decide

/-- Two edits in a new block. -/
theorem rd_two (w : World) (a b : Ed) : Rd (w.alloc (.cells #[.int .i64 a.f, .int .i64 a.t, .string a.x, .int .i64 b.f, .int .i64 b.t, .string b.x] 34)) (w.heap.size + 1) (some ⟨w.heap.size, 0, none⟩) [a, b] := by
  intro i l hi
  match i, hi with
  | 0, hi => simp at hi; subst hi; exact ⟨_, _, rfl, by omega, by simp, by simp, by simp⟩
  | 1, hi => simp at hi; subst hi; exact ⟨_, _, rfl, by omega, by simp, by simp, by simp⟩

theorem al_apply (b c : Nat) (B : Nat) (w : World) (h : Rd w B (some ⟨b, 0, none⟩) al1) : Calls Try.prog 11 #[.string { data := #[97, 98, 99] }, .slice (some ⟨b, 0, none⟩) 2 c] w fun e w' => e = .returned (.tuple #[.string { data := #[97, 120, 120, 99, 33] }, .int .i64 0]) ∧ Below w.heap.size w w' := by
  have := apply_any abc (some ⟨b, 0, none⟩) c (fun h => by cases h) al1 (by decide) (by decide) (fun e he => by simp [al1] at he; rcases he with rfl | rfl <;> decide) B w h
  rw [al1_app, al1_chk] at this
  exact this
theorem al_move (b c : Nat) (B : Nat) (w : World) (h : Rd w B (some ⟨b, 0, none⟩) al1) : Calls Try.prog 18 #[.slice (some ⟨b, 0, none⟩) 2 c, .int .i64 2] w fun e w' => e = .returned (.int .i64 3) ∧ Below w.heap.size w w' := by
  have := move_any (some ⟨b, 0, none⟩) c al1 (by decide) 2 (by decide) (fun e he => by simp [al1] at he; rcases he with rfl | rfl <;> decide) B w h
  rw [al1_mv] at this
  exact this
theorem al_check (b c : Nat) (B : Nat) (w : World) (h : Rd w B (some ⟨b, 0, none⟩) al2) : Calls Try.prog 13 #[.string { data := #[97, 98, 99] }, .slice (some ⟨b, 0, none⟩) 2 c] w fun e w' => e = .returned (.int .i64 21) ∧ Below w.heap.size w w' := by
  have := check_any abc (some ⟨b, 0, none⟩) c (fun h => by cases h) al2 (by decide) B w h
  rw [al2_chk] at this
  exact this

set_option maxHeartbeats 1000000 in
theorem alive_any (w : World) : Calls Try.prog 8 #[] w fun e w' => e = .returned (.bool true) ∧ Below w.heap.size w w' := by
  have hr : Rd (w.alloc (.cells #[.int .i64 3, .int .i64 3, .string { data := #[33] }, .int .i64 1, .int .i64 2, .string { data := #[120, 120] }] 34)) (w.heap.size + 1) (some ⟨w.heap.size, 0, none⟩) al1 := rd_two w ⟨3, 3, ⟨#[33]⟩⟩ ⟨1, 2, ⟨#[120, 120]⟩⟩
  go_enter Try.func8, Try.ntmps8
  go_wp2_with fail
  refine (al_apply w.heap.size 2 _ _ hr).mono ?_
  rintro e w2 ⟨rfl, hb2⟩
  have hr2 := hr.here.on hb2
  have hB2 := chain (Nat.le_refl _) ((Below.refl _ w).alloc (Nat.le_refl _) (.cells #[.int .i64 3, .int .i64 3, .string { data := #[33] }, .int .i64 1, .int .i64 2, .string { data := #[120, 120] }] 34)) hb2
  clear hr hb2
  go_wp2_with fail
  refine (al_move w.heap.size 2 _ _ hr2).mono ?_
  rintro e w3 ⟨rfl, hb3⟩
  have hB3 := chain (Nat.le_refl _) hB2 hb3
  have hz3 := hB3.size
  clear hr2 hb3 hB2
  go_wp2_with fail
  have hr4 : Rd (w3.alloc (.cells #[.int .i64 0, .int .i64 2, .string { data := #[] }, .int .i64 1, .int .i64 3, .string { data := #[] }] 34)) (w3.heap.size + 1) (some ⟨w3.heap.size, 0, none⟩) al2 := rd_two w3 ⟨0, 2, ⟨#[]⟩⟩ ⟨1, 3, ⟨#[]⟩⟩
  refine (al_check w3.heap.size 2 _ _ hr4).mono ?_
  rintro e w4 ⟨rfl, hb4⟩
  have hB4 := chain (Nat.le_refl _) (hB3.alloc hz3 (.cells #[.int .i64 0, .int .i64 2, .string { data := #[] }, .int .i64 1, .int .i64 3, .string { data := #[] }] 34)) hb4
  clear hr4 hb4 hB3
  go_wp2_with fail
  go_ret
  exact ⟨rfl, hB4⟩
end Go.Proofs.Ytdjdflannedkbaa
