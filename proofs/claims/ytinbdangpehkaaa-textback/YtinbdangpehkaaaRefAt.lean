/-
  PROVED: contract of the document's own At: it answers the same places as text.At. Conditions: the text has at most 200000 bytes.
-/
import Derived.Test.YtinbdangpehkaaaAt
import Derived.Test.YtinbdangpehkaaaWholePure
import Derived.Test.YtinbdangpehkaaaRefRune
namespace Go.Proofs.Ytinbdangpehkaaa
open Go.ChangeShapes Go.WideShapes Go.ChangeAt Go.RowKit
set_option linter.unusedVariables false

theorem Holds.drewN {w : World} {g : Nat} {t : TypeId} {cs : Array Value} (h : Holds w g t cs) (n : Nat) : Holds (w.drewN n) g t cs := h
theorem Rd.drewN {w : World} {A : Option Addr} {L : List (Nat × Nat × Nat)} (h : Rd w A L) (n : Nat) : Rd (w.drewN n) A L := h
set_option maxRecDepth 100000 in
theorem refAt_out (s : ByteArray) (a : Int) (h : a < 0 ∨ (s.size : Int) < a) (hs : s.size ≤ 200000) (w : World) :
    Calls Try.prog 18 #[.string s, .int .i64 a] w fun e w' => e = .returned (.tuple #[.agg #[.int .i64 0, .int .i64 0], .int .i64 11]) ∧ Below w.heap.size w w' := by
  by_cases h0 : a < 0
  · go_enter Try.func18, Try.ntmps18
    go_wp2_with fail
    exact bodyPost_ret (v := .tuple #[.agg #[.int .i64 0, .int .i64 0], .int .i64 11]) (by simp [results, Try.results18, go_sem]) rfl ⟨rfl, (Below.refl _ _).alloc (Nat.le_refl _) _⟩
  · have h1 : (s.size : Int) < a := by omega
    go_enter Try.func18, Try.ntmps18
    go_wp2_with fail
    exact bodyPost_ret (v := .tuple #[.agg #[.int .i64 0, .int .i64 0], .int .i64 11]) (by simp [results, Try.results18, go_sem]) rfl ⟨rfl, (Below.refl _ _).alloc (Nat.le_refl _) _⟩

theorem Rd.far {w : World} {A : Option Addr} {L : List (Nat × Nat × Nat)} {G : Nat} (h : Rd w A L) (hA : ∀ b o k, A = some ⟨b, o, k⟩ → b < G) (j : Nat) (u : Value) : Rd (w.setCell ⟨G, j, none⟩ u) A L := by
  intro i l hi
  obtain ⟨b, o, e, h0, h1, h2⟩ := h i l hi
  have hne : b ≠ G := Nat.ne_of_lt (hA b o none e)
  have key : ∀ x, (w.setCell ⟨G, j, none⟩ u).cell? ⟨b, x, none⟩ = w.cell? ⟨b, x, none⟩ := fun x => World.cell?_of_block (Below.heap_setCell _ _ _ _ hne)
  exact ⟨b, o, e, (key _).trans h0, (key _).trans h1, (key _).trans h2⟩

/-- The first loop of the document's At, at a line that begins at p with number k + 1: it has been found, or it is still to come. -/
def Found (s : ByteArray) (i k p ln fr : Nat) : Prop :=
  ((ln, fr) = loc s i 1 0 ∧ (i < p ∨ p = s.size)) ∨ (p ≤ i ∧ p < s.size ∧ loc s i (k + 1) p = loc s i 1 0)
def RRel (s : ByteArray) (i : Nat) (w : World) (G : Nat) (A : Option Addr) (L : List (Nat × Nat × Nat)) (v8 v9 : Value) (wr : World) : Prop :=
  ∃ k p ln fr : Nat, k ≤ L.length ∧ p ≤ s.size ∧ L.drop k = linesF s p ∧ v8 = .int .i64 fr ∧ v9 = .int .i64 k ∧ Found s i k p ln fr ∧ Holds wr G 30 #[.int .i64 ln, .int .i64 1] ∧ Holds wr w.heap.size 30 #[.int .i64 0, .int .i64 0] ∧ Rd wr A L ∧ Below w.heap.size w wr

/-- What the second loop of the document's At goes by. -/
def QRel (s : ByteArray) (i : Nat) (w : World) (G ln fr : Nat) (v : Value) (wr : World) : Prop :=
  ∃ q c : Nat, v = .int .i64 q ∧ fr ≤ q ∧ c + cnt s q i = 1 + cnt s fr i ∧ Holds wr G 30 #[.int .i64 ln, .int .i64 c] ∧ Holds wr w.heap.size 30 #[.int .i64 0, .int .i64 0] ∧ Below w.heap.size w wr

theorem found_past {s : ByteArray} {i k p ln fr e : Nat} (h : Found s i k p ln fr) (hp : p < s.size) (hi : i < p) (he : p < e) : Found s i (k + 1) e ln fr := by
  rcases h with ⟨h1, h2⟩ | ⟨h1, _, _⟩
  · exact Or.inl ⟨h1, Or.inl (by omega)⟩
  · omega
theorem found_loc {s : ByteArray} {i k p ln fr : Nat} (h : Found s i k p ln fr) (hp : p < s.size) (hi : p ≤ i) : loc s i (k + 1) p = loc s i 1 0 := by
  rcases h with ⟨h1, h2⟩ | ⟨h1, _, h3⟩
  · omega
  · exact h3
theorem found_here {s : ByteArray} {i k p ln fr : Nat} (h : Found s i k p ln fr) (hp : p < s.size) (hi : p ≤ i) (hn : ¬ (ended s p ∧ lineEnd s p ≤ i)) (he : i < lineEnd s p ∨ lineEnd s p = s.size) : Found s i (k + 1) (lineEnd s p) (k + 1) p :=
  Or.inl ⟨by rw [← found_loc h hp hi, loc_out s i _ p hn], he⟩
theorem found_next {s : ByteArray} {i k p ln fr : Nat} (h : Found s i k p ln fr) (hp : p < s.size) (hi : p ≤ i) (hn : ended s p ∧ lineEnd s p ≤ i) (he : lineEnd s p < s.size) : Found s i (k + 1) (lineEnd s p) ln fr :=
  Or.inr ⟨hn.2, he, by rw [← found_loc h hp hi, loc_go s i _ p hn]⟩
theorem not_ended_size (s : ByteArray) : ¬ ended s s.size := fun h => by have := ended_lt s s.size h; omega
theorem found_last {s : ByteArray} {i k p ln fr : Nat} (h : Found s i k p ln fr) (hp : p < s.size) (hi : p ≤ i) (hn : ended s p ∧ lineEnd s p ≤ i) (he : lineEnd s p = s.size) : Found s i (k + 1) (lineEnd s p) (k + 2) s.size :=
  Or.inl ⟨by rw [← found_loc h hp hi, loc_go s i _ p hn, he, loc_out s i _ _ (fun hh => not_ended_size s hh.1)], Or.inr he⟩
theorem found_end {s : ByteArray} {i k p ln fr : Nat} (h : Found s i k p ln fr) (hp : ¬ p < s.size) : (ln, fr) = loc s i 1 0 := by
  rcases h with ⟨h1, _⟩ | ⟨_, h2, _⟩
  · exact h1
  · exact absurd h2 hp

set_option maxRecDepth 100000 in
set_option maxHeartbeats 4000000 in
theorem refAt_in (s : ByteArray) (i : Nat) (hi : i ≤ s.size) (hs : s.size ≤ 200000) (w : World) :
    Calls Try.prog 18 #[.string s, .int .i64 i] w fun e w' => e = .returned (.tuple #[.agg #[.int .i64 (placeL s i), .int .i64 (placeC s i)], .int .i64 0]) ∧ Below w.heap.size w w' := by
  have hs' : s.size ≤ maxLen := by unfold maxLen; omega
  have b1 : decide ((i : Int) < 0) = false := by simp
  have b2 : decide (s.size < i) = false := by simp; omega
  have hlen := linesF_len s s.size 0 (by omega)
  go_enter Try.func18, Try.ntmps18
  go_wp2_with fail
  refine (refLines_any s hs _).mono ?_
  rintro e w1 ⟨v1, rfl, ho1, hb1⟩
  obtain ⟨A, c, rfl, hc, hr, hl⟩ := own_lines ho1
  clear ho1
  have hz1 : w.heap.size < w1.heap.size := by have := hb1.size; simp at this; omega
  have hB1 : Below w.heap.size w w1 := ((Below.refl _ _).alloc (Nat.le_refl _) _).trans (hb1.mono (by simp))
  have HR1 : Hid (Holds w1 w.heap.size 30 #[.int .i64 0, .int .i64 0]) := Holds.under (Holds.made w 30 _) hb1 (by simp)
  have HA : Hid (∀ b o k, A = some ⟨b, o, k⟩ → b < w1.heap.size) := fun b o k e => (hl b o k e).2
  have HRd := Lib.hid hr
  have HD : Hid ((linesF s 0).drop 0 = linesF s 0) := List.drop_zero
  have HF : Hid (Found s i 0 0 1 0) := by
    by_cases h0 : s.size = 0
    · refine Or.inl ⟨?_, Or.inr h0.symm⟩
      rw [loc_out s i 1 0 (fun hh => by have := ended_lt s 0 hh.1; omega)]
    · exact Or.inr ⟨Nat.zero_le _, by omega, rfl⟩
  clear hb1 hr hl
  generalize hLe : linesF s 0 = L at *
  have HL := Lib.hid hLe
  clear hLe
  go_wp2_with fail
  go_loopw [8, 9] (fun v8 v9 wr => RRel s i w w1.heap.size A L v8 v9 wr) (fun _ v _ => L.length - (intOf v).toNat)
  case atStart => exact ⟨0, 0, 1, 0, Nat.zero_le _, Nat.zero_le _, HD.out.trans HL.out.symm, rfl, rfl, HF.out, Holds.made w1 30 _, Holds.under HR1.out ((Below.refl w1.heap.size w1).alloc (Nat.le_refl _) _) hz1, HRd.out.below ((Below.refl w1.heap.size w1).alloc (Nat.le_refl _) _) HA.out, hB1.alloc (Nat.le_of_lt hz1) _⟩
  case round =>
    obtain ⟨k, p, ln, fr, hk, hp, hd, rfl, rfl, hF, hG, hR, hRd, hB⟩ := hrel
    have HF := Lib.hid hF
    have HG := Lib.hid hG
    have HR := Lib.hid hR
    have HRd2 := Lib.hid hRd
    have hgl := hG.lt
    have hne : w.heap.size ≠ w1.heap.size := Nat.ne_of_lt hz1
    by_cases hlt : k < L.length
    · obtain ⟨hps, hat, hnext⟩ := line_at hd hlt
      obtain ⟨b, o, rfl, r0, r1, r2⟩ := hRd k _ hat
      have f1 := lineTo_ge s p
      have f2 := lineEnd_ge s p
      have hle := lineEnd_le s p hp
      have f4 := lineEnd_gt s p hps
      have HN := Lib.hid hnext
      have g0 : wr.cell? ⟨w1.heap.size, 0, none⟩ = some (.int .i64 ln) := hG.at 0
      have z0 : wr.frozen? ⟨w1.heap.size, 0, none⟩ = false := hG.soft 0
      have HKL : Hid (lineEnd s p = s.size → k + 1 = L.length) := fun he => by
        have e1 := hnext
        rw [he, linesF_out s s.size (Nat.le_refl _)] at e1
        have e2 := congrArg List.length e1
        rw [List.length_drop] at e2
        simp at e2
        omega
      have HKM : Hid (lineEnd s p < s.size → k + 1 < L.length) := fun he => by
        have e1 := hnext
        rw [linesF_go s _ he] at e1
        have e2 := congrArg List.length e1
        rw [List.length_drop] at e2
        simp at e2
        omega
      have hba := HA.out b o none rfl
      clear hnext hd hat hF hG hR hRd
      simp only at r0 r1 r2
      by_cases c1 : p ≤ i
      · by_cases c2 : i < lineEnd s p
        · have HX := Lib.hid (found_here HF.out hps c1 (by omega) (Or.inl c2))
          have d3 : ((i : Int) == (s.size : Int)) = false := by simp; omega
          have d1 : decide ((p : Int) ≤ (i : Int)) = true := by simp; omega
          have d2 : decide ((i : Int) < (lineEnd s p : Int)) = true := by simp; omega
          go_wp2_with fail
          go_quiet (fail)
          go_wp2_with fail
          go_roundw
          case rel => exact ⟨k + 1, lineEnd s p, (k + 1), p, hlt, hle, HN.out, rfl, by go_num, HX.out, Holds.set (HG.out.drewN _) 0 _, (HR.out.drewN _).past hne _, Rd.far (HRd2.out.drewN _) HA.out 0 _, (below_drewN hB _).setCell (Nat.le_of_lt hz1) _⟩
          case measure => simp [intOf]; omega
        · by_cases c3 : ended s p
          · by_cases c4 : lineEnd s p < s.size
            · have HX := Lib.hid (found_next HF.out hps c1 ⟨c3, by omega⟩ c4)
              have hkm := HKM.out c4
              have de : decide (lineTo s p < lineEnd s p) = true := by have : lineTo s p < lineEnd s p := c3; simpa using this
              have d1 : decide ((p : Int) ≤ (i : Int)) = true := by simp; omega
              have d2 : decide (i < lineEnd s p) = false := by simp; omega
              have d4 : ((k : Int) == (L.length : Int) - 1) = false := by simp; omega
              clear c3
              by_cases c5 : i = lineEnd s p
              · have d3 : ((i : Int) == (s.size : Int)) = false := by simp; omega
                have d6 : ((i : Int) == (lineEnd s p : Int)) = true := by simp; omega
                clear c5
                go_wp2_with fail
                go_quiet (fail)
                go_wp2_with fail
                go_roundw
                case rel => exact ⟨k + 1, lineEnd s p, ln, fr, hlt, hle, HN.out, rfl, by go_num, HX.out, HG.out.drewN _, HR.out.drewN _, HRd2.out.drewN _, below_drewN hB _⟩
                case measure => simp [intOf]; omega
              · have d6 : ((i : Int) == (lineEnd s p : Int)) = false := by simp; omega
                clear c5
                by_cases c6 : i = s.size
                · have d3 : ((i : Int) == (s.size : Int)) = true := by simp; omega
                  clear c6
                  go_wp2_with fail
                  go_quiet (fail)
                  go_wp2_with fail
                  go_roundw
                  case rel => exact ⟨k + 1, lineEnd s p, ln, fr, hlt, hle, HN.out, rfl, by go_num, HX.out, HG.out.drewN _, HR.out.drewN _, HRd2.out.drewN _, below_drewN hB _⟩
                  case measure => simp [intOf]; omega
                · have d3 : ((i : Int) == (s.size : Int)) = false := by simp; omega
                  clear c6
                  go_wp2_with fail
                  go_quiet (fail)
                  go_wp2_with fail
                  go_roundw
                  case rel => exact ⟨k + 1, lineEnd s p, ln, fr, hlt, hle, HN.out, rfl, by go_num, HX.out, HG.out.drewN _, HR.out.drewN _, HRd2.out.drewN _, below_drewN hB _⟩
                  case measure => simp [intOf]; omega
            · have he : lineEnd s p = s.size := by omega
              have HX := Lib.hid (found_last HF.out hps c1 ⟨c3, by omega⟩ he)
              have hkl := HKL.out he
              have de : decide (lineTo s p < lineEnd s p) = true := by have : lineTo s p < lineEnd s p := c3; simpa using this
              have d1 : decide ((p : Int) ≤ (i : Int)) = true := by simp; omega
              have d2 : decide (i < lineEnd s p) = false := by simp; omega
              have d3 : ((i : Int) == (s.size : Int)) = true := by simp; omega
              have d4 : ((k : Int) == (L.length : Int) - 1) = true := by simp; omega
              have d6 : ((i : Int) == (lineEnd s p : Int)) = true := by simp; omega
              clear he hkl c3
              go_wp2_with fail
              go_quiet (fail)
              go_wp2_with fail
              go_roundw
              case rel => exact ⟨k + 1, lineEnd s p, (k + 2), s.size, hlt, hle, HN.out, rfl, by go_num, HX.out, Holds.set (HG.out.drewN _) 0 _, (HR.out.drewN _).past hne _, Rd.far (HRd2.out.drewN _) HA.out 0 _, (below_drewN hB _).setCell (Nat.le_of_lt hz1) _⟩
              case measure => simp [intOf]; omega
          · have he := not_ended s p hp c3
            have HX := Lib.hid (found_here HF.out hps c1 (fun hh => c3 hh.1) (Or.inr he.2))
            have de : decide (lineTo s p < lineEnd s p) = false := by have : ¬ lineTo s p < lineEnd s p := c3; simpa using this
            have d1 : decide ((p : Int) ≤ (i : Int)) = true := by simp; omega
            have d2 : decide (i < lineEnd s p) = false := by simp; omega
            have d3 : ((i : Int) == (s.size : Int)) = true := by simp; omega
            have d6 : ((i : Int) == (lineEnd s p : Int)) = true := by simp; omega
            clear he c3
            by_cases c5 : k + 1 = L.length
            · have d4 : ((k : Int) == (L.length : Int) - 1) = true := by simp; omega
              clear c5
              go_wp2_with fail
              go_quiet (fail)
              go_wp2_with fail
              go_roundw
              case rel => exact ⟨k + 1, lineEnd s p, (k + 1), p, hlt, hle, HN.out, rfl, by go_num, HX.out, Holds.set (HG.out.drewN _) 0 _, (HR.out.drewN _).past hne _, Rd.far (HRd2.out.drewN _) HA.out 0 _, (below_drewN hB _).setCell (Nat.le_of_lt hz1) _⟩
              case measure => simp [intOf]; omega
            · have d4 : ((k : Int) == (L.length : Int) - 1) = false := by simp; omega
              clear c5
              go_wp2_with fail
              go_quiet (fail)
              go_wp2_with fail
              go_roundw
              case rel => exact ⟨k + 1, lineEnd s p, (k + 1), p, hlt, hle, HN.out, rfl, by go_num, HX.out, Holds.set (HG.out.drewN _) 0 _, (HR.out.drewN _).past hne _, Rd.far (HRd2.out.drewN _) HA.out 0 _, (below_drewN hB _).setCell (Nat.le_of_lt hz1) _⟩
              case measure => simp [intOf]; omega
      · have HX := Lib.hid (found_past HF.out hps (by omega) f4)
        have d1 : decide (p ≤ i) = false := by simp; omega
        have d3 : ((i : Int) == (s.size : Int)) = false := by simp; omega
        go_wp2_with fail
        go_quiet (fail)
        go_wp2_with fail
        go_roundw
        case rel => exact ⟨k + 1, lineEnd s p, ln, fr, hlt, hle, HN.out, rfl, by go_num, HX.out, HG.out.drewN _, HR.out.drewN _, HRd2.out.drewN _, below_drewN hB _⟩
        case measure => simp [intOf]; omega
    · have hpn : ¬ p < s.size := fun hh => by
        have hd' := hd
        rw [List.drop_eq_nil_of_le (by omega), linesF_go s p hh] at hd'
        cases hd'
      have hfe := found_end hF hpn
      have HP : Hid (placeL s i = ln ∧ placeC s i = 1 + cnt s fr i) := by
        unfold placeL placeC
        rw [← hfe]
        exact ⟨rfl, rfl⟩
      have hfi : fr ≤ i := by
        obtain ⟨k', q1, q2, q3, q4⟩ := loc_is s i _ 1 0 (Nat.le_refl _) (Nat.zero_le _) (Nat.zero_le _)
        rw [← hfe] at q3
        exact q3
      have hcl := cnt_le s i _ fr (Nat.le_refl _)
      clear hd hF hpn hfe hG hR hRd HF HRd2 HRd HL HD HA HR1
      go_wp2_with fail
      go_loopw [11] (fun v wq => QRel s i w w1.heap.size ln fr v wq) (fun v _ => s.size - (intOf v).toNat)
      case atStart => exact ⟨fr, 1, rfl, Nat.le_refl _, rfl, HG.out, HR.out, hB⟩
      case round =>
        obtain ⟨q, c, rfl, hq, hc, hG2, hR2, hB2⟩ := hrel
        have HC := Lib.hid hc
        have HG2 := Lib.hid hG2
        have HR2 := Lib.hid hR2
        have hgl2 := hG2.lt
        have hcb : c ≤ 1 + cnt s fr i := by omega
        by_cases hqi : q < i
        · have hd := dec_bd s q (by omega)
          obtain ⟨e1, e2, e3, e4⟩ := hd
          have HW := Lib.hid (cnt_go s q i hqi)
          clear hc hG2 hR2
          go_wp2_with fail
          refine (refRune_in s q (by omega) hs' _).mono ?_
          rintro e w3 ⟨rfl, hb3⟩
          have hs3 := hb3.size
          have hG3 := HG2.out.under hb3 hgl2
          have HR3 : Hid (Holds w3 w.heap.size 30 #[.int .i64 0, .int .i64 0]) := HR2.out.under hb3 (by omega)
          have HB3 : Hid (Below w.heap.size w w3) := hB2.trans (hb3.mono hB2.size)
          have x1 : w3.cell? ⟨w1.heap.size, 1, none⟩ = some (.int .i64 c) := hG3.at 1
          have v1 : w3.frozen? ⟨w1.heap.size, 1, none⟩ = false := hG3.soft 1
          have HG3 := Lib.hid hG3
          clear hG3 hb3
          go_wp2_with fail
          go_roundw
          case rel =>
            have ec : ((c + 1 : Nat) : Int) = (c : Int) + 1 := by omega
            refine ⟨q + (Utf8.decode s q).2, c + 1, by go_num, by omega, ?_, ?_, HR3.out.past hne _, HB3.out.setCell (Nat.le_of_lt hz1) _⟩
            · have h1 := HW.out
              have h2 := HC.out
              unfold wd at h1
              omega
            · rw [ec]
              exact HG3.out.set 1 _
          case measure => simp [intOf]; omega
        · have HE : Hid (placeC s i = c) := by
            have h1 := HP.out.2
            have h2 := HC.out
            rw [cnt_out s q i (by omega)] at h2
            show placeC s i = c
            omega
          have p0 : wr.cell? ⟨w1.heap.size, 0, none⟩ = some (.int .i64 ln) := hG2.at 0
          have p1 : wr.cell? ⟨w1.heap.size, 1, none⟩ = some (.int .i64 c) := hG2.at 1
          have x0 : wr.cell? ⟨w.heap.size, 0, none⟩ = some (.int .i64 0) := hR2.at 0
          have x1 : wr.cell? ⟨w.heap.size, 1, none⟩ = some (.int .i64 0) := hR2.at 1
          have v0 : wr.frozen? ⟨w.heap.size, 0, none⟩ = false := hR2.soft 0
          have v1 : wr.frozen? ⟨w.heap.size, 1, none⟩ = false := hR2.soft 1
          clear hc hG2 hR2
          go_wp2_with fail
          exact bodyPost_ret (v := .tuple #[.agg #[.int .i64 ln, .int .i64 c], .int .i64 0]) (by simp [results, Try.results18, go_sem, x0, x1]) rfl ⟨by rw [HE.out, HP.out.1], (hB2.setCell (Nat.le_refl _) _).setCell (Nat.le_refl _) _⟩

theorem refAt_any (s : ByteArray) (a : Int) (hs : s.size ≤ 200000) (w : World) :
    Calls Try.prog 18 #[.string s, .int .i64 a] w fun e w' => e = .returned (atV s a) ∧ Below w.heap.size w w' := by
  unfold atV
  by_cases h : a < 0 ∨ (s.size : Int) < a
  · rw [if_pos h]
    exact refAt_out s a h hs w
  · rw [if_neg h]
    obtain ⟨i, rfl⟩ : ∃ i : Nat, a = i := ⟨a.toNat, by omega⟩
    exact refAt_in s i (by omega) hs w
end Go.Proofs.Ytinbdangpehkaaa
