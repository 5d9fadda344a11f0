/-
  PROVED: contracts of edit.Move and of the document's own Move: where an offset goes. Conditions: the slice lies in memory that holds the edits; at most 300 edits, whose numbers and lengths are from 0 to 60000, and so is the offset.
-/
import Derived.Test.YtdjdflannedkbaaRefCheck
namespace Go.Proofs.Ytdjdflannedkbaa
open Go.ChangeShapes Go.WideShapes Go.ChangeAt Go.RowKit Go.Sort
set_option linter.unusedVariables false

/-- Edits whose numbers are small. -/
def Sml (es : List Ed) : Prop := ∀ e ∈ es, 0 ≤ e.f ∧ e.f ≤ e.t ∧ e.t ≤ 60000 ∧ e.x.size ≤ 60000

/-- What edit.Move begins with: the offset, or where the text of the edit that holds it ends. -/
def mvB (k : Int) (es : List Ed) : Int := match es.find? (holdB k) with
  | some e => e.f + e.x.size
  | none => k

theorem mv_eq {n : Nat} {es : List Ed} {k : Int} (h : chk n es = 0) : mvB k es + mvA k es = k + mvS k (srtE es) := by
  rw [mvS_perm (srt_perm es)]
  unfold mvB
  cases hf : es.find? (holdB k) with
  | none =>
    rw [mvS_none (fun e he => by have := List.find?_eq_none.1 hf e he; simpa using this)]
  | some e =>
    rw [mvS_one (hold_pairs h) (List.mem_of_find?_eq_some hf) (List.find?_some hf)]
    simp only
    omega

/-- The first edit that holds an offset. -/
def idxH (k : Int) (es : List Ed) : Int := match es.findIdx? (holdB k) with
  | some i => i
  | none => -1

set_option maxHeartbeats 1000000 in
theorem holds_any (e : Ed) (k : Int) (b : Nat) (w : World) (hs : w.cell? ⟨b, 0, none⟩ = some (.int .i64 k)) : Calls Try.prog 29 #[eagg e, .pointer (some ⟨b, 0, none⟩)] w (Grows (.bool (holdB k e)) w) := by
  obtain ⟨a0, a1, a2⟩ := e
  have hlt := World.block_lt_of_cell? _ _ hs
  have hne : b ≠ w.heap.size := by simp at hlt; omega
  have hs' : (w.alloc (.cells #[.int .i64 a0, .int .i64 a1, .string a2] 34)).cell? ⟨b, 0, none⟩ = some (.int .i64 k) := by rw [World.cell?_alloc_lt w _ _ hlt]; exact hs
  have fin : ∀ v, v = holdB k ⟨a0, a1, a2⟩ → Grows (.bool (holdB k ⟨a0, a1, a2⟩)) w (.returned (.bool v)) (w.alloc (.cells #[.int .i64 a0, .int .i64 a1, .string a2] 34)) := fun v hv => ⟨by rw [hv], 0, _, by rw [alloc_eq_grow]; rfl⟩
  have FIN := Lib.hid fin
  clear fin hs
  by_cases h1 : a0 < k
  · by_cases h2 : k < a1
    · have HV : Hid (true = holdB k ⟨a0, a1, a2⟩) := by show _ = _; simp [holdB, h1, h2]
      go_enter Try.func29, Try.ntmps29
      go_wp2_with fail
      go_ret
      exact FIN.out _ HV.out
    · have HV : Hid (false = holdB k ⟨a0, a1, a2⟩) := by show _ = _; simp [holdB, h2]
      go_enter Try.func29, Try.ntmps29
      go_wp2_with fail
      go_ret
      exact FIN.out _ HV.out
  · have HV : Hid (false = holdB k ⟨a0, a1, a2⟩) := by show _ = _; simp [holdB, h1]
    go_enter Try.func29, Try.ntmps29
    go_wp2_with fail
    go_ret
    exact FIN.out _ HV.out

set_option maxHeartbeats 1000000 in
theorem index_any (A : Option Addr) (c : Nat) (es : List Ed) (hl : es.length ≤ 1000000) (k : Int) (b B : Nat) (w : World) (h : Rd w B A es) (hs : w.cell? ⟨b, 0, none⟩ = some (.int .i64 k)) :
    Calls Try.prog 30 #[.slice A es.length c, .func (.func 29) #[] #[.pointer (some ⟨b, 0, none⟩)]] w fun e w' => e = .returned (.int .i64 (idxH k es)) ∧ Below w.heap.size w w' := by
  have h := h.here
  have hb := World.block_lt_of_cell? _ _ hs
  have HV : Hid (idxH k es = match es.findIdx? (holdB k) with | some i => (i : Int) | none => -1) := rfl
  generalize idxH k es = r at HV ⊢
  go_enter Try.func30, Try.ntmps30
  go_wp2_with fail
  go_loopw [8] (fun i wr => ∃ j : Nat, i = .int .i64 j ∧ j ≤ es.length ∧ Hid (∀ m (hm : m < es.length), m < j → holdB k es[m] = false) ∧ Below w.heap.size w wr) (fun i _ => es.length - (intOf i).toNat)
  case atStart => exact ⟨0, rfl, Nat.zero_le _, (show Hid _ from fun m hm h0 => absurd h0 (Nat.not_lt_zero _)), Below.refl _ _⟩
  case round =>
    obtain ⟨j, rfl, hj, HF, hB⟩ := hrel
    have hs2 := (hB.cell hb).trans hs
    by_cases hlt : j < es.length
    · obtain ⟨b', o, rfl, hb', c0, c1, c2⟩ := (h.below hB) j es[j] (List.getElem?_eq_getElem hlt)
      have HE : Hid (∃ y, y = es[j]) := ⟨_, rfl⟩
      obtain ⟨y, hy⟩ := HE.out
      rw [← hy] at c0 c1 c2
      have HY := Lib.hid hy
      clear hy HE
      have hcall := holds_any y k b wr hs2
      cases hv : holdB k y with
      | true =>
        have HR : Hid (r = (j : Int)) := by
          show _ = _
          have hf : es.findIdx? (holdB k) = some j := by
            rw [List.findIdx?_eq_some_iff_getElem]
            exact ⟨hlt, by rw [← HY.out]; exact hv, fun m hm => by simp [HF.out m (by omega) hm]⟩
          rw [HV.out, hf]
        rw [hv] at hcall
        clear hs2 hv
        go_wp2_with fail
        refine hcall.mono ?_
        rintro e w2 hG
        obtain ⟨rfl, hb2⟩ := hG.below
        have hB2 : Below w.heap.size w w2 := chain (Nat.le_refl _) hB hb2
        clear hG hb2 hcall c0 c1 c2
        go_wp2_with fail
        go_ret
        exact ⟨by rw [HR.out]; rfl, hB2⟩
      | false =>
        have HF2 : Hid (∀ m (hm : m < es.length), m < j + 1 → holdB k es[m] = false) := fun m hm hmj => by
          by_cases q : m = j
          · subst q; rw [← HY.out]; exact hv
          · exact HF.out m hm (by omega)
        rw [hv] at hcall
        clear hs2 hv
        go_wp2_with fail
        refine hcall.mono ?_
        rintro e w2 hG
        obtain ⟨rfl, hb2⟩ := hG.below
        have hB2 : Below w.heap.size w w2 := chain (Nat.le_refl _) hB hb2
        clear hG hb2 hcall c0 c1 c2
        go_wp2_with fail
        go_roundw
        case rel => exact ⟨j + 1, by go_num, by omega, HF2, hB2⟩
        case measure => simp [intOf]; omega
    · have HR : Hid (r = -1) := by
        show _ = _
        have hf : es.findIdx? (holdB k) = none := by
          rw [List.findIdx?_eq_none_iff]
          intro e he
          obtain ⟨m, hm, rfl⟩ := List.getElem_of_mem he
          exact HF.out m hm (by omega)
        rw [HV.out, hf]
      go_wp2_with fail
      go_ret
      exact ⟨by rw [HR.out]; rfl, hB⟩

/-- What the loop of edit.Move goes by. -/
def MvRel (k tot : Int) (es : List Ed) (w1 : World) (a i : Value) (wr : World) : Prop :=
  ∃ (j : Nat) (acc : Int), j ≤ es.length ∧ i = .int .i64 j ∧ a = .int .i64 acc ∧ acc + mvA k (es.drop j) = tot ∧ -(60000 * (j : Int)) ≤ acc ∧ acc ≤ 120000 + 60000 * (j : Int) ∧ Below w1.heap.size w1 wr

set_option maxHeartbeats 4000000 in
/-- The rest of edit.Move, from where its first number is known. -/
theorem move_any (A : Option Addr) (c : Nat) (es : List Ed) (hl : es.length ≤ 300) (k : Int) (hk : 0 ≤ k ∧ k ≤ 60000) (hsm : Sml es) (B : Nat) (w : World) (h : Rd w B A es) :
    Calls Try.prog 18 #[.slice A es.length c, .int .i64 k] w fun e w' => e = .returned (.int .i64 (mvB k es + mvA k es)) ∧ Below w.heap.size w w' := by
  have mixed := Try.mixed
  have h := h.here
  obtain ⟨k0, k1⟩ := hk
  have hW : Below w.heap.size w (w.alloc (.cells #[.int .i64 k] 3)) := (Below.refl _ _).alloc (Nat.le_refl _) _
  have hs1 : (w.alloc (.cells #[.int .i64 k] 3)).cell? ⟨w.heap.size, 0, none⟩ = some (.int .i64 k) := by simp
  have h1 := h.on hW
  have hidx := index_any A c es (by omega) k w.heap.size _ _ h1 hs1
  have HSM := Lib.hid hsm
  have HTOT : Hid (∃ tot, tot = mvB k es + mvA k es) := ⟨_, rfl⟩
  obtain ⟨tot, htot⟩ := HTOT.out
  rw [← htot]
  have HT := Lib.hid htot
  clear htot HTOT hsm
  go_enter Try.func18, Try.ntmps18
  go_wp2_with fail
  refine hidx.mono ?_
  rintro e w2 ⟨rfl, hb2⟩
  have hb2' : Below (w.alloc (.cells #[.int .i64 k] 3)).heap.size (w.alloc (.cells #[.int .i64 k] 3)) w2 := hb2
  have hs2 := (hb2'.cell (p := ⟨w.heap.size, 0, none⟩) (by simp)).trans hs1
  have h2 := h1.on hb2'
  have hB2 : Below w.heap.size w w2 := chain (Nat.le_refl _) hW hb2'
  have hz2 : w.heap.size < w2.heap.size := by have := hb2'.size; simp at this; omega
  clear hidx hb2 hb2' h1 hs1 hW h
  have rest : Hid (∀ (acc0 : Int) (n : Nat), acc0 + mvA k es = tot → 0 ≤ acc0 → acc0 ≤ 120000 → MvRel k tot es w2 (.int .i64 acc0) (.int .i64 0) (w2.drewN n)) := fun acc0 n e1 e2 e3 => ⟨0, acc0, Nat.zero_le _, rfl, rfl, by simpa using e1, by omega, by omega, below_drewN (Below.refl _ _) n⟩
  cases hf : es.findIdx? (holdB k) with
  | none =>
    have HI : Hid (idxH k es = -1) := by show _ = _; unfold idxH; rw [hf]
    have HS : Hid (k + mvA k es = tot) := by
      show _ = _
      rw [HT.out]; unfold mvB
      have : es.find? (holdB k) = none := by
        rw [List.find?_eq_none]; intro e he; have := List.findIdx?_eq_none_iff.1 hf e he; simp [this]
      rw [this]
    rw [HI.out]
    clear hf
    go_wp2_with fail
    go_loopw [6, 31] (fun a i wr => MvRel k tot es w2 a i wr) (fun _ i _ => es.length - (intOf i).toNat)
    case atStart => exact rest.out k 0 HS.out k0 (by omega)
    case round =>
      obtain ⟨j, acc, hj, rfl, rfl, hacc, ha1, ha2, hB⟩ := hrel
      have HACC := Lib.hid hacc
      clear hacc
      have hBz := hB.size
      have hs3 := (hB.cell (p := ⟨w.heap.size, 0, none⟩) hz2).trans hs2
      by_cases hlt : j < es.length
      · obtain ⟨b', o, rfl, hb', c0, c1, c2⟩ := (h2.below hB) j es[j] (List.getElem?_eq_getElem hlt)
        have hw := HSM.out _ (List.getElem_mem hlt)
        have HD := Lib.hid (List.drop_eq_getElem_cons hlt)
        have HE : Hid (∃ y, y = es[j]) := ⟨_, rfl⟩
        obtain ⟨y, hy⟩ := HE.out
        rw [← hy] at c0 c1 c2 hw HD
        clear hy HE
        obtain ⟨y0, y1, y2⟩ := y
        simp only at c0 c1 c2 hw
        obtain ⟨w1, w3, w4, w5⟩ := hw
        have hs4 : (wr.alloc (.cells #[.int .i64 y0, .int .i64 y1, .string y2] 34)).cell? ⟨w.heap.size, 0, none⟩ = some (.int .i64 k) := by
          rw [World.cell?_alloc_lt wr _ _ (by simp; omega)]; exact hs3
        have hB3 := hB.alloc hBz (.cells #[.int .i64 y0, .int .i64 y1, .string y2] 34)
        clear hs3
        by_cases hq : y1 ≤ k
        · have HA2 : Hid (acc + ((y2.size : Int) - (y1 - y0)) + mvA k (es.drop (j + 1)) = tot) := by
            show _ = _
            rw [← HACC.out, HD.out, mvA, if_pos hq]; simp only; omega
          go_wp2_with fail
          go_roundw
          case rel => exact ⟨j + 1, acc + ((y2.size : Int) - (y1 - y0)), by omega, by go_num, by first | rfl | go_num | (congr 1; omega), HA2.out, by omega, by omega, hB3⟩
          case measure => simp [intOf]; omega
        · have HA2 : Hid (acc + mvA k (es.drop (j + 1)) = tot) := by
            show _ = _
            rw [← HACC.out, HD.out, mvA, if_neg hq]; omega
          go_wp2_with fail
          go_roundw
          case rel => exact ⟨j + 1, acc, by omega, by go_num, rfl, HA2.out, by omega, by omega, hB3⟩
          case measure => simp [intOf]; omega
      · have HE : Hid (acc = tot) := by
          show _ = _
          have := HACC.out
          rw [List.drop_eq_nil_of_le (by omega), mvA] at this
          omega
        go_wp2_with fail
        go_ret
        exact ⟨by rw [← HE.out]; rfl, chain (Nat.le_refl _) hB2 hB⟩
  | some i =>
    obtain ⟨hil, hih, _⟩ := List.findIdx?_eq_some_iff_getElem.1 hf
    have HI : Hid (idxH k es = (i : Int)) := by show _ = _; unfold idxH; rw [hf]
    have hw := HSM.out _ (List.getElem_mem hil)
    obtain ⟨b, o, rfl, hb, c0, c1, c2⟩ := h2 i es[i] (List.getElem?_eq_getElem hil)
    have HS : Hid ((es[i].f + (es[i].x.size : Int)) + mvA k es = tot) := by
      show _ = _
      rw [HT.out]; unfold mvB
      have : es.find? (holdB k) = some es[i] := by
        rw [List.findIdx?_eq_some_iff_getElem] at hf
        obtain ⟨q1, q2, q3⟩ := hf
        rw [List.find?_eq_some_iff_getElem]
        exact ⟨q2, i, q1, rfl, fun m hm => by simpa using q3 m hm⟩
      rw [this]
    generalize es[i] = y at c0 c1 c2 hw HS
    obtain ⟨y0, y1, y2⟩ := y
    simp only at c0 c1 c2 hw HS
    obtain ⟨x1, x3, x4, x5⟩ := hw
    have ilz : (i : Int) < (es.length : Int) := by omega
    rw [HI.out]
    clear hf hih
    go_wp2_with fail
    go_quiet (fail)
    clear c0 c1 c2
    go_wp2_with fail
    go_loopw [6, 31] (fun a i wr => MvRel k tot es w2 a i wr) (fun _ i _ => es.length - (intOf i).toNat)
    case atStart => exact rest.out (y0 + (y2.size : Int)) nq HS.out (by omega) (by omega)
    case round =>
      obtain ⟨j, acc, hj, rfl, rfl, hacc, ha1, ha2, hB⟩ := hrel
      have HACC := Lib.hid hacc
      clear hacc
      have hBz := hB.size
      have hs3 := (hB.cell (p := ⟨w.heap.size, 0, none⟩) hz2).trans hs2
      by_cases hlt : j < es.length
      · obtain ⟨b', o', e', hb', c0, c1, c2⟩ := (h2.below hB) j es[j] (List.getElem?_eq_getElem hlt)
        injection e' with e'
        injection e' with e1 e2
        subst e1 e2
        have hw := HSM.out _ (List.getElem_mem hlt)
        have HD := Lib.hid (List.drop_eq_getElem_cons hlt)
        have HE : Hid (∃ y, y = es[j]) := ⟨_, rfl⟩
        obtain ⟨y, hy⟩ := HE.out
        rw [← hy] at c0 c1 c2 hw HD
        clear hy HE
        obtain ⟨y0, y1, y2⟩ := y
        simp only at c0 c1 c2 hw
        obtain ⟨w1, w3, w4, w5⟩ := hw
        have hs4 : (wr.alloc (.cells #[.int .i64 y0, .int .i64 y1, .string y2] 34)).cell? ⟨w.heap.size, 0, none⟩ = some (.int .i64 k) := by
          rw [World.cell?_alloc_lt wr _ _ (by simp; omega)]; exact hs3
        have hB3 := hB.alloc hBz (.cells #[.int .i64 y0, .int .i64 y1, .string y2] 34)
        clear hs3
        by_cases hq : y1 ≤ k
        · have HA2 : Hid (acc + ((y2.size : Int) - (y1 - y0)) + mvA k (es.drop (j + 1)) = tot) := by
            show _ = _
            rw [← HACC.out, HD.out, mvA, if_pos hq]; simp only; omega
          go_wp2_with fail
          go_roundw
          case rel => exact ⟨j + 1, acc + ((y2.size : Int) - (y1 - y0)), by omega, by go_num, by first | rfl | go_num | (congr 1; omega), HA2.out, by omega, by omega, hB3⟩
          case measure => simp [intOf]; omega
        · have HA2 : Hid (acc + mvA k (es.drop (j + 1)) = tot) := by
            show _ = _
            rw [← HACC.out, HD.out, mvA, if_neg hq]; omega
          go_wp2_with fail
          go_roundw
          case rel => exact ⟨j + 1, acc, by omega, by go_num, rfl, HA2.out, by omega, by omega, hB3⟩
          case measure => simp [intOf]; omega
      · have HE : Hid (acc = tot) := by
          show _ = _
          have := HACC.out
          rw [List.drop_eq_nil_of_le (by omega), mvA] at this
          omega
        go_wp2_with fail
        go_ret
        exact ⟨by rw [← HE.out]; rfl, chain (Nat.le_refl _) hB2 hB⟩

set_option maxHeartbeats 4000000 in
theorem refMove_any (A : Option Addr) (c : Nat) (es : List Ed) (hl : es.length ≤ 300) (k : Int) (hk : 0 ≤ k ∧ k ≤ 60000) (hsm : Sml es) (B : Nat) (w : World) (h : Rd w B A es) :
    Calls Try.prog 19 #[.slice A es.length c, .int .i64 k] w fun e w' => e = .returned (.int .i64 (k + mvS k (srtE es))) ∧ Below w.heap.size w w' := by
  have mixed := Try.mixed
  have hs := refSorted_any A c es (by omega) B w h
  obtain ⟨k0, k1⟩ := hk
  have hlen : (srtE es).length ≤ 300 := by rw [srt_len]; exact hl
  have hsm2 : Sml (srtE es) := fun e he => hsm e ((srt_perm es).mem_iff.1 he)
  obtain ⟨L, hL⟩ : ∃ L, L = srtE es := ⟨_, rfl⟩
  rw [← hL] at hs hlen hsm2 ⊢
  have HSM := Lib.hid hsm2
  have HTOT : Hid (∃ tot, tot = k + mvS k L) := ⟨_, rfl⟩
  obtain ⟨tot, htot⟩ := HTOT.out
  rw [← htot]
  have HT := Lib.hid htot
  clear htot HTOT hsm hsm2 hL h
  go_enter Try.func19, Try.ntmps19
  go_wp2_with fail
  refine hs.mono ?_
  rintro e w2 ⟨v, rfl, hown, hb2⟩
  obtain ⟨A2, c2, rfl, hc2, _, hr2⟩ := own_edits hown
  clear hown hs
  go_wp2_with fail
  go_loopw [6, 7] (fun a i wr => ∃ (j n : Nat) (acc : Int), j ≤ L.length ∧ i = .int .i64 j ∧ a = .int .i64 acc ∧ Hid (acc + mvS k (L.drop j) = tot) ∧ -(60000 * (j : Int)) ≤ acc ∧ acc ≤ 120000 + 60000 * (j : Int) ∧ wr = w2.drewN n) (fun _ i _ => L.length - (intOf i).toNat)
  case atStart => exact ⟨0, 0, k, Nat.zero_le _, rfl, rfl, (show Hid _ from HT.out.symm), by omega, by omega, rfl⟩
  case round =>
    obtain ⟨j, n, acc, hj, rfl, rfl, HACC, ha1, ha2, rfl⟩ := hrel
    by_cases hlt : j < L.length
    · obtain ⟨b', o, rfl, hb', c0, c1, c2⟩ := hr2 j L[j] (List.getElem?_eq_getElem hlt)
      have hw := HSM.out _ (List.getElem_mem hlt)
      have HD := Lib.hid (List.drop_eq_getElem_cons hlt)
      have HE : Hid (∃ y, y = L[j]) := ⟨_, rfl⟩
      obtain ⟨y, hy⟩ := HE.out
      rw [← hy] at c0 c1 c2 hw HD
      clear hy HE
      obtain ⟨y0, y1, y2⟩ := y
      simp only at c0 c1 c2 hw
      obtain ⟨w1, w3, w4, w5⟩ := hw
      have hltz : (j : Int) < (L.length : Int) := by omega
      by_cases hq : y1 ≤ k
      · have HA2 : Hid (acc + ((y2.size : Int) - (y1 - y0)) + mvS k (L.drop (j + 1)) = tot) := by
          show _ = _
          rw [← HACC.out, HD.out, mvS, mvG, if_pos hq]; simp only; omega
        go_wp2_with fail
        go_quiet (fail)
        go_wp2_with fail
        go_roundw
        case rel => exact ⟨j + 1, n + nq, acc + ((y2.size : Int) - (y1 - y0)), by omega, by go_num, by first | rfl | go_num | (congr 1; omega), HA2, by omega, by omega, rfl⟩
        case measure => simp [intOf]; omega
      · by_cases hq2 : y0 < k
        · have HA2 : Hid (acc + ((y2.size : Int) - (k - y0)) + mvS k (L.drop (j + 1)) = tot) := by
            show _ = _
            rw [← HACC.out, HD.out, mvS, mvG, if_neg hq, if_pos hq2]; simp only; omega
          go_wp2_with fail
          go_quiet (fail)
          go_wp2_with fail
          go_roundw
          case rel => exact ⟨j + 1, n + nq, acc + ((y2.size : Int) - (k - y0)), by omega, by go_num, by first | rfl | go_num | (congr 1; omega), HA2, by omega, by omega, rfl⟩
          case measure => simp [intOf]; omega
        · have HA2 : Hid (acc + mvS k (L.drop (j + 1)) = tot) := by
            show _ = _
            rw [← HACC.out, HD.out, mvS, mvG, if_neg hq, if_neg hq2]; omega
          go_wp2_with fail
          go_roundw
          case rel => exact ⟨j + 1, n, acc, by omega, by go_num, rfl, HA2, by omega, by omega, rfl⟩
          case measure => simp [intOf]; omega
    · have HE : Hid (acc = tot) := by
        show _ = _
        have := HACC.out
        rw [List.drop_eq_nil_of_le (by omega), mvS] at this
        omega
      go_wp2_with fail
      go_ret
      exact ⟨by rw [← HE.out]; rfl, below_drewN hb2 _⟩
end Go.Proofs.Ytdjdflannedkbaa
