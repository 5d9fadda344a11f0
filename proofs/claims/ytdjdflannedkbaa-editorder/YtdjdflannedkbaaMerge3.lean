/-
  PROVED: slices.symMergeCmpFunc: the row holds the stable merge of two sorted parts. Conditions: the row lies as the sort's kit says, both parts are sorted, 'cmp(a, b) < 0' is a strict weak order.
-/
import Derived.Test.YtdjdflannedkbaaMerge1
import Derived.Test.YtdjdflannedkbaaMerge2
namespace Go.Proofs.Ytdjdflannedkbaa
open Go.Shelf Go.RowKit Go.Lib Go.Sort
variable {α : Type} [Inhabited α] {P : Program} {k : Nat} {enc : α → List Value} {blk off : Nat} {w0 : World} {d0 : Array α}

/-- What the merge of [a, m) and [m, b) is asked and answers. -/
def Merges (P : Program) (k : Nat) (enc : α → List Value) (blk off : Nat) (w0 : World) (d0 : Array α) (cf : α → α → Int) (g : Nat) (cb : Array Value) (cap N : Nat) : Prop :=
  ∀ (a m b : Nat) (d : Array α) (w : World), b - a < N → d0.size = d.size → SWK enc k w0 blk off d w → a < m → m < b → b ≤ d.size → SortedIn (ltOf cf) a m d → SortedIn (ltOf cf) m b d →
    Calls P 40 #[.slice (some ⟨blk, off, none⟩) d.size cap, .int .i64 a, .int .i64 m, .int .i64 b, .func (.func g) #[] cb] w fun e w' => e = .returned (.tuple #[]) ∧ ∃ d', (Stb (ltOf cf) a b d d' ∧ SortedIn (ltOf cf) a b d') ∧ SWK enc k w0 blk off d' w'

set_option maxHeartbeats 8000000 in
set_option maxRecDepth 1000000 in
theorem symMerge_long (L : Srt P k) (R : RowK enc k w0 blk off d0) (cf : α → α → Int) (hO : SWO (ltOf cf)) (g : Nat) (cb : Array Value) (eg : ∀ args w, (callFunc g args).run P w = .ok (.enter g args) w) (hcmp : CmpLays P g cb enc k cf blk off d0.size w0)
    (cap N : Nat) (ih : Merges P k enc blk off w0 d0 cf g cb cap N) (a m b : Nat) (hm : a + 1 < m) (hbm : m + 1 < b) (hN : b - a ≤ N) (d : Array α) (w : World) (hs : d0.size = d.size) (S : SWK enc k w0 blk off d w) (hb : b ≤ d.size) (hsz : d.size < 4611686018427387904) (hl : SortedIn (ltOf cf) a m d) (hrt : SortedIn (ltOf cf) m b d) :
    Calls P 40 #[.slice (some ⟨blk, off, none⟩) d.size cap, .int .i64 a, .int .i64 m, .int .i64 b, .func (.func g) #[] cb] w fun e w' => e = .returned (.tuple #[]) ∧ ∃ d', (Stb (ltOf cf) a b d d' ∧ SortedIn (ltOf cf) a b d') ∧ SWK enc k w0 blk off d' w' := by
  have mixed := L.mixed; have t0 := L.t0; have a0 := L.a0; have z0 := L.z0; have v0 := L.v0; have t3 := L.t3; have a3 := L.a3; have z3 := L.z3; have v3 := L.v3; have t4 := L.t4; have a4 := L.a4; have z4 := L.z4; have v4 := L.v4; have t22 := L.t22; have a22 := L.a22; have z22 := L.z22; have v22 := L.v22; have t50 := L.t50; have a50 := L.a50; have z50 := L.z50; have v50 := L.v50; have t63 := L.t63; have a63 := L.a63; have z63 := L.z63; have v63 := L.v63
  have aE := L.aE; have zE := L.zE
  have e41 : ∀ args w, (callFunc 41 args).run P w = .ok (.enter 41 args) w := enters_of L.f41 (by kernel_rfl) rfl
  have e40 : ∀ args w, (callFunc 40 args).run P w = .ok (.enter 40 args) w := enters_of L.f40 (by kernel_rfl) rfl
  have FG := L.f40
  have HC : Aside _ := hcmp
  have HL : Aside _ := hl
  have HR : Aside _ := hrt
  have IH : Aside _ := ih
  have S0 : Aside (SWK enc k w0 blk off d w) := S
  clear S hcmp hrt hl ih
  have q0 : (((m : Int) - (a : Int)) == 1) = false := by simp; omega
  have q1 : (((b : Int) - (m : Int)) == 1) = false := by simp; omega
  obtain ⟨mid, hmid⟩ : ∃ x, x = (a + b) / 2 := ⟨_, rfl⟩
  obtain ⟨s0, hs0⟩ : ∃ x, x = if mid < m then mid + m - b else a := ⟨_, rfl⟩
  obtain ⟨r0, hr0⟩ : ∃ x, x = if mid < m then mid else m := ⟨_, rfl⟩
  have HZ : Hid (((a : Int) + (b : Int)) / 2 = (mid : Int)) := by show _ = _; omega
  have m1 : a < mid := by omega
  have m2 : mid < b := by omega
  have F1 : Aside (s0 = a ∨ mid + m = b + s0) := by show _ ∨ _; split at hs0 <;> omega
  have F2 : Aside (r0 = m ∨ r0 = mid) := by show _ ∨ _; split at hr0 <;> omega
  have f1 : a ≤ s0 := by split at hs0 <;> omega
  have f2 : s0 ≤ r0 := by split at hs0 <;> split at hr0 <;> omega
  have f3 : r0 ≤ m := by split at hr0 <;> omega
  have f4 : r0 ≤ mid := by split at hr0 <;> omega
  have f5 : mid + m ≤ b + s0 := by split at hs0 <;> omega
  have f6 : mid < m → b ≤ mid + m := fun h => by omega
  have H0 : Aside ((mid < m → s0 + b = mid + m ∧ r0 = mid) ∧ (¬ mid < m → s0 = a ∧ r0 = m)) := ⟨fun h => ⟨by have := f6 h; rw [hs0, if_pos h]; omega, by rw [hr0, if_pos h]⟩, fun h => ⟨by rw [hs0, if_neg h], by rw [hr0, if_neg h]⟩⟩
  clear hs0 hr0 hmid f6
  obtain ⟨nn, hnn⟩ : ∃ x, x = mid + m := ⟨_, rfl⟩
  obtain ⟨p, hp⟩ : ∃ x, x = nn - 1 := ⟨_, rfl⟩
  have HN : Hid ((mid : Int) + (m : Int) = (nn : Int)) := by show _ = _; omega
  have HP : Hid ((nn : Int) - 1 = (p : Int)) := by show _ = _; omega
  have n1 : nn ≤ mid + m := by omega
  have n2 : mid + m ≤ nn := by omega
  have p1 : p + 1 ≤ nn := by omega
  have p2 : nn ≤ p + 1 := by omega
  clear hnn hp
  go_enter FG, Try.ntmps40
  by_cases hmm : mid < m
  case' pos =>
    have hz : ((a : Int) + (b : Int)) / 2 < (m : Int) := by rw [HZ.out]; omega
    have HS : Hid ((nn : Int) - (b : Int) = (s0 : Int) ∧ r0 = mid) := by have := H0.out.1 hmm; show _ ∧ _; omega
    go_wp2
    rw [HZ.out, HN.out, HP.out, HS.out.1]
    clear hz
  case' neg =>
    have hz : ¬ ((a : Int) + (b : Int)) / 2 < (m : Int) := by rw [HZ.out]; omega
    have HS : Hid (s0 = a ∧ r0 = m) := by have := H0.out.2 hmm; show _ ∧ _; omega
    go_wp2
    rw [HZ.out, HN.out, HP.out]
    clear hz
  all_goals
    go_loopg [20, 21, 23] (b - a) (fun kx s20 s21 _ wr => ∃ (i j : Nat), s20 = .int .i64 i ∧ s21 = .int .i64 j ∧ s0 ≤ i ∧ i ≤ j ∧ j ≤ r0 ∧ j - i ≤ kx ∧ Aside (SWK enc k w0 blk off d wr) ∧ Aside (i = s0 ∨ ltOf cf d[p - (i - 1)]! d[i - 1]! = false) ∧ Aside (j = r0 ∨ ltOf cf d[p - j]! d[j]! = true))
    case atStart => exact ⟨s0, r0, by first | rfl | rw [HS.out.1], by first | rfl | rw [HS.out.2], Nat.le_refl _, f2, Nat.le_refl _, by omega, S0, Or.inl rfl, Or.inl rfl⟩
    case round =>
      clear S0 HS H0 HZ HN HP
      obtain ⟨i, j, rfl, rfl, hi, hij, hjb, hkx, S1, LO, HI⟩ := hrel
      by_cases hlt : i < j
      · have hltz : (i : Int) < (j : Int) := by omega
        obtain ⟨h, hh⟩ : ∃ h, h = (i + j) / 2 := ⟨_, rfl⟩
        have hhz : ((i : Int) + (j : Int)) / 2 = (h : Int) := by omega
        have h1 : i ≤ h := by omega
        have h2 : h < j := by omega
        clear hh
        have HZ := Lib.hid hhz
        clear hhz
        go_wp2_with fail
        rw [HZ.out]
        clear HZ
        have ea : ((p : Int) - (h : Int)).toNat = p - h := by omega
        have pa : (0 : Int) ≤ (p : Int) - (h : Int) := by omega
        have ba : (p : Int) - (h : Int) < (d.size : Int) := by omega
        have ra : IntKind.i64.wrap ((p : Int) - (h : Int)) = (p : Int) - (h : Int) := by rw [IntKind.wrap_i64]; omega
        have pa2 : h ≤ p := by omega
        have pa3 : (h : Int) ≤ (p : Int) := by omega
        have ba2 : (p : Int) < (d.size : Int) + (h : Int) := by omega
        have ec : ((h : Int)).toNat = h := by omega
        have pc : (0 : Int) ≤ (h : Int) := by omega
        have bc : (h : Int) < (d.size : Int) := by omega
        have rc : IntKind.i64.wrap ((h : Int)) = (h : Int) := by rw [IntKind.wrap_i64]; omega
        obtain ⟨x, hx⟩ : ∃ x, x = d[p - h]! := ⟨_, rfl⟩
        obtain ⟨y, hy⟩ : ∃ x, x = d[h]! := ⟨_, rfl⟩
        have l1 := S1.out.ld R (by omega) P (p - h) (by omega)
        have l2 := S1.out.ld R (by omega) P h (by omega)
        rw [← hx] at l1
        rw [← hy] at l2
        have hc := S1.out.cmp HC.out (by omega) x y
        have HX : Aside (x = d[p - h]! ∧ y = d[h]!) := ⟨hx, hy⟩
        clear hx hy
        by_cases hv : cf x y < 0
        · have hd : decide (cf x y < 0) = true := decide_eq_true hv
          go_quiet_grown (first | (go_at_fn g; refine Calls.grown_of (hc _ _)))
          have S2 : Aside (SWK enc k w0 blk off d (grow (wr.drewN nq) osq)) := S1.out.grown nq osq
          clear l1 l2 hc S1
          generalize grow (wr.drewN nq) osq = w2 at S2 ⊢
          clear nq osq
          have HI2 : Aside (h = r0 ∨ ltOf cf d[p - h]! d[h]! = true) := Or.inr (by rw [← HX.out.1, ← HX.out.2]; exact hd)
          clear HX HI
          go_wp2
          go_roundg (h - i)
          case measure => omega
          case rel => exact ⟨i, h, rfl, rfl, hi, h1, by omega, Nat.le_refl _, S2, LO, HI2⟩
        · have hd : decide (cf x y < 0) = false := decide_eq_false hv
          go_quiet_grown (first | (go_at_fn g; refine Calls.grown_of (hc _ _)))
          have S2 : Aside (SWK enc k w0 blk off d (grow (wr.drewN nq) osq)) := S1.out.grown nq osq
          clear l1 l2 hc S1
          generalize grow (wr.drewN nq) osq = w2 at S2 ⊢
          clear nq osq
          have LO2 : Aside (h + 1 = s0 ∨ ltOf cf d[p - (h + 1 - 1)]! d[h + 1 - 1]! = false) := Or.inr (by rw [Nat.add_sub_cancel, ← HX.out.1, ← HX.out.2]; exact hd)
          clear HX LO
          go_wp2
          go_roundg (j - (h + 1))
          case measure => omega
          case rel => exact ⟨h + 1, j, by go_num, rfl, by omega, by omega, hjb, Nat.le_refl _, S2, LO2, HI⟩
      · have hltz : ¬ (i : Int) < (j : Int) := by omega
        obtain rfl : i = j := by omega
        obtain ⟨e, he⟩ : ∃ x, x = nn - i := ⟨_, rfl⟩
        have HE : Hid ((nn : Int) - (i : Int) = (e : Int)) := by show _ = _; omega
        have CUT : Aside (∀ d1, Rot i m e d d1 → Stb (ltOf cf) a b d d1 ∧ SortedIn (ltOf cf) a i d1 ∧ SortedIn (ltOf cf) i mid d1 ∧ SortedIn (ltOf cf) mid e d1 ∧ SortedIn (ltOf cf) e b d1 ∧ (∀ i j, a ≤ i → i < mid → mid ≤ j → j < b → ltOf cf d1[j]! d1[i]! = false)) := fun d1 hr =>
          merge_cut hO hr (by omega) (by omega) (by omega) (by omega) (by omega) hb HL.out HR.out
            (by rcases LO.out with q | q
                · rcases F1.out with r | r
                  · left; omega
                  · right; left; omega
                · by_cases z : i = a
                  · left; exact z
                  · right; right; rw [show e = p - (i - 1) by omega]; exact q)
            (by rcases HI.out with q | q
                · rcases F2.out with r | r
                  · left; omega
                  · right; left; omega
                · right; right; rw [show e - 1 = p - i by omega]; exact q)
        have g1 : e + i ≤ nn := by omega
        have g2 : nn ≤ e + i := by omega
        clear he LO HI F1 F2 HL HR HC
        by_cases c1 : i < m
        · by_cases c2 : i < mid
          · by_cases c3 : a < i
            · by_cases c4 : e < b
              · have k2 : (m : Int) < (nn : Int) - (i : Int) := by omega
                have k5 : (mid : Int) < (nn : Int) - (i : Int) := by omega
                have k6 : (nn : Int) - (i : Int) < (b : Int) := by omega
                have hc := rotate_any L R g cb cap i m e d wr (by omega) S1.out (by omega) (by omega) (by omega) hsz
                rw [← HE.out] at hc
                clear S1
                go_wp2_with fail
                refine hc.mono ?_
                rintro _ w1 ⟨rfl, d1, RT, S2⟩
                have C := CUT.out d1 RT
                obtain ⟨ST, A1', A2', A3', A4', X'⟩ := C
                have A1 : Aside (SortedIn (ltOf cf) a i d1) := A1'
                have A2 : Aside (SortedIn (ltOf cf) i mid d1) := A2'
                have A3 : Aside (SortedIn (ltOf cf) mid e d1) := A3'
                have A4 : Aside (SortedIn (ltOf cf) e b d1) := A4'
                have X : Aside (∀ i j, a ≤ i → i < mid → mid ≤ j → j < b → ltOf cf d1[j]! d1[i]! = false) := X'
                have z1 : d1.size ≤ d.size := Nat.le_of_eq ST.size
                have z2 : d.size ≤ d1.size := Nat.le_of_eq ST.size.symm
                clear A1' A2' A3' A4' X' CUT RT
                have hc2 := IH.out a i mid d1 w1 (by omega) (by omega) S2 (by omega) (by omega) (by omega) A1.out A2.out
                rw [ST.size] at hc2
                clear S2
                go_wp2_with fail
                refine hc2.mono ?_
                rintro _ w2 ⟨rfl, d2, ⟨ST2, SO2'⟩, S3⟩
                have SO2 : Aside (SortedIn (ltOf cf) a mid d2) := SO2'
                clear SO2' hc2
                have z3 : d2.size ≤ d.size := by rw [ST2.size]; exact z1
                have z4 : d.size ≤ d2.size := by rw [ST2.size]; exact z2
                have B3 : Aside (SortedIn (ltOf cf) mid e d2) := sin_keep A3.out fun t t1 _ => ST2.out t (Or.inr t1)
                have B4 : Aside (SortedIn (ltOf cf) e b d2) := sin_keep A4.out fun t t1 _ => ST2.out t (Or.inr (by omega))
                clear A1 A2 A3 A4
                have hc3 := IH.out mid e b d2 w2 (by omega) (by omega) S3 (by omega) (by omega) (by omega) B3.out B4.out
                rw [ST2.size, ST.size, ← HE.out] at hc3
                clear S3
                go_wp2_with fail
                refine hc3.mono ?_
                rintro _ w3 ⟨rfl, d3, ⟨ST3, SO3'⟩, S4⟩
                have SO3 : Aside (SortedIn (ltOf cf) mid b d3) := SO3'
                clear SO3' hc3
                have M := merge_halves (Nat.le_of_lt m1) (Nat.le_of_lt m2) ST2 SO2.out ST3 SO3.out X.out
                clear SO2 SO3 X B3 B4
                go_wp2
                go_end0
                exact ⟨rfl, d3, ⟨ST.trans M.1, M.2⟩, S4⟩
              · have k2 : (m : Int) < (nn : Int) - (i : Int) := by omega
                have k5 : (mid : Int) < (nn : Int) - (i : Int) := by omega
                have k6 : ¬ (nn : Int) - (i : Int) < (b : Int) := by omega
                have k6' : (b : Int) ≤ (nn : Int) - (i : Int) := by omega
                have hc := rotate_any L R g cb cap i m e d wr (by omega) S1.out (by omega) (by omega) (by omega) hsz
                rw [← HE.out] at hc
                clear S1
                go_wp2_with fail
                refine hc.mono ?_
                rintro _ w1 ⟨rfl, d1, RT, S2⟩
                have C := CUT.out d1 RT
                obtain ⟨ST, A1', A2', A3', A4', X'⟩ := C
                have A1 : Aside (SortedIn (ltOf cf) a i d1) := A1'
                have A2 : Aside (SortedIn (ltOf cf) i mid d1) := A2'
                have A3 : Aside (SortedIn (ltOf cf) mid e d1) := A3'
                have A4 : Aside (SortedIn (ltOf cf) e b d1) := A4'
                have X : Aside (∀ i j, a ≤ i → i < mid → mid ≤ j → j < b → ltOf cf d1[j]! d1[i]! = false) := X'
                have z1 : d1.size ≤ d.size := Nat.le_of_eq ST.size
                have z2 : d.size ≤ d1.size := Nat.le_of_eq ST.size.symm
                clear A1' A2' A3' A4' X' CUT RT
                have hc2 := IH.out a i mid d1 w1 (by omega) (by omega) S2 (by omega) (by omega) (by omega) A1.out A2.out
                rw [ST.size] at hc2
                clear S2
                go_wp2_with fail
                refine hc2.mono ?_
                rintro _ w2 ⟨rfl, d2, ⟨ST2, SO2'⟩, S3⟩
                have SO2 : Aside (SortedIn (ltOf cf) a mid d2) := SO2'
                clear SO2' hc2
                have z3 : d2.size ≤ d.size := by rw [ST2.size]; exact z1
                have z4 : d.size ≤ d2.size := by rw [ST2.size]; exact z2
                have B3 : Aside (SortedIn (ltOf cf) mid e d2) := sin_keep A3.out fun t t1 _ => ST2.out t (Or.inr t1)
                have B4 : Aside (SortedIn (ltOf cf) e b d2) := sin_keep A4.out fun t t1 _ => ST2.out t (Or.inr (by omega))
                clear A1 A2 A3 A4
                obtain ⟨d3, w3, ST3, SO3, S4, hw3⟩ : ∃ (d3 : Array α) (w3 : World), Stb (ltOf cf) mid b d2 d3 ∧ Aside (SortedIn (ltOf cf) mid b d3) ∧ SWK enc k w0 blk off d3 w3 ∧ w3 = w2 := ⟨d2, w2, Stb.refl _ _ _ _, (by rw [show b = e by omega]; exact B3.out), S3, rfl⟩
                clear S3
                rw [← hw3]
                clear hw3
                have M := merge_halves (Nat.le_of_lt m1) (Nat.le_of_lt m2) ST2 SO2.out ST3 SO3.out X.out
                clear SO2 SO3 X B3 B4
                go_wp2
                go_end0
                exact ⟨rfl, d3, ⟨ST.trans M.1, M.2⟩, S4⟩
            · by_cases c4 : e < b
              · have k2 : (m : Int) < (nn : Int) - (i : Int) := by omega
                have k5 : (mid : Int) < (nn : Int) - (i : Int) := by omega
                have k6 : (nn : Int) - (i : Int) < (b : Int) := by omega
                have hc := rotate_any L R g cb cap i m e d wr (by omega) S1.out (by omega) (by omega) (by omega) hsz
                rw [← HE.out] at hc
                clear S1
                go_wp2_with fail
                refine hc.mono ?_
                rintro _ w1 ⟨rfl, d1, RT, S2⟩
                have C := CUT.out d1 RT
                obtain ⟨ST, A1', A2', A3', A4', X'⟩ := C
                have A1 : Aside (SortedIn (ltOf cf) a i d1) := A1'
                have A2 : Aside (SortedIn (ltOf cf) i mid d1) := A2'
                have A3 : Aside (SortedIn (ltOf cf) mid e d1) := A3'
                have A4 : Aside (SortedIn (ltOf cf) e b d1) := A4'
                have X : Aside (∀ i j, a ≤ i → i < mid → mid ≤ j → j < b → ltOf cf d1[j]! d1[i]! = false) := X'
                have z1 : d1.size ≤ d.size := Nat.le_of_eq ST.size
                have z2 : d.size ≤ d1.size := Nat.le_of_eq ST.size.symm
                clear A1' A2' A3' A4' X' CUT RT
                obtain ⟨d2, w2, ST2, SO2, S3, hw2⟩ : ∃ (d2 : Array α) (w2 : World), Stb (ltOf cf) a mid d1 d2 ∧ Aside (SortedIn (ltOf cf) a mid d2) ∧ SWK enc k w0 blk off d2 w2 ∧ w2 = w1 := ⟨d1, w1, Stb.refl _ _ _ _, (by rw [show a = i by omega]; exact A2.out), S2, rfl⟩
                clear S2
                rw [← hw2]
                clear hw2
                have z3 : d2.size ≤ d.size := by rw [ST2.size]; exact z1
                have z4 : d.size ≤ d2.size := by rw [ST2.size]; exact z2
                have B3 : Aside (SortedIn (ltOf cf) mid e d2) := sin_keep A3.out fun t t1 _ => ST2.out t (Or.inr t1)
                have B4 : Aside (SortedIn (ltOf cf) e b d2) := sin_keep A4.out fun t t1 _ => ST2.out t (Or.inr (by omega))
                clear A1 A2 A3 A4
                have hc3 := IH.out mid e b d2 w2 (by omega) (by omega) S3 (by omega) (by omega) (by omega) B3.out B4.out
                rw [ST2.size, ST.size, ← HE.out] at hc3
                clear S3
                go_wp2_with fail
                refine hc3.mono ?_
                rintro _ w3 ⟨rfl, d3, ⟨ST3, SO3'⟩, S4⟩
                have SO3 : Aside (SortedIn (ltOf cf) mid b d3) := SO3'
                clear SO3' hc3
                have M := merge_halves (Nat.le_of_lt m1) (Nat.le_of_lt m2) ST2 SO2.out ST3 SO3.out X.out
                clear SO2 SO3 X B3 B4
                go_wp2
                go_end0
                exact ⟨rfl, d3, ⟨ST.trans M.1, M.2⟩, S4⟩
              · have k2 : (m : Int) < (nn : Int) - (i : Int) := by omega
                have k5 : (mid : Int) < (nn : Int) - (i : Int) := by omega
                have k6 : ¬ (nn : Int) - (i : Int) < (b : Int) := by omega
                have k6' : (b : Int) ≤ (nn : Int) - (i : Int) := by omega
                have hc := rotate_any L R g cb cap i m e d wr (by omega) S1.out (by omega) (by omega) (by omega) hsz
                rw [← HE.out] at hc
                clear S1
                go_wp2_with fail
                refine hc.mono ?_
                rintro _ w1 ⟨rfl, d1, RT, S2⟩
                have C := CUT.out d1 RT
                obtain ⟨ST, A1', A2', A3', A4', X'⟩ := C
                have A1 : Aside (SortedIn (ltOf cf) a i d1) := A1'
                have A2 : Aside (SortedIn (ltOf cf) i mid d1) := A2'
                have A3 : Aside (SortedIn (ltOf cf) mid e d1) := A3'
                have A4 : Aside (SortedIn (ltOf cf) e b d1) := A4'
                have X : Aside (∀ i j, a ≤ i → i < mid → mid ≤ j → j < b → ltOf cf d1[j]! d1[i]! = false) := X'
                have z1 : d1.size ≤ d.size := Nat.le_of_eq ST.size
                have z2 : d.size ≤ d1.size := Nat.le_of_eq ST.size.symm
                clear A1' A2' A3' A4' X' CUT RT
                obtain ⟨d2, w2, ST2, SO2, S3, hw2⟩ : ∃ (d2 : Array α) (w2 : World), Stb (ltOf cf) a mid d1 d2 ∧ Aside (SortedIn (ltOf cf) a mid d2) ∧ SWK enc k w0 blk off d2 w2 ∧ w2 = w1 := ⟨d1, w1, Stb.refl _ _ _ _, (by rw [show a = i by omega]; exact A2.out), S2, rfl⟩
                clear S2
                rw [← hw2]
                clear hw2
                have z3 : d2.size ≤ d.size := by rw [ST2.size]; exact z1
                have z4 : d.size ≤ d2.size := by rw [ST2.size]; exact z2
                have B3 : Aside (SortedIn (ltOf cf) mid e d2) := sin_keep A3.out fun t t1 _ => ST2.out t (Or.inr t1)
                have B4 : Aside (SortedIn (ltOf cf) e b d2) := sin_keep A4.out fun t t1 _ => ST2.out t (Or.inr (by omega))
                clear A1 A2 A3 A4
                obtain ⟨d3, w3, ST3, SO3, S4, hw3⟩ : ∃ (d3 : Array α) (w3 : World), Stb (ltOf cf) mid b d2 d3 ∧ Aside (SortedIn (ltOf cf) mid b d3) ∧ SWK enc k w0 blk off d3 w3 ∧ w3 = w2 := ⟨d2, w2, Stb.refl _ _ _ _, (by rw [show b = e by omega]; exact B3.out), S3, rfl⟩
                clear S3
                rw [← hw3]
                clear hw3
                have M := merge_halves (Nat.le_of_lt m1) (Nat.le_of_lt m2) ST2 SO2.out ST3 SO3.out X.out
                clear SO2 SO3 X B3 B4
                go_wp2
                go_end0
                exact ⟨rfl, d3, ⟨ST.trans M.1, M.2⟩, S4⟩
          · first
            | exfalso; omega
            | have k2 : ¬ (m : Int) < (nn : Int) - (i : Int) := by omega
              have k2' : (nn : Int) - (i : Int) ≤ (m : Int) := by omega
              have k5 : (mid : Int) < (nn : Int) - (i : Int) := by omega
              have k6 : (nn : Int) - (i : Int) < (b : Int) := by omega
              obtain ⟨d1, w1, RT, S2, hd1, hw1⟩ : ∃ (d1 : Array α) (w1 : World), Rot i m e d d1 ∧ SWK enc k w0 blk off d1 w1 ∧ d1 = d ∧ w1 = wr := ⟨d, wr, by rw [show m = e by omega]; exact Rot.self' i e (by omega) d, S1.out, rfl, rfl⟩
              clear S1
              rw [← hw1]
              clear hd1 hw1
              have C := CUT.out d1 RT
              obtain ⟨ST, A1', A2', A3', A4', X'⟩ := C
              have A1 : Aside (SortedIn (ltOf cf) a i d1) := A1'
              have A2 : Aside (SortedIn (ltOf cf) i mid d1) := A2'
              have A3 : Aside (SortedIn (ltOf cf) mid e d1) := A3'
              have A4 : Aside (SortedIn (ltOf cf) e b d1) := A4'
              have X : Aside (∀ i j, a ≤ i → i < mid → mid ≤ j → j < b → ltOf cf d1[j]! d1[i]! = false) := X'
              have z1 : d1.size ≤ d.size := Nat.le_of_eq ST.size
              have z2 : d.size ≤ d1.size := Nat.le_of_eq ST.size.symm
              clear A1' A2' A3' A4' X' CUT RT
              obtain ⟨d2, w2, ST2, SO2, S3, hw2⟩ : ∃ (d2 : Array α) (w2 : World), Stb (ltOf cf) a mid d1 d2 ∧ Aside (SortedIn (ltOf cf) a mid d2) ∧ SWK enc k w0 blk off d2 w2 ∧ w2 = w1 := ⟨d1, w1, Stb.refl _ _ _ _, (by rw [show mid = i by omega]; exact A1.out), S2, rfl⟩
              clear S2
              rw [← hw2]
              clear hw2
              have z3 : d2.size ≤ d.size := by rw [ST2.size]; exact z1
              have z4 : d.size ≤ d2.size := by rw [ST2.size]; exact z2
              have B3 : Aside (SortedIn (ltOf cf) mid e d2) := sin_keep A3.out fun t t1 _ => ST2.out t (Or.inr t1)
              have B4 : Aside (SortedIn (ltOf cf) e b d2) := sin_keep A4.out fun t t1 _ => ST2.out t (Or.inr (by omega))
              clear A1 A2 A3 A4
              have hc3 := IH.out mid e b d2 w2 (by omega) (by omega) S3 (by omega) (by omega) (by omega) B3.out B4.out
              rw [ST2.size, ST.size, ← HE.out] at hc3
              clear S3
              go_wp2_with fail
              refine hc3.mono ?_
              rintro _ w3 ⟨rfl, d3, ⟨ST3, SO3'⟩, S4⟩
              have SO3 : Aside (SortedIn (ltOf cf) mid b d3) := SO3'
              clear SO3' hc3
              have M := merge_halves (Nat.le_of_lt m1) (Nat.le_of_lt m2) ST2 SO2.out ST3 SO3.out X.out
              clear SO2 SO3 X B3 B4
              go_wp2
              go_end0
              exact ⟨rfl, d3, ⟨ST.trans M.1, M.2⟩, S4⟩
        · by_cases c2 : i < mid
          · first
            | exfalso; omega
            | have k3 : a < i := by omega
              have k5 : ¬ (mid : Int) < (nn : Int) - (i : Int) := by omega
              have k5' : (nn : Int) - (i : Int) ≤ (mid : Int) := by omega
              obtain ⟨d1, w1, RT, S2, hd1, hw1⟩ : ∃ (d1 : Array α) (w1 : World), Rot i m e d d1 ∧ SWK enc k w0 blk off d1 w1 ∧ d1 = d ∧ w1 = wr := ⟨d, wr, by rw [show i = m by omega]; exact Rot.self m e (by omega) d, S1.out, rfl, rfl⟩
              clear S1
              rw [← hw1]
              clear hd1 hw1
              have C := CUT.out d1 RT
              obtain ⟨ST, A1', A2', A3', A4', X'⟩ := C
              have A1 : Aside (SortedIn (ltOf cf) a i d1) := A1'
              have A2 : Aside (SortedIn (ltOf cf) i mid d1) := A2'
              have A3 : Aside (SortedIn (ltOf cf) mid e d1) := A3'
              have A4 : Aside (SortedIn (ltOf cf) e b d1) := A4'
              have X : Aside (∀ i j, a ≤ i → i < mid → mid ≤ j → j < b → ltOf cf d1[j]! d1[i]! = false) := X'
              have z1 : d1.size ≤ d.size := Nat.le_of_eq ST.size
              have z2 : d.size ≤ d1.size := Nat.le_of_eq ST.size.symm
              clear A1' A2' A3' A4' X' CUT RT
              have hc2 := IH.out a i mid d1 w1 (by omega) (by omega) S2 (by omega) (by omega) (by omega) A1.out A2.out
              rw [ST.size] at hc2
              clear S2
              go_wp2_with fail
              refine hc2.mono ?_
              rintro _ w2 ⟨rfl, d2, ⟨ST2, SO2'⟩, S3⟩
              have SO2 : Aside (SortedIn (ltOf cf) a mid d2) := SO2'
              clear SO2' hc2
              have z3 : d2.size ≤ d.size := by rw [ST2.size]; exact z1
              have z4 : d.size ≤ d2.size := by rw [ST2.size]; exact z2
              have B3 : Aside (SortedIn (ltOf cf) mid e d2) := sin_keep A3.out fun t t1 _ => ST2.out t (Or.inr t1)
              have B4 : Aside (SortedIn (ltOf cf) e b d2) := sin_keep A4.out fun t t1 _ => ST2.out t (Or.inr (by omega))
              clear A1 A2 A3 A4
              obtain ⟨d3, w3, ST3, SO3, S4, hw3⟩ : ∃ (d3 : Array α) (w3 : World), Stb (ltOf cf) mid b d2 d3 ∧ Aside (SortedIn (ltOf cf) mid b d3) ∧ SWK enc k w0 blk off d3 w3 ∧ w3 = w2 := ⟨d2, w2, Stb.refl _ _ _ _, (by rw [show mid = e by omega]; exact B4.out), S3, rfl⟩
              clear S3
              rw [← hw3]
              clear hw3
              have M := merge_halves (Nat.le_of_lt m1) (Nat.le_of_lt m2) ST2 SO2.out ST3 SO3.out X.out
              clear SO2 SO3 X B3 B4
              go_wp2
              go_end0
              exact ⟨rfl, d3, ⟨ST.trans M.1, M.2⟩, S4⟩
          · first
            | exfalso; omega
            | have k3 : a < i := by omega
              have k5 : ¬ (mid : Int) < (nn : Int) - (i : Int) := by omega
              have k5' : (nn : Int) - (i : Int) ≤ (mid : Int) := by omega
              obtain ⟨d1, w1, RT, S2, hd1, hw1⟩ : ∃ (d1 : Array α) (w1 : World), Rot i m e d d1 ∧ SWK enc k w0 blk off d1 w1 ∧ d1 = d ∧ w1 = wr := ⟨d, wr, by rw [show i = m by omega]; exact Rot.self m e (by omega) d, S1.out, rfl, rfl⟩
              clear S1
              rw [← hw1]
              clear hd1 hw1
              have C := CUT.out d1 RT
              obtain ⟨ST, A1', A2', A3', A4', X'⟩ := C
              have A1 : Aside (SortedIn (ltOf cf) a i d1) := A1'
              have A2 : Aside (SortedIn (ltOf cf) i mid d1) := A2'
              have A3 : Aside (SortedIn (ltOf cf) mid e d1) := A3'
              have A4 : Aside (SortedIn (ltOf cf) e b d1) := A4'
              have X : Aside (∀ i j, a ≤ i → i < mid → mid ≤ j → j < b → ltOf cf d1[j]! d1[i]! = false) := X'
              have z1 : d1.size ≤ d.size := Nat.le_of_eq ST.size
              have z2 : d.size ≤ d1.size := Nat.le_of_eq ST.size.symm
              clear A1' A2' A3' A4' X' CUT RT
              obtain ⟨d2, w2, ST2, SO2, S3, hw2⟩ : ∃ (d2 : Array α) (w2 : World), Stb (ltOf cf) a mid d1 d2 ∧ Aside (SortedIn (ltOf cf) a mid d2) ∧ SWK enc k w0 blk off d2 w2 ∧ w2 = w1 := ⟨d1, w1, Stb.refl _ _ _ _, (by rw [show mid = i by omega]; exact A1.out), S2, rfl⟩
              clear S2
              rw [← hw2]
              clear hw2
              have z3 : d2.size ≤ d.size := by rw [ST2.size]; exact z1
              have z4 : d.size ≤ d2.size := by rw [ST2.size]; exact z2
              have B3 : Aside (SortedIn (ltOf cf) mid e d2) := sin_keep A3.out fun t t1 _ => ST2.out t (Or.inr t1)
              have B4 : Aside (SortedIn (ltOf cf) e b d2) := sin_keep A4.out fun t t1 _ => ST2.out t (Or.inr (by omega))
              clear A1 A2 A3 A4
              obtain ⟨d3, w3, ST3, SO3, S4, hw3⟩ : ∃ (d3 : Array α) (w3 : World), Stb (ltOf cf) mid b d2 d3 ∧ Aside (SortedIn (ltOf cf) mid b d3) ∧ SWK enc k w0 blk off d3 w3 ∧ w3 = w2 := ⟨d2, w2, Stb.refl _ _ _ _, (by rw [show mid = e by omega]; exact B4.out), S3, rfl⟩
              clear S3
              rw [← hw3]
              clear hw3
              have M := merge_halves (Nat.le_of_lt m1) (Nat.le_of_lt m2) ST2 SO2.out ST3 SO3.out X.out
              clear SO2 SO3 X B3 B4
              go_wp2
              go_end0
              exact ⟨rfl, d3, ⟨ST.trans M.1, M.2⟩, S4⟩

theorem symMerge_all (L : Srt P k) (R : RowK enc k w0 blk off d0) (cf : α → α → Int) (hO : SWO (ltOf cf)) (g : Nat) (cb : Array Value) (eg : ∀ args w, (callFunc g args).run P w = .ok (.enter g args) w) (hcmp : CmpLays P g cb enc k cf blk off d0.size w0)
    (cap : Nat) (hsz : d0.size < 4611686018427387904) : ∀ N, Merges P k enc blk off w0 d0 cf g cb cap N
  | 0 => fun _ _ _ _ _ h => absurd h (Nat.not_lt_zero _)
  | N + 1 => fun a m b d w hN hs S ham hmb hb hl hr => by
    by_cases h1 : m = a + 1
    · exact symMerge_first L R cf hO g cb eg hcmp cap a m b h1 d w hs S (by omega) hb (by omega) (by rw [← h1]; exact hr)
    · by_cases h2 : b = m + 1
      · exact symMerge_last L R cf hO g cb eg hcmp cap a m b (by omega) h2 d w hs S hb (by omega) hl
      · exact symMerge_long L R cf hO g cb eg hcmp cap N (symMerge_all L R cf hO g cb eg hcmp cap hsz N) a m b (by omega) (by omega) (by omega) d w hs S hb (by omega) hl hr

end Go.Proofs.Ytdjdflannedkbaa
