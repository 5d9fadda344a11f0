/-
  PROVED: slices.symMergeCmpFunc where the right part alone has one element: the row holds the stable merge. Conditions: the row lies as the sort's kit says, both parts are sorted, 'cmp(a, b) < 0' is a strict weak order.
-/
import Derived.Test.YtdjdflannedkbaaSwap
import Derived.Lib.Hide
namespace Go.Proofs.Ytdjdflannedkbaa
open Go.Shelf Go.RowKit Go.Lib Go.Sort
variable {α : Type} [Inhabited α] {P : Program} {k : Nat} {enc : α → List Value} {blk off : Nat} {w0 : World} {d0 : Array α}

set_option maxHeartbeats 4000000 in
set_option maxRecDepth 1000000 in
theorem symMerge_last (L : Srt P k) (R : RowK enc k w0 blk off d0) (cf : α → α → Int) (hO : SWO (ltOf cf)) (g : Nat) (cb : Array Value) (eg : ∀ args w, (callFunc g args).run P w = .ok (.enter g args) w) (hcmp : CmpLays P g cb enc k cf blk off d0.size w0)
    (cap a m b : Nat) (hm : a + 1 < m) (hbm : b = m + 1) (d : Array α) (w : World) (hs : d0.size = d.size) (S : SWK enc k w0 blk off d w) (hb : b ≤ d.size) (hsz : d.size < 4611686018427387904) (hrt : SortedIn (ltOf cf) a m d) :
    Calls P 40 #[.slice (some ⟨blk, off, none⟩) d.size cap, .int .i64 a, .int .i64 m, .int .i64 b, .func (.func g) #[] cb] w fun e w' => e = .returned (.tuple #[]) ∧ ∃ d', (Stb (ltOf cf) a b d d' ∧ SortedIn (ltOf cf) a b d') ∧ SWK enc k w0 blk off d' w' := by
  have mixed := L.mixed; have t0 := L.t0; have a0 := L.a0; have z0 := L.z0; have v0 := L.v0; have t3 := L.t3; have a3 := L.a3; have z3 := L.z3; have v3 := L.v3; have t4 := L.t4; have a4 := L.a4; have z4 := L.z4; have v4 := L.v4; have t22 := L.t22; have a22 := L.a22; have z22 := L.z22; have v22 := L.v22; have t50 := L.t50; have a50 := L.a50; have z50 := L.z50; have v50 := L.v50; have t63 := L.t63; have a63 := L.a63; have z63 := L.z63; have v63 := L.v63
  have aE := L.aE; have zE := L.zE
  have FG := L.f40
  have HC : Aside _ := hcmp
  have HR : Aside _ := hrt
  have S0 : Aside (SWK enc k w0 blk off d w) := S
  clear S hcmp hrt
  have q0 : (((m : Int) - (a : Int)) == 1) = false := by simp; omega
  have q1 : (((b : Int) - (m : Int)) == 1) = true := by simp; omega
  have hm1 : m + 1 ≤ b := by omega
  have hm2 : b ≤ m + 1 := by omega
  have HM := Lib.hid hbm
  clear hbm
  go_enter FG, Try.ntmps40
  go_wp2
  go_loopg [14, 15, 16] (b - a) (fun kx s10 s11 _ wr => ∃ (i j : Nat), s10 = .int .i64 i ∧ s11 = .int .i64 j ∧ a ≤ i ∧ i ≤ j ∧ j ≤ m ∧ j - i ≤ kx ∧ Aside (SWK enc k w0 blk off d wr) ∧ Aside (i = a ∨ ltOf cf d[m]! d[i - 1]! = false) ∧ Aside (j = m ∨ ltOf cf d[m]! d[j]! = true))
  case atStart => exact ⟨a, m, rfl, rfl, Nat.le_refl _, by omega, Nat.le_refl _, by omega, S0, Or.inl rfl, Or.inl rfl⟩
  case round =>
    clear S0
    obtain ⟨i, j, rfl, rfl, hi, hij, hjb, hkx, S1, LO, HI⟩ := hrel
    by_cases hlt : i < j
    · have hltz : (i : Int) < (j : Int) := by omega
      obtain ⟨h, hh⟩ : ∃ h, h = (i + j) / 2 := ⟨_, rfl⟩
      have hhz : ((i : Int) + (j : Int)) / 2 = (h : Int) := by omega
      have h1 : i ≤ h := by omega
      have h2 : h < j := by omega
      clear hh
      have HZ := Lib.hid hhz
      clear hhz
      go_wp2_with fail
      rw [HZ.out]
      clear HZ
      have ea : ((m : Int)).toNat = m := by omega
      have pa : (0 : Int) ≤ (m : Int) := by omega
      have ba : (m : Int) < (d.size : Int) := by omega
      have ra : IntKind.i64.wrap ((m : Int)) = (m : Int) := by rw [IntKind.wrap_i64]; omega
      have ec : ((h : Int)).toNat = h := by omega
      have pc : (0 : Int) ≤ (h : Int) := by omega
      have bc : (h : Int) < (d.size : Int) := by omega
      have rc : IntKind.i64.wrap ((h : Int)) = (h : Int) := by rw [IntKind.wrap_i64]; omega
      obtain ⟨x, hx⟩ : ∃ x, x = d[m]! := ⟨_, rfl⟩
      obtain ⟨y, hy⟩ : ∃ x, x = d[h]! := ⟨_, rfl⟩
      have l1 := S1.out.ld R (by omega) P m (by omega)
      have l2 := S1.out.ld R (by omega) P h (by omega)
      rw [← hx] at l1
      rw [← hy] at l2
      have hc := S1.out.cmp HC.out (by omega) x y
      have HX : Aside (x = d[m]! ∧ y = d[h]!) := ⟨hx, hy⟩
      clear hx hy
      by_cases hv : cf x y < 0
      · have hd : decide (cf x y < 0) = true := decide_eq_true hv
        go_quiet_grown (first | (go_at_fn g; refine Calls.grown_of (hc _ _)))
        have S2 : Aside (SWK enc k w0 blk off d (grow (wr.drewN nq) osq)) := S1.out.grown nq osq
        clear l1 l2 hc S1
        generalize grow (wr.drewN nq) osq = w2 at S2 ⊢
        clear nq osq
        have HI2 : Aside (h = m ∨ ltOf cf d[m]! d[h]! = true) := Or.inr (by rw [← HX.out.1, ← HX.out.2]; exact hd)
        clear HX HI
        go_wp2
        go_roundg (h - i)
        case measure => omega
        case rel => exact ⟨i, h, rfl, rfl, hi, h1, by omega, Nat.le_refl _, S2, LO, HI2⟩
      · have hd : decide (cf x y < 0) = false := decide_eq_false hv
        go_quiet_grown (first | (go_at_fn g; refine Calls.grown_of (hc _ _)))
        have S2 : Aside (SWK enc k w0 blk off d (grow (wr.drewN nq) osq)) := S1.out.grown nq osq
        clear l1 l2 hc S1
        generalize grow (wr.drewN nq) osq = w2 at S2 ⊢
        clear nq osq
        have LO2 : Aside (h + 1 = a ∨ ltOf cf d[m]! d[h + 1 - 1]! = false) := Or.inr (by rw [Nat.add_sub_cancel, ← HX.out.1, ← HX.out.2]; exact hd)
        clear HX LO
        go_wp2
        go_roundg (j - (h + 1))
        case measure => omega
        case rel => exact ⟨h + 1, j, by go_num, rfl, by omega, by omega, hjb, Nat.le_refl _, S2, LO2, HI⟩
    · have hltz : ¬ (i : Int) < (j : Int) := by omega
      obtain rfl : i = j := by omega
      have DONE : Aside (∀ d', Rot i m (m + 1) d d' → Stb (ltOf cf) a b d d' ∧ SortedIn (ltOf cf) a b d') := fun d' hr => by rw [HM.out]; exact merge_last hO hr hi hjb (by omega) HR.out LO.out HI.out
      clear LO HI HR HC
      go_wp2
      go_loopg [17] (m - i) (fun kx s13 wr2 => ∃ (t : Nat) (dk : Array α), s13 = .int .i64 t ∧ i ≤ t ∧ t ≤ m ∧ t - i ≤ kx ∧ dk.size = d.size ∧ Aside (SWK enc k w0 blk off dk wr2) ∧ Aside (Rot t m (m + 1) d dk))
      case atStart => exact ⟨m, d, rfl, hjb, Nat.le_refl _, Nat.le_refl _, rfl, S1, Rot.self m (m + 1) (by omega) d⟩
      case round =>
        clear S1
        obtain ⟨t, dk, rfl, hat, hti, hkx2, hds, S1, RT⟩ := hrel
        by_cases hlt2 : i < t
        · obtain ⟨t, rfl⟩ : ∃ u, t = u + 1 := ⟨t - 1, by omega⟩
          have hlt2z : (i : Int) < (t : Int) + 1 := by omega
          have RT2 : Aside (Rot t m (m + 1) d (swp dk (t + 1) t)) := rot_down RT.out hti (by omega)
          clear RT
          go_wp2_with fail
          have ea : ((t : Int) + 1).toNat = t + 1 := by omega
          have pa : (0 : Int) ≤ (t : Int) + 1 := by omega
          have ba : (t : Int) + 1 < (d.size : Int) := by omega
          have ra : IntKind.i64.wrap ((t : Int) + 1) = (t : Int) + 1 := by rw [IntKind.wrap_i64]; omega
          have ec : ((t : Int)).toNat = t := by omega
          have pc : (0 : Int) ≤ (t : Int) := by omega
          have bc : (t : Int) < (d.size : Int) := by omega
          have rc : IntKind.i64.wrap ((t : Int)) = (t : Int) := by rw [IntKind.wrap_i64]; omega
          have S2 : Aside (SWK enc k w0 blk off (swp dk (t + 1) t) ((wr.drew.setCells blk (off + (t + 1) * k) (enc dk[t]!)).setCells blk (off + t * k) (enc dk[t + 1]!))) := S1.out.swapped R (t + 1) t (by omega) (by omega)
          have l1 := S1.out.ld1 R (by omega) P (t + 1) (by omega)
          have l2 := S1.out.ld1 R (by omega) P t (by omega)
          have s1 := S1.out.st1 R (by omega) P (t + 1) (by omega) dk[t]!
          have s2 := S1.out.st2 R (by omega) P (t + 1) t (by omega) (by omega) dk[t]! dk[t + 1]!
          have n1 : (enc dk[t + 1]!).length = k := R.hk _
          have n2 : (enc dk[t]!).length = k := R.hk _
          generalize enc dk[t + 1]! = cI at S2 l1 s2 n1
          generalize enc dk[t]! = cJ at S2 l2 s1 s2 n2
          clear S1
          go_wp2_with fail
          go_big_region_o
          clear l1 l2 s1 s2
          generalize (wr.drew.setCells blk (off + (t + 1) * k) cJ).setCells blk (off + t * k) cI = w2 at S2 ⊢
          go_wp2
          go_roundg (t - i)
          case measure => omega
          case rel => exact ⟨t, swp dk (t + 1) t, by first | rfl | go_num | (congr 1; omega), by omega, by omega, Nat.le_refl _, by rw [size_swp]; exact hds, S2, RT2⟩
        · have hlt2z : ¬ (i : Int) < (t : Int) := by omega
          obtain rfl : i = t := by omega
          go_wp2
          (try simp only [Exit.inBlock, Exit.then]); refine bodyPost_ret (results_none rfl _ _ _) rfl ?_
          exact ⟨rfl, dk, DONE.out dk RT.out, S1.out⟩

end Go.Proofs.Ytdjdflannedkbaa
