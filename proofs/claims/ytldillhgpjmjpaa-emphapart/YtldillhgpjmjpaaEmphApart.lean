/-
  PROVED: stetlaw12.EmphApart returns true for every two lists of rows: rows of unlike marks behind one another make what each makes by itself. Conditions: none beside the row's own.
-/
import Derived.Test.YtldillhgpjmjpaaOpen2
import Derived.Test.YtldillhgpjmjpaaInvPure
import Derived.Test.YtldillhgpjmjpaaApartPure
import Derived.Test.YtldillhgpjmjpaaPairs
namespace Go.Proofs.Ytldillhgpjmjpaa.emphApart
open Go.ChangeShapes Go.WideShapes Go.ChangeAt Go.RowKit Go.Joins Go.Sort
set_option linter.unusedVariables false

theorem rcells_set (L : List Rw) (i : Nat) (hi : i < L.length) (mk : Int) : (rcells L).set (i * 4) (.int .u8 mk) = rcells (L.set i (setM mk L[i])) := by
  apply List.ext_getElem?
  intro j
  by_cases hj : j < L.length * 4
  · obtain ⟨a, b, rfl, hb⟩ : ∃ a b, j = a * 4 + b ∧ b < 4 := ⟨j / 4, j % 4, by omega, by omega⟩
    have ha : a < L.length := by omega
    have e1 := fm_at rcell_len L a b L[a] (List.getElem?_eq_getElem ha) hb
    by_cases hai : a = i
    · subst hai
      have e2 := fm_at rcell_len (L.set a (setM mk L[a])) a b (setM mk L[a]) (by simp [ha]) hb
      unfold rcells
      rw [e2]
      have : b = 0 ∨ b = 1 ∨ b = 2 ∨ b = 3 := by omega
      rcases this with rfl | rfl | rfl | rfl
      · rw [Nat.add_zero, List.getElem?_set_self (by rw [fm_len rcell_len]; omega)]; rfl
      · rw [List.getElem?_set_ne (by omega), e1]; rfl
      · rw [List.getElem?_set_ne (by omega), e1]; rfl
      · rw [List.getElem?_set_ne (by omega), e1]; rfl
    · have e2 := fm_at rcell_len (L.set i (setM mk L[i])) a b L[a] (by rw [List.getElem?_set_ne (fun e => hai e.symm)]; exact List.getElem?_eq_getElem ha) hb
      unfold rcells
      rw [e2, List.getElem?_set_ne (by omega), e1]
  · rw [List.getElem?_eq_none (by rw [List.length_set, rcells_len]; omega), List.getElem?_eq_none (by rw [rcells_len, List.length_set]; omega)]
/-- One mark more is set. -/
theorem mark_set {w : World} {B q cq : Nat} (L : List Rw) (mk : Int) (k : Nat) (hk : k < L.length) (h : w.ownsRow B 35 4 (.slice (some ⟨q, 0, none⟩) L.length cq) L.length (rcells (mkM mk k L))) :
    (w.setCell ⟨q, k * 4, none⟩ (.int .u8 mk)).ownsRow B 35 4 (.slice (some ⟨q, 0, none⟩) L.length cq) L.length (rcells (mkM mk (k + 1) L)) := by
  have h1 := (h.stored (k * 4) (.int .u8 mk)).1
  have hl := mkM_len mk k L
  rw [rcells_set _ k (by rw [hl]; exact hk)] at h1
  rw [mkM_step mk k L hk]
  have e : (mkM mk k L)[k]'(by rw [hl]; exact hk) = L[k] := by
    have := mkM_at mk k L hk
    rw [List.getElem?_eq_getElem (by rw [hl]; exact hk), List.getElem?_eq_getElem hk] at this
    exact Option.some.inj this
  rw [e] at h1
  exact h1
theorem grown_set (w : World) (q j : Nat) (u : Value) : w.grownBy (w.setCell ⟨q, j, none⟩ u) (some q) := ⟨rfl, rfl, rfl, by simp, fun k _ hk => Below.heap_setCell w ⟨q, j, none⟩ u k (fun e => hk (by rw [e]))⟩

set_option maxHeartbeats 4000000 in
set_option maxRecDepth 100000 in
theorem walk (A : Option Addr) (c : Nat) (hA : A = none → c = 0) (L : List Rw) (hl : L.length ≤ 140737488355328) (A' : Option Addr) (c' : Nat) (hA' : A' = none → c' = 0) (L' : List Rw) (hl' : L'.length ≤ 140737488355328) (w : World) (h : Rdc w w.heap.size A (rcells L)) (h' : Rdc w w.heap.size A' (rcells L')) :
    Calls Try.prog 6 #[.slice A L.length c, .slice A' L'.length c'] w fun e w' => e = .returned (.bool true) ∧ Below w.heap.size w w' := by
  have HA := Lib.hid hA
  have HA' := Lib.hid hA'
  have HR := Lib.hid h
  have HR' := Lib.hid h'
  clear hA hA' h h'
  go_enter Try.func6, Try.ntmps6
  go_wp2_with fail
  refine (alive_any w).mono ?_
  rintro e w1 ⟨rfl, hb1⟩
  have R1 := Lib.hid (HR.out.on hb1)
  have R1' := Lib.hid (HR'.out.on hb1)
  have B1 := Lib.hid hb1
  have hz0 := hb1.size
  clear hb1 HR HR'
  go_wp2_with fail
  refine (great_any A c L hl _ w1 R1.out).mono ?_
  rintro e w2 ⟨⟨b, rfl, hbL⟩, hw⟩
  subst hw
  cases b with
  | true =>
    clear hbL
    go_wp2_with fail
    go_ret
    exact ⟨rfl, B1.out⟩
  | false =>
    have hl3 := hbL rfl
    clear hbL
    go_wp2_with fail
    refine (great_any A' c' L' hl' _ w1 R1'.out).mono ?_
    rintro e w2 ⟨⟨b, rfl, hbL⟩, hw⟩
    subst hw
    cases b with
    | true =>
      clear hbL
      go_wp2_with fail
      go_ret
      exact ⟨rfl, B1.out⟩
    | false =>
      have hl3' := hbL rfl
      clear hbL
      go_wp2_with fail
      refine (copy_any A c HA.out L (by omega) _ w1 R1.out).mono ?_
      rintro e w2 ⟨vX, rfl, hoX, hb2⟩
      obtain ⟨AX, cX, hvX⟩ := own_sl hoX
      subst hvX
      have OX2 := Lib.hid hoX
      have R2' := Lib.hid (R1'.out.on hb2)
      have B2 := Lib.hid (chain (Nat.le_refl _) B1.out hb2)
      have hz12 := hb2.size
      clear hoX hb2 R1 R1' B1
      go_wp2_with fail
      refine (copy_any A' c' HA'.out L' (by omega) _ w2 R2'.out).mono ?_
      rintro e w3 ⟨vY, rfl, hoY, hb3⟩
      obtain ⟨AY, cY, hvY⟩ := own_sl hoY
      subst hvY
      have OY3 := Lib.hid hoY
      have OX3 := Lib.hid (own_below OX2.out hb3)
      have B3 := Lib.hid (chain (Nat.le_refl _) B2.out hb3)
      have hz23 := hb3.size
      have HXb : Hid (∀ j, (Value.slice AX L.length cX).ownBlock = some j → j < w2.heap.size) := fun j hj => (own_block_ge OX2.out j hj).2
      clear hoY hb3 R2' B2 OX2
      go_upto_block 0 with fail
      go_cut [] from 26 to 35 (fun wx => wx.ownsRow w1.heap.size 35 4 (.slice AX L.length cX) L.length (rcells (L.map (setM 42))) ∧ wx.ownsRow w2.heap.size 35 4 (.slice AY L'.length cY) L'.length (rcells L') ∧ Below w.heap.size w wx)
      case first =>
        go_wp2_with fail
        go_loopw [7] (fun v wr => ∃ k : Nat, k ≤ L.length ∧ v = .int .i64 k ∧ wr.ownsRow w1.heap.size 35 4 (.slice AX L.length cX) L.length (rcells (mkM 42 k L)) ∧ wr.ownsRow w2.heap.size 35 4 (.slice AY L'.length cY) L'.length (rcells L') ∧ Below w.heap.size w wr) (fun v _ => L.length - (intOf v).toNat)
        case atStart => exact ⟨0, Nat.zero_le _, rfl, by rw [mkM_zero]; exact OX3.out, OY3.out, B3.out⟩
        case round =>
          obtain ⟨k, hk, rfl, hx, hy, hb⟩ := hrel
          have HX := Lib.hid hx
          have HY := Lib.hid hy
          have HB := Lib.hid hb
          clear OX3 OY3 B3
          by_cases hlt : k < L.length
          · obtain ⟨q, cq, hq1, hqb, hql, _, hat, hqf⟩ := own_at hx (by omega)
            have e1 : AX = some ⟨q, 0, none⟩ := by injection hq1
            subst e1
            have f0 := hqf (k * 4)
            have l0 := hat (k * 4) _ (fm_at rcell_len (mkM 42 k L) k 0 L[k] (by rw [mkM_at _ _ _ hlt]; exact List.getElem?_eq_getElem hlt) (by omega))
            have l0 : wr.cell? ⟨q, k * 4, none⟩ = some (.int .u8 L[k].m) := l0
            have hqx := HXb.out q rfl
            have hkz : (k : Int) < (L.length : Int) := by omega
            have hwz : w.heap.size ≤ w1.heap.size := by have := hz0; omega
            clear hx hy hb hat hqf hq1
            obtain ⟨mo, hmo⟩ : ∃ mo, mo = L[k].m := ⟨_, rfl⟩
            rw [← hmo] at l0
            clear hmo
            go_wp2_with fail
            go_roundw
            case rel =>
              refine ⟨k + 1, by omega, by go_num, mark_set L 42 k hlt HX.out, ?_, HB.out.setCell (by show w.heap.size ≤ q; omega) _⟩
              exact HY.out.kept (grown_set _ q _ _) (Or.inr (fun e => by have := (own_block_ge HY.out q e).1; omega))
            case measure => simp [intOf]; omega
          · have hk2 : k = L.length := by omega
            subst hk2
            clear hx hy hb
            go_wp2_with fail
            go_meet
            exact ⟨by have := HX.out; rw [mkM_all] at this; exact this, HY.out, HB.out⟩
      case rest =>
        obtain ⟨hx, hy, hb⟩ := hcut
        have HX := Lib.hid hx
        have HY := Lib.hid hy
        have HB := Lib.hid hb
        clear OX3 OY3 B3 hx hy hb
        go_upto_block 2 with fail
        go_cut [] from 36 to 45 (fun wx => wx.ownsRow w1.heap.size 35 4 (.slice AX L.length cX) L.length (rcells (L.map (setM 42))) ∧ wx.ownsRow w2.heap.size 35 4 (.slice AY L'.length cY) L'.length (rcells (L'.map (setM 95))) ∧ Below w.heap.size w wx)
        case first =>
          go_wp2_with fail
          go_loopw [8] (fun v wr => ∃ k : Nat, k ≤ L'.length ∧ v = .int .i64 k ∧ wr.ownsRow w1.heap.size 35 4 (.slice AX L.length cX) L.length (rcells (L.map (setM 42))) ∧ wr.ownsRow w2.heap.size 35 4 (.slice AY L'.length cY) L'.length (rcells (mkM 95 k L')) ∧ Below w.heap.size w wr) (fun v _ => L'.length - (intOf v).toNat)
          case atStart => exact ⟨0, Nat.zero_le _, rfl, HX.out, by rw [mkM_zero]; exact HY.out, HB.out⟩
          case round =>
            clear HX HY HB
            obtain ⟨k, hk, rfl, hx, hy, hb⟩ := hrel
            have HX := Lib.hid hx
            have HY := Lib.hid hy
            have HB := Lib.hid hb
            by_cases hlt : k < L'.length
            · obtain ⟨q, cq, hq1, hqb, hql, _, hat, hqf⟩ := own_at hy (by omega)
              have e1 : AY = some ⟨q, 0, none⟩ := by injection hq1
              subst e1
              have f0 := hqf (k * 4)
              have l0 := hat (k * 4) _ (fm_at rcell_len (mkM 95 k L') k 0 L'[k] (by rw [mkM_at _ _ _ hlt]; exact List.getElem?_eq_getElem hlt) (by omega))
              have l0 : wr.cell? ⟨q, k * 4, none⟩ = some (.int .u8 L'[k].m) := l0
              have hkz : (k : Int) < (L'.length : Int) := by omega
              have hwz : w.heap.size ≤ w1.heap.size := by have := hz0; omega
              clear hx hy hb hat hqf hq1
              obtain ⟨mo, hmo⟩ : ∃ mo, mo = L'[k].m := ⟨_, rfl⟩
              rw [← hmo] at l0
              clear hmo
              go_wp2_with fail
              go_roundw
              case rel =>
                refine ⟨k + 1, by omega, by go_num, ?_, mark_set L' 95 k hlt HY.out, HB.out.setCell (by show w.heap.size ≤ q; omega) _⟩
                exact HX.out.kept (grown_set _ q _ _) (Or.inr (fun e => by have := HXb.out q e; omega))
              case measure => simp [intOf]; omega
            · have hk2 : k = L'.length := by omega
              subst hk2
              clear hx hy hb
              go_wp2_with fail
              go_meet
              exact ⟨HX.out, by have := HY.out; rw [mkM_all] at this; exact this, HB.out⟩
        case rest =>
          obtain ⟨hx, hy, hb⟩ := hcut
          obtain ⟨X, hX⟩ : ∃ X, X = L.map (setM 42) := ⟨_, rfl⟩
          obtain ⟨Y, hY⟩ : ∃ Y, Y = L'.map (setM 95) := ⟨_, rfl⟩
          have hXl : X.length = L.length := by rw [hX]; simp
          have hYl : Y.length = L'.length := by rw [hY]; simp
          have hXw : ∀ r ∈ X, r.m = 42 := by intro r hr; rw [hX] at hr; obtain ⟨x, _, rfl⟩ := List.mem_map.1 hr; rfl
          have hYw : ∀ r ∈ Y, r.m = 95 := by intro r hr; rw [hY] at hr; obtain ⟨x, _, rfl⟩ := List.mem_map.1 hr; rfl
          rw [← hX, ← hXl] at hx
          rw [← hY, ← hYl] at hy
          rw [← hXl, ← hYl]
          have HAp := Lib.hid (pairs_apart X Y (fun x hx y hy => by rw [hXw x hx, hYw y hy]; decide))
          have HWX : Hid (∀ r ∈ X, (Lit.int .u8 r.m).wf = true) := fun r hr => by rw [hXw r hr]; rfl
          have HWY : Hid (∀ r ∈ Y, (Lit.int .u8 r.m).wf = true) := fun r hr => by rw [hYw r hr]; rfl
          have HWA : Hid (∀ r ∈ X ++ Y, (Lit.int .u8 r.m).wf = true) := fun r hr => by rcases List.mem_append.1 hr with h | h; exact HWX.out r h; exact HWY.out r h
          have hX3 : X.length ≤ 300 := by omega
          have hY3 : Y.length ≤ 300 := by omega
          obtain ⟨AX', cX', hvX, _, hAX, hrX⟩ := own_rdc hx
          obtain ⟨AY', cY', hvY, _, hAY, hrY⟩ := own_rdc hy
          injection hvX with e1 _ e2
          injection hvY with e3 _ e4
          subst e1 e2 e3 e4
          have RX := Lib.hid hrX
          have RY := Lib.hid hrY
          have HAX := Lib.hid hAX
          have HAY := Lib.hid hAY
          have B := Lib.hid hb
          clear HX HY HB hx hy hb hX hY hXw hYw hrX hrY hAX hAY hXl hYl hl3 hl3' hl hl' HXb hz0 hz12 hz23
          go_wp2_with fail
          refine (copy_any AX cX HAX.out X (by omega) _ wc RX.out).mono ?_
          rintro e w4 hO
          obtain ⟨A4, c4, rfl, _, _, hr4, hb4⟩ := hO.rd
          have RO4 := Lib.hid hr4
          have RX4 := Lib.hid (RX.out.on hb4)
          have RY4 := Lib.hid (RY.out.on hb4)
          have B4 := Lib.hid (chain (Nat.le_refl _) B.out hb4)
          clear hO hr4 hb4 RX RY B
          go_wp2_with fail
          refine (pairs_any A4 c4 X (by omega) HWX.out w4 RO4.out).mono ?_
          rintro e w5 hO
          obtain ⟨A5, c5, rfl, _, _, hr5, hb5⟩ := hO.rd
          have RP5 := Lib.hid hr5
          have RX5 := Lib.hid (RX4.out.on hb5)
          have RY5 := Lib.hid (RY4.out.on hb5)
          have B5 := Lib.hid (chain (Nat.le_refl _) B4.out hb5)
          clear hO hr5 hb5 RX4 RY4 B4 RO4
          go_wp2_with fail
          refine (copy_any AY cY HAY.out Y (by omega) _ w5 RY5.out).mono ?_
          rintro e w6 hO
          obtain ⟨A6, c6, rfl, _, _, hr6, hb6⟩ := hO.rd
          have RO6 := Lib.hid hr6
          have RP6 := Lib.hid (RP5.out.on hb6)
          have RX6 := Lib.hid (RX5.out.on hb6)
          have RY6 := Lib.hid (RY5.out.on hb6)
          have B6 := Lib.hid (chain (Nat.le_refl _) B5.out hb6)
          clear hO hr6 hb6 RX5 RY5 B5 RP5
          go_wp2_with fail
          refine (pairs_any A6 c6 Y (by omega) HWY.out w6 RO6.out).mono ?_
          rintro e w7 hO
          obtain ⟨A7, c7, rfl, _, _, hr7, hb7⟩ := hO.rd
          have RQ7 := Lib.hid hr7
          have RP7 := Lib.hid (RP6.out.on hb7)
          have RX7 := Lib.hid (RX6.out.on hb7)
          have RY7 := Lib.hid (RY6.out.on hb7)
          have B7 := Lib.hid (chain (Nat.le_refl _) B6.out hb7)
          clear hO hr7 hb7 RX6 RY6 B6 RP6 RO6
          obtain ⟨P, hP⟩ : ∃ P, P = pairsM X := ⟨_, rfl⟩
          obtain ⟨Q, hQ⟩ : ∃ Q, Q = pairsM Y := ⟨_, rfl⟩
          have HAp2 : Hid (pairsM (X ++ Y) = P ++ Q.map (shB X.length)) := by show _ = _; rw [HAp.out, hP, hQ]
          have HPc : Hid (∀ (A : Option Addr) (c : Nat) (W : World), Rdc W W.heap.size A (rcells X ++ rcells Y) → Calls Try.prog 11 #[.slice A (X.length + Y.length) c] W (OwnR W 33 3 (P.length + Q.length) (bcells P ++ bcells (Q.map (shB X.length))))) := fun A c W h => by
            have h1 := pairs_any A c (X ++ Y) (by rw [List.length_append]; omega) HWA.out W (by rw [rcells_app]; exact h)
            rw [HAp2.out, bcells_app, List.length_append, List.length_append, List.length_map] at h1
            exact h1
          have hQb : Hid (∀ b ∈ Q, b.1 < 300 ∧ b.2.1 < 300 ∧ b.2.2 ≤ 2) := fun b hb => by
            rw [hQ] at hb
            have := pairs_ok Y b hb
            omega
          have hPl : P.length ≤ 361200 * 1048576 := by
            rw [hP]
            have h1 := expand_len (runM X X.length).2.2 (run_q X X.length)
            have h2 := run_len X 600 X.length (by omega)
            have h3 : X.length * 601 ≤ 600 * 601 := Nat.mul_le_mul_right _ (by omega)
            exact Nat.le_trans h1 (Nat.mul_le_mul_right _ (by omega))
          have hQl : Q.length ≤ 361200 * 1048576 := by
            rw [hQ]
            have h1 := expand_len (runM Y Y.length).2.2 (run_q Y Y.length)
            have h2 := run_len Y 600 Y.length (by omega)
            have h3 : Y.length * 601 ≤ 600 * 601 := Nat.mul_le_mul_right _ (by omega)
            exact Nat.le_trans h1 (Nat.mul_le_mul_right _ (by omega))
          rw [← hP] at RP7
          rw [← hQ] at RQ7
          rw [← hP, ← hQ]
          clear hP hQ HAp HAp2 HWA
          go_upto_region 17 with fail
          go_cut [11] from 52 to 56 (fun v wx => ∃ A9 c9, v = .slice A9 (P.length + Q.length) c9 ∧ Rdc wx wx.heap.size A9 (bcells P ++ bcells (Q.map (shB X.length))) ∧ Rdc wx wx.heap.size A5 (bcells P) ∧ Rdc wx wx.heap.size A7 (bcells Q) ∧ Below w.heap.size w wx)
          case first =>
            obtain ⟨i0, hi0, hi1, hi2, hi3⟩ := info_parts Try.info35
            go_wp2_with fail
            refine (copy_any AX cX HAX.out X (by omega) _ w7 RX7.out).mono ?_
            rintro e w8 ⟨v8, rfl, ho8, hb8⟩
            obtain ⟨A8, c8, hv8⟩ := own_sl ho8
            subst hv8
            have O8 := Lib.hid ho8
            have RQ8 := Lib.hid (RQ7.out.on hb8)
            have RP8 := Lib.hid (RP7.out.on hb8)
            have RY8 := Lib.hid (RY7.out.on hb8)
            have B8 := Lib.hid (chain (Nat.le_refl _) B7.out hb8)
            have hz78 := hb8.size
            have hzw7 := B7.out.size
            have RQb := Lib.hid (RQ7.out.below hb8)
            have RPb := Lib.hid (RP7.out.below hb8)
            clear ho8 hb8 RX7 RY7 RQ7 RP7 B7
            rcases AY with _ | ad
            · have hY0 : Y = [] := by
                match Y, RY8.out with
                | [], _ => rfl
                | r :: l, h => obtain ⟨_, _, e, _⟩ := h.run (i := 0) rfl; cases e
              subst hY0
              obtain rfl : cY = 0 := HAY.out rfl
              obtain ⟨A8', c8', e8, _, _, r8⟩ := own_rdc O8.out
              injection e8 with e81 _ e82
              subst e81 e82
              have HC := Lib.hid (HPc.out A8 c8 w8 (by simpa [rcells] using r8))
              clear r8
              go_wp2_with fail
              all_goals
                simp only [Sem.run_pure, Result.andThen_ok, Oper.upon, Act.put, List.setIfInBounds_toArray, List.set_cons_zero, List.set_cons_succ]
                apply_assumption
                go_wp2_with fail
                refine (HC.out).mono ?_
                rintro e w9 hO
                obtain ⟨A9, c9, rfl, _, _, hr9, hb9⟩ := hO.rd
                have HZ := Lib.hid (And.intro hr9 (And.intro (RP8.out.on hb9) (And.intro (RQ8.out.on hb9) (chain (Nat.le_refl _) B8.out hb9))))
                clear hO hr9 hb9 HC
                go_wp2_with fail
                go_meet
                exact ⟨A9, c9, rfl, HZ.out⟩
            · have hcells := RY8.out.cells
              have HCl := Lib.hid hcells
              clear hcells
              go_wp2_with (at_builtin; refine wpList_append_own _ rfl _ _ 22 rfl w7.heap.size 35 i0 (.agg #[.int .u8 0, .int .i64 0, .bool false, .bool false]) 4 24 Try.underlying22 hi0 hi1 hi2 hi3 rfl (by decide) (.slice A8 X.length c8) _ _ rfl O8.out ad Y.length cY (rcells Y) rfl (rcells_len Y) HCl.out (rcells_one Y) (by unfold maxLen; omega) (by omega) (by omega) ?_)
              intro v' w9 hown' hgrow _
              have hk9 : Kept (fun j => (Value.slice A8 X.length c8).ownBlock = some j) w8 w9 := Kept.grown _ hgrow (fun _ e => e)
              have hb9 : Below w7.heap.size w8 w9 := hk9.below hz78 (fun j hj => (own_block_ge O8.out j hj).1)
              obtain ⟨A9, c9, hv9, _, _, hr9⟩ := own_rdc hown'
              subst hv9
              have HC := Lib.hid (HPc.out A9 c9 w9 hr9)
              have RP9 := Lib.hid ((RPb.out.below hb9).here)
              have RQ9 := Lib.hid ((RQb.out.below hb9).here)
              have B9 := Lib.hid (B8.out.trans (hb9.mono hzw7))
              clear hown' hgrow hk9 hb9 hr9
              go_wp2_with fail
              refine (HC.out).mono ?_
              rintro e w10 hO
              obtain ⟨A10, c10, rfl, _, _, hr10, hb10⟩ := hO.rd
              have HZ := Lib.hid (And.intro hr10 (And.intro (RP9.out.on hb10) (And.intro (RQ9.out.on hb10) (chain (Nat.le_refl _) B9.out hb10))))
              clear hO hr10 hb10 HC
              go_wp2_with fail
              go_meet
              exact ⟨A10, c10, rfl, HZ.out⟩
          case rest =>
            obtain ⟨A9, c9, rfl, hr9, hrP, hrQ, hb9⟩ := hcut
            have RR := Lib.hid hr9
            have RP := Lib.hid hrP
            have RQ := Lib.hid hrQ
            have B9 := Lib.hid hb9
            have RR2 : Hid (Rdc wc wc.heap.size A9 (bcells (P ++ Q.map (shB X.length)))) := by show Rdc _ _ _ _; rw [bcells_app]; exact hr9
            obtain ⟨w9, hw9⟩ : ∃ w9, w9 = wc := ⟨_, rfl⟩
            rw [← hw9] at RR2 RP RQ B9
            have hsum : ((P.length + Q.length : Nat) : Int) = (P.length : Int) + (Q.length : Int) := by omega
            clear hr9 hrP hrQ hb9 RR RP7 RQ7 RX7 RY7 B7 HPc
            rw [← hw9]
            clear hw9
            go_upto_block 4 with fail
            go_cut [] from 65 to 79 (fun wx => ∃ n, wx = w9.drewN n)
            case first =>
              go_wp2_with fail
              go_loopw [12] (fun v wr => ∃ i n : Nat, i ≤ P.length ∧ v = .int .i64 i ∧ wr = w9.drewN n) (fun v _ => P.length - (intOf v).toNat)
              case atStart => exact ⟨0, 0, Nat.zero_le _, rfl, rfl⟩
              case round =>
                obtain ⟨i, n, hi, rfl, rfl⟩ := hrel
                by_cases hlt : i < P.length
                · obtain ⟨b, o, rfl, hb, r0, r1, r2⟩ := RP.out.pair (List.getElem?_eq_getElem hlt)
                  obtain ⟨b', o', rfl, hb', k0, k1, k2⟩ := RR2.out.pair (i := i) (r := P[i]) (by rw [List.getElem?_append_left hlt]; exact List.getElem?_eq_getElem hlt)
                  generalize P[i].1 = x at *
                  generalize P[i].2.1 = y at *
                  generalize P[i].2.2 = z at *
                  have hz1 : (i : Int) < (P.length : Int) + (Q.length : Int) := by omega
                  have hz2 : i < P.length + Q.length := by omega
                  go_wp2_with fail
                  go_quiet (fail)
                  go_wp2_with fail
                  go_roundw
                  case rel => exact ⟨i + 1, n + nq, by omega, by go_num, rfl⟩
                  case measure => simp [intOf]; omega
                · go_wp2_with fail
                  go_meet
                  exact ⟨n, rfl⟩
            case rest =>
              obtain ⟨n0, rfl⟩ := hcut
              go_wp2_with fail
              go_loopw [13] (fun v wr => ∃ i n : Nat, i ≤ Q.length ∧ v = .int .i64 i ∧ wr = w9.drewN n) (fun v _ => Q.length - (intOf v).toNat)
              case atStart => exact ⟨0, n0, Nat.zero_le _, rfl, rfl⟩
              case round =>
                obtain ⟨i, n, hi, rfl, rfl⟩ := hrel
                by_cases hlt : i < Q.length
                · obtain ⟨b, o, rfl, hb, r0, r1, r2⟩ := RQ.out.pair (List.getElem?_eq_getElem hlt)
                  obtain ⟨b', o', rfl, hb', m0, m1, m2⟩ := RR2.out.pair (i := P.length + i) (r := shB X.length Q[i]) (by rw [List.getElem?_append_right (by omega), Nat.add_sub_cancel_left, List.getElem?_map, List.getElem?_eq_getElem hlt]; rfl)
                  obtain ⟨q1, q2, q3⟩ := hQb.out Q[i] (List.getElem_mem hlt)
                  have k0 : w9.cell? ⟨b', o' + (P.length + i) * 3, none⟩ = some (.int .i64 ((Q[i].1 : Int) + (X.length : Int))) := m0
                  have k1 : w9.cell? ⟨b', o' + (P.length + i) * 3 + 1, none⟩ = some (.int .i64 ((Q[i].2.1 : Int) + (X.length : Int))) := m1
                  have k2 : w9.cell? ⟨b', o' + (P.length + i) * 3 + 2, none⟩ = some (.int .i64 (Q[i].2.2 : Int)) := m2
                  clear m0 m1 m2
                  generalize Q[i].1 = x at *
                  generalize Q[i].2.1 = y at *
                  generalize Q[i].2.2 = z at *
                  have hz1 : (P.length : Int) + (i : Int) < (P.length : Int) + (Q.length : Int) := by omega
                  have hz2 : P.length + i < P.length + Q.length := by omega
                  have hz3 : (0 : Int) ≤ (P.length : Int) + (i : Int) := by omega
                  have hz4 : (i : Int) < (Q.length : Int) := by omega
                  have hta : ((P.length : Int) + (i : Int)).toNat = P.length + i := by omega
                  have hw1 : IntKind.i64.wrap ((P.length : Int) + (i : Int)) = (P.length : Int) + (i : Int) := by rw [IntKind.wrap_i64]; omega
                  obtain ⟨sx, hsx⟩ : ∃ sx : Int, sx = (x : Int) + (X.length : Int) := ⟨_, rfl⟩
                  obtain ⟨sy, hsy⟩ : ∃ sy : Int, sy = (y : Int) + (X.length : Int) := ⟨_, rfl⟩
                  rw [← hsx] at k0
                  rw [← hsy] at k1
                  have hw2 : IntKind.i64.wrap sx = sx := by rw [IntKind.wrap_i64]; omega
                  have hw3 : IntKind.i64.wrap sy = sy := by rw [IntKind.wrap_i64]; omega
                  have hs2 : (x : Int) + (X.length : Int) = sx := hsx.symm
                  have hs3 : (y : Int) + (X.length : Int) = sy := hsy.symm
                  clear hsx hsy
                  go_wp2_with fail
                  go_quiet (fail)
                  go_wp2_with fail
                  go_roundw
                  case rel => exact ⟨i + 1, n + nq, by omega, by go_num, rfl⟩
                  case measure => simp [intOf]; omega
                · go_wp2_with fail
                  go_ret
                  exact ⟨rfl, below_drewN B9.out n⟩

set_option maxRecDepth 100000 in
theorem lifted (os : Os) (started : os.Started) (H : Type) (enc : TypeId × Value → H) :
    ReturnsInHanded {} Try.checked os 6 .any (Rows.emphApartSpec.pre6 enc Try.prog Try.f6 Rows.emphApartRow.domain false) (Rows.emphApartSpec.post enc Try.prog Try.f6 false true false false) := by
  refine returnsInHanded_of_change_sized (C := Try.checked) Try.own started (by kernel_rfl) Try.func6
    (ChangeSpec.witness6 (enc := enc) (C := Try.checked) false ⟨#[], #[.slice none 0 0, .slice none 0 0], []⟩ 8 (by kernel_rfl) (by kernel_rfl) (by kernel_rfl) (by kernel_rfl)) ?_
  intro W base args ds gs before hval0 hW hcnd hsz0 _
  have hval : ∀ (j : Nat) t v, Try.f6.params[j]? = some t → args[j]? = some v → Value.okWide Try.prog W .any base t v := hval0
  have hW' := hW
  obtain ⟨p, q, hA0, hV, rfl, hfz, hnd⟩ := hW
  have hA : DataW.TrodAll enc Try.prog W 0 (fun _ => true) true Try.f6.params.toList args.toList ds p := hA0
  have hsz : (DataW.weightsEach Try.prog (Try.f6.params.toList ++ Rows.emphApartSpec.plain.varTypes Try.prog) (ds ++ gs)).all (· ≤ reachBytes) = true := hsz0
  rw [Try.params6] at hA hval hsz
  obtain ⟨v0, vs0, d0, ds0, p0, q0, hargs, rfl, rfl, h0, r0⟩ := trodAll_cons hA
  obtain ⟨v1, vs1, d1, ds1, p1, q1, rfl, rfl, rfl, h1, r1⟩ := trodAll_cons r0
  obtain ⟨rfl, rfl, rfl⟩ := trodAll_nil r1
  obtain rfl : args = #[v0, v1] := by cases args; simp_all
  obtain ⟨rfl, rfl⟩ := trodVars_none hV
  obtain ⟨A, c, L, rfl, hAc, hrd, hl, hm, hn⟩ := open_runs (okWide_slice Try.underlying22 (hval 0 22 v0 rfl rfl)) h0 (fun n hn => by
    have := List.all_eq_true.1 hsz n (DataW.weights_mem_each (j := 0) (t := 22) rfl rfl n hn)
    simpa using this)
  obtain ⟨A', c', L', rfl, hAc', hrd', hl', hm', hn'⟩ := open_runs (okWide_slice Try.underlying22 (hval 1 22 v1 rfl rfl)) h1 (fun n hn => by
    have := List.all_eq_true.1 hsz n (DataW.weights_mem_each (j := 1) (t := 22) rfl rfl n hn)
    simpa using this)
  clear hA0 hval0
  simp only [List.append_nil] at hW'
  have hlt : ∀ x ∈ p0, x.block < W.heap.size := fun x hx => hW'.lt x (by simp [hx])
  have hlt' : ∀ x ∈ p1, x.block < W.heap.size := fun x hx => hW'.lt x (by simp [hx])
  refine (walk A c hAc L hl A' c' hAc' L' hl' W hrd hrd').mono fun e W' ⟨he, hg⟩ => ?_
  subst he
  exact ⟨_, rfl, _, _, _, [], p0 ++ (p1 ++ []), [], hW', (trodAll_cons_mk (shut_bool Try.underlying4 _) trodAll_mk0), (trodAll_cons_mk (Below.trod Try.laidOut (by kernel_rfl) (of_decide_eq_true (by kernel_rfl)) h0 hg hlt) (trodAll_cons_mk (Below.trod Try.laidOut (by kernel_rfl) (of_decide_eq_true (by kernel_rfl)) h1 hg hlt') trodAll_mk0)), rfl, hg.frame _, fun h => by cases h⟩

theorem over : Rows.emphApartRow.holds Try.pinned (OpenSpec.ofChange Rows.emphApartSpec) :=
  OpenClaim.holds_of_wide 6 Try.f6 rfl rfl rfl rfl rfl rfl rfl ⟨rfl, rfl, rfl, rfl, rfl⟩ rfl rfl rfl rfl rfl (by kernel_rfl) Try.func6 (by kernel_rfl)
    (of_decide_eq_true (by kernel_rfl)) (by unfold Func.isWrapper; first | (rw [if_pos (by decide +kernel)]; kernel_rfl) | (rw [if_neg (by decide +kernel)]; exact ⟨rfl, rfl⟩))
    (fun os started H enc _ => lifted os started H enc)

theorem proved : Rows.EmphApartSaid :=
  over
#print axioms proved
end Go.Proofs.Ytldillhgpjmjpaa.emphApart
