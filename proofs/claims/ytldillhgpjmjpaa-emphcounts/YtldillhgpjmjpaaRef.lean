/-
  PROVED: contract of the document's own solve. Conditions: the slice lies in memory that holds the rows, at most 600 of them.
-/
import Derived.Test.YtldillhgpjmjpaaRefMem
import Derived.Deep.CutBlock
import Derived.Deep.CutRange
import Derived.Deep.LoopGhost
import Derived.Lib.QuietBelow
namespace Go.Proofs.Ytldillhgpjmjpaa
open Go.ChangeShapes Go.WideShapes Go.ChangeAt Go.RowKit Go.Sort
set_option linter.unusedVariables false

theorem rw_of (L : List Rw) (i : Nat) (h : i < L.length) : L[i]? = some (rw L i) := by
  unfold rw
  simp [List.getD, List.getElem?_eq_getElem h]
theorem num_of (r : Rw) (h : ¬ (1 ≤ r.n ∧ r.n ≤ 1048576)) : num r = 0 := by unfold num; rw [if_neg h]
theorem num_in (r : Rw) (h : 1 ≤ r.n ∧ r.n ≤ 1048576) : (num r : Int) = r.n := by unfold num; rw [if_pos h]; omega

def SameW (a b : World) : Prop := a = b
def fz : Option Nat → Int
  | none => -1
  | some o => (o : Int)
theorem below_dr {B : Nat} {a w : World} (h : Below B a w) (n : Nat) : Below B a (w.drewN n) := ⟨h.os, h.tape, h.output, h.size, h.block⟩
/-- What solve comes to. -/
def SvDid (L : List Rw) (w : World) (e : Ending) (w' : World) : Prop := ∃ vP vL, e = .returned (.tuple #[vP, vL]) ∧ w'.ownsRow w.heap.size 33 3 vP (pairsM L).length (bcells (pairsM L)) ∧ w'.ownsRow w.heap.size 3 1 vL (leftM L).length (ints (leftM L)) ∧ Below w.heap.size w w'
set_option maxHeartbeats 8000000 in
set_option maxRecDepth 100000 in
theorem solve_any (A : Option Addr) (ca : Nat) (L : List Rw) (hl : L.length ≤ 600) (w : World) (h : Rdc w w.heap.size A (rcells L)) :
    Calls Try.prog 18 #[.slice A L.length ca] w (SvDid L w) := by
  obtain ⟨i3, hi3, h30, h31, h32⟩ := info_parts Try.info3
  obtain ⟨i4, hi4, h40, h41, h42⟩ := info_parts Try.info4
  obtain ⟨i33, hi33, h330, h331, h332⟩ := info_parts Try.info33
  have HRd := Lib.hid h
  clear h
  go_enter Try.func18, Try.ntmps18
  go_wp2_with (at_make; refine wpList_make_full _ rfl _ _ 55 rfl w.heap.size 4 i4 (.bool false) 1 Try.underlying55 hi4 h40 h41 .i64 .i64 _ _ L.length rfl rfl rfl rfl (by rw [h42]; omega) (by unfold maxLen; omega) (by simp; omega) ?_)
  intro w3 hown hgrow
  have HS : Hid (SR w w3 L.length 0 [] (fun i => num (rw L i)) (fun _ => false) (.slice (some ⟨w.heap.size, 0, none⟩) 0 0) (.slice (some ⟨w.heap.size + 1, 0, none⟩) 0 0) (.slice (some ⟨w.heap.size + 1 + 1, 0, none⟩) L.length L.length)) := by
    have e1 := own_empty w w.heap.size 33 3 (Nat.le_refl _)
    have e2 := own_empty (w.alloc (.cells #[] 33)) w.heap.size 3 1 (by simp)
    rw [World.size_alloc] at e2
    refine ⟨(e1.alloc _).kept hgrow (Or.inr (by simp [Value.ownBlock])), e2.kept hgrow (Or.inr (by simp [Value.ownBlock])), ?_, (((Below.refl _ w).alloc (Nat.le_refl _) _).alloc (by simp) _).grown hgrow (by simp; omega) (fun k hk => by cases hk)⟩
    have e3 : deads (fun _ => false) L.length = (madeCells #[Value.bool false] L.length).toList := by
      rw [toList_madeCells_one]
      unfold deads
      rw [List.map_const']
      simp
    rw [e3]
    exact hown
  have HS2 : Hid (lefts (fun i => num (rw L i)) 0 = []) := rfl
  clear hown hgrow
  go_upto_block 0 with fail
  go_cut [5] from 18 to 38 (fun v wx => SR w wx L.length L.length [] (fun i => num (rw L i)) (fun _ => false) (.slice (some ⟨w.heap.size, 0, none⟩) 0 0) v (.slice (some ⟨w.heap.size + 1 + 1, 0, none⟩) L.length L.length))
  case first =>
    go_wp2_with fail
    go_loopw [5, 7] (fun s5 v wr => ∃ i : Nat, v = .int .i64 i ∧ i ≤ L.length ∧ SR w wr L.length i [] (fun i => num (rw L i)) (fun _ => false) (.slice (some ⟨w.heap.size, 0, none⟩) 0 0) s5 (.slice (some ⟨w.heap.size + 1 + 1, 0, none⟩) L.length L.length)) (fun _ v _ => L.length - (intOf v).toNat)
    case atStart => exact ⟨0, rfl, Nat.zero_le _, HS.out⟩
    case round =>
      obtain ⟨i, rfl, hi, hr⟩ := hrel
      have HR := Lib.hid hr
      obtain ⟨A5, c5, hs5⟩ := own_sl hr.oL
      subst hs5
      by_cases hlt : i < L.length
      · obtain ⟨b, o, rfl, hb, r0, r1, r2, r3⟩ := (HRd.out.below hr.bl).run (rw_of L i hlt)
        have HO := Lib.hid hr.oL
        have hsz := hr.bl.size
        have HF : Hid (∀ (gB cB' : Nat) (w6 : World), w6.ownsRow w.heap.size 3 1 (.slice (some ⟨gB, 0, none⟩) (i + 1) cB') (i + 1) (lefts (fun i => num (rw L i)) i ++ [.int .i64 (num (rw L i))]) → Kept (fun j => (Value.slice A5 i c5).ownBlock = some j) wr w6 → SR w w6 L.length (i + 1) [] (fun i => num (rw L i)) (fun _ => false) (.slice (some ⟨w.heap.size, 0, none⟩) 0 0) (.slice (some ⟨gB, 0, none⟩) (i + 1) cB') (.slice (some ⟨w.heap.size + 1 + 1, 0, none⟩) L.length L.length)) :=
          fun gB cB' w6 ho hk => HR.out.putL hk (by rw [lefts_succ]; exact ho)
        obtain ⟨N, hN⟩ : ∃ N, N = num (rw L i) := ⟨_, rfl⟩
        obtain ⟨nn, hnn⟩ : ∃ nn, nn = (rw L i).n := ⟨_, rfl⟩
        have hNN : (1 ≤ nn ∧ nn ≤ 1048576 → (N : Int) = nn) ∧ (¬ (1 ≤ nn ∧ nn ≤ 1048576) → N = 0) := by rw [hN, hnn]; exact ⟨num_in _, num_of _⟩
        rw [← hN] at HF
        rw [← hnn] at r1
        clear hr r0 r2 r3 hN hnn
        obtain ⟨X, hX⟩ : ∃ X : Int, X = N := ⟨_, rfl⟩
        have HXX := Lib.hid hX
        by_cases hin : 1 ≤ nn ∧ nn ≤ 1048576
        · obtain ⟨h1, h2⟩ := hin
          have hXn := hNN.1 ⟨h1, h2⟩
          have q1 : ¬ nn < 1 := by omega
          have q2 : ¬ 1048576 < nn := by omega
          have hnX : nn = X := by rw [hX, hXn]
          subst hnX
          clear hX hXn hNN
          go_wp2_with (at_builtin; refine wpList_append_lies _ rfl _ _ 29 rfl w.heap.size 3 i3 (.int .i64 0) 1 8 Try.underlying29 hi3 h30 h31 h32 rfl (by decide) (.slice A5 i c5) i (lefts (fun i => num (rw L i)) i) rfl (HO.out.alloc _) ⟨wr.heap.size, 0, none⟩ 1 1 [.int .i64 nn] rfl rfl (World.news_of_block (heap_alloc_new _ _)) (by intro u hu; simp at hu; subst hu; rfl) (by decide) (by unfold maxLen; omega) (by omega) (by simp; omega) _ rfl ?_)
          intro gB cB' w6 hown hgrow hat hlt4
          have HZ := Lib.hid (HF.out gB cB' w6 (by rw [← HXX.out]; exact hown) ((Kept.alloc _ wr _).trans (Kept.grown _ hgrow (fun _ e => e)) (fun _ _ => id)))
          clear hown hgrow hat
          go_wp2_with fail
          go_roundw
          case rel => exact ⟨i + 1, by go_num, by omega, HZ.out⟩
          case measure => simp [intOf]; omega
        · have hX0 : X = 0 := by rw [hX, hNN.2 hin]; rfl
          subst hX0
          clear hX hNN
          by_cases h1 : nn < 1
          · go_wp2_with (at_builtin; refine wpList_append_lies _ rfl _ _ 29 rfl w.heap.size 3 i3 (.int .i64 0) 1 8 Try.underlying29 hi3 h30 h31 h32 rfl (by decide) (.slice A5 i c5) i (lefts (fun i => num (rw L i)) i) rfl (HO.out.alloc _) ⟨wr.heap.size, 0, none⟩ 1 1 [.int .i64 0] rfl rfl (World.news_of_block (heap_alloc_new _ _)) (by intro u hu; simp at hu; subst hu; rfl) (by decide) (by unfold maxLen; omega) (by omega) (by simp; omega) _ rfl ?_)
            intro gB cB' w6 hown hgrow hat hlt4
            have HZ := Lib.hid (HF.out gB cB' w6 (by rw [← HXX.out]; exact hown) ((Kept.alloc _ wr _).trans (Kept.grown _ hgrow (fun _ e => e)) (fun _ _ => id)))
            clear hown hgrow hat
            go_wp2_with fail
            go_roundw
            case rel => exact ⟨i + 1, by go_num, by omega, HZ.out⟩
            case measure => simp [intOf]; omega
          · have h2 : 1048576 < nn := by omega
            go_wp2_with (at_builtin; refine wpList_append_lies _ rfl _ _ 29 rfl w.heap.size 3 i3 (.int .i64 0) 1 8 Try.underlying29 hi3 h30 h31 h32 rfl (by decide) (.slice A5 i c5) i (lefts (fun i => num (rw L i)) i) rfl (HO.out.alloc _) ⟨wr.heap.size, 0, none⟩ 1 1 [.int .i64 0] rfl rfl (World.news_of_block (heap_alloc_new _ _)) (by intro u hu; simp at hu; subst hu; rfl) (by decide) (by unfold maxLen; omega) (by omega) (by simp; omega) _ rfl ?_)
            intro gB cB' w6 hown hgrow hat hlt4
            have HZ := Lib.hid (HF.out gB cB' w6 (by rw [← HXX.out]; exact hown) ((Kept.alloc _ wr _).trans (Kept.grown _ hgrow (fun _ e => e)) (fun _ _ => id)))
            clear hown hgrow hat
            go_wp2_with fail
            go_roundw
            case rel => exact ⟨i + 1, by go_num, by omega, HZ.out⟩
            case measure => simp [intOf]; omega
      · have hi2 : i = L.length := by omega
        subst hi2
        clear hr
        go_wp2_with fail
        go_meet
        exact HR.out
  case rest =>
    have HC := Lib.hid hcut
    clear hcut HS
    obtain ⟨qd, hqd⟩ : ∃ qd, qd = w.heap.size + 1 + 1 := ⟨_, rfl⟩
    rw [← hqd] at HC
    rw [← hqd]
    clear hqd
    go_upto_block 5 with fail
    go_wp2_with fail
    go_loopw [4, 9] (fun s4 v wr => ∃ (c : Nat) (d : Nat → Bool), v = .int .i64 c ∧ c ≤ L.length ∧ SR w wr L.length L.length (expand (runM L c).2.2) (runM L c).2.1 d s4 u5 (.slice (some ⟨qd, 0, none⟩) L.length L.length) ∧ SOk L c (runM L c).1 (runM L c).2.1 d) (fun _ v _ => L.length - (intOf v).toNat)
    case atStart => exact ⟨0, _, rfl, Nat.zero_le _, HC.out, SOk.start L⟩
    case round =>
      obtain ⟨c, d, rfl, hc, hr, hk⟩ := hrel
      have HR := Lib.hid (And.intro hr hk)
      obtain ⟨A4, c4, hs4⟩ := own_sl hr.oP
      subst hs4
      clear HC
      by_cases hlt : c < L.length
      · obtain ⟨ql, cl, hu5, _⟩ := hr.lat (by omega)
        subst hu5
        obtain ⟨st, hst⟩ : ∃ st, st = (runM L c).1 := ⟨_, rfl⟩
        obtain ⟨lf, hlf⟩ : ∃ lf, lf = (runM L c).2.1 := ⟨_, rfl⟩
        obtain ⟨P, hP⟩ : ∃ P, P = expand (runM L c).2.2 := ⟨_, rfl⟩
        rw [← hst, ← hlf] at hk
        rw [← hlf, ← hP] at hr
        rw [← hst, ← hlf, ← hP] at HR
        obtain ⟨R, hR⟩ : ∃ R, R = clsM L c (st, lf, (runM L c).2.2) := ⟨_, rfl⟩
        have HStep : Hid (runM L (c + 1) = (if (rw L c).o = true ∧ ¬ R.2.1 c = 0 then c :: R.1 else R.1, R.2.1, (runM L c).2.2 ++ R.2.2)) := by
          show runM L (c + 1) = _
          rw [hR, hst, hlf]
          rfl
        have HLen : Hid ((P ++ expand R.2.2).length ≤ 361200 * 1048576) := by
          have e : (runM L (c + 1)).2.2 = (runM L c).2.2 ++ R.2.2 := by rw [HStep.out]
          have h1 := expand_len (runM L (c + 1)).2.2 (run_q L (c + 1))
          have h2 := run_len L 600 (c + 1) (by omega)
          rw [hP, ← expand_app, ← e]
          have h3 : (c + 1) * 601 ≤ 600 * 601 := Nat.mul_le_mul_right _ (by omega)
          exact Nat.le_trans h1 (Nat.mul_le_mul_right _ (by omega))
        have HPe : Hid (P = expand (runM L c).2.2) := hP
        have HFin : Hid ((rw L c).c = true → resM (FF L c) c (st.length + 1) st lf P = (R.1, R.2.1, P ++ expand R.2.2)) := fun hcl => by
          have hRR : R = closeM (FF L c) c (st.length + 1) st lf := by rw [hR, clsM, hcl]; rfl
          rw [hRR]
          rfl
        have HNo : Hid ((rw L c).c = false → R = (st, lf, [])) := fun hcl => by rw [hR, clsM, hcl]; rfl
        have hPl : P.length = (expand (runM L c).2.2).length := by rw [hP]
        rw [← hPl]
        clear hst hlf hP hR hr hk
        go_upto_block 3 with fail
        go_cut [4] from 45 to 160 (fun v wx => ∃ d', SR w wx L.length L.length (P ++ expand R.2.2) R.2.1 d' v (.slice (some ⟨ql, 0, none⟩) L.length cl) (.slice (some ⟨qd, 0, none⟩) L.length L.length) ∧ SOk L c R.1 R.2.1 d')
        case first =>
          go_wp2_with fail
          go_loopg [4] (lf c) (fun k v4 wr => ∃ (st' : List Nat) (lf' : Nat → Nat) (d' : Nat → Bool) (P' : List Bd), SR w wr L.length L.length P' lf' d' v4 (.slice (some ⟨ql, 0, none⟩) L.length cl) (.slice (some ⟨qd, 0, none⟩) L.length L.length) ∧ SOk L c st' lf' d' ∧ lf' c ≤ k ∧ ((rw L c).c = true → resM (FF L c) c (st'.length + 1) st' lf' P' = (R.1, R.2.1, P ++ expand R.2.2)) ∧ ((rw L c).c = false → R.1 = st' ∧ R.2.1 = lf' ∧ R.2.2 = [] ∧ P' = P))
          case atStart => exact ⟨st, lf, d, P, HR.out.1, HR.out.2, Nat.le_refl _, HFin.out, fun h => by rw [HNo.out h]; exact ⟨rfl, rfl, rfl, rfl⟩⟩
          case round =>
            obtain ⟨st', lf', d', P', hS, hK, hgk, hE1, hE0⟩ := hrel
            have HS := Lib.hid hS
            have HK2 := Lib.hid hK
            have HGk := Lib.hid hgk
            clear HR HFin HNo
            obtain ⟨A4', c4', hs4'⟩ := own_sl hS.oP
            subst hs4'
            obtain ⟨ql', cl', hq1, hqll, hqlc, hqlf⟩ := hS.lat (by omega)
            obtain ⟨qd', cd', hq2, hqdl, hqdc, hqdf⟩ := hS.dat (by omega)
            obtain rfl : ql' = ql := by injection hq1 with e1 _ _; injection e1 with e1; injection e1 with e1; exact e1.symm
            obtain rfl : qd' = qd := by injection hq2 with e1 _ _; injection e1 with e1; injection e1 with e1; exact e1.symm
            obtain ⟨b, o, rfl, hb, s0, s1, s2, s3⟩ := (HRd.out.below hS.bl).run (rw_of L c hlt)
            have hcc := hqlc c hlt
            have hdc := hqdc c hlt
            rw [hK.dd c (Nat.le_refl _)] at hdc
            clear hq1 hq2
            cases hcl : (rw L c).c with
            | false =>
              rw [hcl] at s3
              obtain ⟨e1, e2, e3, e4⟩ := hE0 hcl
              have HX : Hid (∃ d', SR w wr L.length L.length (P ++ expand R.2.2) R.2.1 d' (.slice A4' P'.length c4') (.slice (some ⟨ql', 0, none⟩) L.length cl) (.slice (some ⟨qd', 0, none⟩) L.length L.length) ∧ SOk L c R.1 R.2.1 d') := by
                rw [e1, e2, e3]
                have e5 : P ++ expand [] = P' := by rw [e4]; simp [expand]
                rw [e5]
                exact ⟨d', hS, hK⟩
              clear hS hK hgk hE1 hE0 e1 e2 e3 e4 hcl s0 s1 s2 hqlc hqdc hqlf hqdf
              go_wp2_with fail
              go_meet
              exact HX.out
            | true =>
              rw [hcl] at s3
              have hE := hE1 hcl
              have HCc := Lib.hid hcl
              by_cases hlz : lf' c = 0
              · have HX : Hid (∃ d', SR w wr L.length L.length (P ++ expand R.2.2) R.2.1 d' (.slice A4' P'.length c4') (.slice (some ⟨ql', 0, none⟩) L.length cl) (.slice (some ⟨qd', 0, none⟩) L.length L.length) ∧ SOk L c R.1 R.2.1 d') := by
                  unfold resM at hE
                  rw [closeM_done hlz] at hE
                  have e0 : expand ([] : List Bd) = [] := rfl
                  simp only [e0, List.append_nil] at hE
                  injection hE with e1 hE
                  injection hE with e2 e3
                  rw [← e1, ← e2, ← e3]
                  exact ⟨d', hS, hK⟩
                rw [hlz] at hcc
                clear hS hK hgk hE1 hE0 hE hlz hcl s0 s1 s2 hqlc hqdc hqlf hqdf
                go_wp2_with fail
                go_meet
                exact HX.out
              · have HE := Lib.hid hE
                have HLc : Hid (¬ lf' c = 0) := hlz
                obtain ⟨y, hy⟩ : ∃ y, y = lf' c := ⟨_, rfl⟩
                have HY := Lib.hid hy
                rw [← hy] at hcc
                have hy0 : (0 : Int) < (y : Int) := by omega
                have HQl := Lib.hid hqlc
                have HQd := Lib.hid hqdc
                have HQf := Lib.hid (And.intro hqlf hqdf)
                have hcz : (c : Int) < (L.length : Int) := by omega
                clear hS hK hgk hE1 hE0 hE hcl hlz hy s0 s1 s2 hqlc hqdc hqlf hqdf
                go_upto_block 6 with fail
                go_cut [10] from 66 to 115 (fun v wx => v = .int .i64 (fz (fnd (cnd L d' lf' c) c)) ∧ SR w wx L.length L.length P' lf' d' (.slice A4' P'.length c4') (.slice (some ⟨ql', 0, none⟩) L.length cl) (.slice (some ⟨qd', 0, none⟩) L.length L.length))
                case first =>
                  go_wp2_with fail
                  go_loopw [10] (fun v wr => ∃ (j : Nat) (z : Int), v = .int .i64 z ∧ z = (j : Int) - 1 ∧ j ≤ c ∧ fz (fnd (cnd L d' lf' c) c) = fz (fnd (cnd L d' lf' c) j) ∧ SR w wr L.length L.length P' lf' d' (.slice A4' P'.length c4') (.slice (some ⟨ql', 0, none⟩) L.length cl) (.slice (some ⟨qd', 0, none⟩) L.length L.length)) (fun v _ => ((intOf v) + 1).toNat)
                  case atStart => exact ⟨c, _, rfl, rfl, Nat.le_refl _, rfl, HS.out⟩
                  case round =>
                    clear hcc hdc s3
                    obtain ⟨j, z, rfl, hz, hj, hv, hS⟩ := hrel
                    have HVv := Lib.hid hv
                    clear hv HS
                    have HS := Lib.hid hS
                    rcases j with _ | j
                    · obtain rfl : z = -1 := by omega
                      clear hz hS
                      go_wp2_with fail
                      go_quiet (fail)
                      go_wp2_with fail
                      go_meet
                      exact ⟨by rw [HVv.out]; rfl, ⟨HS.out.oP, HS.out.oL, HS.out.oD, below_dr HS.out.bl _⟩⟩
                    · obtain rfl : z = (j : Int) := by omega
                      clear hz
                      have hjc : j < c := by omega
                      have hjl : j < L.length := by omega
                      obtain ⟨b', o', e1, hb', k0, k1, k2, k3⟩ := (HRd.out.below hS.bl).run (rw_of L j hjl)
                      obtain ⟨b'', o'', e2, hb'', s0, s1, s2, s3⟩ := (HRd.out.below hS.bl).run (rw_of L c hlt)
                      cases e1
                      cases e2
                      obtain ⟨ql2, cl2, hq1, _, hl0, _⟩ := hS.lat (by omega)
                      obtain ⟨qd2, cd2, hq2, _, hd0, _⟩ := hS.dat (by omega)
                      have eq1 : ql2 = ql' := by injection hq1 with e1 _ _; injection e1 with e1; injection e1 with e1; exact e1.symm
                      have eq2 : qd2 = qd' := by injection hq2 with e1 _ _; injection e1 with e1; injection e1 with e1; exact e1.symm
                      subst eq1 eq2
                      have l0 := hl0 j hjl
                      have d0 := hd0 j hjl
                      have hjz : (j : Int) < (L.length : Int) := by omega
                      have HFl : Hid (cnd L d' lf' c j = false → fz (fnd (cnd L d' lf' c) c) = fz (fnd (cnd L d' lf' c) j)) := fun h => by rw [HVv.out, fnd, if_neg (by rw [h]; simp)]
                      have HFt : Hid (cnd L d' lf' c j = true → fz (fnd (cnd L d' lf' c) c) = (j : Int)) := fun h => by rw [HVv.out, fnd, if_pos h]; rfl
                      rw [HCc.out] at s3
                      clear hq1 hq2 hl0 hd0 hS HVv
                      cases ho : (rw L j).o with
                      | false =>
                        rw [ho] at k2
                        have HF0 : Hid (cnd L d' lf' c j = false) := by show _ = _; unfold cnd alv; rw [ho]; rfl
                        clear ho
                        have y0 := cell_regrown s0
                        have y1 := cell_regrown s1
                        have y2 := cell_regrown s2
                        have y3 := cell_regrown s3
                        have y4 := cell_regrown k0
                        have y5 := cell_regrown k1
                        have y6 := cell_regrown k2
                        have y7 := cell_regrown k3
                        have y8 := cell_regrown l0
                        have y9 := cell_regrown d0
                        clear s0 s1 s2 s3 k0 k1 k2 k3 l0 d0
                        go_wp2_with fail
                        refine wp_region_quiet_below Try.mixed (by kernel_rfl) ?_
                        repeat (go_big_quiet_step (fail))
                        refine wpQuiet_nil ?_
                        intro _ hw'
                        obtain ⟨⟨dq, osq⟩, hw''⟩ := hw'
                        subst hw''
                        obtain ⟨w7, hw7⟩ : ∃ w7, w7 = grow (redrawn wr dq) osq := ⟨_, rfl⟩
                        have H7 : Hid (SR w w7 L.length L.length P' lf' d' (.slice A4' P'.length c4') (.slice (some ⟨ql2, 0, none⟩) L.length cl) (.slice (some ⟨qd2, 0, none⟩) L.length L.length)) := by show SR _ _ _ _ _ _ _ _ _ _; rw [hw7]; exact HS.out.under (below_regrown wr dq osq)
                        show Exit.then _ _ _ _ _
                        rw [← hw7]
                        clear hw7 y0 y1 y2 y3 y4 y5 y6 y7 y8 y9
                        go_wp2_with fail
                        go_roundw
                        case rel => exact ⟨j, _, rfl, by go_num, by omega, HFl.out HF0.out, H7.out⟩
                        case measure => simp [intOf]
                      | true =>
                        rw [ho] at k2
                        cases hdj : d' j with
                        | true =>
                          rw [hdj] at d0
                          have HF0 : Hid (cnd L d' lf' c j = false) := by show _ = _; unfold cnd alv; rw [hdj]; simp
                          clear ho hdj
                          have y0 := cell_regrown s0
                          have y1 := cell_regrown s1
                          have y2 := cell_regrown s2
                          have y3 := cell_regrown s3
                          have y4 := cell_regrown k0
                          have y5 := cell_regrown k1
                          have y6 := cell_regrown k2
                          have y7 := cell_regrown k3
                          have y8 := cell_regrown l0
                          have y9 := cell_regrown d0
                          clear s0 s1 s2 s3 k0 k1 k2 k3 l0 d0
                          go_wp2_with fail
                          refine wp_region_quiet_below Try.mixed (by kernel_rfl) ?_
                          repeat (go_big_quiet_step (fail))
                          refine wpQuiet_nil ?_
                          intro _ hw'
                          obtain ⟨⟨dq, osq⟩, hw''⟩ := hw'
                          subst hw''
                          obtain ⟨w7, hw7⟩ : ∃ w7, w7 = grow (redrawn wr dq) osq := ⟨_, rfl⟩
                          have H7 : Hid (SR w w7 L.length L.length P' lf' d' (.slice A4' P'.length c4') (.slice (some ⟨ql2, 0, none⟩) L.length cl) (.slice (some ⟨qd2, 0, none⟩) L.length L.length)) := by show SR _ _ _ _ _ _ _ _ _ _; rw [hw7]; exact HS.out.under (below_regrown wr dq osq)
                          show Exit.then _ _ _ _ _
                          rw [← hw7]
                          clear hw7 y0 y1 y2 y3 y4 y5 y6 y7 y8 y9
                          go_wp2_with fail
                          go_roundw
                          case rel => exact ⟨j, _, rfl, by go_num, by omega, HFl.out HF0.out, H7.out⟩
                          case measure => simp [intOf]
                        | false =>
                          rw [hdj] at d0
                          by_cases hmk : (rw L j).m = (rw L c).m
                          · have q1 : ((rw L j).m != (rw L c).m) = false := by simp [hmk]
                            by_cases hlz : lf' j = 0
                            · have HF0 : Hid (cnd L d' lf' c j = false) := by show _ = _; unfold cnd alv; rw [hlz]; simp
                              rw [hlz] at l0
                              have HMk := Lib.hid hmk
                              clear ho hdj hmk hlz
                              obtain ⟨mj, hmj⟩ : ∃ mj, mj = (rw L j).m := ⟨_, rfl⟩
                              obtain ⟨mc, hmc⟩ : ∃ mc, mc = (rw L c).m := ⟨_, rfl⟩
                              rw [← hmj] at k0 q1
                              rw [← hmc] at s0 q1
                              clear hmj hmc
                              have y0 := cell_regrown s0
                              have y1 := cell_regrown s1
                              have y2 := cell_regrown s2
                              have y3 := cell_regrown s3
                              have y4 := cell_regrown k0
                              have y5 := cell_regrown k1
                              have y6 := cell_regrown k2
                              have y7 := cell_regrown k3
                              have y8 := cell_regrown l0
                              have y9 := cell_regrown d0
                              clear s0 s1 s2 s3 k0 k1 k2 k3 l0 d0
                              go_wp2_with fail
                              refine wp_region_quiet_below Try.mixed (by kernel_rfl) ?_
                              repeat (go_big_quiet_step (fail))
                              refine wpQuiet_nil ?_
                              intro _ hw'
                              obtain ⟨⟨dq, osq⟩, hw''⟩ := hw'
                              subst hw''
                              obtain ⟨w7, hw7⟩ : ∃ w7, w7 = grow (redrawn wr dq) osq := ⟨_, rfl⟩
                              have H7 : Hid (SR w w7 L.length L.length P' lf' d' (.slice A4' P'.length c4') (.slice (some ⟨ql2, 0, none⟩) L.length cl) (.slice (some ⟨qd2, 0, none⟩) L.length L.length)) := by show SR _ _ _ _ _ _ _ _ _ _; rw [hw7]; exact HS.out.under (below_regrown wr dq osq)
                              show Exit.then _ _ _ _ _
                              rw [← hw7]
                              clear hw7 y0 y1 y2 y3 y4 y5 y6 y7 y8 y9
                              go_wp2_with fail
                              go_roundw
                              case rel => exact ⟨j, _, rfl, by go_num, by omega, HFl.out HF0.out, H7.out⟩
                              case measure => simp [intOf]
                            · have q2 : ((lf' j : Int) == 0) = false := by rw [beq_eq_false_iff_ne]; omega
                              have hin := HK2.out.lfc (show 0 < lf' j by omega)
                              have hinc := HK2.out.lfc (show 0 < lf' c by have := HLc.out; omega)
                              have HFv : Hid (cnd L d' lf' c j = fitR (rw L j) (rw L c)) := by
                                show _ = _
                                rw [fitR_eq _ _ hmk]
                                unfold cnd alv FF
                                rw [ho, hdj]
                                simp [hlz]
                              have HCall := Lib.hid (fun W => refFits_any (rw L j) (rw L c) hinc.1 hinc.2 hin.1 hin.2 W)
                              obtain ⟨bb, hbb⟩ : ∃ bb, bb = fitR (rw L j) (rw L c) := ⟨_, rfl⟩
                              rw [← hbb] at HFv HCall
                              have RF : Hid (∀ d os, Calls Try.prog 23 #[.agg #[.int .u8 (rw L j).m, .int .i64 (rw L j).n, .bool (rw L j).o, .bool (rw L j).c], .agg #[.int .u8 (rw L c).m, .int .i64 (rw L c).n, .bool (rw L c).o, .bool (rw L c).c]] (grow (redrawn wr d) os) fun e w'' => e = .returned (.bool bb) ∧ ∃ p : Regrown, w'' = grow (redrawn wr p.d) p.os) := fun d os => Calls.regrown_of (HCall.out _)
                              rw [ho] at RF
                              have HMk := Lib.hid hmk
                              have HLz : Hid (¬ lf' j = 0) := hlz
                              obtain ⟨x, hx⟩ : ∃ x, x = lf' j := ⟨_, rfl⟩
                              rw [← hx] at l0 q2
                              clear ho hdj hmk hlz hin hinc hbb HCall hx
                              obtain ⟨mj, hmj⟩ : ∃ mj, mj = (rw L j).m := ⟨_, rfl⟩
                              obtain ⟨mc, hmc⟩ : ∃ mc, mc = (rw L c).m := ⟨_, rfl⟩
                              obtain ⟨nj, hnj⟩ : ∃ nj, nj = (rw L j).n := ⟨_, rfl⟩
                              obtain ⟨nc, hnc⟩ : ∃ nc, nc = (rw L c).n := ⟨_, rfl⟩
                              obtain ⟨cj, hcj⟩ : ∃ cj, cj = (rw L j).c := ⟨_, rfl⟩
                              obtain ⟨oc, hoc⟩ : ∃ oc, oc = (rw L c).o := ⟨_, rfl⟩
                              rw [HCc.out] at RF
                              rw [← hmj, ← hmc, ← hnj, ← hnc, ← hcj, ← hoc] at RF
                              rw [← hmj] at k0 q1
                              rw [← hmc] at s0 q1
                              rw [← hnj] at k1
                              rw [← hnc] at s1
                              rw [← hcj] at k3
                              rw [← hoc] at s2
                              clear hmj hmc hnj hnc hcj hoc
                              cases bb with
                              | false =>
                                have HF0 : Hid (cnd L d' lf' c j = false) := HFv.out
                                clear HFv
                                have y0 := cell_regrown s0
                                have y1 := cell_regrown s1
                                have y2 := cell_regrown s2
                                have y3 := cell_regrown s3
                                have y4 := cell_regrown k0
                                have y5 := cell_regrown k1
                                have y6 := cell_regrown k2
                                have y7 := cell_regrown k3
                                have y8 := cell_regrown l0
                                have y9 := cell_regrown d0
                                clear s0 s1 s2 s3 k0 k1 k2 k3 l0 d0
                                go_wp2_with fail
                                refine wp_region_quiet_below Try.mixed (by kernel_rfl) ?_
                                repeat (go_big_quiet_step (first | (go_at_call 23; exact RF.out _ _)))
                                refine wpQuiet_nil ?_
                                intro _ hw'
                                obtain ⟨⟨dq, osq⟩, hw''⟩ := hw'
                                subst hw''
                                obtain ⟨w7, hw7⟩ : ∃ w7, w7 = grow (redrawn wr dq) osq := ⟨_, rfl⟩
                                have H7 : Hid (SR w w7 L.length L.length P' lf' d' (.slice A4' P'.length c4') (.slice (some ⟨ql2, 0, none⟩) L.length cl) (.slice (some ⟨qd2, 0, none⟩) L.length L.length)) := by show SR _ _ _ _ _ _ _ _ _ _; rw [hw7]; exact HS.out.under (below_regrown wr dq osq)
                                show Exit.then _ _ _ _ _
                                rw [← hw7]
                                clear hw7 y0 y1 y2 y3 y4 y5 y6 y7 y8 y9 RF
                                go_wp2_with fail
                                go_roundw
                                case rel => exact ⟨j, _, rfl, by go_num, by omega, HFl.out HF0.out, H7.out⟩
                                case measure => simp [intOf]
                              | true =>
                                have HF0 : Hid (cnd L d' lf' c j = true) := HFv.out
                                clear HFv
                                have y0 := cell_regrown s0
                                have y1 := cell_regrown s1
                                have y2 := cell_regrown s2
                                have y3 := cell_regrown s3
                                have y4 := cell_regrown k0
                                have y5 := cell_regrown k1
                                have y6 := cell_regrown k2
                                have y7 := cell_regrown k3
                                have y8 := cell_regrown l0
                                have y9 := cell_regrown d0
                                clear s0 s1 s2 s3 k0 k1 k2 k3 l0 d0
                                go_wp2_with fail
                                refine wp_region_quiet_below Try.mixed (by kernel_rfl) ?_
                                repeat (go_big_quiet_step (first | (go_at_call 23; exact RF.out _ _)))
                                refine wpQuiet_nil ?_
                                intro _ hw'
                                obtain ⟨⟨dq, osq⟩, hw''⟩ := hw'
                                subst hw''
                                obtain ⟨w7, hw7⟩ : ∃ w7, w7 = grow (redrawn wr dq) osq := ⟨_, rfl⟩
                                have H7 : Hid (SR w w7 L.length L.length P' lf' d' (.slice A4' P'.length c4') (.slice (some ⟨ql2, 0, none⟩) L.length cl) (.slice (some ⟨qd2, 0, none⟩) L.length L.length)) := by show SR _ _ _ _ _ _ _ _ _ _; rw [hw7]; exact HS.out.under (below_regrown wr dq osq)
                                show Exit.then _ _ _ _ _
                                rw [← hw7]
                                clear hw7 y0 y1 y2 y3 y4 y5 y6 y7 y8 y9 RF
                                go_wp2_with fail
                                go_meet
                                exact ⟨by rw [HFt.out HF0.out], H7.out⟩
                          · have q1 : ((rw L j).m != (rw L c).m) = true := by simp [hmk]
                            have HF0 : Hid (cnd L d' lf' c j = false) := by
                              show _ = _
                              unfold cnd FF fit
                              have : decide ((rw L c).m = (rw L j).m) = false := by simp; exact fun e => hmk e.symm
                              rw [this]
                              simp
                            obtain ⟨mj, hmj⟩ : ∃ mj, mj = (rw L j).m := ⟨_, rfl⟩
                            obtain ⟨mc, hmc⟩ : ∃ mc, mc = (rw L c).m := ⟨_, rfl⟩
                            rw [← hmj] at k0 q1
                            rw [← hmc] at s0 q1
                            clear ho hdj hmk hmj hmc
                            have y0 := cell_regrown s0
                            have y1 := cell_regrown s1
                            have y2 := cell_regrown s2
                            have y3 := cell_regrown s3
                            have y4 := cell_regrown k0
                            have y5 := cell_regrown k1
                            have y6 := cell_regrown k2
                            have y7 := cell_regrown k3
                            have y8 := cell_regrown l0
                            have y9 := cell_regrown d0
                            clear s0 s1 s2 s3 k0 k1 k2 k3 l0 d0
                            go_wp2_with fail
                            refine wp_region_quiet_below Try.mixed (by kernel_rfl) ?_
                            repeat (go_big_quiet_step (fail))
                            refine wpQuiet_nil ?_
                            intro _ hw'
                            obtain ⟨⟨dq, osq⟩, hw''⟩ := hw'
                            subst hw''
                            obtain ⟨w7, hw7⟩ : ∃ w7, w7 = grow (redrawn wr dq) osq := ⟨_, rfl⟩
                            have H7 : Hid (SR w w7 L.length L.length P' lf' d' (.slice A4' P'.length c4') (.slice (some ⟨ql2, 0, none⟩) L.length cl) (.slice (some ⟨qd2, 0, none⟩) L.length L.length)) := by show SR _ _ _ _ _ _ _ _ _ _; rw [hw7]; exact HS.out.under (below_regrown wr dq osq)
                            show Exit.then _ _ _ _ _
                            rw [← hw7]
                            clear hw7 y0 y1 y2 y3 y4 y5 y6 y7 y8 y9
                            go_wp2_with fail
                            go_roundw
                            case rel => exact ⟨j, _, rfl, by go_num, by omega, HFl.out HF0.out, H7.out⟩
                            case measure => simp [intOf]
                case rest =>
                  obtain ⟨hv, hS1⟩ := hcut
                  have HS1 := Lib.hid hS1
                  clear HS
                  cases hfd : fnd (cnd L d' lf' c) c with
                  | none =>
                    rw [hfd] at hv
                    have hv1 := hv
                    subst hv1
                    have HX : Hid (∃ d', SR w wc L.length L.length (P ++ expand R.2.2) R.2.1 d' (.slice A4' P'.length c4') (.slice (some ⟨ql', 0, none⟩) L.length cl) (.slice (some ⟨qd', 0, none⟩) L.length L.length) ∧ SOk L c R.1 R.2.1 d') := by
                      have hE := HE.out
                      have hd := HK2.out.find
                      rw [hfd] at hd
                      unfold resM at hE
                      rw [closeM_none hd] at hE
                      have e0 : expand ([] : List Bd) = [] := rfl
                      simp only [e0, List.append_nil] at hE
                      injection hE with e1 hE
                      injection hE with e2 e3
                      rw [← e1, ← e2, ← e3]
                      exact ⟨d', hS1, HK2.out⟩
                    clear hS1 hv hfd hcc hdc s3
                    have hz : fz none = -1 := rfl
                    rw [hz]
                    go_wp2_with fail
                    go_meet
                    exact HX.out
                  | some o1 =>
                    rw [hfd] at hv
                    have hv1 : _ = Value.int .i64 (o1 : Int) := hv
                    subst hv1
                    obtain ⟨hoc, hcd, _⟩ := fnd_some _ _ hfd
                    have hol : o1 < L.length := by omega
                    have hal : alv L d' lf' o1 = true := by unfold cnd at hcd; exact (Bool.and_eq_true _ _ ▸ hcd).1
                    have hd := HK2.out.find
                    rw [hfd] at hd
                    have hlo : ¬ lf' o1 = 0 := by unfold alv at hal; simp only [Bool.and_eq_true, decide_eq_true_eq] at hal; exact hal.2
                    obtain ⟨kk, hkk⟩ : ∃ kk, kk = if 2 ≤ lf' o1 ∧ 2 ≤ lf' c then 2 else 1 := ⟨_, rfl⟩
                    have hk1 : kk ≤ lf' o1 ∧ kk ≤ lf' c ∧ 1 ≤ kk ∧ kk ≤ 2 := by have := HLc.out; split at hkk <;> omega
                    have HMic : Hid (resM (FF L c) c ((if lf' o1 - kk = 0 then al (alv L d' lf') o1 else o1 :: al (alv L d' lf') o1).length + 1) (if lf' o1 - kk = 0 then al (alv L d' lf') o1 else o1 :: al (alv L d' lf') o1) (upd (upd lf' o1 (lf' o1 - kk)) c (lf' c - kk)) (P' ++ [(o1, c, kk)]) = (R.1, R.2.1, P ++ expand R.2.2)) := by
                      show _ = _
                      rw [← micro (FF L c) c st' lf' P' o1 _ hd HLc.out hlo (by omega) kk hkk]
                      exact HE.out
                    have hPl : P'.length < 361200 * 1048576 := by
                      have h1 := congrArg (fun s : Stk => s.2.2.length) HMic.out
                      unfold resM at h1
                      simp only [List.length_append, List.length_cons, List.length_nil] at h1
                      have h2 := HLen.out
                      rw [List.length_append] at h2
                      omega
                    have HAl := Lib.hid hal
                    have HKk := Lib.hid hk1
                    obtain ⟨ql2, cl2, hq1, _, hl0, hlf0⟩ := hS1.lat (by omega)
                    have eq1 : ql2 = ql' := by injection hq1 with e1 _ _; injection e1 with e1; injection e1 with e1; exact e1.symm
                    subst eq1
                    have l0 := hl0 o1 hol
                    have l1 := hl0 c hlt
                    rw [← HY.out] at l1
                    obtain ⟨x, hx⟩ : ∃ x, x = lf' o1 := ⟨_, rfl⟩
                    rw [← hx] at l0
                    have HXo := Lib.hid hx
                    have hkxy : kk = if 2 ≤ x ∧ 2 ≤ y then 2 else 1 := by rw [hkk, hx, HY.out]
                    have hkb : kk ≤ x ∧ kk ≤ y := by rw [hx, HY.out]; exact ⟨hk1.1, hk1.2.1⟩
                    have hoz : (o1 : Int) < (L.length : Int) := by omega
                    have hn0 : decide ((o1 : Int) < 0) = false := by simp
                    have hxb : x ≤ 1048576 := by rw [hx]; exact Nat.le_trans (HK2.out.bd o1) (num_bd _)
                    have hyb : y ≤ 1048576 := by rw [HY.out]; exact Nat.le_trans (HK2.out.bd c) (num_bd _)
                    have hkk2 : kk ≤ 2 := hk1.2.2.2
                    have HP1 := Lib.hid hS1.oP
                    have hsz := hS1.bl.size
                    clear hS1 hv hfd hcc hdc s3 hcd hal hd hlo hkk hk1 hq1 hl0 hlf0 hx
                    go_upto_region 20 with fail
                    go_cut [129] from 118 to 128 (fun v wx => v = .bool (decide (2 ≤ x) && decide (2 ≤ y)) ∧ SameW wc wx)
                    case first =>
                      by_cases hx2 : 2 ≤ x
                      · by_cases hy2 : 2 ≤ y
                        · have z1 : (2 : Int) ≤ (x : Int) := by omega
                          have z2 : (2 : Int) ≤ (y : Int) := by omega
                          clear hkxy hkb
                          go_wp2_with fail
                          go_meet
                          exact ⟨by simp [hx2, hy2], rfl⟩
                        · have z1 : (2 : Int) ≤ (x : Int) := by omega
                          have z2 : decide ((2 : Int) ≤ (y : Int)) = false := by simp; omega
                          have z3 : decide (2 ≤ y) = false := by simpa using hy2
                          clear hkxy hkb
                          go_wp2_with fail
                          go_meet
                          exact ⟨congrArg Value.bool (by rw [z3]; simp), rfl⟩
                      · have z1 : decide ((2 : Int) ≤ (x : Int)) = false := by simp; omega
                        have z3 : decide (2 ≤ x) = false := by simpa using hx2
                        clear hkxy hkb
                        go_wp2_with fail
                        go_meet
                        exact ⟨congrArg Value.bool (by rw [z3]; simp), rfl⟩
                    case rest =>
                      obtain ⟨hv0, hw0⟩ := hcut
                      have hv0 : _ = Value.bool (decide (2 ≤ x) && decide (2 ≤ y)) := hv0
                      subst hv0
                      unfold SameW at hw0
                      subst hw0
                      obtain ⟨tb, htb⟩ : ∃ tb, tb = (decide (2 ≤ x) && decide (2 ≤ y)) := ⟨_, rfl⟩
                      rw [← htb]
                      have HTb : Hid (kk = if tb = true then 2 else 1) := by
                        show _ = _
                        rw [hkxy, htb]
                        by_cases hx2 : 2 ≤ x <;> by_cases hy2 : 2 ≤ y <;> simp [hx2, hy2]
                      clear hkxy htb
                      go_upto_if 129 with fail
                      go_cut [11] from 118 to 129 (fun v wx => v = .int .i64 kk ∧ SameW wc wx)
                      case first =>
                        cases tb with
                        | true =>
                          obtain rfl : kk = 2 := HTb.out
                          clear HTb
                          go_wp2_with fail
                          go_meet
                          exact ⟨rfl, rfl⟩
                        | false =>
                          obtain rfl : kk = 1 := HTb.out
                          clear HTb
                          go_wp2_with fail
                          go_meet
                          exact ⟨rfl, rfl⟩
                      case rest =>
                        obtain ⟨hv1, hw1⟩ := hcut
                        have hv1 : _ = Value.int .i64 (kk : Int) := hv1
                        subst hv1
                        unfold SameW at hw1
                        subst hw1
                        clear HTb
                        go_wp2_with (at_builtin; refine wpList_append_lies _ rfl _ _ 26 rfl w.heap.size 33 i33 (.agg #[.int .i64 0, .int .i64 0, .int .i64 0]) 3 24 Try.underlying26 hi33 h330 h331 h332 rfl (by decide) (.slice A4' P'.length c4') P'.length (bcells P') rfl (HP1.out.alloc _) ⟨wc.heap.size, 0, none⟩ 1 1 (bcell (o1, c, kk)) rfl rfl (World.news_of_block (heap_alloc_new _ _)) (bcell_one _) (by decide) (by unfold maxLen; omega) (by omega) (by simp; omega) _ rfl ?_)
                        intro gB cB' w6 hown hgrow hat hlt4
                        have H6 : Hid (SR w w6 L.length L.length (P' ++ [(o1, c, kk)]) lf' d' (.slice (some ⟨gB, 0, none⟩) (P'.length + 1) cB') (.slice (some ⟨ql2, 0, none⟩) L.length cl) (.slice (some ⟨qd', 0, none⟩) L.length L.length)) := by
                          refine HS1.out.putP ((Kept.alloc _ wc _).trans (Kept.grown _ hgrow (fun _ e => e)) (fun _ _ => id)) ?_
                          rw [bcells_app, List.length_append]
                          exact hown
                        clear hown hgrow hat l0 l1
                        obtain ⟨ql3, cl3, hq3, _, hl3, hlf3⟩ := H6.out.lat (by omega)
                        have eq3 : ql3 = ql2 := by injection hq3 with e1 _ _; injection e1 with e1; injection e1 with e1; exact e1.symm
                        subst eq3
                        have l0 := hl3 o1 hol
                        have l1 := hl3 c hlt
                        rw [← HY.out] at l1
                        rw [← HXo.out] at l0
                        have f0 := hlf3 o1
                        have f1 := hlf3 c
                        have hne : o1 ≠ c := by omega
                        clear hq3 hl3 hlf3
                        go_upto_region 24 with fail
                        obtain ⟨w7, hw7⟩ : ∃ w7, w7 = w6.setCell ⟨ql3, o1, none⟩ (.int .i64 ((x : Int) - kk)) := ⟨_, rfl⟩
                        have H7 : Hid (SR w w7 L.length L.length (P' ++ [(o1, c, kk)]) (upd lf' o1 (lf' o1 - kk)) d' (.slice (some ⟨gB, 0, none⟩) (P'.length + 1) cB') (.slice (some ⟨ql3, 0, none⟩) L.length cl) (.slice (some ⟨qd', 0, none⟩) L.length L.length)) := by
                          show SR _ _ _ _ _ _ _ _ _ _
                          have := H6.out.setL o1 (lf' o1 - kk) hol
                          rw [hw7, show (x : Int) - kk = ((lf' o1 - kk : Nat) : Int) by rw [← HXo.out]; omega]
                          exact this
                        rw [← hw7]
                        clear hw7 l0 l1 f0 f1
                        obtain ⟨ql4, cl4, hq4, _, hl4, hlf4⟩ := H7.out.lat (by omega)
                        have eq4 : ql4 = ql3 := by injection hq4 with e1 _ _; injection e1 with e1; injection e1 with e1; exact e1.symm
                        subst eq4
                        have l1 := hl4 c hlt
                        rw [upd_other _ _ _ _ (fun e => hne e.symm), ← HY.out] at l1
                        have f1 := hlf4 c
                        clear hq4 hl4 hlf4
                        go_upto_region 25 with fail
                        obtain ⟨w8, hw8⟩ : ∃ w8, w8 = w7.setCell ⟨ql4, c, none⟩ (.int .i64 ((y : Int) - kk)) := ⟨_, rfl⟩
                        have H8 : Hid (SR w w8 L.length L.length (P' ++ [(o1, c, kk)]) (upd (upd lf' o1 (lf' o1 - kk)) c (lf' c - kk)) d' (.slice (some ⟨gB, 0, none⟩) (P'.length + 1) cB') (.slice (some ⟨ql4, 0, none⟩) L.length cl) (.slice (some ⟨qd', 0, none⟩) L.length L.length)) := by
                          show SR _ _ _ _ _ _ _ _ _ _
                          have := H7.out.setL c (lf' c - kk) hlt
                          rw [hw8, show (y : Int) - kk = ((lf' c - kk : Nat) : Int) by rw [← HY.out]; omega]
                          exact this
                        rw [← hw8]
                        clear hw8 l1 f1
                        go_wp2_with fail
                        go_loopw [12] (fun v wr => ∃ (i : Nat) (d2 : Nat → Bool), v = .int .i64 i ∧ o1 < i ∧ i ≤ c ∧ SR w wr L.length L.length (P' ++ [(o1, c, kk)]) (upd (upd lf' o1 (lf' o1 - kk)) c (lf' c - kk)) d2 (.slice (some ⟨gB, 0, none⟩) (P'.length + 1) cB') (.slice (some ⟨ql4, 0, none⟩) L.length cl) (.slice (some ⟨qd', 0, none⟩) L.length L.length) ∧ (∀ j, o1 < j → j < i → d2 j = true) ∧ (∀ j, j ≤ o1 → d2 j = d' j) ∧ (∀ j, i ≤ j → d2 j = d' j)) (fun v _ => c - (intOf v).toNat)
                        case atStart => exact ⟨o1 + 1, d', by go_num, by omega, by omega, H8.out, fun j h1 h2 => by omega, fun _ _ => rfl, fun _ _ => rfl⟩
                        case round =>
                          obtain ⟨i, d2, rfl, hi1, hi2, hS2, hd1, hd2, hd3⟩ := hrel
                          have HS2 := Lib.hid hS2
                          have HD2 := Lib.hid (And.intro hd1 (And.intro hd2 hd3))
                          clear H6 H7 H8 hd1 hd2 hd3
                          by_cases hic : i < c
                          · obtain ⟨qd3, cd3, hq5, hqd3, hd5, hdf5⟩ := hS2.dat (by omega)
                            have eq5 : qd3 = qd' := by injection hq5 with e1 _ _; injection e1 with e1; injection e1 with e1; exact e1.symm
                            subst eq5
                            have hil : i < L.length := by omega
                            have g1 := hd5 i hil
                            have g2 := hdf5 i
                            have hiz : (i : Int) < (L.length : Int) := by omega
                            have hicz : (i : Int) < (c : Int) := by omega
                            clear hq5 hd5 hdf5 hS2
                            go_wp2_with fail
                            go_roundw
                            case rel =>
                              refine ⟨i + 1, updB d2 i, by go_num, by omega, by omega, HS2.out.setD i hil, ?_, ?_, ?_⟩
                              · intro j h1 h2
                                unfold updB
                                by_cases e : j = i
                                · rw [if_pos e]
                                · rw [if_neg e]; exact HD2.out.1 j h1 (by omega)
                              · intro j h1
                                unfold updB
                                rw [if_neg (by omega)]
                                exact HD2.out.2.1 j h1
                              · intro j h1
                                unfold updB
                                rw [if_neg (by omega)]
                                exact HD2.out.2.2 j (by omega)
                            case measure => simp [intOf]; omega
                          · have hic2 : i = c := by omega
                            subst hic2
                            have HZ := Lib.hid (HK2.out.pair hoc HAl.out kk HKk.out.1 HKk.out.2.1 HD2.out.1 HD2.out.2.1 HD2.out.2.2)
                            have hz1 : ¬ (i : Int) < (i : Int) := by omega
                            clear hS2
                            go_wp2_with fail
                            go_roundg (lf' i - kk)
                            case measure => have := HGk.out; have := HKk.out; omega
                            case rel =>
                              refine ⟨_, _, d2, _, ?_, HZ.out, by rw [upd_same]; exact Nat.le_refl _, fun _ => HMic.out, fun h => by rw [HCc.out] at h; cases h⟩
                              exact HS2.out
        case rest =>
          obtain ⟨d', h1, h2⟩ := hcut
          have HX := Lib.hid (And.intro h1 h2)
          clear h1 h2 HR HFin HNo
          go_wp2_with fail
          go_roundw
          case rel =>
            refine ⟨c + 1, d', by go_num, by omega, ?_, ?_⟩
            · rw [HStep.out]
              show SR w _ L.length L.length (expand ((runM L c).2.2 ++ R.2.2)) R.2.1 d' _ _ _
              rw [expand_app, ← HPe.out]
              exact HX.out.1
            · rw [HStep.out]
              exact HX.out.2.push
          case measure => simp [intOf]; omega
      · have hc2 : c = L.length := by omega
        subst hc2
        have hO : Hid (SvDid L w (.returned (.tuple #[.slice A4 (expand (runM L L.length).2.2).length c4, u5])) wr) := by
          refine ⟨_, _, rfl, hr.oP, ?_, hr.bl⟩
          have e1 : (leftM L).length = L.length := by simp [leftM]
          have e2 : ints (leftM L) = lefts (runM L L.length).2.1 L.length := by simp [ints, leftM, lefts]
          rw [e1, e2]
          exact hr.oL
        clear hr hk HR
        go_wp2_with fail
        exact bodyPost_ret (by simp [results, Try.results18, go_sem]) rfl hO.out
end Go.Proofs.Ytldillhgpjmjpaa
