/-
  PROVED: contract of the binder's close: a row that may close is bound as far as it goes. Conditions: the binder lies so; what its map says is so.
-/
import Derived.Test.YtldillhgpjmjpaaFind
import Derived.Test.YtldillhgpjmjpaaJoin
import Derived.Test.YtldillhgpjmjpaaMemo
namespace Go.Proofs.Ytldillhgpjmjpaa
open Go.ChangeShapes Go.WideShapes Go.ChangeAt Go.RowKit Go.Sort
set_option linter.unusedVariables false

/-- What the loop of close goes by. -/
structure CRel (base g : Nat) (L : List Rw) (n c : Nat) (bs : List Bd) (mb k0 : Nat) (K : Nat) (R : Stk) (w0 : World) (j : Nat) (wr : World) (st : List Nat) (lf : Nat → Nat) (b : List Bd) (D : DataW Unit) : Prop where
  ly : Bnd wr base g L n st lf (bs ++ b) mb k0 D
  ok : Ok L c st lf
  me : Memo L st c D
  bl : Below base w0 wr
  fu : st.length < j ∨ lf c = 0
  bd : b.length + j ≤ K
  e1 : (closeM (FF L c) c j st lf).1 = R.1
  e2 : (closeM (FF L c) c j st lf).2.1 = R.2.1
  e3 : b ++ (closeM (FF L c) c j st lf).2.2 = R.2.2
/-- What close comes to. -/
def CDid (base g : Nat) (L : List Rw) (n c : Nat) (bs : List Bd) (mb k0 : Nat) (R : Stk) (w0 : World) (e : Ending) (w' : World) : Prop :=
  e = .returned (.tuple #[]) ∧ ∃ k1 D, k1 ≤ k0 + 1 ∧ Bnd w' base g L n R.1 R.2.1 (bs ++ R.2.2) mb k1 D ∧ Ok L c R.1 R.2.1 ∧ Memo L R.1 c D ∧ Below base w0 w'

theorem Ok.len {L : List Rw} {c : Nat} {st : List Nat} {lf : Nat → Nat} (hok : Ok L c st lf) : st.length ≤ c := by
  have h3 : st.Nodup := hok.srt.imp (fun {a b} hab e => by omega)
  have h4 : st.length ≤ (List.range c).length := List.Nodup.length_le_of_subset h3 (fun o ho => List.mem_range.2 (hok.mem o ho).1)
  simpa using h4

set_option maxHeartbeats 8000000 in
set_option maxRecDepth 100000 in
theorem close_any (w : World) (base g : Nat) (L : List Rw) (n : Nat) (st : List Nat) (lf : Nat → Nat) (bs : List Bd) (mb k0 : Nat) (D : DataW Unit) (h : Bnd w base g L n st lf bs mb k0 D) (c : Nat) (hc : c < n) (hn : n ≤ 100000) (hk0 : k0 ≤ 1000000) (hbl : bs.length ≤ 800000)
    (hok : Ok L c st lf) (hme : Memo L st c D) (hm : (Lit.int .u8 (rw L c).m).wf = true) (R : Stk) (hR : R = clsM L c (st, lf, bs)) :
    Calls Try.prog 21 #[ptr g, .int .i64 (c : Nat)] w (CDid base g L n c bs mb k0 R w) := by
  cases hcl : (rw L c).c with
  | false =>
    have hRR : R = (st, lf, []) := by rw [hR, clsM, hcl]; rfl
    subst hRR
    have hDid : Hid (CDid base g L n c bs mb k0 (st, lf, []) w (.returned (.tuple #[])) w) := ⟨rfl, k0, D, by omega, by simpa using h, hok, hme, Below.refl _ _⟩
    obtain ⟨vR, vO, vB, h⟩ := h
    obtain ⟨q, cw, hv, hqb, hq, hnc, c0, c1, c2, c3, c4, hf⟩ := h.row hc
    have p0 : w.cell? ⟨g, 0, none⟩ = some (.slice (some ⟨q, 0, none⟩) n cw) := by rw [← hv]; exact h.par.at 0
    rw [hcl] at c3
    clear h hR hok hme hm hv hcl c0 c1 c2 c4 hf
    generalize CDid base g L n c bs mb k0 (st, lf, []) w = Q at hDid ⊢
    go_enter Try.func21, Try.ntmps21
    go_wp2_with fail
    go_loopg [] 0 (fun k wr => k = 0 ∧ Hid (w = wr))
    case atStart => exact ⟨rfl, rfl⟩
    case round =>
      obtain ⟨hk, hw⟩ := hrel
      have hw := hw.out
      subst hw
      go_wp2_with fail
      go_end0
      exact hDid.out
  | true =>
    have HR : Hid (CRel base g L n c bs mb k0 (st.length + 1) R w (st.length + 1) w st lf [] D) := by
      have hRR : R = closeM (FF L c) c (st.length + 1) st lf := by rw [hR, clsM, hcl]; rfl
      exact ⟨by simpa using h, hok, hme, Below.refl _ _, Or.inl (by omega), by simp, by rw [hRR], by rw [hRR], by rw [hRR]; simp⟩
    have hKl : st.length + 1 ≤ 100001 := by have := hok.len; omega
    have HC := Lib.hid hcl
    generalize st.length + 1 = K at HR hKl ⊢
    clear h hok hme hR hcl
    go_enter Try.func21, Try.ntmps21
    go_wp2_with fail
    go_loopg [] K (fun j wr => ∃ st' lf' b D', CRel base g L n c bs mb k0 K R w j wr st' lf' b D')
    case atStart => exact ⟨st, lf, [], D, HR.out⟩
    case round =>
      obtain ⟨st', lf', b, D', hrr⟩ := hrel
      clear HR
      have HRr := Lib.hid hrr
      obtain ⟨vR, vO, vB, h⟩ := hrr.ly
      have hHl := Lib.hid h
      obtain ⟨q, cw, hv, hqb, hq, hnc, c0, c1, c2, c3, c4, hf⟩ := h.row hc
      have p0 : wr.cell? ⟨g, 0, none⟩ = some (.slice (some ⟨q, 0, none⟩) n cw) := by rw [← hv]; exact h.par.at 0
      have p2 : wr.cell? ⟨g, 2, none⟩ = some (.map (some mb)) := h.par.at 2
      have hg := h.par.lt
      rw [HC.out] at c3
      by_cases hl0 : lf' c = 0
      · rw [hl0] at c4
        have hDid : Hid (CDid base g L n c bs mb k0 R w (.returned (.tuple #[])) wr) := by
          have e1 := hrr.e1
          have e2 := hrr.e2
          have e3 := hrr.e3
          rw [closeM_done hl0] at e1 e2 e3
          simp only [List.append_nil] at e3
          refine ⟨rfl, k0, D', by omega, ?_, ?_, ?_, hrr.bl⟩
          · rw [← e1, ← e2, ← e3]; exact hrr.ly
          · rw [← e1, ← e2]; exact hrr.ok
          · rw [← e1]; exact hrr.me
        generalize CDid base g L n c bs mb k0 R w = Q at hDid ⊢
        clear hrr h hv c0 c1 c2 hf hm hl0 p2
        go_wp2_with fail
        go_end0
        exact hDid.out
      · have hl1 : 0 < lf' c := by omega
        obtain ⟨j, hj⟩ : ∃ j', gk = j' + 1 := ⟨gk - 1, by have := hrr.fu; omega⟩
        have HJ := Lib.hid hj
        rw [hj] at hrr
        clear hj
        obtain ⟨hn1, hn2⟩ := hrr.ok.inb hl1
        obtain ⟨kl, hkl⟩ := skey_of (rw L c).m ((rw L c).n % 3) (rw L c).o hm (mod3_wf _ (by omega))
        obtain ⟨V, hV⟩ : ∃ V, V = fv (FF L c) st'.reverse st'.length := ⟨_, rfl⟩
        have HFd : Hid (Calls Try.prog 25 #[ptr g, .agg #[.int .u8 (rw L c).m, .int .i64 (rw L c).n, .bool (rw L c).o, .bool (rw L c).c, .int .i64 (lf' c)]] wr fun e w' => e = .returned (.int .i64 V) ∧ Below wr.heap.size wr w') :=
          find_any wr base g L n st' lf' _ mb k0 D' hrr.ly c hc hn hrr.ok hl1 hm (fun kl e hk he o ho hoe => (hrr.me (rw L c) kl e (by omega) hk he).2 o ho hoe) V hV
        rw [HC.out] at HFd
        have HS : Hid (∀ W, Calls Try.prog 26 #[.agg #[.int .u8 (rw L c).m, .int .i64 (rw L c).n, .bool (rw L c).o, .bool (rw L c).c, .int .i64 (lf' c)]] W fun e w' => e = .returned (skey (rw L c).m ((rw L c).n % 3) (rw L c).o) ∧ Below W.heap.size W w') := fun W => search_any _ _ (by omega) _ _ _ W
        rw [HC.out] at HS
        rw [fv_eq] at hV
        have hl2 : (0 : Int) < (lf' c : Int) := by omega
        have hcz : (c : Int) < (n : Int) := by omega
        have HKL := Lib.hid hkl
        have HMP : Hid (∀ W, Below wr.heap.size wr W → W.ownsMap Try.prog 60 (plainElem Try.prog 3) mb k0 D') := fun W hb => map_kept h.map (hb.block mb h.map.lt)
        have HL0 : Hid (¬ lf' c = 0) := hl0
        obtain ⟨y, hy⟩ : ∃ y, y = lf' c := ⟨_, rfl⟩
        have HY := Lib.hid hy
        rw [← hy] at c4 HFd HS hl2
        have HN : Hid (g ≠ mb ∧ q ≠ mb) := ⟨fun e => h.gm e.symm, (h.apR (i := q) (by rw [hv]; rfl)).2.2.2⟩
        clear hkl hy hl0 hl1 hf
        obtain ⟨m, hmm⟩ : ∃ m, m = (rw L c).m := ⟨_, rfl⟩
        obtain ⟨nn, hnn⟩ : ∃ nn, nn = (rw L c).n := ⟨_, rfl⟩
        obtain ⟨oo, hoo⟩ : ∃ oo, oo = (rw L c).o := ⟨_, rfl⟩
        rw [← hmm] at c0 HFd HS HKL
        rw [← hnn] at c1 HFd HS HKL
        rw [← hoo] at c2 HFd HS HKL
        have HX := Lib.hid (And.intro hmm (And.intro hnn hoo))
        clear hmm hnn hoo h hv
        cases hd : st'.dropWhile (fun o => !FF L c o) with
        | nil =>
          rw [hd] at hV
          have hV1 : V = -1 := hV
          subst hV1
          have HD : Hid (st'.dropWhile (fun o => !FF L c o) = []) := hd
          clear hV hrr hd
          go_wp2_with fail
          refine (HFd.out).mono ?_
          rintro e w2 ⟨rfl, hb2⟩
          have B2 := Lib.hid hb2
          have d0 := (hb2.cell (p := ⟨q, c * 5, none⟩) hq).trans c0
          have d1 := (hb2.cell (p := ⟨q, c * 5 + 1, none⟩) hq).trans c1
          have d2 := (hb2.cell (p := ⟨q, c * 5 + 2, none⟩) hq).trans c2
          have d3 := (hb2.cell (p := ⟨q, c * 5 + 3, none⟩) hq).trans c3
          have d4 := (hb2.cell (p := ⟨q, c * 5 + 4, none⟩) hq).trans c4
          have r0 := (hb2.cell (p := ⟨g, 0, none⟩) hg).trans p0
          have r2 := (hb2.cell (p := ⟨g, 2, none⟩) hg).trans p2
          have hq2 : q < w2.heap.size := by have := hb2.size; omega
          have hg2 : g < w2.heap.size := by have := hb2.size; omega
          clear hb2 c0 c1 c2 c3 c4 p0 p2 HFd
          go_wp2_with fail
          go_region_held3 (fun w' => w'.cell? ⟨g, 0, none⟩ = some (.slice (some ⟨q, 0, none⟩) n cw) ∧ w'.cell? ⟨g, 2, none⟩ = some (.map (some mb)) ∧ w'.cell? ⟨q, c * 5, none⟩ = some (.int .u8 m) ∧ w'.cell? ⟨q, c * 5 + 1, none⟩ = some (.int .i64 nn) ∧ w'.cell? ⟨q, c * 5 + 2, none⟩ = some (.bool oo) ∧ w'.cell? ⟨q, c * 5 + 3, none⟩ = some (.bool true) ∧ w'.cell? ⟨q, c * 5 + 4, none⟩ = some (.int .i64 y)) (first | exact ⟨r0, r2, d0, d1, d2, d3, d4⟩ | (refine ⟨?_, ?_, ?_, ?_, ?_, ?_, ?_⟩ <;> assumption))
            (first
              | (go_at_call 26; ((with_reducible refine (HS.out _).mono ?_)); rintro e w4 ⟨rfl, hb4⟩; have hx : Below w2.heap.size w2 w4 := (Below.refl w2.heap.size w2).drew.trans hb4; have B4 := Lib.hid hx; have a0 := (hx.cell (p := ⟨g, 0, none⟩) hg2).trans r0; have a2 := (hx.cell (p := ⟨g, 2, none⟩) hg2).trans r2; have b0 := (hx.cell (p := ⟨q, c * 5, none⟩) hq2).trans d0; have b1 := (hx.cell (p := ⟨q, c * 5 + 1, none⟩) hq2).trans d1; have b2 := (hx.cell (p := ⟨q, c * 5 + 2, none⟩) hq2).trans d2; have b3 := (hx.cell (p := ⟨q, c * 5 + 3, none⟩) hq2).trans d3; have b4 := (hx.cell (p := ⟨q, c * 5 + 4, none⟩) hq2).trans d4;
                 obtain ⟨w5, hu, ho5, hg5⟩ := (HMP.out w4 (chain (Nat.le_refl _) B2.out hx)).update (t := 38) (val := .int .i64 (c : Nat)) (d := .lit (.int .i64 (c : Nat))) (ps := []) Try.keyed Try.underlying38 (by unfold maxLen; omega) HKL.out (plainElem_int Try.underlying3 (WalkArith.wf_i64 (by omega)));
                 have hg4 : g < w4.heap.size := by (have := hx.size; omega);
                 have hq4 : q < w4.heap.size := by (have := hx.size; omega);
                 have HU := Lib.hid (And.intro ho5 hg5);
                 have j0 := (hg5.cell_far ⟨g, 0, none⟩ hg4 (fun e => HN.out.1 (Option.some.inj e))).trans a0;
                 have j2 := (hg5.cell_far ⟨g, 2, none⟩ hg4 (fun e => HN.out.1 (Option.some.inj e))).trans a2;
                 have l0 := (hg5.cell_far ⟨q, c * 5, none⟩ hq4 (fun e => HN.out.2 (Option.some.inj e))).trans b0;
                 have l1 := (hg5.cell_far ⟨q, c * 5 + 1, none⟩ hq4 (fun e => HN.out.2 (Option.some.inj e))).trans b1;
                 have l2 := (hg5.cell_far ⟨q, c * 5 + 2, none⟩ hq4 (fun e => HN.out.2 (Option.some.inj e))).trans b2;
                 have l3 := (hg5.cell_far ⟨q, c * 5 + 3, none⟩ hq4 (fun e => HN.out.2 (Option.some.inj e))).trans b3;
                 have l4 := (hg5.cell_far ⟨q, c * 5 + 4, none⟩ hq4 (fun e => HN.out.2 (Option.some.inj e))).trans b4;
                 clear hx hb4 ho5 hg5))
          go_wp2_with fail
          go_end0
          have hrr := HRr.out
          have e1 := hrr.e1
          have e2 := hrr.e2
          have e3 := hrr.e3
          rw [closeM_none HD.out] at e1 e2 e3
          simp only [List.append_nil] at e3
          have V4 : BndV w4 base g L n st' lf' (bs ++ b) mb k0 D' vR vO vB := hHl.out.under (chain (Nat.le_refl _) B2.out B4.out)
          have hge := hHl.out.gb
          have hmbb := hHl.out.mbb
          have hwr := hHl.out.par.lt
          refine ⟨rfl, k0 + 1, D'.put kl (.lit (.int .i64 (c : Nat))), Nat.le_refl _, ?_, ?_, ?_, ?_⟩
          · rw [← e1, ← e2, ← e3]
            exact ⟨vR, vO, vB, V4.putM (M := fun j => j = mb) (Kept.grown _ HU.out.2 (fun j e => (Option.some.inj e).symm)) (fun _ e => e) HU.out.1⟩
          · rw [← e1, ← e2]; exact hrr.ok
          · rw [← e1]
            refine hrr.me.put (World.ownsMap.isMap hHl.out.map) (rw L c) kl ?_ ?_
            · obtain ⟨x1, x2, x3⟩ := HX.out
              rw [← x1, ← x2, ← x3]
              exact HKL.out
            · obtain ⟨a, ha1, ha2⟩ := dropWhile_sub (p := fun o => !FF L c o) st'
              rw [HD.out, List.append_nil] at ha1
              intro o ho
              have := ha2 o (by rw [← ha1]; exact ho)
              simpa [FF] using this
          · refine (hrr.bl.trans ((chain (Nat.le_refl _) B2.out B4.out).mono (by omega))).trans ?_
            exact (Kept.grown (fun j => j = mb) HU.out.2 (fun j e => (Option.some.inj e).symm)).below (by have := B2.out.size; have := B4.out.size; omega) (fun j e => by rw [e]; exact hmbb)
        | cons o rest =>
          rw [hd] at hV
          have hV1 : V = ((rest.length : Nat) : Int) := by rw [hV]; simp
          subst hV1
          obtain ⟨a, ha, _⟩ := dropWhile_sub (p := fun o => !FF L c o) st'
          rw [hd] at ha
          have hmo := hrr.ok.mem o (by rw [ha]; simp)
          have hlen := hrr.ok.len
          have hrb := hrr.ok.bd
          obtain ⟨Q, hQ⟩ : ∃ Q, Q = min (lf' o) (lf' c) := ⟨_, rfl⟩
          obtain ⟨S, hS⟩ : ∃ S, S = if lf' o - Q = 0 then rest else o :: rest := ⟨_, rfl⟩
          have hbb := hrr.bd
          have HJn : Hid (∀ W, Below wr.heap.size wr W → Calls Try.prog 27 #[ptr g, .int .i64 (rest.length : Nat), .int .i64 (c : Nat)] W fun e w' => e = .returned (.tuple #[]) ∧ Bnd w' base g L n S (upd (upd lf' o (lf' o - Q)) c (lf' c - Q)) ((bs ++ b) ++ [(o, c, Q)]) mb k0 D' ∧ Below base W w') := fun W hb =>
            join_any W base g L n st' lf' (bs ++ b) mb k0 D' (hrr.ly.under hb) c hc hn (by omega) (by rw [List.length_append]; omega) o a rest ha hmo.1 hmo.2.1 (Nat.le_trans (hrb o) (num_bd _)) (Nat.le_trans (hrb c) (num_bd _)) Q hQ S hS
          have HNx : Hid (∀ W, Bnd W base g L n S (upd (upd lf' o (lf' o - Q)) c (lf' c - Q)) ((bs ++ b) ++ [(o, c, Q)]) mb k0 D' → Below base wr W → CRel base g L n c bs mb k0 K R w j W S (upd (upd lf' o (lf' o - Q)) c (lf' c - Q)) (b ++ [(o, c, Q)]) D') := by
            intro W hW hbW
            have hok2 := hrr.ok.bond ha
            rw [← hQ, ← hS] at hok2
            have e1 := hrr.e1
            have e2 := hrr.e2
            have e3 := hrr.e3
            rw [closeM_some HL0.out hd j Q hQ, ← hS] at e1 e2 e3
            have hsub : ∀ x ∈ S, x ∈ st' := by
              intro x hx
              rw [ha]
              rw [hS] at hx
              split at hx
              · simp [hx]
              · rcases List.mem_cons.1 hx with rfl | hx
                · simp
                · simp [hx]
            refine ⟨by rw [← List.append_assoc]; exact hW, hok2, hrr.me.sub hsub, hrr.bl.trans hbW, ?_, ?_, e1, e2, ?_⟩
            · rw [upd_same]
              have hl : rest.length + 1 ≤ st'.length := by rw [ha]; simp
              have hfu := hrr.fu
              have hl00 := HL0.out
              by_cases hz : lf' o - Q = 0
              · left; rw [hS, if_pos hz]; omega
              · right; omega
            · rw [List.length_append]
              show b.length + 1 + j ≤ K
              omega
            · rw [List.append_assoc]
              exact e3
          clear hV hrr hd ha hmo hlen hrb hbb hQ hS
          go_wp2_with fail
          refine (HFd.out).mono ?_
          rintro e w2 ⟨rfl, hb2⟩
          have B2 := Lib.hid hb2
          have q1 : ((rest.length : Int) == -1) = false := by rw [beq_eq_false_iff_ne]; omega
          clear hb2 c0 c1 c2 c3 c4 p0 p2 HFd
          go_wp2_with fail
          refine (HJn.out _ B2.out).mono ?_
          rintro e w3 ⟨rfl, hb3, hB3⟩
          have HB3 := Lib.hid (And.intro hb3 hB3)
          have hge := hHl.out.gb
          have hwr := hHl.out.par.lt
          clear hb3 hB3
          go_wp2_with fail
          go_roundg j
          case measure => have := HJ.out; omega
          case rel => exact ⟨_, _, _, _, HNx.out _ HB3.out.1 ((B2.out.mono (by omega)).trans HB3.out.2)⟩
end Go.Proofs.Ytldillhgpjmjpaa
