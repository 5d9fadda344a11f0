/-
  PROVED: contract of the binder's find: how many rows stand behind the one that a row that closes finds, or -1. Conditions: the binder lies so; what its map says of this search is so.
-/
import Derived.Test.YtldillhgpjmjpaaBnd
import Derived.Test.YtldillhgpjmjpaaFindPure
import Derived.Deep.LoopGhost
import Derived.Deep.CutBlock
import Derived.Deep.CutRange
import Derived.Lib.QuietBelow
namespace Go.Proofs.Ytldillhgpjmjpaa
open Go.ChangeShapes Go.WideShapes Go.ChangeAt Go.RowKit Go.Sort
set_option linter.unusedVariables false

theorem mod3_wf (n : Int) (h : 0 ≤ n) : (Lit.int .i64 (n % 3)).wf = true := WalkArith.wf_i64 (by omega)

/-- The look-up of a search in the binder's map. -/
theorem look_any {w : World} {mb k : Nat} {D : DataW Unit} (h : w.ownsMap Try.prog 60 (plainElem Try.prog 3) mb k D) (m r : Int) (o : Bool) (kl : Lit) (hkl : keyOf Try.prog 60 (skey m r o) = some kl) :
    ∃ e, (Instr.lookup 38 (.map (some mb)) (skey m r o) false).run Try.prog w = .ok (.int .i64 e) w ∧ D.atKey kl (.lit (.int .i64 0)) = .lit (.int .i64 e) :=
  let ⟨e, h1, h2, _⟩ := h.lookup_int (t := 38) (e := 3) (q := .i64) Try.keyed Try.underlying38 Try.underlying3 (Try.zero3 w) hkl
  ⟨e, h1, h2⟩

set_option maxHeartbeats 4000000 in
theorem find_any (w : World) (base g : Nat) (L : List Rw) (n : Nat) (st : List Nat) (lf : Nat → Nat) (bs : List Bd) (mb k : Nat) (D : DataW Unit) (h : Bnd w base g L n st lf bs mb k D) (c : Nat) (hc : c < n) (hn : n ≤ 100000)
    (hok : Ok L c st lf) (hlc : 0 < lf c) (hm : (Lit.int .u8 (rw L c).m).wf = true)
    (memo : ∀ kl e, keyOf Try.prog 60 (skey (rw L c).m ((rw L c).n % 3) (rw L c).o) = some kl → D.atKey kl (.lit (.int .i64 0)) = .lit (.int .i64 e) → ∀ o ∈ st, (o : Int) < e → FF L c o = false) (V : Int) (hV : V = fv (FF L c) st.reverse st.length) :
    Calls Try.prog 25 #[ptr g, wagg (rw L c) (lf c)] w fun e w' => e = .returned (.int .i64 V) ∧ Below w.heap.size w w' := by
  obtain ⟨kl, hkl⟩ := skey_of (rw L c).m ((rw L c).n % 3) (rw L c).o hm (mod3_wf _ (by have := (hok.inb hlc).1; omega))
  obtain ⟨vR, vO, vB, h⟩ := h
  obtain ⟨e, he1, he2⟩ := look_any h.map _ _ _ kl hkl
  have hend := memo kl e hkl he2
  have HL : Hid (∀ w', Below w.heap.size w w' → (Instr.lookup 38 (.map (some mb)) (skey (rw L c).m ((rw L c).n % 3) (rw L c).o) false).run Try.prog w' = .ok (.int .i64 e) w') := fun w' hb => by
    obtain ⟨e', h1, h2⟩ := look_any (map_kept h.map (hb.block mb h.map.lt)) _ _ _ kl hkl
    have : e' = e := by rw [he2] at h2; injection h2 with h2; injection h2 with _ h2; exact h2.symm
    rw [this] at h1
    exact h1
  have HEnd := Lib.hid hend
  have HH := Lib.hid h
  have HOk := Lib.hid hok
  have HV := Lib.hid hV
  obtain ⟨hc1, hc2⟩ := hok.inb hlc
  have HF : Hid (∀ o ∈ st, ∀ W, Calls Try.prog 28 #[.agg #[.int .u8 (rw L c).m, .int .i64 (rw L c).n, .bool (rw L c).o, .bool (rw L c).c, .int .i64 (lf c)], .agg #[.int .u8 (rw L o).m, .int .i64 (rw L o).n, .bool (rw L o).o, .bool (rw L o).c, .int .i64 (lf o)]] W fun e w' => e = .returned (.bool (FF L c o)) ∧ Below W.heap.size W w') := fun o ho W => fits_any _ _ _ _ hc1 hc2 (hok.inb (hok.mem o ho).2.2).1 (hok.inb (hok.mem o ho).2.2).2 W
  have HS : Hid (∀ W, Calls Try.prog 26 #[.agg #[.int .u8 (rw L c).m, .int .i64 (rw L c).n, .bool (rw L c).o, .bool (rw L c).c, .int .i64 (lf c)]] W fun e w' => e = .returned (skey (rw L c).m ((rw L c).n % 3) (rw L c).o) ∧ Below W.heap.size W w') := fun W => search_any _ _ (by omega) _ _ _ W
  have HRow : Hid (∀ o ∈ st, ∃ q cc, vR = .slice (some ⟨q, 0, none⟩) n cc ∧ q < w.heap.size ∧ o < n ∧ w.cell? ⟨q, o * 5, none⟩ = some (.int .u8 (rw L o).m) ∧ w.cell? ⟨q, o * 5 + 1, none⟩ = some (.int .i64 (rw L o).n) ∧ w.cell? ⟨q, o * 5 + 2, none⟩ = some (.bool (rw L o).o) ∧ w.cell? ⟨q, o * 5 + 3, none⟩ = some (.bool (rw L o).c) ∧ w.cell? ⟨q, o * 5 + 4, none⟩ = some (.int .i64 (lf o))) := fun o ho => by
    have hon : o < n := by have := (hok.mem o ho).1; omega
    obtain ⟨q, cc, e1, _, e2, _, r0, r1, r2, r3, r4, _⟩ := h.row hon
    exact ⟨q, cc, e1, e2, hon, r0, r1, r2, r3, r4⟩
  have hg := h.par.lt
  have p0 : w.cell? ⟨g, 0, none⟩ = some vR := h.par.at 0
  have p1 : w.cell? ⟨g, 1, none⟩ = some vO := h.par.at 1
  have p2 : w.cell? ⟨g, 2, none⟩ = some (.map (some mb)) := h.par.at 2
  obtain ⟨AO, cO, hvO⟩ := own_sl h.opn
  have hstl : st.length ≤ 100000 := by
    have h1 : st.reverse.Pairwise (fun a b => a < b) := List.pairwise_reverse.2 hok.srt
    have h2 : ∀ o ∈ st, o < c := fun o ho => (hok.mem o ho).1
    have h3 : st.Nodup := hok.srt.imp (fun {a b} hab e => by omega)
    have h4 : st.length ≤ (List.range c).length := List.Nodup.length_le_of_subset h3 (fun o ho => List.mem_range.2 (h2 o ho))
    rw [List.length_range] at h4
    omega
  have HA : Hid (∀ j, j < st.length → ∃ qo o, AO = some ⟨qo, 0, none⟩ ∧ o ∈ st ∧ st.reverse.getD j 0 = o ∧ qo < w.heap.size ∧ w.cell? ⟨qo, j, none⟩ = some (.int .i64 o)) := fun j hj => by
    obtain ⟨o, ho1, ho2, ho3⟩ := rev_get st j hj
    obtain ⟨qo, cc, e1, _, e2, _, hat, _⟩ := own_at h.opn (by omega)
    rw [hvO] at e1
    injection e1 with e1 _ _
    refine ⟨qo, o, e1, ho1, ho3, e2, hat j _ ?_⟩
    unfold ints
    rw [List.getElem?_map, ho2]
    rfl
  subst hvO
  clear h hok hV he1 he2 hend memo hkl hm hlc
  show Calls Try.prog 25 #[ptr g, .agg #[.int .u8 (rw L c).m, .int .i64 (rw L c).n, .bool (rw L c).o, .bool (rw L c).c, .int .i64 (lf c)]] w _
  generalize hmm : (rw L c).m = m at *
  generalize hnn : (rw L c).n = nn at *
  generalize hoo : (rw L c).o = oo at *
  generalize hcc : (rw L c).c = cc at *
  generalize hll : lf c = ll at *
  clear hmm hnn hoo hcc hll
  go_enter Try.func25, Try.ntmps25
  go_upto_region 1 with fail
  obtain ⟨w1, hw1⟩ : ∃ w1, w1 = w.alloc (.cells #[.int .u8 m, .int .i64 nn, .bool oo, .bool cc, .int .i64 ll] 53) := ⟨_, rfl⟩
  have hb1 : Below w.heap.size w w1 := by rw [hw1]; exact (Below.refl _ _).alloc (Nat.le_refl _) _
  have hh1 : Holds w1 w.heap.size 53 #[.int .u8 m, .int .i64 nn, .bool oo, .bool cc, .int .i64 ll] := by rw [hw1]; exact Holds.made w 53 _
  have B1 := Lib.hid hb1
  have H1 := Lib.hid hh1
  have hz1 : w1.heap.size = w.heap.size + 1 := by rw [hw1]; simp
  rw [← hw1]
  clear hw1
  have y0 := cell_regrown (hh1.at 0)
  have y1 := cell_regrown (hh1.at 1)
  have y2 := cell_regrown (hh1.at 2)
  have y3 := cell_regrown (hh1.at 3)
  have y4 := cell_regrown (hh1.at 4)
  have y5 := cell_regrown ((hb1.cell (p := ⟨g, 2, none⟩) hg).trans p2)
  have RL : ∀ d os, (Instr.lookup 38 (.map (some mb)) (skey m (nn % 3) oo) false).run Try.prog (grow (redrawn w1 d) os) = .ok (.int .i64 e) (grow (redrawn w1 d) os) := fun d os => HL.out _ (chain (Nat.le_refl _) B1.out (below_regrown w1 d os))
  have RS : Hid (∀ d os, Calls Try.prog 26 #[.agg #[.int .u8 m, .int .i64 nn, .bool oo, .bool cc, .int .i64 ll]] (grow (redrawn w1 d) os) fun e w'' => e = .returned (skey m (nn % 3) oo) ∧ ∃ p : Regrown, w'' = grow (redrawn w1 p.d) p.os) := fun d os => Calls.regrown_of (HS.out _)
  clear hb1 hh1 p2
  refine wp_region_quiet_below Try.mixed (by kernel_rfl) ?_
  repeat (go_big_quiet_step (first | (go_at_call 26; exact RS.out _ _)))
  refine wpQuiet_nil ?_
  intro _ hw'
  obtain ⟨⟨dq, osq⟩, hw''⟩ := hw'
  subst hw''
  obtain ⟨w2, hw2⟩ : ∃ w2, w2 = grow (redrawn w1 dq) osq := ⟨_, rfl⟩
  have B2 : Hid (Below w.heap.size w w2) := by show Below _ _ _; rw [hw2]; exact chain (Nat.le_refl _) B1.out (below_regrown w1 dq osq)
  have H2 : Hid (Holds w2 w.heap.size 53 #[.int .u8 m, .int .i64 nn, .bool oo, .bool cc, .int .i64 ll]) := by show Holds _ _ _ _; rw [hw2]; exact H1.out.under (below_regrown w1 dq osq) (by omega)
  have p1' := (B2.out.cell (p := ⟨g, 1, none⟩) hg).trans p1
  have hz2 := B2.out.size
  show Exit.then _ _ _ _ _
  rw [← hw2]
  clear hw2 y0 y1 y2 y3 y4 y5 RL RS B1 H1 hz1
  go_wp2_with fail
  go_loopw [6] (fun v wr => ∃ (j : Nat) (z : Int), v = .int .i64 z ∧ z = (j : Int) - 1 ∧ j ≤ st.length ∧ V = fv (FF L c) st.reverse j ∧ Below w.heap.size w wr ∧ Holds wr w.heap.size 53 #[.int .u8 m, .int .i64 nn, .bool oo, .bool cc, .int .i64 ll]) (fun v _ => ((intOf v) + 1).toNat)
  case atStart => exact ⟨st.length, _, rfl, rfl, Nat.le_refl _, HV.out, B2.out, H2.out⟩
  case round =>
    obtain ⟨j, z, rfl, hz, hj, hv, hb, hh⟩ := hrel
    have HB := Lib.hid hb
    have HHr := Lib.hid hh
    have HVr := Lib.hid hv
    have hzr := hb.size
    have r1 := (hb.cell (p := ⟨g, 1, none⟩) hg).trans p1
    clear p1 p1' HV B2 H2 hv
    rcases j with _ | j
    · have hV0 : V = -1 := HVr.out
      obtain rfl : z = -1 := by omega
      clear hz
      subst hV0
      clear hb hh
      go_wp2_with fail
      go_ret
      exact ⟨rfl, HB.out⟩
    · obtain rfl : z = (j : Int) := by omega
      clear hz
      obtain ⟨qo, o, rfl, ho1, ho2, hqo, hoc⟩ := HA.out j (by omega)
      have ro := (hb.cell (p := ⟨qo, j, none⟩) hqo).trans hoc
      have hj2 : (j : Int) < (st.length : Int) := by omega
      by_cases he : (o : Int) < e
      · have hV0 : V = -1 := by
          rw [HVr.out]
          refine fv_none _ _ _ (fun i hi => ?_)
          obtain ⟨o', h1, h2, h3⟩ := rev_get st i (by omega)
          rw [h3]
          refine HEnd.out o' h1 ?_
          rcases Nat.lt_or_ge i j with hij | hij
          · have := rev_lt HOk.out.srt hij (by omega)
            rw [h3, ho2] at this
            omega
          · have : i = j := by omega
            subst this
            rw [ho2] at h3
            omega
        subst hV0
        have d1 : decide (e ≤ (o : Int)) = false := by simp; omega
        have d2 : decide ((o : Int) ≥ e) = false := by simp; omega
        clear hb hh
        go_wp2_with fail
        go_ret
        exact ⟨rfl, HB.out⟩
      · have d1 : decide (e ≤ (o : Int)) = true := by simp; omega
        have d2 : decide ((o : Int) ≥ e) = true := by simp; omega
        obtain ⟨q, cw, hvR, hq, hon, k0, k1, k2, k3, k4⟩ := HRow.out o ho1
        have HF1 := HF.out o ho1
        have hVo : V = if FF L c o then (j : Int) else fv (FF L c) st.reverse j := by rw [HVr.out, fv, ho2]
        have HVo := Lib.hid hVo
        clear hVo HVr
        have r0 := (hb.cell (p := ⟨g, 0, none⟩) hg).trans p0
        rw [hvR] at r0
        have s0 := (hb.cell (p := ⟨q, o * 5, none⟩) hq).trans k0
        have s1 := (hb.cell (p := ⟨q, o * 5 + 1, none⟩) hq).trans k1
        have s2 := (hb.cell (p := ⟨q, o * 5 + 2, none⟩) hq).trans k2
        have s3 := (hb.cell (p := ⟨q, o * 5 + 3, none⟩) hq).trans k3
        have s4 := (hb.cell (p := ⟨q, o * 5 + 4, none⟩) hq).trans k4
        have HVR := Lib.hid hvR
        have hoz : (o : Int) < (n : Int) := by omega
        clear hvR k0 k1 k2 k3 k4 hoc he
        generalize hm2 : (rw L o).m = m2 at *
        generalize hn2 : (rw L o).n = n2 at *
        generalize ho2' : (rw L o).o = o2 at *
        generalize hc2' : (rw L o).c = c2 at *
        generalize hl2 : lf o = l2 at *
        clear hm2 hn2 ho2' hc2' hl2
        go_wp2_with fail
        have t0 := cell_regrown (hh.at 0)
        have t1 := cell_regrown (hh.at 1)
        have t2 := cell_regrown (hh.at 2)
        have t3 := cell_regrown (hh.at 3)
        have t4 := cell_regrown (hh.at 4)
        have u0 := cell_regrown r0
        have u1 := cell_regrown r1
        have u2 := cell_regrown ro
        have v0 := cell_regrown s0
        have v1 := cell_regrown s1
        have v2 := cell_regrown s2
        have v3 := cell_regrown s3
        have v4 := cell_regrown s4
        obtain ⟨b, hbb⟩ : ∃ b, b = FF L c o := ⟨_, rfl⟩
        rw [← hbb] at HF1 HVo
        clear hbb
        have RF : Hid (∀ d os, Calls Try.prog 28 #[.agg #[.int .u8 m, .int .i64 nn, .bool oo, .bool cc, .int .i64 ll], .agg #[.int .u8 m2, .int .i64 n2, .bool o2, .bool c2, .int .i64 l2]] (grow (redrawn wr d) os) fun e w'' => e = .returned (.bool b) ∧ ∃ p : Regrown, w'' = grow (redrawn wr p.d) p.os) := fun d os => Calls.regrown_of (HF1 _)
        clear hb hh HF1 r0 s0 s1 s2 s3 s4
        refine wp_region_quiet_below Try.mixed (by kernel_rfl) ?_
        repeat (go_big_quiet_step (first | (go_at_call 28; exact RF.out _ _)))
        refine wpQuiet_nil ?_
        intro _ hw'
        obtain ⟨⟨dq, osq⟩, hw''⟩ := hw'
        subst hw''
        obtain ⟨w3, hw3⟩ : ∃ w3, w3 = grow (redrawn wr dq) osq := ⟨_, rfl⟩
        have B3 : Hid (Below w.heap.size w w3) := by show Below _ _ _; rw [hw3]; exact chain (Nat.le_refl _) HB.out (below_regrown wr dq osq)
        have H3 : Hid (Holds w3 w.heap.size 53 #[.int .u8 m, .int .i64 nn, .bool oo, .bool cc, .int .i64 ll]) := by show Holds _ _ _ _; rw [hw3]; exact HHr.out.under (below_regrown wr dq osq) HHr.out.lt
        show Exit.then _ _ _ _ _
        rw [← hw3]
        clear hw3 t0 t1 t2 t3 t4 u0 u1 u2 v0 v1 v2 v3 v4 RF
        cases b with
        | true =>
          have hV1 : V = (j : Int) := HVo.out
          subst hV1
          clear HVo
          go_wp2_with fail
          go_ret
          exact ⟨rfl, B3.out⟩
        | false =>
          have hV1 : V = fv (FF L c) st.reverse j := HVo.out
          have HV1 := Lib.hid hV1
          clear HVo hV1
          go_wp2_with fail
          go_roundw
          case rel => exact ⟨j, _, rfl, by go_num, by omega, HV1.out, B3.out, H3.out⟩
          case measure => simp [intOf]
end Go.Proofs.Ytldillhgpjmjpaa
