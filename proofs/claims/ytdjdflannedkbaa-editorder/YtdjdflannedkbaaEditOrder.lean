/-
  PROVED: stetlaw02.EditOrder returns true for every text, every list of edits and every number: in which order edits of unlike places are handed in makes no difference, and without edits a text is as it was. Conditions: none beside the row's own.
-/
import Derived.Test.YtdjdflannedkbaaOpen
import Derived.Test.YtdjdflannedkbaaOrderPure
import Derived.Test.YtdjdflannedkbaaAlive
namespace Go.Proofs.Ytdjdflannedkbaa.editOrder
open Go.ChangeShapes Go.WideShapes Go.ChangeAt Go.RowKit Go.Joins
open Go.ChangeMaps (open_string shut_string)
set_option linter.unusedVariables false

theorem and1023 (n : Int) : bits .and .i64 n 1023 = n % 1024 := by
  have h : (BitVec.ofInt 64 1023).toNat = 2 ^ 10 - 1 := by decide
  have key : (BitVec.ofInt 64 n &&& BitVec.ofInt 64 1023).toNat = (n % ((2 ^ 64 : Nat) : Int)).toNat % 2 ^ 10 := by
    rw [BitVec.toNat_and, BitVec.toNat_ofInt, h, Nat.and_two_pow_sub_one_eq_mod]
  show IntKind.i64.wrap ((BitVec.ofInt 64 n &&& BitVec.ofInt 64 1023).toNat : Nat) = n % 1024
  rw [key, IntKind.wrap_i64]
  omega

set_option maxHeartbeats 4000000 in
theorem walk (s : ByteArray) (A : Option Addr) (c : Nat) (hA : A = none → c = 0) (es : List Ed) (hs : s.size ≤ 140737488355328) (hl : es.length ≤ 140737488355328) (hx : ∀ e ∈ es, e.x.size ≤ 140737488355328) (k : Int) (w : World) (h : Rd w w.heap.size A es) :
    Calls Try.prog 6 #[.string s, .slice A es.length c, .int .i64 k] w fun e w' => e = .returned (.bool true) ∧ Below w.heap.size w w' := by
  obtain ⟨i0, hi, hz0, hz1, hz2⟩ := info_parts Try.info34
  have HA := Lib.hid hA
  have HX := Lib.hid hx
  have mixed := Try.mixed
  clear hA hx
  cases hg : grt s.size es with
  | true =>
    go_enter Try.func6, Try.ntmps6
    go_wp2_with fail
    refine (alive_any w).mono ?_
    rintro e w1 ⟨rfl, hb1⟩
    have h1 := h.on hb1
    have hgr := great_any s A c es hs hl HX.out _ w1 h1
    rw [hg] at hgr
    clear hg h
    go_wp2_with fail
    refine hgr.mono ?_
    rintro e w2 ⟨rfl, rfl⟩
    clear hgr
    go_wp2_with fail
    go_ret
    exact ⟨rfl, hb1⟩
  | false =>
    have hq : ¬ 50000 < gl s.size es ∧ ¬ 300 < es.length := by
      have := hg; unfold grt at this
      simp only [Bool.or_eq_false_iff, decide_eq_false_iff_not] at this
      exact this
    obtain ⟨hs5, hx5⟩ := gl_small es s.size (by omega)
    have hl3 : es.length ≤ 300 := by omega
    have HX6 : Hid (∀ e ∈ es, e.x.size ≤ 60000) := fun e he => by have := hx5 e he; omega
    clear hx5 hq
    go_enter Try.func6, Try.ntmps6
    go_wp2_with fail
    refine (alive_any w).mono ?_
    rintro e w1 ⟨rfl, hb1⟩
    have h1 := h.on hb1
    have hgr := great_any s A c es hs hl HX.out _ w1 h1
    rw [hg] at hgr
    clear hg h
    go_wp2_with fail
    refine hgr.mono ?_
    rintro e w2 ⟨rfl, rfl⟩
    clear hgr
    have hnone := apply_any s none 0 (fun _ => rfl) [] (by simp) (by omega) (fun e he => by simp at he) 0 w1 (fun i l hi => by simp at hi)
    rw [nil_app, nil_chk] at hnone
    have hnone' : Calls Try.prog 11 #[.string s, .slice none 0 0] w1 fun e w' => e = .returned (.tuple #[.string s, .int .i64 0]) ∧ Below w1.heap.size w1 w' := hnone
    go_wp2_with fail
    refine hnone'.mono ?_
    rintro e w2 ⟨rfl, hb2⟩
    have h2 := h1.on hb2
    have hB2 := chain (Nat.le_refl _) hb1 hb2
    clear hnone hnone' h1 hb1 hb2
    go_wp2_with fail
    go_loopw [9, 10] (fun i _ wr => ∃ n m : Nat, n ≤ es.length ∧ i = .int .i64 n ∧ Hid (∀ a b (ha : a < es.length) (hb : b < a), a < n → ¬ (es[a].f = (es[b]'(by omega)).f ∧ es[a].t = (es[b]'(by omega)).t)) ∧ wr = w2.drewN m) (fun i _ _ => es.length - (intOf i).toNat)
    case atStart => exact ⟨0, 0, Nat.zero_le _, rfl, (show Hid _ from fun a b ha hb h0 => absurd h0 (Nat.not_lt_zero _)), rfl⟩
    case round =>
      obtain ⟨n, m, hn, rfl, HU, rfl⟩ := hrel
      by_cases hlt : n < es.length
      · go_wp2_with fail
        go_loopw [10] (fun j wr => ∃ p m : Nat, p ≤ n ∧ j = .int .i64 p ∧ Hid (∀ b (hb : b < n), b < p → ¬ (es[n].f = (es[b]'(by omega)).f ∧ es[n].t = (es[b]'(by omega)).t)) ∧ wr = w2.drewN m) (fun j _ => n - (intOf j).toNat)
        case atStart => exact ⟨0, m, Nat.zero_le _, rfl, (show Hid _ from fun b hb h0 => absurd h0 (Nat.not_lt_zero _)), rfl⟩
        case round =>
          obtain ⟨p, m2, hp, rfl, HV, rfl⟩ := hrel
          by_cases hpl : p < n
          · obtain ⟨b, o, rfl, hb, c0, c1, c2'⟩ := h2 n es[n] (List.getElem?_eq_getElem hlt)
            obtain ⟨b', o', e', hb', k0, k1, k2⟩ := h2 p es[p] (List.getElem?_eq_getElem (by omega))
            injection e' with e'
            injection e' with e1 e2
            subst e1 e2
            have HXY : Hid (∃ x y, x = es[n] ∧ y = es[p]) := ⟨_, _, rfl, rfl⟩
            obtain ⟨x, y, hx, hy⟩ := HXY.out
            rw [← hx] at c0 c1 c2'
            rw [← hy] at k0 k1 k2
            have HE : Hid (x = es[n] ∧ y = es[p]) := ⟨hx, hy⟩
            clear hx hy HXY c2' k2
            have z0 : (n : Int) < (es.length : Int) := by omega
            have z1 : (p : Int) < (es.length : Int) := by omega
            by_cases q0 : x.f = y.f
            · have d0 : ((x.f : Int) == y.f) = true := by simpa using q0
              by_cases q1 : x.t = y.t
              · have d1 : ((x.t : Int) == y.t) = true := by simpa using q1
                clear q0 q1
                go_wp2_with fail
                go_quiet (fail)
                go_wp2_with fail
                go_ret
                exact ⟨rfl, below_drewN (below_drewN hB2 _) _⟩
              · have d1 : ((x.t : Int) == y.t) = false := by simpa using q1
                have HV2 : Hid (∀ b (hb : b < n), b < p + 1 → ¬ (es[n].f = (es[b]'(by omega)).f ∧ es[n].t = (es[b]'(by omega)).t)) := fun b hb hbp => by
                  by_cases q : b = p
                  · subst q; rw [← HE.out.1, ← HE.out.2]; exact fun hh => q1 hh.2
                  · exact HV.out b hb (by omega)
                clear q0 q1
                go_wp2_with fail
                go_quiet (fail)
                go_wp2_with fail
                go_roundw
                case rel => exact ⟨p + 1, m2 + nq, by omega, by go_num, HV2, rfl⟩
                case measure => simp [intOf]; omega
            · have d0 : ((x.f : Int) == y.f) = false := by simpa using q0
              have HV2 : Hid (∀ b (hb : b < n), b < p + 1 → ¬ (es[n].f = (es[b]'(by omega)).f ∧ es[n].t = (es[b]'(by omega)).t)) := fun b hb hbp => by
                by_cases q : b = p
                · subst q; rw [← HE.out.1, ← HE.out.2]; exact fun hh => q0 hh.1
                · exact HV.out b hb (by omega)
              clear q0
              go_wp2_with fail
              go_quiet (fail)
              go_wp2_with fail
              go_roundw
              case rel => exact ⟨p + 1, m2 + nq, by omega, by go_num, HV2, rfl⟩
              case measure => simp [intOf]; omega
          · have HU2 : Hid (∀ a b (ha : a < es.length) (hb : b < a), a < n + 1 → ¬ (es[a].f = (es[b]'(by omega)).f ∧ es[a].t = (es[b]'(by omega)).t)) := fun a b ha hb han => by
              by_cases q : a = n
              · subst q; exact HV.out b hb (by omega)
              · exact HU.out a b ha hb (by omega)
            go_wp2_with fail
            go_roundw
            case rel => exact ⟨n + 1, m2, by omega, by go_num, HU2, rfl⟩
            case measure => simp [intOf]; omega
      · have HUN : Hid (Unlike es) := fun a b ha hb => HU.out a b ha hb (by omega)
        have hBm : Below w.heap.size w (w2.drewN m) := below_drewN hB2 m
        have h3 := h2.drewN m
        have h3' : Rd (w2.drewN m) (w2.drewN m).heap.size A es := h3
        clear HU h2 hB2 h3
        generalize w2.drewN m = W at hBm h3' ⊢
        go_wp2_with fail
        obtain ⟨q, hq⟩ : ∃ q : Nat, k % 1024 = q := ⟨(k % 1024).toNat, by omega⟩
        have hand : bits .and .i64 k 1023 = (q : Int) := by rw [and1023, hq]
        have hq2 : q ≤ 1023 := by omega
        clear hq
        go_loopw [11, 12] (fun v i wr => ∃ n : Nat, n ≤ es.length ∧ i = .int .i64 n ∧ wr.ownsRow W.heap.size 34 3 v ((turnL es q).take n).length (ecells ((turnL es q).take n)) ∧ Below W.heap.size W wr) (fun _ i _ => es.length - (intOf i).toNat)
        case atStart => exact ⟨0, Nat.zero_le _, rfl, own_empty _ _ _ _ (Nat.le_refl _), (Below.refl _ _).alloc (Nat.le_refl _) _⟩
        case round =>
          obtain ⟨n, hn, rfl, hown, hB⟩ := hrel
          have hBz := hB.size
          by_cases hlt : n < es.length
          · obtain ⟨ix, hix⟩ : ∃ ix, ix = (n + q) % es.length := ⟨_, rfl⟩
            have hixl : ix < es.length := by rw [hix]; exact Nat.mod_lt _ (by omega)
            have HTK := Lib.hid (turn_take es q n hlt es[ix] (by rw [← hix]; exact List.getElem?_eq_getElem hixl))
            have g1 : ((n : Int) + (q : Int)) % (es.length : Int) = (ix : Int) := by rw [hix]; simp
            have g2 : ((n : Int) + (q : Int)).tmod (es.length : Int) = (ix : Int) := by rw [Int.tmod_eq_emod_of_nonneg (by omega)]; exact g1
            have htl : ((turnL es q).take n).length ≤ 300 := by have := turn_len es q; simp; omega
            obtain ⟨b, o, rfl, hb, c0, c1, c2'⟩ := (h3'.below hB) ix es[ix] (List.getElem?_eq_getElem hixl)
            generalize es[ix] = y at HTK c0 c1 c2'
            generalize (turnL es q).take n = T at hown HTK htl
            have HO := Lib.hid hown
            clear hown hix
            have y1 : (0 : Int) < (es.length : Int) := by omega
            have y2 : (ix : Int) < (es.length : Int) := by omega
            have y3 : (0 : Int) ≤ (ix : Int) := by omega
            go_wp2_with (at_builtin; refine wpList_append_own _ rfl _ _ 22 rfl W.heap.size 34 i0 (.agg #[.int .i64 0, .int .i64 0, .string ⟨#[]⟩]) 3 32 Try.underlying22 hi hz0 hz1 hz2 rfl (by decide) _ _ _ rfl ((HO.out).alloc _) ⟨wr.heap.size, 0, none⟩ 1 1 (ecell y) rfl rfl (newsE _ _) (oneE _) (by unfold maxLen; omega) (by omega) (by simp; omega) ?_)
            intro v2 w4 ho4 hg4 _
            have AP := appended HO.out hB (Nat.le_refl _) ho4 hg4
            rw [← HTK.out] at AP
            have HAP := Lib.hid AP
            clear AP ho4 hg4 HO c0 c1 c2' y1 y2 y3 g1 g2
            go_wp2_with fail
            go_roundw
            case rel => exact ⟨n + 1, by omega, by go_num, HAP.out.1, HAP.out.2⟩
            case measure => simp [intOf]; omega
          · have HT : Hid ((turnL es q).take n = turnL es q) := List.take_of_length_le (by rw [turn_len]; omega)
            rw [HT.out] at hown
            have hsame := order_same (turn_perm es q) HUN.out s
            have hTl := turn_len es q
            have hTx : ∀ e ∈ turnL es q, e.x.size ≤ 60000 := fun e he => HX6.out e ((turn_perm es q).mem_iff.2 he)
            clear HT
            obtain ⟨T, hT⟩ : ∃ T, T = turnL es q := ⟨_, rfl⟩
            rw [← hT] at hown hsame hTl hTx
            have HSA := Lib.hid hsame
            have HTX := Lib.hid hTx
            have hTl2 : T.length ≤ 300 := by omega
            obtain ⟨A5, c5, rfl, hc5, hA5, hr5⟩ := own_edits hown
            have HA5 := Lib.hid hA5
            have h5 := (h3'.below hB).more hBz
            have hB5 := chain (Nat.le_refl _) hBm hB
            obtain ⟨R, hR⟩ : ∃ R, R = appR s es := ⟨_, rfl⟩
            obtain ⟨r, hr⟩ : ∃ r, r = chk s.size es := ⟨_, rfl⟩
            have HR : Hid (R = appR s es ∧ r = chk s.size es) := ⟨hR, hr⟩
            clear hown hsame hTx hTl hT hA5 hR hr hand
            have hcp := copy_any A c HA.out es (by omega) _ wr h5
            go_wp2_with fail
            refine hcp.mono ?_
            rintro e w6 hO
            obtain ⟨A6, c6, rfl, hc6, hA6, hr6, hb6⟩ := hO.rd
            have HA6 := Lib.hid hA6
            have h6 := h5.on hb6
            have ht6 := hr5.on hb6
            have hB6 := chain (Nat.le_refl _) hB5 hb6
            clear hcp hO hA6 hb6 h5 hr5 hB5
            have hap := apply_any s A6 c6 HA6.out es hl3 (by omega) HX6.out _ w6 hr6
            rw [← HR.out.1, ← HR.out.2] at hap
            go_wp2_with fail
            refine hap.mono ?_
            rintro e w7 ⟨rfl, hb7⟩
            have h7 := h6.on hb7
            have ht7 := ht6.on hb7
            have hB7 := chain (Nat.le_refl _) hB6 hb7
            clear hap h6 ht6 hr6 hB6 hb7
            have hap := apply_any s A5 c5 HA5.out T hTl2 (by omega) HTX.out _ w7 ht7
            rw [← HSA.out.2.1, ← HSA.out.2.2, ← HR.out.1, ← HR.out.2] at hap
            go_wp2_with fail
            refine hap.mono ?_
            rintro e w8 ⟨rfl, hb8⟩
            have h8 := h7.on hb8
            have ht8 := ht7.on hb8
            have hB8 := chain (Nat.le_refl _) hB7 hb8
            clear hap h7 ht7 hB7 hb8
            have hso := sorted_any A c HA.out es (by omega) _ w8 h8
            go_wp2_with fail
            refine hso.mono ?_
            rintro e w9 hO
            obtain ⟨A9, c9, rfl, hc9, _, hr9, hb9⟩ := hO.rd
            have ht9 := ht8.on hb9
            have hB9 := chain (Nat.le_refl _) hB8 hb9
            clear hso hO h8 ht8 hB8 hb9
            have hso := sorted_any A5 c5 HA5.out T (by omega) _ w9 ht9
            rw [← HSA.out.1] at hso
            go_wp2_with fail
            refine hso.mono ?_
            rintro e w10 hO
            obtain ⟨A10, c10, rfl, hc10, _, hr10, hb10⟩ := hO.rd
            have hr9' := hr9.on hb10
            have hB10 := chain (Nat.le_refl _) hB9 hb10
            clear hso hO hr9 ht9 hB9 hb10
            have hsl : (srtE es).length ≤ 1000000 := by rw [srt_len]; omega
            have hsm := same_yes A9 A10 c9 c10 (srtE es) hsl _ _ w10 hr9' hr10
            go_wp2_with fail
            refine hsm.mono ?_
            rintro e w11 ⟨rfl, n11, rfl⟩
            clear hsm hr9' hr10
            go_wp2_with fail
            go_ret
            exact ⟨rfl, below_drewN hB10 _⟩

set_option maxRecDepth 100000 in
theorem lifted (os : Os) (started : os.Started) (H : Type) (enc : TypeId × Value → H) :
    ReturnsInHanded {} Try.checked os 6 .any (Rows.editOrderSpec.pre6 enc Try.prog Try.f6 Rows.editOrderRow.domain false) (Rows.editOrderSpec.post enc Try.prog Try.f6 false true false false) := by
  refine returnsInHanded_of_change_sized (C := Try.checked) Try.own started (by kernel_rfl) Try.func6
    (ChangeSpec.witness6 (enc := enc) (C := Try.checked) false ⟨#[], #[.string ByteArray.empty, .slice none 0 0, .int .i64 0], []⟩ 8 (by kernel_rfl) (by kernel_rfl) (by kernel_rfl) (by kernel_rfl)) ?_
  intro W base args ds gs before hval0 hW hcnd hsz0 _
  have hval : ∀ (j : Nat) t v, Try.f6.params[j]? = some t → args[j]? = some v → Value.okWide Try.prog W .any base t v := hval0
  have hW' := hW
  obtain ⟨p, q, hA0, hV, rfl, hfz, hnd⟩ := hW
  have hA : DataW.TrodAll enc Try.prog W 0 (fun _ => true) true Try.f6.params.toList args.toList ds p := hA0
  have hsz : (DataW.weightsEach Try.prog (Try.f6.params.toList ++ Rows.editOrderSpec.plain.varTypes Try.prog) (ds ++ gs)).all (· ≤ reachBytes) = true := hsz0
  rw [Try.params6] at hA hval hsz
  obtain ⟨v0, vs0, d0, ds0, p0, q0, hargs, rfl, rfl, h0, r0⟩ := trodAll_cons hA
  obtain ⟨v1, vs1, d1, ds1, p1, q1, rfl, rfl, rfl, h1, r1⟩ := trodAll_cons r0
  obtain ⟨v2, vs2, d2, ds2, p2, q2, rfl, rfl, rfl, h2, r2⟩ := trodAll_cons r1
  obtain ⟨rfl, rfl, rfl⟩ := trodAll_nil r2
  obtain rfl : args = #[v0, v1, v2] := by cases args; simp_all
  obtain ⟨rfl, rfl⟩ := trodVars_none hV
  obtain ⟨a0, rfl, rfl, rfl, w0⟩ := open_string Try.underlying9 (hval 0 9 v0 rfl rfl) h0
  obtain ⟨k, rfl, rfl, rfl, w2⟩ := open_int Try.underlying3 (hval 2 3 v2 rfl rfl) h2
  have hreach : reachBytes = 140737488351232 := rfl
  have hs : a0.size ≤ 140737488355328 := by
    have := sized_string hsz (j := 0) (t := 9) rfl rfl
    simp at this
    omega
  obtain ⟨A, c, es, rfl, hAc, hrd, hl, hx⟩ := open_edits (okWide_slice Try.underlying22 (hval 1 22 v1 rfl rfl)) h1 (fun n hn => by
    have := List.all_eq_true.1 hsz n (DataW.weights_mem_each (j := 1) (t := 22) rfl rfl n hn)
    simpa using this)
  clear hA0 hval0
  simp only [List.append_nil] at hW'
  have hlt : ∀ x ∈ p1, x.block < W.heap.size := fun x hx => hW'.lt x (by simp [hx])
  refine (walk a0 A c hAc es hs hl hx k W hrd).mono fun e W' ⟨he, hg⟩ => ?_
  subst he
  exact ⟨_, rfl, _, _, _, [], [] ++ (p1 ++ ([] ++ [])), [], hW', (trodAll_cons_mk (shut_bool Try.underlying4 _) trodAll_mk0), (trodAll_cons_mk (shut_string Try.underlying9 w0) (trodAll_cons_mk (Below.trod Try.laidOut (by kernel_rfl) (of_decide_eq_true (by kernel_rfl)) h1 hg hlt) (trodAll_cons_mk (shut_int Try.underlying3 w2) trodAll_mk0))), rfl, hg.frame _, fun h => by cases h⟩

theorem over : Rows.editOrderRow.holds Try.pinned (OpenSpec.ofChange Rows.editOrderSpec) :=
  OpenClaim.holds_of_wide 6 Try.f6 rfl rfl rfl rfl rfl rfl rfl ⟨rfl, rfl, rfl, rfl, rfl⟩ rfl rfl rfl rfl rfl (by kernel_rfl) Try.func6 (by kernel_rfl)
    (of_decide_eq_true (by kernel_rfl)) (by unfold Func.isWrapper; first | (rw [if_pos (by decide +kernel)]; kernel_rfl) | (rw [if_neg (by decide +kernel)]; exact ⟨rfl, rfl⟩))
    (fun os started H enc _ => lifted os started H enc)

theorem proved : Rows.EditOrderSaid :=
  over
#print axioms proved
end Go.Proofs.Ytdjdflannedkbaa.editOrder
