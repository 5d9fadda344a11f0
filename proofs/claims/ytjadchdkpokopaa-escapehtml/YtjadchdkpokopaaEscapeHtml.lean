/-
  PROVED: stetlaw07.EscapeHtml returns true for every text: the HTML of a text has none of < > and the double quote, and read entity by entity it is the text, cleaned. Conditions: none beside the row's own.
-/
import Derived.Test.YtjadchdkpokopaaAlive
import Derived.Test.YtjadchdkpokopaaRefText
import Derived.WalkKit
import Derived.ProofKit
import Derived.OpenShut
import Derived.ShutString
namespace Go.Proofs.Ytjadchdkpokopaa.escapeHtml
open Go.ChangeShapes Go.WideShapes Go.ChangeAt Go.RowKit
open Go.ChangeMaps (open_string shut_string)
set_option linter.unusedVariables false      -- a walk need not use every 'w<i>' (that an integer argument fits its kind)

theorem own : ownKnob Try.prog.godebug = none := by kernel_rfl

/-- What a loop that only looks goes by. -/
def ULoop (U : ByteArray) (i : Value) (w wr : World) : Prop := ∃ p : Nat, p ≤ U.size ∧ i = .int .i64 p ∧ wr = w
/-- What the loop that reads HTML back goes by. -/
def Back (C H : ByteArray) (W : World) (v i : Value) (wr : World) : Prop :=
  ∃ pre rest : List UInt8, lst C = pre ++ rest ∧ i = .int .i64 ((htmlL pre).length : Nat) ∧ wr.ownsRow W.heap.size 5 1 v pre.length (Lib.byteCells pre) ∧ v ≠ .slice none 0 0 ∧ Below W.heap.size W wr
theorem back_step {C H : ByteArray} {W w2 : World} {v : Value} {z : Int} {pre rest : List UInt8} {c : UInt8} (hpr : lst C = pre ++ c :: rest) (hz : z = ((htmlL pre).length : Int) + (h1 c).length)
    (ho : w2.ownsRow W.heap.size 5 1 v (pre.length + 1) (Lib.byteCells pre ++ Lib.byteCells [c])) (hv : v ≠ .slice none 0 0) (hb : Below W.heap.size W w2) : Back C H W v (.int .i64 z) w2 := by
  refine ⟨pre ++ [c], rest, by rw [hpr, List.append_assoc]; rfl, ?_, ?_, hv, hb⟩
  · rw [hz, htmlL_app, List.length_append, htmlL_cons, htmlL_nil, List.append_nil, Int.natCast_add]
  · rw [List.length_append, Lib.byteCells_append]; exact ho
set_option maxHeartbeats 16000000 in
set_option maxRecDepth 100000 in
theorem walk (a0 : ByteArray) (w0 : a0.size ≤ maxLen) (w : World) :
    Calls Try.prog 6 #[.string a0] w fun e w' => e = .returned (.bool true) ∧ Below w.heap.size w w' := by
  by_cases hl : 20000 < a0.size
  · go_enter Try.func6, Try.ntmps6
    go_wp2_with fail
    refine (alive_any _).mono ?_
    rintro e w1 ⟨rfl, hb⟩
    have B1 := Lib.hid hb
    have z1 := hb.size
    clear hb
    go_wp2_with fail
    go_ret
    exact ⟨rfl, B1.out⟩
  · have hs : a0.size ≤ 2000000 := by omega
    obtain ⟨i0, hi, hz0, hz1, hz2⟩ := info_parts Try.info5
    obtain ⟨C, hC, _, hcC⟩ := clean_text a0 hs
    obtain ⟨H, hH, hH2⟩ := made (htmlL (lst C))
    have zC : C.size ≤ 80000 := by
      rw [← lst_size, hC]
      have h2 := clean_len (lst a0)
      rw [lst_size] at h2
      omega
    have zH : H.size ≤ 480000 := by
      rw [← lst_size, hH]
      have h1 := htmlL_len (lst C)
      rw [lst_size] at h1
      omega
    have H1 : Hid (∀ W, Calls Try.prog 14 #[.string a0] W fun e w' => e = .returned (.string H) ∧ Below W.heap.size W w') := fun W => by
      have h := html_text a0 hs W
      rw [← hC, hH2] at h
      exact h
    have HOK : Hid (∀ (p : Nat) (hp : p < H.size), (H[p]'hp) ≠ 60 ∧ (H[p]'hp) ≠ 62 ∧ (H[p]'hp) ≠ 34) := fun p hp => html_none (lst C) _ (by rw [← hH]; exact List.mem_of_getElem? (Lib.data_getElem? H p hp))
    have HH := Lib.hid hH
    have HC := Lib.hid hcC
    clear hC hcC hH hH2
    go_enter Try.func6, Try.ntmps6
    go_wp2_with fail
    refine (alive_any _).mono ?_
    rintro e w1 ⟨rfl, hb⟩
    have B1 := Lib.hid hb
    have z1 := hb.size
    clear hb
    go_wp2_with fail
    refine (H1.out _).mono ?_
    rintro e w2 ⟨rfl, hb⟩
    have B2 := Lib.hid (chain (Nat.le_refl _) B1.out hb)
    have z2 := hb.size
    clear hb B1 H1
    go_wp2_with fail
    go_loopw [4] (fun i wr => ULoop H i w2 wr) (fun i _ => H.size - (intOf i).toNat)
    case atStart => exact ⟨0, Nat.zero_le _, rfl, rfl⟩
    case round =>
      obtain ⟨p, hp, rfl, rfl⟩ := hrel
      by_cases hlt : p < H.size
      · obtain ⟨k1, k2, k3⟩ := HOK.out p hlt
        have c1 : (((H[p]'hlt).toNat : Int) == 60) = false := by have := ne_u8 _ 60 (by decide) k1; rw [beq_eq_false_iff_ne]; omega
        have c2 : (((H[p]'hlt).toNat : Int) == 62) = false := by have := ne_u8 _ 62 (by decide) k2; rw [beq_eq_false_iff_ne]; omega
        have c3 : (((H[p]'hlt).toNat : Int) == 34) = false := by have := ne_u8 _ 34 (by decide) k3; rw [beq_eq_false_iff_ne]; omega
        clear k1 k2 k3
        go_wp2_with fail
        go_roundw
        case rel => exact ⟨p + 1, by omega, by go_num, rfl⟩
        case measure => simp [intOf]; omega
      · obtain ⟨w3, rfl⟩ : ∃ w3, w3 = wr := ⟨wr, rfl⟩
        go_wp2_with fail
        go_loopw [5, 6] (fun v i wr => Back C H w3 v i wr) (fun _ i _ => H.size - (intOf i).toNat)
        case atStart => exact ⟨[], lst C, rfl, rfl, own_empty5 _ _ (Nat.le_refl _), (fun h => by cases h), (Below.refl _ _).alloc (Nat.le_refl _) _⟩
        case round =>
          obtain ⟨pre, rest, hpr, rfl, hown0, hnil, hB0⟩ := hrel
          obtain ⟨q, hq⟩ : ∃ q, q = (htmlL pre).length := ⟨_, rfl⟩
          rw [← hq]
          have hBz := hB0.size
          have HNIL := Lib.hid hnil
          have hlen : pre.length ≤ 80000 := by
            have h := congrArg List.length hpr
            rw [lst_size, List.length_append] at h
            omega
          have hdrop : (lst H).drop q = htmlL rest := by rw [HH.out, hpr, htmlL_app, hq, List.drop_left]
          have hqs : q + (htmlL rest).length = H.size := by
            rw [← lst_size, HH.out, hpr, htmlL_app, List.length_append, hq]
          cases rest with
          | cons c rest =>
            have hc6 := h1_len c
            have hcl : (htmlL (c :: rest)).length = (h1 c).length + (htmlL rest).length := by rw [htmlL_cons, List.length_append]
            have hqlt : q < H.size := by omega
            have hE := fun W => ent_in H q hqlt (by omega) W
            rw [hdrop, htmlL_cons] at hE
            have HS := Lib.hid (fun (w2 : World) (v : Value) (z : Int) (hz : z = (q : Int) + (h1 c).length) (ho : w2.ownsRow w3.heap.size 5 1 v (pre.length + 1) (Lib.byteCells pre ++ Lib.byteCells [c])) (hv : v ≠ .slice none 0 0) (hb : Below w3.heap.size w3 w2) => back_step (C := C) (H := H) (c := c) (rest := rest) hpr (show z = ((htmlL pre).length : Int) + (h1 c).length by rw [hz, hq]) ho hv hb)
            have hn := (H[q]'hqlt).toNat_lt
            clear hnil
            cases hsp : special c with
            | true =>
              obtain ⟨v, he, hv⟩ := html_ent c hsp (htmlL rest)
              rw [he] at hE
              have HE : Hid (∀ W, Calls Try.prog 10 #[.string H, .int .i64 q] W fun e w' => e = .returned (.tuple #[.string ⟨[c].toArray⟩, .int .i64 ((h1 c).length : Nat)]) ∧ Below W.heap.size W w') := fun W => by
                have h := hE W
                unfold EntPost entB entN at h
                simp only [hv] at h
                exact h
              obtain ⟨X, hX, hX2⟩ := made [c]
              rw [hX2] at HE
              have hX1 : X.size = 1 := by rw [← lst_size, hX]; rfl
              have HXS := Lib.hid hX1
              have HX := Lib.hid hX
              have hX4 : X.size ≤ 1 := by omega
              generalize (h1 c).length = n at *
              clear hE he hv hsp hX hX2 hX1 hpr hdrop hcl
              have HQ := Lib.hid hq
              clear hq
              go_wp2_with fail
              refine (HE.out _).mono ?_
              rintro e w4 ⟨rfl, hb⟩
              have hown := own_below hown0 hb
              have hB1 : Below w3.heap.size w3 w4 := hB0.trans (hb.mono hBz)
              have hz4 := hB1.size
              clear HE hb hown0 hB0
              go_wp2_with (at_builtin; refine Lib.wpList_append_own_string _ rfl _ _ 28 9 rfl w3.heap.size 5 i0 Try.underlying28 Try.underlying9 hi hz0 hz1 hz2 _ _ _ rfl hown X rfl (by unfold maxLen; omega) (by omega) (by omega) ?_)
              intro v' w5 hown' hgrow hiff
              have hge := own_block_ge hown
              have HR := Lib.hid (HS.out w5 v' _ rfl (by rw [HXS.out, strx HX.out] at hown'; exact hown') (by first | exact hiff | exact fun hv => HNIL.out (hiff.1 hv).1) (hB1.grown hgrow (by omega) (fun k hk => (hge k hk).1)))
              clear hown' hgrow hown hiff hge hB1 HS
              go_wp2_with fail
              go_roundw
              case rel => exact HR.out
              case measure => simp [intOf]; omega
            | false =>
              obtain ⟨hh, h38⟩ := html_plain c hsp
              have hb0 : (H[q]'hqlt) = c := by
                have h := lst_at H q hqlt
                rw [hdrop, htmlL_cons, hh] at h
                injection h with h
                exact h.symm
              rw [hh, List.singleton_append, entAt_not c _ h38] at hE
              have HE : Hid (∀ W, Calls Try.prog 10 #[.string H, .int .i64 q] W fun e w' => e = .returned (.tuple #[.string { data := #[] }, .int .i64 0]) ∧ Below W.heap.size W w') := fun W => hE W
              have c38 : (((H[q]'hqlt).toNat : Int) == 38) = false := by rw [hb0]; have := ne_u8 _ 38 (by decide) h38; rw [beq_eq_false_iff_ne]; omega
              have HQ := Lib.hid hq
              rw [hh] at HS
              rw [← hb0] at HS
              clear hq hE hsp hh h38 hb0 hpr hdrop hcl
              go_wp2_with fail
              refine (HE.out _).mono ?_
              rintro e w4 ⟨rfl, hb⟩
              have hown := own_below hown0 hb
              have hB1 : Below w3.heap.size w3 w4 := hB0.trans (hb.mono hBz)
              have hz4 := hB1.size
              clear HE hb hown0 hB0
              go_wp2_with (at_builtin; refine wpList_append_own _ rfl _ _ 28 rfl w3.heap.size 5 i0 (.int .u8 0) 1 1 Try.underlying28 hi hz0 hz1 hz2 rfl (by decide) _ _ _ rfl (hown.alloc _) ⟨w4.heap.size, 0, none⟩ 1 1 (Lib.byteCells [H[q]'hqlt]) rfl rfl (newsB _ [H[q]'hqlt]) (bytes_one _) (by unfold maxLen; omega) (by omega) (by simp; omega) ?_)
              intro v' w5 hown' hgrow hiff
              have hge := own_block_ge hown
              have HR := Lib.hid (HS.out w5 v' _ rfl hown' (by first | exact hiff | exact fun hv => HNIL.out (hiff.1 hv).1) ((hB1.alloc (by omega) _).grown hgrow (by simp; omega) (fun k hk => (hge k hk).1)))
              clear hown' hgrow hown hiff hge hB1 HS
              go_wp2_with fail
              go_roundw
              case rel => exact HR.out
              case measure => simp [intOf]; omega
          | nil =>
            rw [List.append_nil] at hpr
            subst hpr
            have hqe : q = H.size := by rw [← hqs]; simp [htmlL]
            obtain ⟨ag, cp, rfl, hconv⟩ := own_string hown0 hnil
            have eC : (⟨(lst C).toArray⟩ : ByteArray) = C := (of_lst C _ rfl).symm
            have hcv : ∀ W : World, Below wr.heap.size wr W → (convert 28 9 (.slice (some ag) C.size cp)).run Try.prog W = .ok (.string C) W := fun W hb => by
              obtain ⟨a2, c2, h2, h3⟩ := own_string (own_below hown0 hb) hnil
              rw [eC, lst_size] at h3
              exact h3
            have HCV := Lib.hid hcv
            have hq' : ¬ q < H.size := by omega
            have HB0 := Lib.hid (chain (Nat.le_refl _) B2.out hB0)
            clear hcv hconv hq hqe hdrop hqs hnil hown0 hB0 B2 eC
            go_wp2_with fail
            have k0 := HCV.out wr (Below.refl _ _)
            go_region_held3 (fun w' => (convert 28 9 (.slice (some ag) C.size cp)).run Try.prog w' = .ok (.string C) w') (first | exact HCV.out _ (Below.refl _ _) | exact HCV.out _ ((Below.refl _ _).drew) | assumption)
              (first | (go_at_call 19; ((with_reducible refine (HC.out _).mono ?_)); rintro e w4 ⟨rfl, hb4⟩; have k4 := HCV.out w4 ((Below.refl _ _).drew.trans hb4)))
            all_goals (go_wp2_with fail; go_ret; exact ⟨rfl, chain (Nat.le_refl _) HB0.out ((Below.refl _ _).drew.trans hb4)⟩)

set_option maxRecDepth 100000 in
theorem lifted (os : Os) (started : os.Started) (H : Type) (enc : TypeId × Value → H) :
    ReturnsInHanded {} Try.checked os 6 .any (Rows.escapeHtmlSpec.pre6 enc Try.prog Try.f6 Rows.escapeHtmlRow.domain false) (Rows.escapeHtmlSpec.post enc Try.prog Try.f6 false true false false) := by
  refine returnsInHanded_of_change (C := Try.checked) own started (by kernel_rfl) Try.func6
    (ChangeSpec.witness6 (enc := enc) (C := Try.checked) false ⟨#[], #[.string ByteArray.empty], []⟩ 8 (by kernel_rfl) (by kernel_rfl) (by kernel_rfl) (by kernel_rfl)) ?_
  intro W base args ds gs before hval0 hW hcnd _
  have hval : ∀ (j : Nat) t v, Try.f6.params[j]? = some t → args[j]? = some v → Value.okWide Try.prog W .any base t v := hval0
  have hW' := hW
  obtain ⟨p, q, hA0, hV, rfl, hfz, hnd⟩ := hW
  have hA : DataW.TrodAll enc Try.prog W 0 (fun _ => true) true Try.f6.params.toList args.toList ds p := hA0
  rw [Try.params6] at hA hval
  obtain ⟨v0, vs0, d0, ds0, p0, q0, hargs, rfl, rfl, h0, r0⟩ := trodAll_cons hA
  obtain ⟨rfl, rfl, rfl⟩ := trodAll_nil r0
  obtain rfl : args = #[v0] := by cases args; simp_all
  obtain ⟨rfl, rfl⟩ := trodVars_none hV
  obtain ⟨a0, rfl, rfl, rfl, w0⟩ := open_string Try.underlying9 (hval 0 9 v0 rfl rfl) h0
  clear hA0 hval0
  simp only [List.append_nil] at hW'
  refine (walk a0 w0 W).mono fun e W' ⟨he, hg⟩ => ?_
  subst he
  exact ⟨_, rfl, _, _, _, [], [], [], hW', (trodAll_cons_mk (shut_bool Try.underlying4 _) trodAll_mk0), (trodAll_cons_mk (shut_string Try.underlying9 w0) trodAll_mk0), rfl, hg.frame _, fun h => by cases h⟩

theorem over : Rows.escapeHtmlRow.holds Try.pinned (OpenSpec.ofChange Rows.escapeHtmlSpec) :=
  OpenClaim.holds_of_wide 6 Try.f6 rfl rfl rfl rfl rfl rfl rfl ⟨rfl, rfl, rfl, rfl, rfl⟩ rfl rfl rfl rfl rfl (by kernel_rfl) Try.func6 (by kernel_rfl)
    (of_decide_eq_true (by kernel_rfl)) (by unfold Func.isWrapper; first | (rw [if_pos (by decide +kernel)]; kernel_rfl) | (rw [if_neg (by decide +kernel)]; exact ⟨rfl, rfl⟩))
    (fun os started H enc _ => lifted os started H enc)

theorem proved : Rows.EscapeHtmlSaid :=
  over
#print axioms proved
end Go.Proofs.Ytjadchdkpokopaa.escapeHtml
