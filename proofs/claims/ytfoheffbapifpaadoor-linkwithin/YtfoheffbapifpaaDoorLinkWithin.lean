/-
  PROVED: stetlaw08.LinkWithin returns true for every text and place: a part stands within the text from its place on, between its marks, and a definition's label is folded (the row, and its card, tied to the program's text). Conditions: none beside the row's own: the two tables of unicode/utf8 hold what their initialisers lay (the card ties them; that nothing else writes them is the translator's report, over the pruned copy of the project); no step of the walk reads them.
-/
import Derived.Test.YtfoheffbapifpaaDoorWithinPure
import Derived.Test.YtfoheffbapifpaaDoorWithinA
import Derived.Test.YtfoheffbapifpaaDoorWithinB
import Derived.Test.YtfoheffbapifpaaDoorWithinC
import Derived.Test.YtfoheffbapifpaaDoorCards
import Derived.Test.YtfoheffbapifpaaDoorTie
import Derived.SevenTiedAt
namespace Go.Proofs.YtfoheffbapifpaaDoor.linkWithin
open Go.ChangeShapes Go.WideShapes Go.ChangeAt Go.RowKit
open Go.ChangeMaps (open_string shut_string)
set_option linter.unusedVariables false

set_option maxRecDepth 100000 in
set_option maxHeartbeats 8000000 in
theorem walk (a0 : ByteArray) (a1 : Int) (w0 : a0.size ≤ maxLen) (w1 : (Lit.int .i64 a1).wf = true) (w : World) :
    Calls Tryd.prog 5 #[.string a0, .int .i64 a1] w fun e w' => e = .returned (.bool true) ∧ Below w.heap.size w w' := by
  by_cases hl : 20000 < a0.size
  · skip
    go_enter Tryd.func5, Tryd.ntmps5
    go_wp2_with fail
    refine (alive_any _).mono ?_
    rintro e x0 ⟨rfl, hb⟩
    have B0 := Lib.hid hb
    clear hb
    go_wp2_with fail
    go_ret
    exact ⟨rfl, B0.out⟩
  have hs : a0.size ≤ 1000000 := by omega
  have H8 := fun W => label_any a0 a1 hs W
  have H10 := fun W => dest_any a0 a1 hs W
  have H12 := fun W => title_any a0 a1 hs W
  have H14 := fun W => define_any a0 a1 hs W
  by_cases hf : frm a0 a1 = []
  · rw [hf] at H8 H10 H12 H14
    exact wi_0000 a0 a1 (by omega) _ _ _ _ _ _ _ _ H8 H10 H12 H14 w
  obtain ⟨p, rfl, hp, hf⟩ := frm_pos a0 a1 hf
  rw [hf] at H8 H10 H12 H14
  have hkl := dest_le ((lst a0).drop p)
  rw [dlen] at hkl
  obtain ⟨x, n, hL⟩ : ∃ x n, labP ((lst a0).drop p) = (x, n) := ⟨_, _, rfl⟩
  obtain ⟨d, k, hD⟩ : ∃ x n, destP ((lst a0).drop p) = (x, n) := ⟨_, _, rfl⟩
  obtain ⟨y, j, hT⟩ : ∃ x n, titleP ((lst a0).drop p) = (x, n) := ⟨_, _, rfl⟩
  rw [hL] at H8
  rw [hD] at H10 hkl
  rw [hT] at H12
  simp only [] at hkl
  by_cases hn : n = 0
  · subst hn
    rw [def_lab _ (by rw [hL])] at H14
    by_cases hk : k = 0
    · subst hk
      by_cases hj : j = 0
      · subst hj
        exact wi_0000 a0 p (by omega) _ _ _ _ _ _ _ _ H8 H10 H12 H14 w
      · obtain ⟨_, h2, h3, _, h5⟩ := title_at a0 p j y hT (by omega)
        have H16 := fun W => plain_text (a0.extract (p + 1) (p + j - 1)) (by simp; omega) W
        rw [h5] at H16
        exact wi_0010 a0 p (by omega) hp _ _ _ j h2 h3 _ _ _ _ _ H8 H10 H12 H16 H14 w
    · by_cases hj : j = 0
      · subst hj
        exact wi_0100 a0 p (by omega) hp _ _ k (by omega) (by omega) _ _ _ _ _ _ H8 H10 H12 H14 w
      · obtain ⟨_, h2, h3, _, h5⟩ := title_at a0 p j y hT (by omega)
        have H16 := fun W => plain_text (a0.extract (p + 1) (p + j - 1)) (by simp; omega) W
        rw [h5] at H16
        exact wi_0110 a0 p (by omega) hp _ _ k (by omega) (by omega) _ j h2 h3 _ _ _ _ _ H8 H10 H12 H16 H14 w
  obtain ⟨_, h3, hpn, h91, ⟨hq, h93⟩, hX⟩ := lab_at a0 p n x hL (by omega)
  have hX := of_lst _ _ hX
  have hj : j = 0 := by
    by_cases hj : j = 0
    · exact hj
    · obtain ⟨_, _, _, h4, _⟩ := title_at a0 p j y hT (by omega)
      exact absurd h91 h4
  subst hj
  cases hd : defL ((lst a0).drop p) with
  | none =>
    rw [hd] at H14
    by_cases hk : k = 0
    · subst hk
      exact wi_1000 a0 p (by omega) hp _ n h3 hpn hX h91 h93 _ _ _ _ _ _ _ H8 H10 H12 H14 w
    · exact wi_1100 a0 p (by omega) hp _ n h3 hpn hX h91 h93 _ k (by omega) (by omega) _ _ _ _ _ _ H8 H10 H12 H14 w
  | some q =>
    obtain ⟨l, b, c, t, m⟩ := q
    obtain ⟨g1, g2, g3, g4⟩ := def_bd _ _ _ _ _ _ hd
    have g5 := def_len _ _ _ _ _ _ hd
    rw [dlen] at g3 g5
    rw [hd] at H14
    have H17 := fun W => fold_any ⟨l.toArray⟩ (by rw [← lst_size, lst_mk]; omega) W
    rw [show (⟨l.toArray⟩ : ByteArray).data.toList = l by simp, g4] at H17
    by_cases hk : k = 0
    · subst hk
      exact wi_1001 a0 p (by omega) hp _ n h3 hpn hX h91 h93 _ _ _ _ _ (p + t) m (by omega) (by omega) (by omega) (by omega) H8 H10 H12 H14 H17 w
    · exact wi_1101 a0 p (by omega) hp _ n h3 hpn hX h91 h93 _ k (by omega) (by omega) _ _ _ _ (p + t) m (by omega) (by omega) (by omega) (by omega) H8 H10 H12 H14 H17 w

set_option maxRecDepth 100000 in
theorem lifted (os : Os) (started : os.Started) (H : Type) (enc : TypeId × Value → H) :
    ReturnsInHanded {} Tryd.checked os 5 .any (fun w args => (Rows.linkWithinSpec.pre enc Tryd.prog Tryd.f5 [] false w args ∧ laidMetH Tryd.prog laid2 w) ∧ sizedMet enc Tryd.prog Tryd.f5 (OpenSpec.ofChange Rows.linkWithinSpec) false w args)
      (Rows.linkWithinSpec.post enc Tryd.prog Tryd.f5 false true false false) := by
  refine returnsInHanded_of_change_and (C := Tryd.checked) (X := fun w _ => laidMetH Tryd.prog laid2 w) (fun _ _ _ hh h => h.of_heap hh) own started (by kernel_rfl) Tryd.func5
    (ChangeSpec.witness_at (enc := enc) (C := Tryd.checked) (os := os) (X := fun w _ => laidMetH Tryd.prog laid2 w) false (laidWorld os) #[.string ByteArray.empty, .int .i64 0] 8 rfl (by kernel_rfl) (by kernel_rfl) (by kernel_rfl) (by kernel_rfl) (by kernel_rfl) (laid_met os _)) ?_
  intro W base args ds gs before hval0 hW _ _ hL _
  have hval : ∀ (j : Nat) t v, Tryd.f5.params[j]? = some t → args[j]? = some v → Value.okWide Tryd.prog W .any base t v := hval0
  have hW' := hW
  obtain ⟨p, q, hA0, hV, rfl, hfz, hnd⟩ := hW
  have hA : DataW.TrodAll enc Tryd.prog W 0 (fun _ => true) true Tryd.f5.params.toList args.toList ds p := hA0
  rw [Tryd.params5] at hA hval
  obtain ⟨v0, vs0, d0, ds0, p0, q0, hargs, rfl, rfl, h0, r0⟩ := trodAll_cons hA
  obtain ⟨v1, vs1, d1, ds1, p1, q1, rfl, rfl, rfl, h1, r1⟩ := trodAll_cons r0
  obtain ⟨rfl, rfl, rfl⟩ := trodAll_nil r1
  obtain rfl : args = #[v0, v1] := by cases args; simp_all
  obtain ⟨rfl, rfl⟩ := trodVars_none hV
  obtain ⟨a0, rfl, rfl, rfl, w0⟩ := open_string Tryd.underlying9 (hval 0 9 v0 rfl rfl) h0
  obtain ⟨a1, rfl, rfl, rfl, w1⟩ := open_int Tryd.underlying3 (hval 1 3 v1 rfl rfl) h1
  clear hA0 hval0
  simp only [List.append_nil] at hW'
  refine (walk a0 a1 w0 w1 W).mono fun e W' ⟨he, hg⟩ => ?_
  subst he
  exact ⟨_, rfl, _, _, _, [], [], [], hW', (trodAll_cons_mk (shut_bool Tryd.underlying4 _) trodAll_mk0), (trodAll_cons_mk (shut_string Tryd.underlying9 w0) (trodAll_cons_mk (shut_int Tryd.underlying3 w1) trodAll_mk0)), rfl, hg.frame _, fun h => by cases h⟩

theorem over : Rows.LinkWithinSaid :=
  OpenClaim.holds_of_wide 5 Tryd.f5 rfl rfl rfl rfl rfl rfl rfl ⟨rfl, rfl, rfl, rfl, rfl⟩ rfl rfl rfl rfl rfl (by kernel_rfl) Tryd.func5 (by kernel_rfl)
    (of_decide_eq_true (by kernel_rfl)) (by unfold Func.isWrapper; first | (rw [if_pos (by decide +kernel)]; kernel_rfl) | (rw [if_neg (by decide +kernel)]; exact ⟨rfl, rfl⟩))
    (fun os started H enc _ => lifted os started H enc)

theorem proved : Rows.LinkWithinCardSaid :=
  Claim7.holds_tied_plain_at .later [] [.data, .pinned] true (true, "aff6082a9a53a5ec51ae516706cc7bb4100bc3e83b81131cec9549d84db70d2a") false
    over (fun _ h => by cases h) (by kernel_rfl) (fun _ h => by cases h) linkWithin_row_tie rfl ⟨rfl, rfl⟩ (by kernel_rfl) rfl
    (fun f fn hf hfn => by
      obtain rfl : f = 5 := Option.some.inj ((show Tryd.prog.funcNamed "stet/stetlaw08.LinkWithin" = some 5 by kernel_rfl).symm.trans hf) |>.symm
      obtain rfl : fn = Tryd.f5 := (Option.some.inj (Tryd.func5.symm.trans hfn)).symm
      exact ⟨by kernel_rfl, fun j t ht => by
        rw [Tryd.params5] at ht
        have hm : t ∈ [9, 3] := by simpa using Array.mem_of_getElem? ht
        have hall : ([9, 3].all fun u => !Tryd.prog.wantsStandIn u) = true := by kernel_rfl
        exact (show Tryd.prog.wantsStandIn t = false by simpa using List.all_eq_true.1 hall t hm)⟩)
    (by kernel_rfl)
#print axioms proved
end Go.Proofs.YtfoheffbapifpaaDoor.linkWithin
