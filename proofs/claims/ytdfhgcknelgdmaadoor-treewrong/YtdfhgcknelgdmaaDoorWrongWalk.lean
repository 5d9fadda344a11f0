/-
  PROVED: the walk of TreeWrong: true, whatever the tree and the two numbers. Conditions: the lengths and numbers are a machine's; the tables lie as their initialisers lay them.
-/
import Derived.Test.YtdfhgcknelgdmaaDoorAlive
import Derived.Test.YtdfhgcknelgdmaaDoorWrongMade
import Derived.Deep.RegionLaw
import Derived.Deep.AppendLies
import Derived.Deep.CutBlock
import Derived.Deep.DeepCutAuto
namespace Go.Proofs.YtdfhgcknelgdmaaDoor
open Go.ChangeShapes Go.WideShapes Go.ChangeAt Go.RowKit Go.Sort
set_option linter.unusedVariables false

theorem Tr.len {w : World} {B : Nat} {A : Option Addr} {T : List Nd} (h : Tr w B A T) : True := trivial
theorem wrap_next {t : Int} (h : I64 t) : I64 (wrap64 (t + 1)) ∧ (wrap64 (t + 1) < 0 ∨ t < wrap64 (t + 1)) := by
  obtain ⟨h1, h2⟩ := h
  by_cases ht : t = 9223372036854775807
  · subst ht
    have e : wrap64 (9223372036854775807 + 1) = -9223372036854775808 := by unfold wrap64; omega
    rw [e]
    exact ⟨⟨by decide, by decide⟩, Or.inl (by decide)⟩
  · have e : wrap64 (t + 1) = t + 1 := by
      unfold wrap64
      omega
    rw [e]
    exact ⟨⟨by omega, by omega⟩, Or.inr (by omega)⟩

set_option maxRecDepth 100000 in
set_option maxHeartbeats 40000000 in
theorem wrong_walk (A : Option Addr) (c : Nat) (T : List Nd) (hW : Wide T) (hN : ∀ n ∈ T, NumN n) (a k : Int) (w : World) (h : Tr w w.heap.size A T) (hg : Glob w) :
    Calls Tryd.prog 7 #[.agg #[.slice A T.length c], .int .i64 a, .int .i64 k] w fun e w' => e = .returned (.bool true) ∧ Below w.heap.size w w' := by
  obtain ⟨i0, hi0, hz0, hz1, hz2⟩ := info_parts Tryd.info39
  obtain ⟨j0, hj0, hy0, hy1, hy2⟩ := info_parts Tryd.info3
  have HA := Lib.hid h
  have HGl := Lib.hid hg
  have HN := Lib.hid hN
  have HWt : Hid (∀ W, Below w.heap.size w W → Calls Tryd.prog 9 #[.agg #[.slice A T.length c], .int .i64 4000] W fun e w' => e = .returned (.int .i64 (wgt 4000 0 T)) ∧ Below W.heap.size W w') := fun W hb => weigh_any A c 4000 (by omega) T hW W ((h.below hb).more hb.size)
  obtain ⟨V, hV⟩ : ∃ V, V = wgt 4000 0 T := ⟨_, rfl⟩
  rw [← hV] at HWt
  have HV := Lib.hid hV
  clear h hg hV hW hN
  have H0 : Hid (Holds (w.alloc (.cells #[.slice A T.length c] 24)) w.heap.size 24 #[.slice A T.length c]) := Holds.made w 24 _
  have HB0 : Hid (Below w.heap.size w (w.alloc (.cells #[.slice A T.length c] 24))) := (Below.refl _ _).alloc (Nat.le_refl _) _
  go_enter Tryd.func7, Tryd.ntmps7
  go_wp2_with fail
  refine (alive_any _ (HGl.out.on HB0.out)).mono ?_
  rintro e w1 ⟨rfl, hb⟩
  have H1 := Lib.hid (H0.out.under hb H0.out.lt)
  have B1 : Hid (Below w.heap.size w w1) := HB0.out.trans (hb.mono (by simp))
  have a1 : w1.cell? ⟨w.heap.size, 0, none⟩ = some (.slice A T.length c) := H1.out.at 0
  clear hb H0 HB0
  go_wp2_with fail
  refine (HWt.out _ B1.out).mono ?_
  rintro e w2 ⟨rfl, hb⟩
  have H2 := Lib.hid (H1.out.under hb H1.out.lt)
  have B2 := Lib.hid (chain (Nat.le_refl _) B1.out hb)
  have a2 : w2.cell? ⟨w.heap.size, 0, none⟩ = some (.slice A T.length c) := H2.out.at 0
  clear hb H1 a1 HWt
  by_cases hv : 4000 < V
  · have hvz : (4000 : Int) < (V : Int) := by omega
    go_wp2_with fail
    go_ret
    exact ⟨rfl, B2.out⟩
  have hvz : ¬ (4000 : Int) < (V : Int) := by omega
  obtain ⟨hBd, hT4⟩ := wgt_bd (m := 4000) (T := T) (by rw [← HV.out]; omega) (by omega)
  have HTy : Hid (Tiny T) := wgt_tiny (m := 4000) (T := T) (by rw [← HV.out]; omega) (by omega)
  have HBd := Lib.hid hBd
  clear hBd
  go_wp2_with fail
  refine (copyTree_any A c T HBd.out w2 ((HA.out.below B2.out).more B2.out.size)).mono ?_
  rintro e w3 ⟨v3, S3, rfl, hO, hb⟩
  obtain ⟨A3, c3, rfl, _, _, hT3⟩ := hO.tr
  have HT3 := Lib.hid hT3
  have H3 := Lib.hid (H2.out.under hb H2.out.lt)
  have B3 := Lib.hid (chain (Nat.le_refl _) B2.out hb)
  clear hb hO hT3 H2 a2
  go_wp2_with fail
  refine (right_any A3 c3 T HBd.out w3 HT3.out).mono ?_
  rintro e w4 ⟨rfl, hb⟩
  have H4 := Lib.hid (H3.out.under hb H3.out.lt)
  have B4 := Lib.hid (chain (Nat.le_refl _) B3.out hb)
  have a4 : w4.cell? ⟨w.heap.size, 0, none⟩ = some (.slice A T.length c) := H4.out.at 0
  clear hb H3 HT3
  by_cases hr : parP T = []
  · have q : decide (0 < (parP T).length) = false := by rw [hr]; rfl
    rw [q]
    clear q hr
    go_wp2_with fail
    go_ret
    exact ⟨rfl, B4.out⟩
  have q : decide (0 < (parP T).length) = true := decide_eq_true (List.length_pos_iff.2 hr)
  rw [q]
  have HR := Lib.hid hr
  clear q hr
  by_cases ha0 : a < 0
  · go_wp2_with fail
    go_ret
    exact ⟨rfl, B4.out⟩
  by_cases hal : (T.length : Int) ≤ a
  · go_wp2_with fail
    go_ret
    exact ⟨rfl, B4.out⟩
  obtain ⟨i, rfl⟩ : ∃ i : Nat, a = (i : Int) := ⟨a.toNat, by omega⟩
  have hil : i < T.length := by omega
  have hil2 : (i : Int) < (T.length : Int) := by omega
  clear ha0 hal
  go_wp2_with fail
  refine (copyTree_any A c T HBd.out w4 ((HA.out.below B4.out).more B4.out.size)).mono ?_
  rintro e w5 ⟨v5, S5, rfl, hO, hb⟩
  obtain ⟨g, c5, rfl, hge, hgl⟩ := hO.block (by omega)
  have B5 := Lib.hid (chain (Nat.le_refl _) B4.out hb)
  obtain ⟨n, hn⟩ : ∃ n, T[i]? = some n := ⟨_, List.getElem?_eq_getElem hil⟩
  obtain ⟨s, hs⟩ : ∃ s, S5[i]? = some s := ⟨_, List.getElem?_eq_getElem (by rw [hO.len]; exact hil)⟩
  obtain ⟨W6, hW6⟩ : ∃ W6, W6 = w5.alloc (.cells #[.slice (some ⟨g, 0, none⟩) T.length c5] 24) := ⟨_, rfl⟩
  have b6 : Below w5.heap.size w5 W6 := by rw [hW6]; exact (Below.refl _ _).alloc (Nat.le_refl _) _
  have z6 : W6.heap.size = w5.heap.size + 1 := by rw [hW6]; simp
  have K6 : Hid (Holds W6 w5.heap.size 24 #[.slice (some ⟨g, 0, none⟩) T.length c5]) := by show Holds _ _ _ _; rw [hW6]; exact Holds.made w5 24 _
  have hwg : w.heap.size ≤ g := by have := B4.out.size; omega
  have O6 : Hid (OwnT W6 w.heap.size (.slice (some ⟨g, 0, none⟩) T.length c5) T S5) := (hO.base B4.out.size).below b6
  have B6 := Lib.hid (chain (Nat.le_refl _) B5.out b6)
  obtain ⟨hK, hF⟩ := O6.out.at hn hs
  obtain ⟨ok1, op1⟩ := O6.out.sub i n s hn hs
  obtain ⟨kv, pv⟩ := s
  obtain ⟨KA, kc, hkv, _, hkn, hks⟩ := own_ints ok1
  simp only at hkv hK ok1 op1
  subst hkv
  have HW6 := Lib.hid hW6
  have OK1 := Lib.hid ok1
  have OP1 := Lib.hid op1
  have HNt := Lib.hid hn
  have HSt := Lib.hid hs
  have HKs := Lib.hid hks
  have NumI := Lib.hid (HN.out n (List.mem_of_getElem? hn))
  have nks : n.ks.length ≤ 4000 := (HTy.out.2 n (List.mem_of_getElem? hn)).2.2.2.1
  have x0 : W6.cell? ⟨w5.heap.size, 0, none⟩ = some (.slice (some ⟨g, 0, none⟩) T.length c5) := K6.out.at 0
  have xf : W6.frozen? ⟨w5.heap.size, 0, none⟩ = false := K6.out.soft 0
  have y0 := hK.c0
  have y1 := hK.c1
  have y2 := hK.c2
  have y8 := hK.c8
  have y9 := hK.c9
  have f0 := hF (i * 10)
  have f1 := hF (i * 10 + 1)
  have f8 := hF (i * 10 + 8)
  have f9 := hF (i * 10 + 9)
  have zz : w.heap.size ≤ w5.heap.size := B5.out.size
  clear hb hO hW6 b6 hK hF ok1 op1 hn hs hks H4 a4 hT4
  generalize hLn : T.length = LN at *
  have HLn := Lib.hid hLn
  clear hLn
  have hgb : g ≠ w5.heap.size := by omega
  have hgb' : w5.heap.size ≠ g := by omega
  go_upto_region 6 with fail
  rw [← HW6.out]
  by_cases h0 : k = 0
  · subst h0
    have DB : Hid (Below W6.heap.size W6 (W6.drew.alloc (.cells #[.int .i64 (LN : Int)] 3))) := (Below.refl _ _).drew.alloc (by simp) _
    have HRow : Hid ((W6.drew.alloc (.cells #[.int .i64 (LN : Int)] 3)).ownsRow w.heap.size 3 1 (.slice KA n.ks.length kc) n.ks.length (icells n.ks)) := own_below OK1.out DB.out
    have HNe : Hid (some g ≠ (Value.slice KA n.ks.length kc).ownBlock) := fun e => own_type OK1.out O6.out.row (by decide) g e.symm rfl
    have HNb : Hid (some w5.heap.size ≠ (Value.slice KA n.ks.length kc).ownBlock) := fun e => own_holds_ne OK1.out K6.out (by decide) e.symm
    have da8 : (W6.drew.alloc (.cells #[.int .i64 (LN : Int)] 3)).cell? ⟨g, i * 10 + 8, none⟩ = some (.slice KA n.ks.length kc) := (DB.out.cell (p := ⟨g, i * 10 + 8, none⟩) (by show g < _; omega)).trans y8
    have df8 : (W6.drew.alloc (.cells #[.int .i64 (LN : Int)] 3)).frozen? ⟨g, i * 10 + 8, none⟩ = false := (World.frozen?_of_block (DB.out.block g (by omega))).trans f8
    have dx0 : (W6.drew.alloc (.cells #[.int .i64 (LN : Int)] 3)).cell? ⟨w5.heap.size, 0, none⟩ = some (.slice (some ⟨g, 0, none⟩) LN c5) := (DB.out.cell (p := ⟨w5.heap.size, 0, none⟩) (by show w5.heap.size < _; omega)).trans x0
    go_wp2_with fail
    go_region_law (refine step_append_lies _ rfl _ _ 30 rfl w.heap.size 3 j0 (.int .i64 0) 1 8 Tryd.underlying30 hj0 hy0 hy1 hy2 rfl (by decide) (.slice KA n.ks.length kc) n.ks.length (icells n.ks) rfl HRow.out ⟨W6.heap.size, 0, none⟩ 1 1 [.int .i64 (LN : Int)] (by first | rfl | (rw [z6]; rfl)) rfl (cell_one_new _ _ _) (by intro u hu; simp at hu; subst hu; rfl) (by decide) (by unfold maxLen; omega) (by omega) (by simp; omega) _ rfl ?_; intro gk kd w7 hown hgrow hat hlt; have u8 := hgrow.cell da8 HNe.out; have a7 := hgrow.cell dx0 HNb.out; have uf8 : w7.frozen? ⟨g, i * 10 + 8, none⟩ = false := (World.frozen?_of_block (hgrow.block g (by simp; omega) HNe.out)).trans df8)
    all_goals
      have K6a := K6.out.under DB.out (by omega)
      have K7 := grown_holds hgrow K6a (fun e => HNb.out e.symm)
      have B7 : Below w.heap.size w w7 := below_grown' (B6.out.trans (DB.out.mono (by omega))) hgrow (by have := DB.out.size; omega) (fun k hk => (own_block_ge HRow.out k hk).1)
      have hp7 : w7.ownsRow w.heap.size 42 2 pv n.ps.length (qcells n.ps) := (own_below OP1.out DB.out).kept hgrow (by
        cases hb : pv.ownBlock with
        | none => exact Or.inl rfl
        | some b => exact Or.inr fun e => own_type OK1.out OP1.out (by decide) b e.symm hb)
      have XO : Hid (OwnT (w7.setCell ⟨g, i * 10 + 8, none⟩ (.slice (some ⟨gk, 0, none⟩) (n.ks.length + 1) kd)) w.heap.size (.slice (some ⟨g, 0, none⟩) LN c5) (T.set i { n with ks := n.ks ++ [(LN : Int)] }) (S5.set i (.slice (some ⟨gk, 0, none⟩) (n.ks.length + 1) kd, pv))) := by
        refine (O6.out.below DB.out).put (j := 8) (w1 := w7) (n' := { n with ks := n.ks ++ [(LN : Int)] }) (s := ((.slice KA n.ks.length kc), pv)) (s' := (.slice (some ⟨gk, 0, none⟩) (n.ks.length + 1) kd, pv)) HLn.out.symm HNt.out HSt.out (by omega) rfl hgrow ?_ hp7 ?_
        · have := hown
          simpa [icells] using this
        · rcases hat with e | e
          · exact Or.inl e.symm
          · refine Or.inr fun b hb => ?_
            have hb1 : some gk = some b := hb
            injection hb1 with hb2
            rw [← hb2, e]
            exact Nat.le_refl _
      have XT : Hid (Tr (w7.setCell ⟨g, i * 10 + 8, none⟩ (.slice (some ⟨gk, 0, none⟩) (n.ks.length + 1) kd)) (w7.setCell ⟨g, i * 10 + 8, none⟩ (.slice (some ⟨gk, 0, none⟩) (n.ks.length + 1) kd)).heap.size (some ⟨g, 0, none⟩) (T.set i { n with ks := n.ks ++ [(LN : Int)] })) := XO.out.tr'.2
      have XL : Hid (LN = (T.set i { n with ks := n.ks ++ [(LN : Int)] }).length) := XO.out.tr'.1
      have XH : Hid (Holds (w7.setCell ⟨g, i * 10 + 8, none⟩ (.slice (some ⟨gk, 0, none⟩) (n.ks.length + 1) kd)) w5.heap.size 24 #[.slice (some ⟨g, 0, none⟩) LN c5]) := K7.past (p := ⟨g, i * 10 + 8, none⟩) hgb' _
      have XB : Hid (Below w.heap.size w (w7.setCell ⟨g, i * 10 + 8, none⟩ (.slice (some ⟨gk, 0, none⟩) (n.ks.length + 1) kd))) := B7.setCell (p := ⟨g, i * 10 + 8, none⟩) hwg _
      have XW : Hid (WrongT (T.set i { n with ks := n.ks ++ [(LN : Int)] })) := (by have := wrong0 HTy.out HN.out HNt.out; rw [HLn.out] at this; exact this)
      clear XO hown hgrow hat K6a K7 B7 hp7 da8 df8 dx0
      generalize T.set i { n with ks := n.ks ++ [(LN : Int)] } = T2 at XT XL XW
      go_wp2_with fail
      refine (wrong_copy XW.out (some ⟨g, 0, none⟩) c5 LN XL.out _ XT.out).mono ?_
      rintro e w8 ⟨v8, S8, rfl, hO, hb⟩
      obtain ⟨A8, c8, rfl, _, _, hT8⟩ := hO.tr
      have M6 := Lib.hid (XH.out.under hb XH.out.lt)
      have B8 := Lib.hid (chain (Nat.le_refl _) XB.out hb)
      have T6 := Lib.hid (XT.out.on hb)
      have T8 := Lib.hid hT8
      clear hb hO hT8
      go_wp2_with fail
      refine (wrong_show XW.out A8 c8 w8 T8.out (HGl.out.on B8.out)).mono ?_
      rintro e w9 ⟨rfl, hb⟩
      have M9 := Lib.hid (M6.out.under hb M6.out.lt)
      have B9 := Lib.hid (chain (Nat.le_refl _) B8.out hb)
      have T9 := Lib.hid (T6.out.on hb)
      have a9 : w9.cell? ⟨w5.heap.size, 0, none⟩ = some (.slice (some ⟨g, 0, none⟩) LN c5) := M9.out.at 0
      clear hb M6 T6 T8
      go_wp2_with fail
      refine (wrong_right XW.out (some ⟨g, 0, none⟩) c5 LN XL.out w9 T9.out).mono ?_
      rintro e w10 ⟨rfl, hb⟩
      have B10 := Lib.hid (chain (Nat.le_refl _) B9.out hb)
      clear hb M9 T9 a9
      go_wp2_with fail
      go_ret
      exact ⟨rfl, B10.out⟩
  by_cases h1 : k = 1
  · subst h1
    by_cases hk0 : n.ks.length = 0
    · have qk : ((n.ks.length : Int) == 0) = true := by rw [beq_iff_eq]; omega
      go_wp2_with fail
      go_ret
      exact ⟨rfl, B6.out⟩
    have qk : ((n.ks.length : Int) == 0) = false := by rw [beq_eq_false_iff_ne]; omega
    have hpos : 0 < n.ks.length := by omega
    have hpos2 : (0 : Int) < (n.ks.length : Int) := by omega
    obtain ⟨y, hy⟩ : ∃ y, n.ks[0]? = some y := ⟨_, List.getElem?_eq_getElem hpos⟩
    obtain ⟨bk, ok, rfl, hbk, cy⟩ := HKs.out 0 y hy
    rw [Nat.add_zero] at cy
    have HY := Lib.hid hy
    clear hy hkn hk0
    have DB : Hid (Below W6.heap.size W6 (W6.drew.alloc (.cells #[.int .i64 y] 3))) := (Below.refl _ _).drew.alloc (by simp) _
    have HRow : Hid ((W6.drew.alloc (.cells #[.int .i64 y] 3)).ownsRow w.heap.size 3 1 (.slice (some ⟨bk, ok, none⟩) n.ks.length kc) n.ks.length (icells n.ks)) := own_below OK1.out DB.out
    have HNe : Hid (some g ≠ (Value.slice (some ⟨bk, ok, none⟩) n.ks.length kc).ownBlock) := fun e => own_type OK1.out O6.out.row (by decide) g e.symm rfl
    have HNb : Hid (some w5.heap.size ≠ (Value.slice (some ⟨bk, ok, none⟩) n.ks.length kc).ownBlock) := fun e => own_holds_ne OK1.out K6.out (by decide) e.symm
    have da8 : (W6.drew.alloc (.cells #[.int .i64 y] 3)).cell? ⟨g, i * 10 + 8, none⟩ = some (.slice (some ⟨bk, ok, none⟩) n.ks.length kc) := (DB.out.cell (p := ⟨g, i * 10 + 8, none⟩) (by show g < _; omega)).trans y8
    have df8 : (W6.drew.alloc (.cells #[.int .i64 y] 3)).frozen? ⟨g, i * 10 + 8, none⟩ = false := (World.frozen?_of_block (DB.out.block g (by omega))).trans f8
    have dx0 : (W6.drew.alloc (.cells #[.int .i64 y] 3)).cell? ⟨w5.heap.size, 0, none⟩ = some (.slice (some ⟨g, 0, none⟩) LN c5) := (DB.out.cell (p := ⟨w5.heap.size, 0, none⟩) (by show w5.heap.size < _; omega)).trans x0
    go_wp2_with fail
    go_region_law (refine step_append_lies _ rfl _ _ 30 rfl w.heap.size 3 j0 (.int .i64 0) 1 8 Tryd.underlying30 hj0 hy0 hy1 hy2 rfl (by decide) (.slice (some ⟨bk, ok, none⟩) n.ks.length kc) n.ks.length (icells n.ks) rfl HRow.out ⟨W6.heap.size, 0, none⟩ 1 1 [.int .i64 y] (by first | rfl | (rw [z6]; rfl)) rfl (cell_one_new _ _ _) (by intro u hu; simp at hu; subst hu; rfl) (by decide) (by unfold maxLen; omega) (by omega) (by simp; omega) _ rfl ?_; intro gk kd w7 hown hgrow hat hlt; have u8 := hgrow.cell da8 HNe.out; have a7 := hgrow.cell dx0 HNb.out; have uf8 : w7.frozen? ⟨g, i * 10 + 8, none⟩ = false := (World.frozen?_of_block (hgrow.block g (by simp; omega) HNe.out)).trans df8)
    all_goals
      have K6a := K6.out.under DB.out (by omega)
      have K7 := grown_holds hgrow K6a (fun e => HNb.out e.symm)
      have B7 : Below w.heap.size w w7 := below_grown' (B6.out.trans (DB.out.mono (by omega))) hgrow (by have := DB.out.size; omega) (fun k hk => (own_block_ge HRow.out k hk).1)
      have hp7 : w7.ownsRow w.heap.size 42 2 pv n.ps.length (qcells n.ps) := (own_below OP1.out DB.out).kept hgrow (by
        cases hb : pv.ownBlock with
        | none => exact Or.inl rfl
        | some b => exact Or.inr fun e => own_type OK1.out OP1.out (by decide) b e.symm hb)
      have XO : Hid (OwnT (w7.setCell ⟨g, i * 10 + 8, none⟩ (.slice (some ⟨gk, 0, none⟩) (n.ks.length + 1) kd)) w.heap.size (.slice (some ⟨g, 0, none⟩) LN c5) (T.set i { n with ks := n.ks ++ [y] }) (S5.set i (.slice (some ⟨gk, 0, none⟩) (n.ks.length + 1) kd, pv))) := by
        refine (O6.out.below DB.out).put (j := 8) (w1 := w7) (n' := { n with ks := n.ks ++ [y] }) (s := ((.slice (some ⟨bk, ok, none⟩) n.ks.length kc), pv)) (s' := (.slice (some ⟨gk, 0, none⟩) (n.ks.length + 1) kd, pv)) HLn.out.symm HNt.out HSt.out (by omega) rfl hgrow ?_ hp7 ?_
        · have := hown
          simpa [icells] using this
        · rcases hat with e | e
          · exact Or.inl e.symm
          · refine Or.inr fun b hb => ?_
            have hb1 : some gk = some b := hb
            injection hb1 with hb2
            rw [← hb2, e]
            exact Nat.le_refl _
      have XT : Hid (Tr (w7.setCell ⟨g, i * 10 + 8, none⟩ (.slice (some ⟨gk, 0, none⟩) (n.ks.length + 1) kd)) (w7.setCell ⟨g, i * 10 + 8, none⟩ (.slice (some ⟨gk, 0, none⟩) (n.ks.length + 1) kd)).heap.size (some ⟨g, 0, none⟩) (T.set i { n with ks := n.ks ++ [y] })) := XO.out.tr'.2
      have XL : Hid (LN = (T.set i { n with ks := n.ks ++ [y] }).length) := XO.out.tr'.1
      have XH : Hid (Holds (w7.setCell ⟨g, i * 10 + 8, none⟩ (.slice (some ⟨gk, 0, none⟩) (n.ks.length + 1) kd)) w5.heap.size 24 #[.slice (some ⟨g, 0, none⟩) LN c5]) := K7.past (p := ⟨g, i * 10 + 8, none⟩) hgb' _
      have XB : Hid (Below w.heap.size w (w7.setCell ⟨g, i * 10 + 8, none⟩ (.slice (some ⟨gk, 0, none⟩) (n.ks.length + 1) kd))) := B7.setCell (p := ⟨g, i * 10 + 8, none⟩) hwg _
      have XW : Hid (WrongT (T.set i { n with ks := n.ks ++ [y] })) := (wrong1 HTy.out HN.out HNt.out HY.out)
      clear XO hown hgrow hat K6a K7 B7 hp7 da8 df8 dx0
      generalize T.set i { n with ks := n.ks ++ [y] } = T2 at XT XL XW
      go_wp2_with fail
      refine (wrong_copy XW.out (some ⟨g, 0, none⟩) c5 LN XL.out _ XT.out).mono ?_
      rintro e w8 ⟨v8, S8, rfl, hO, hb⟩
      obtain ⟨A8, c8, rfl, _, _, hT8⟩ := hO.tr
      have M6 := Lib.hid (XH.out.under hb XH.out.lt)
      have B8 := Lib.hid (chain (Nat.le_refl _) XB.out hb)
      have T6 := Lib.hid (XT.out.on hb)
      have T8 := Lib.hid hT8
      clear hb hO hT8
      go_wp2_with fail
      refine (wrong_show XW.out A8 c8 w8 T8.out (HGl.out.on B8.out)).mono ?_
      rintro e w9 ⟨rfl, hb⟩
      have M9 := Lib.hid (M6.out.under hb M6.out.lt)
      have B9 := Lib.hid (chain (Nat.le_refl _) B8.out hb)
      have T9 := Lib.hid (T6.out.on hb)
      have a9 : w9.cell? ⟨w5.heap.size, 0, none⟩ = some (.slice (some ⟨g, 0, none⟩) LN c5) := M9.out.at 0
      clear hb M6 T6 T8
      go_wp2_with fail
      refine (wrong_right XW.out (some ⟨g, 0, none⟩) c5 LN XL.out w9 T9.out).mono ?_
      rintro e w10 ⟨rfl, hb⟩
      have B10 := Lib.hid (chain (Nat.le_refl _) B9.out hb)
      clear hb M9 T9 a9
      go_wp2_with fail
      go_ret
      exact ⟨rfl, B10.out⟩
  by_cases h2 : k = 2
  · subst h2
    have XO : Hid (OwnT (W6.setCell ⟨g, i * 10, none⟩ (.int .i64 19)) w.heap.size (.slice (some ⟨g, 0, none⟩) LN c5) (T.set i { n with k := 19 }) (S5.set i (.slice KA n.ks.length kc, pv))) := O6.out.put0 (j := 0) (u := .int .i64 19) (n' := { n with k := 19 }) (s' := (.slice KA n.ks.length kc, pv)) HLn.out.symm HNt.out HSt.out (by omega) rfl rfl rfl OP1.out
    have XT : Hid (Tr (W6.setCell ⟨g, i * 10, none⟩ (.int .i64 19)) (W6.setCell ⟨g, i * 10, none⟩ (.int .i64 19)).heap.size (some ⟨g, 0, none⟩) (T.set i { n with k := 19 })) := XO.out.tr'.2
    have XL : Hid (LN = (T.set i { n with k := 19 }).length) := XO.out.tr'.1
    have XH : Hid (Holds (W6.setCell ⟨g, i * 10, none⟩ (.int .i64 19)) w5.heap.size 24 #[.slice (some ⟨g, 0, none⟩) LN c5]) := K6.out.past (p := ⟨g, i * 10, none⟩) hgb' _
    have XB : Hid (Below w.heap.size w (W6.setCell ⟨g, i * 10, none⟩ (.int .i64 19))) := B6.out.setCell (p := ⟨g, i * 10, none⟩) hwg _
    have XW : Hid (WrongT (T.set i { n with k := 19 })) := wrong2 HTy.out HN.out HNt.out
    clear XO
    generalize T.set i { n with k := 19 } = T2 at XT XL XW
    go_wp2_with fail
    refine (wrong_copy XW.out (some ⟨g, 0, none⟩) c5 LN XL.out _ XT.out).mono ?_
    rintro e w8 ⟨v8, S8, rfl, hO, hb⟩
    obtain ⟨A8, c8, rfl, _, _, hT8⟩ := hO.tr
    have M6 := Lib.hid (XH.out.under hb XH.out.lt)
    have B8 := Lib.hid (chain (Nat.le_refl _) XB.out hb)
    have T6 := Lib.hid (XT.out.on hb)
    have T8 := Lib.hid hT8
    clear hb hO hT8
    go_wp2_with fail
    refine (wrong_show XW.out A8 c8 w8 T8.out (HGl.out.on B8.out)).mono ?_
    rintro e w9 ⟨rfl, hb⟩
    have M9 := Lib.hid (M6.out.under hb M6.out.lt)
    have B9 := Lib.hid (chain (Nat.le_refl _) B8.out hb)
    have T9 := Lib.hid (T6.out.on hb)
    have a9 : w9.cell? ⟨w5.heap.size, 0, none⟩ = some (.slice (some ⟨g, 0, none⟩) LN c5) := M9.out.at 0
    clear hb M6 T6 T8
    go_wp2_with fail
    refine (wrong_right XW.out (some ⟨g, 0, none⟩) c5 LN XL.out w9 T9.out).mono ?_
    rintro e w10 ⟨rfl, hb⟩
    have B10 := Lib.hid (chain (Nat.le_refl _) B9.out hb)
    clear hb M9 T9 a9
    go_wp2_with fail
    go_ret
    exact ⟨rfl, B10.out⟩
  by_cases h3 : k = 3
  · subst h3
    have XO : Hid (OwnT (W6.setCell ⟨g, i * 10 + 1, none⟩ (.int .i64 (wrap64 (n.t + 1)))) w.heap.size (.slice (some ⟨g, 0, none⟩) LN c5) (T.set i { n with f := wrap64 (n.t + 1) }) (S5.set i (.slice KA n.ks.length kc, pv))) := O6.out.put0 (j := 1) (u := .int .i64 (wrap64 (n.t + 1))) (n' := { n with f := wrap64 (n.t + 1) }) (s' := (.slice KA n.ks.length kc, pv)) HLn.out.symm HNt.out HSt.out (by omega) rfl rfl rfl OP1.out
    have XT : Hid (Tr (W6.setCell ⟨g, i * 10 + 1, none⟩ (.int .i64 (wrap64 (n.t + 1)))) (W6.setCell ⟨g, i * 10 + 1, none⟩ (.int .i64 (wrap64 (n.t + 1)))).heap.size (some ⟨g, 0, none⟩) (T.set i { n with f := wrap64 (n.t + 1) })) := XO.out.tr'.2
    have XL : Hid (LN = (T.set i { n with f := wrap64 (n.t + 1) }).length) := XO.out.tr'.1
    have XH : Hid (Holds (W6.setCell ⟨g, i * 10 + 1, none⟩ (.int .i64 (wrap64 (n.t + 1)))) w5.heap.size 24 #[.slice (some ⟨g, 0, none⟩) LN c5]) := K6.out.past (p := ⟨g, i * 10 + 1, none⟩) hgb' _
    have XB : Hid (Below w.heap.size w (W6.setCell ⟨g, i * 10 + 1, none⟩ (.int .i64 (wrap64 (n.t + 1))))) := B6.out.setCell (p := ⟨g, i * 10 + 1, none⟩) hwg _
    have XW : Hid (WrongT (T.set i { n with f := wrap64 (n.t + 1) })) := wrong3 HTy.out HN.out HNt.out (wrap_next NumI.out.2.1).1 (wrap_next NumI.out.2.1).2
    clear XO
    generalize T.set i { n with f := wrap64 (n.t + 1) } = T2 at XT XL XW
    go_wp2_with fail
    refine (wrong_copy XW.out (some ⟨g, 0, none⟩) c5 LN XL.out _ XT.out).mono ?_
    rintro e w8 ⟨v8, S8, rfl, hO, hb⟩
    obtain ⟨A8, c8, rfl, _, _, hT8⟩ := hO.tr
    have M6 := Lib.hid (XH.out.under hb XH.out.lt)
    have B8 := Lib.hid (chain (Nat.le_refl _) XB.out hb)
    have T6 := Lib.hid (XT.out.on hb)
    have T8 := Lib.hid hT8
    clear hb hO hT8
    go_wp2_with fail
    refine (wrong_show XW.out A8 c8 w8 T8.out (HGl.out.on B8.out)).mono ?_
    rintro e w9 ⟨rfl, hb⟩
    have M9 := Lib.hid (M6.out.under hb M6.out.lt)
    have B9 := Lib.hid (chain (Nat.le_refl _) B8.out hb)
    have T9 := Lib.hid (T6.out.on hb)
    have a9 : w9.cell? ⟨w5.heap.size, 0, none⟩ = some (.slice (some ⟨g, 0, none⟩) LN c5) := M9.out.at 0
    clear hb M6 T6 T8
    go_wp2_with fail
    refine (wrong_right XW.out (some ⟨g, 0, none⟩) c5 LN XL.out w9 T9.out).mono ?_
    rintro e w10 ⟨rfl, hb⟩
    have B10 := Lib.hid (chain (Nat.le_refl _) B9.out hb)
    clear hb M9 T9 a9
    go_wp2_with fail
    go_ret
    exact ⟨rfl, B10.out⟩
  by_cases h4 : k = 4
  · subst h4
    have e4 : (W6.alloc (.cells #[.int .i64 0, .int .i64 0] 42)).setCell ⟨g, i * 10 + 9, none⟩ (.slice (some ⟨w5.heap.size + 1, 0, none⟩) 1 1) = ((W6.setCell ⟨g, i * 10 + 9, none⟩ (.slice (some ⟨w5.heap.size + 1, 0, none⟩) 1 1)).alloc (.cells #[.int .i64 0, .int .i64 0] 42)) := World.setCell_alloc_past _ _ _ _ (by omega)
    have b4 : Below W6.heap.size W6 (W6.alloc (.cells #[.int .i64 0, .int .i64 0] 42)) := (Below.refl _ _).alloc (Nat.le_refl _) _
    have XO : Hid (OwnT ((W6.setCell ⟨g, i * 10 + 9, none⟩ (.slice (some ⟨w5.heap.size + 1, 0, none⟩) 1 1)).alloc (.cells #[.int .i64 0, .int .i64 0] 42)) w.heap.size (.slice (some ⟨g, 0, none⟩) LN c5) (T.set i { n with ps := [(0, 0)] }) (S5.set i (.slice KA n.ks.length kc, .slice (some ⟨w5.heap.size + 1, 0, none⟩) 1 1))) := by
      show OwnT _ _ _ _ _
      rw [← e4]
      refine (O6.out.below b4).put0 (j := 9) (u := .slice (some ⟨w5.heap.size + 1, 0, none⟩) 1 1) (n' := { n with ps := [(0, 0)] }) (s' := (.slice KA n.ks.length kc, .slice (some ⟨w5.heap.size + 1, 0, none⟩) 1 1)) HLn.out.symm HNt.out HSt.out (by omega) rfl rfl rfl ?_
      have := own_new W6 w.heap.size 42 2 #[.int .i64 0, .int .i64 0] 1 (by omega) rfl (by unfold maxLen; omega)
      rw [z6] at this
      exact this
    have XT : Hid (Tr ((W6.setCell ⟨g, i * 10 + 9, none⟩ (.slice (some ⟨w5.heap.size + 1, 0, none⟩) 1 1)).alloc (.cells #[.int .i64 0, .int .i64 0] 42)) ((W6.setCell ⟨g, i * 10 + 9, none⟩ (.slice (some ⟨w5.heap.size + 1, 0, none⟩) 1 1)).alloc (.cells #[.int .i64 0, .int .i64 0] 42)).heap.size (some ⟨g, 0, none⟩) (T.set i { n with ps := [(0, 0)] })) := XO.out.tr'.2
    have XL : Hid (LN = (T.set i { n with ps := [(0, 0)] }).length) := XO.out.tr'.1
    have XH : Hid (Holds ((W6.setCell ⟨g, i * 10 + 9, none⟩ (.slice (some ⟨w5.heap.size + 1, 0, none⟩) 1 1)).alloc (.cells #[.int .i64 0, .int .i64 0] 42)) w5.heap.size 24 #[.slice (some ⟨g, 0, none⟩) LN c5]) := (K6.out.past (p := ⟨g, i * 10 + 9, none⟩) hgb' _).under ((Below.refl _ _).alloc (Nat.le_refl _) _) (by simp; omega)
    have XB : Hid (Below w.heap.size w ((W6.setCell ⟨g, i * 10 + 9, none⟩ (.slice (some ⟨w5.heap.size + 1, 0, none⟩) 1 1)).alloc (.cells #[.int .i64 0, .int .i64 0] 42))) := (B6.out.setCell (p := ⟨g, i * 10 + 9, none⟩) hwg _).alloc (by simp; omega) _
    have XW : Hid (WrongT (T.set i { n with ps := [(0, 0)] })) := wrong4 HTy.out HN.out HNt.out
    clear e4 b4 XO
    generalize T.set i { n with ps := [(0, 0)] } = T2 at XT XL XW
    go_wp2_with fail
    refine (wrong_copy XW.out (some ⟨g, 0, none⟩) c5 LN XL.out _ XT.out).mono ?_
    rintro e w8 ⟨v8, S8, rfl, hO, hb⟩
    obtain ⟨A8, c8, rfl, _, _, hT8⟩ := hO.tr
    have M6 := Lib.hid (XH.out.under hb XH.out.lt)
    have B8 := Lib.hid (chain (Nat.le_refl _) XB.out hb)
    have T6 := Lib.hid (XT.out.on hb)
    have T8 := Lib.hid hT8
    clear hb hO hT8
    go_wp2_with fail
    refine (wrong_show XW.out A8 c8 w8 T8.out (HGl.out.on B8.out)).mono ?_
    rintro e w9 ⟨rfl, hb⟩
    have M9 := Lib.hid (M6.out.under hb M6.out.lt)
    have B9 := Lib.hid (chain (Nat.le_refl _) B8.out hb)
    have T9 := Lib.hid (T6.out.on hb)
    have a9 : w9.cell? ⟨w5.heap.size, 0, none⟩ = some (.slice (some ⟨g, 0, none⟩) LN c5) := M9.out.at 0
    clear hb M6 T6 T8
    go_wp2_with fail
    refine (wrong_right XW.out (some ⟨g, 0, none⟩) c5 LN XL.out w9 T9.out).mono ?_
    rintro e w10 ⟨rfl, hb⟩
    have B10 := Lib.hid (chain (Nat.le_refl _) B9.out hb)
    clear hb M9 T9 a9
    go_wp2_with fail
    go_ret
    exact ⟨rfl, B10.out⟩
  by_cases h5 : k = 5
  · subst h5
    have hLB : LN ≤ 4000 := by rw [← HLn.out]; exact HTy.out.1
    have DB : Hid (∀ o, Below W6.heap.size W6 (W6.alloc o)) := fun o => (Below.refl _ _).alloc (Nat.le_refl _) _
    have HRow : Hid (∀ o, (W6.alloc o).ownsRow w.heap.size 39 10 (.slice (some ⟨g, 0, none⟩) LN c5) LN (ncells T S5)) := fun o => by
      have := (O6.out.below (DB.out o)).row
      rw [HLn.out] at this
      exact this
    go_wp2_with (at_builtin; refine wpList_append_own _ rfl _ _ 22 rfl w.heap.size 39 i0 (.agg #[.int .i64 0, .int .i64 0, .int .i64 0, .int .i64 0, .string ⟨#[]⟩, .string ⟨#[]⟩, .string ⟨#[]⟩, .bool false, .slice none 0 0, .slice none 0 0]) 10 136 Tryd.underlying22 hi0 hz0 hz1 hz2 rfl (by decide) _ _ _ rfl (HRow.out _) ⟨W6.heap.size, 0, none⟩ 1 1 (ncell (⟨5, 0, 0, 0, ⟨#[]⟩, ⟨#[]⟩, ⟨#[]⟩, false, [], []⟩ : Nd) (.slice none 0 0) (.slice none 0 0)) (by first | rfl | (rw [z6]; rfl)) rfl (by have := cells_new W6 39 #[.int .i64 5, .int .i64 0, .int .i64 0, .int .i64 0, .string ⟨#[]⟩, .string ⟨#[]⟩, .string ⟨#[]⟩, .bool false, .slice none 0 0, .slice none 0 0]; simpa [ncell] using this) (ncell_one _ _ _ rfl rfl) (by unfold maxLen; omega) (by omega) (by simp; omega) ?_)
    intro v7 w7 hown hgrow _
    obtain ⟨VA, vc, rfl⟩ := own_sl hown
    have hO7 : Hid (OwnT w7 w.heap.size (.slice VA (LN + 1) vc) (T ++ [(⟨5, 0, 0, 0, ⟨#[]⟩, ⟨#[]⟩, ⟨#[]⟩, false, [], []⟩ : Nd)]) (S5 ++ [(.slice none 0 0, .slice none 0 0)])) := by
      refine (O6.out.below (DB.out _)).snoc hgrow (by rw [HLn.out]; exact hown) ⟨rfl, Or.inl ⟨rfl, rfl⟩⟩ ⟨rfl, Or.inl ⟨rfl, rfl⟩⟩ ?_
      intro j s g hs hg hg'
      cases hg'
    have K6a := K6.out.under (DB.out (.cells #[.int .i64 5, .int .i64 0, .int .i64 0, .int .i64 0, .string ⟨#[]⟩, .string ⟨#[]⟩, .string ⟨#[]⟩, .bool false, .slice none 0 0, .slice none 0 0] 39)) (by omega)
    have K7 := Lib.hid (grown_holds hgrow K6a (own_holds_ne (HRow.out _) K6a (by decide)))
    have B7 : Hid (Below w.heap.size w w7) := below_grown' (B6.out.trans ((DB.out (.cells #[.int .i64 5, .int .i64 0, .int .i64 0, .int .i64 0, .string ⟨#[]⟩, .string ⟨#[]⟩, .string ⟨#[]⟩, .bool false, .slice none 0 0, .slice none 0 0] 39)).mono (by omega))) hgrow (by simp; omega) (fun k hk => (own_block_ge (HRow.out (.cells #[.int .i64 5, .int .i64 0, .int .i64 0, .int .i64 0, .string ⟨#[]⟩, .string ⟨#[]⟩, .string ⟨#[]⟩, .bool false, .slice none 0 0, .slice none 0 0] 39)) k hk).1)
    have u0 : w7.cell? ⟨w5.heap.size, 0, none⟩ = some (.slice (some ⟨g, 0, none⟩) LN c5) := K7.out.at 0
    have uf : w7.frozen? ⟨w5.heap.size, 0, none⟩ = false := K7.out.soft 0
    have XO : Hid (OwnT (w7.setCell ⟨w5.heap.size, 0, none⟩ (.slice VA (LN + 1) vc)) w.heap.size (.slice VA (LN + 1) vc) (T ++ [(⟨5, 0, 0, 0, ⟨#[]⟩, ⟨#[]⟩, ⟨#[]⟩, false, [], []⟩ : Nd)]) (S5 ++ [(.slice none 0 0, .slice none 0 0)])) := hO7.out.set K7.out
    have XT : Hid (Tr (w7.setCell ⟨w5.heap.size, 0, none⟩ (.slice VA (LN + 1) vc)) (w7.setCell ⟨w5.heap.size, 0, none⟩ (.slice VA (LN + 1) vc)).heap.size VA (T ++ [(⟨5, 0, 0, 0, ⟨#[]⟩, ⟨#[]⟩, ⟨#[]⟩, false, [], []⟩ : Nd)])) := XO.out.tr'.2
    have XL : Hid (LN + 1 = (T ++ [(⟨5, 0, 0, 0, ⟨#[]⟩, ⟨#[]⟩, ⟨#[]⟩, false, [], []⟩ : Nd)]).length) := XO.out.tr'.1
    have XH : Hid (Holds (w7.setCell ⟨w5.heap.size, 0, none⟩ (.slice VA (LN + 1) vc)) w5.heap.size 24 #[.slice VA (LN + 1) vc]) := K7.out.set 0 _
    have XB : Hid (Below w.heap.size w (w7.setCell ⟨w5.heap.size, 0, none⟩ (.slice VA (LN + 1) vc))) := B7.out.setCell (p := ⟨w5.heap.size, 0, none⟩) zz _
    have XW : Hid (WrongT (T ++ [(⟨5, 0, 0, 0, ⟨#[]⟩, ⟨#[]⟩, ⟨#[]⟩, false, [], []⟩ : Nd)])) := wrong5 HTy.out HN.out HR.out ⟨by decide, by decide, by decide, by decide, by decide⟩ ⟨⟨by decide, by decide⟩, ⟨by decide, by decide⟩, ⟨by decide, by decide⟩⟩
    clear hown hgrow K6a XO hO7
    generalize T ++ [(⟨5, 0, 0, 0, ⟨#[]⟩, ⟨#[]⟩, ⟨#[]⟩, false, [], []⟩ : Nd)] = T2 at XT XL XW
    go_wp2_with fail
    refine (wrong_copy XW.out VA vc (LN + 1) XL.out _ XT.out).mono ?_
    rintro e w8 ⟨v8, S8, rfl, hO, hb⟩
    obtain ⟨A8, c8, rfl, _, _, hT8⟩ := hO.tr
    have M6 := Lib.hid (XH.out.under hb XH.out.lt)
    have B8 := Lib.hid (chain (Nat.le_refl _) XB.out hb)
    have T6 := Lib.hid (XT.out.on hb)
    have T8 := Lib.hid hT8
    clear hb hO hT8
    go_wp2_with fail
    refine (wrong_show XW.out A8 c8 w8 T8.out (HGl.out.on B8.out)).mono ?_
    rintro e w9 ⟨rfl, hb⟩
    have M9 := Lib.hid (M6.out.under hb M6.out.lt)
    have B9 := Lib.hid (chain (Nat.le_refl _) B8.out hb)
    have T9 := Lib.hid (T6.out.on hb)
    have a9 : w9.cell? ⟨w5.heap.size, 0, none⟩ = some (.slice VA (LN + 1) vc) := M9.out.at 0
    clear hb M6 T6 T8
    go_wp2_with fail
    refine (wrong_right XW.out VA vc (LN + 1) XL.out w9 T9.out).mono ?_
    rintro e w10 ⟨rfl, hb⟩
    have B10 := Lib.hid (chain (Nat.le_refl _) B9.out hb)
    clear hb M9 T9 a9
    go_wp2_with fail
    go_ret
    exact ⟨rfl, B10.out⟩
  have q0 : (k == 0) = false := by rw [beq_eq_false_iff_ne]; exact h0
  have q1 : (k == 1) = false := by rw [beq_eq_false_iff_ne]; exact h1
  have q2 : (k == 2) = false := by rw [beq_eq_false_iff_ne]; exact h2
  have q3 : (k == 3) = false := by rw [beq_eq_false_iff_ne]; exact h3
  have q4 : (k == 4) = false := by rw [beq_eq_false_iff_ne]; exact h4
  have q5 : (k == 5) = false := by rw [beq_eq_false_iff_ne]; exact h5
  go_wp2_with fail
  go_ret
  exact ⟨rfl, B6.out⟩
end Go.Proofs.YtdfhgcknelgdmaaDoor
