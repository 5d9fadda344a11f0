/-
  PROVED: contract of tree.Erase: the tree without places, in new memory. Conditions: the tree is small ('Bd').
-/
import Derived.Test.YtdfhgcknelgdmaaDoorGone
import Derived.Test.YtdfhgcknelgdmaaDoorShelf
import Derived.Deep.AppendLies
namespace Go.Proofs.YtdfhgcknelgdmaaDoor
open Go.ChangeShapes Go.WideShapes Go.ChangeAt Go.RowKit Go.Sort
set_option linter.unusedVariables false

/-- A node without its place. -/
def era (n : Nd) : Nd := { n with f := 0, t := 0, ps := [] }

theorem clone_any (s : ByteArray) (hs : s.size ≤ 1000000) (w : World) : Calls Tryd.prog 37 #[.string s] w fun e w' => e = .returned (.string s) ∧ Below w.heap.size w w' := by
  have HC : Hid (∀ W, Calls Tryd.prog 57 #[.string s] W fun e w' => e = .returned (.string s) ∧ Below W.heap.size W w') := fun W => Tryd.clone57 s hs W
  go_enter Tryd.func37, Tryd.ntmps37
  go_wp2_with fail
  refine (HC.out _).mono ?_
  rintro e w1 ⟨rfl, hb⟩
  have HB := Lib.hid hb
  clear hb
  go_wp2_with fail
  go_ret
  exact ⟨rfl, HB.out⟩

def ERel (T : List Nd) (A : Option Addr) (c : Nat) (w : World) (s3 v : Value) (wr : World) : Prop :=
  ∃ (i : Nat) (UA : Option Addr) (uc : Nat) (S : List (Value × Value)), i ≤ T.length ∧ v = .int .i64 i ∧ s3 = .slice UA i uc ∧ OwnT wr w.heap.size (.slice UA i uc) ((T.take i).map era) S ∧ Holds wr w.heap.size 24 #[.slice A T.length c] ∧ Holds wr (w.heap.size + 1) 24 #[.slice none 0 0] ∧ Below w.heap.size w wr

theorem cell_drew (w : World) (a : Addr) : w.drew.cell? a = w.cell? a := rfl

set_option maxRecDepth 100000 in
set_option maxHeartbeats 16000000 in
theorem erase_any (A : Option Addr) (c : Nat) (T : List Nd) (hT : Bd T) (w : World) (h : Tr w w.heap.size A T) :
    Calls Tryd.prog 19 #[.agg #[.slice A T.length c]] w (CopT w (T.map era)) := by
  obtain ⟨i0, hi0, hz0, hz1, hz2⟩ := info_parts Tryd.info39
  obtain ⟨j0, hj0, hy0, hy1, hy2⟩ := info_parts Tryd.info3
  have hl : T.length ≤ 10000 := hT.1
  have HT := Lib.hid hT
  have HA := Lib.hid h
  clear hT h
  have K0 : Hid (Holds ((w.alloc (.cells #[.slice A T.length c] 24)).alloc (.cells #[.slice none 0 0] 24)) w.heap.size 24 #[.slice A T.length c]) := (Holds.made w 24 _).under ((Below.refl _ _).alloc (Nat.le_refl _) _) (by simp)
  have K1 : Hid (Holds ((w.alloc (.cells #[.slice A T.length c] 24)).alloc (.cells #[.slice none 0 0] 24)) (w.heap.size + 1) 24 #[.slice none 0 0]) := by
    have := Holds.made (w.alloc (.cells #[.slice A T.length c] 24)) 24 #[.slice none 0 0]
    simp only [World.alloc, Array.size_push] at this
    exact this
  have KB : Hid (Below w.heap.size w ((w.alloc (.cells #[.slice A T.length c] 24)).alloc (.cells #[.slice none 0 0] 24))) := ((Below.refl _ _).alloc (Nat.le_refl _) _).alloc (by simp) _
  go_enter Tryd.func19, Tryd.ntmps19
  go_wp2_with (at_make; refine wpList_make_own _ rfl _ _ 22 rfl w.heap.size 39 i0 (.agg #[.int .i64 0, .int .i64 0, .int .i64 0, .int .i64 0, .string ⟨#[]⟩, .string ⟨#[]⟩, .string ⟨#[]⟩, .bool false, .slice none 0 0, .slice none 0 0]) 10 Tryd.underlying22 hi0 hz0 hz1 .i64 .i64 _ T.length rfl rfl rfl (by rw [hz2]; omega) (by unfold maxLen; omega) (by simp; omega) ?_)
  intro w1 hown hgrow
  have L0 := Lib.hid (grown_holds hgrow K0.out (by simp))
  have L1 := Lib.hid (grown_holds hgrow K1.out (by simp))
  have LB := Lib.hid (below_grown' KB.out hgrow (by simp; omega) (fun k hk => by cases hk))
  have LO := Lib.hid hown
  have z1 : w.heap.size + 1 < w1.heap.size := L1.out.lt
  have a0 : w1.cell? ⟨w.heap.size, 0, none⟩ = some (.slice A T.length c) := L0.out.at 0
  clear hown hgrow K0 K1 KB
  go_wp2_with fail
  clear a0
  go_loopw [3, 13] (fun s3 v wr => ERel T A c w s3 v wr) (fun _ v _ => T.length - (intOf v).toNat)
  case atStart => exact ⟨0, _, _, [], Nat.zero_le _, rfl, rfl, ⟨rfl, LO.out, fun i n s h => by simp at h, fun i j s r g _ h => by simp at h⟩, L0.out, L1.out, LB.out⟩
  case round =>
    obtain ⟨i, UA, uc, S, hi, rfl, rfl, hO, hH0, hH1, hB⟩ := hrel
    have HO := Lib.hid hO
    have H0 := Lib.hid hH0
    have H1 := Lib.hid hH1
    have HB := Lib.hid hB
    have zz : w.heap.size + 1 < wr.heap.size := hH1.lt
    have a1 : wr.cell? ⟨w.heap.size + 1, 0, none⟩ = some (.slice none 0 0) := hH1.at 0
    have f1 : wr.frozen? ⟨w.heap.size + 1, 0, none⟩ = false := hH1.soft 0
    clear hO hH0 hH1
    by_cases hlt : i < T.length
    · have hti := List.getElem?_eq_getElem hlt
      obtain ⟨b, o, kv0, pv0, rfl, hb, hK, KA, kc, PA, pc, rfl, e2, e3, rfl, e5, e6⟩ := (HA.out.below hB) i _ hti
      obtain ⟨m1, m2, m3, m4, m5⟩ := HT.out.2 _ (List.getElem_mem hlt)
      have HTk : Hid ((T.take (i + 1)).map era = (T.take i).map era ++ [era T[i]]) := by show _ = _; rw [List.take_succ_eq_append_getElem hlt, List.map_append]; rfl
      have HTl : Hid (((T.take i).map era).length = i) := by show _ = _; rw [List.length_map, List.length_take]; omega
      clear hti hB
      generalize T[i] = n at *
      have Cx : Hid (∀ W, Calls Tryd.prog 37 #[.string n.x] W fun e w' => e = .returned (.string n.x) ∧ Below W.heap.size W w') := fun W => clone_any n.x (by omega) W
      have Cu : Hid (∀ W, Calls Tryd.prog 37 #[.string n.u] W fun e w' => e = .returned (.string n.u) ∧ Below W.heap.size W w') := fun W => clone_any n.u (by omega) W
      have Ch : Hid (∀ W, Calls Tryd.prog 37 #[.string n.h] W fun e w' => e = .returned (.string n.h) ∧ Below W.heap.size W w') := fun W => clone_any n.h (by omega) W
      have HKs := Lib.hid e3
      have HKn := Lib.hid e2
      have r0 := hK.c0
      have r1 := hK.c1
      have r2 := hK.c2
      have r3 := hK.c3
      have r4 := hK.c4
      have r5 := hK.c5
      have r6 := hK.c6
      have r7 := hK.c7
      have r8 := hK.c8
      have r9 := hK.c9
      obtain ⟨W1, hW1⟩ : ∃ W1, W1 = wr.alloc (.cells #[.int .i64 n.k, .int .i64 n.f, .int .i64 n.t, .int .i64 n.l, .string n.x, .string n.u, .string n.h, .bool n.g, .slice KA n.ks.length kc, .slice PA n.ps.length pc] 39) := ⟨_, rfl⟩
      have hWb : Below wr.heap.size wr W1 := by rw [hW1]; exact (Below.refl _ _).alloc (Nat.le_refl _) _
      have G0 : Holds W1 wr.heap.size 39 #[.int .i64 n.k, .int .i64 n.f, .int .i64 n.t, .int .i64 n.l, .string n.x, .string n.u, .string n.h, .bool n.g, .slice KA n.ks.length kc, .slice PA n.ps.length pc] := by rw [hW1]; exact Holds.made wr 39 _
      have x0 : W1.cell? ⟨wr.heap.size, 0, none⟩ = some (.int .i64 n.k) := G0.at 0
      have x3 : W1.cell? ⟨wr.heap.size, 3, none⟩ = some (.int .i64 n.l) := G0.at 3
      have x4 : W1.cell? ⟨wr.heap.size, 4, none⟩ = some (.string n.x) := G0.at 4
      have x5 : W1.cell? ⟨wr.heap.size, 5, none⟩ = some (.string n.u) := G0.at 5
      have x6 : W1.cell? ⟨wr.heap.size, 6, none⟩ = some (.string n.h) := G0.at 6
      have x7 : W1.cell? ⟨wr.heap.size, 7, none⟩ = some (.bool n.g) := G0.at 7
      have x8 : W1.cell? ⟨wr.heap.size, 8, none⟩ = some (.slice KA n.ks.length kc) := G0.at 8
      have HG0 := Lib.hid G0
      have HWb := Lib.hid hWb
      have HW1 := Lib.hid hW1
      have zW : wr.heap.size < W1.heap.size := G0.lt
      clear hK e2 e3 e5 e6 G0 hWb hW1
      go_wp2_with fail
      rw [← HW1.out]
      by_cases hk0 : n.ks.length = 0
      · rcases KA with _ | ad
        · obtain rfl : kc = 0 := HKn.out rfl
          have HK8 : Hid (some (Value.slice none n.ks.length 0) = some (.slice none 0 0)) := by show _ = _; rw [hk0]
          have HKe : Hid (n.ks = []) := List.eq_nil_of_length_eq_zero hk0
          rw [hk0] at x8
          have HRow : Hid (∀ W, Below W1.heap.size W1 W → W.ownsRow w.heap.size 39 10 (.slice UA i uc) i (ncells ((T.take i).map era) S)) := fun W hb => by have := (HO.out.below (HWb.out.trans (hb.mono (by omega)))).row; rw [HTl.out] at this; exact this
          have HNe : Hid (some wr.heap.size ≠ (Value.slice UA i uc).ownBlock) := fun e => by have := (own_block_ge HO.out.row _ e.symm).2; omega
          clear hk0
          go_region_held3 (fun w' => w'.cell? ⟨wr.heap.size, 0, none⟩ = some (.int .i64 n.k) ∧ w'.cell? ⟨wr.heap.size, 3, none⟩ = some (.int .i64 n.l) ∧ w'.cell? ⟨wr.heap.size, 4, none⟩ = some (.string n.x) ∧ w'.cell? ⟨wr.heap.size, 5, none⟩ = some (.string n.u) ∧ w'.cell? ⟨wr.heap.size, 6, none⟩ = some (.string n.h) ∧ w'.cell? ⟨wr.heap.size, 7, none⟩ = some (.bool n.g) ∧ w'.cell? ⟨wr.heap.size, 8, none⟩ = some (.slice none 0 0)) (first | exact ⟨x0, x3, x4, x5, x6, x7, x8⟩ | (refine ⟨?_, ?_, ?_, ?_, ?_, ?_, ?_⟩ <;> first | assumption | (exact da0 _) | (exact da3 _) | (exact da4 _) | (exact da5 _) | (exact da6 _) | (exact da7 _) | (exact da8 _)))
            (first
              | (go_at_call 37; ((with_reducible refine (Cx.out _).mono ?_)); rintro e wA ⟨rfl, hh⟩; have hx : Below W1.heap.size W1 wA := (Below.refl W1.heap.size W1).drew.trans hh; have AA := Lib.hid hx; have p0 : wA.cell? ⟨wr.heap.size, 0, none⟩ = some (.int .i64 n.k) := (HG0.out.under hx zW).at 0; have p3 : wA.cell? ⟨wr.heap.size, 3, none⟩ = some (.int .i64 n.l) := (HG0.out.under hx zW).at 3; have p4 : wA.cell? ⟨wr.heap.size, 4, none⟩ = some (.string n.x) := (HG0.out.under hx zW).at 4; have p5 : wA.cell? ⟨wr.heap.size, 5, none⟩ = some (.string n.u) := (HG0.out.under hx zW).at 5; have p6 : wA.cell? ⟨wr.heap.size, 6, none⟩ = some (.string n.h) := (HG0.out.under hx zW).at 6; have p7 : wA.cell? ⟨wr.heap.size, 7, none⟩ = some (.bool n.g) := (HG0.out.under hx zW).at 7; have p8 : wA.cell? ⟨wr.heap.size, 8, none⟩ = some (.slice none 0 0) := ((HG0.out.under hx zW).at 8).trans HK8.out; clear hx hh)
              | (go_at_call 37; ((with_reducible refine (Cu.out _).mono ?_)); rintro e wB ⟨rfl, hh⟩; have hx : Below W1.heap.size W1 wB := (AA.out).trans (hh.mono (by have := AA.out.size; omega)); have BB := Lib.hid hx; have q0 : wB.cell? ⟨wr.heap.size, 0, none⟩ = some (.int .i64 n.k) := (HG0.out.under hx zW).at 0; have q3 : wB.cell? ⟨wr.heap.size, 3, none⟩ = some (.int .i64 n.l) := (HG0.out.under hx zW).at 3; have q4 : wB.cell? ⟨wr.heap.size, 4, none⟩ = some (.string n.x) := (HG0.out.under hx zW).at 4; have q5 : wB.cell? ⟨wr.heap.size, 5, none⟩ = some (.string n.u) := (HG0.out.under hx zW).at 5; have q6 : wB.cell? ⟨wr.heap.size, 6, none⟩ = some (.string n.h) := (HG0.out.under hx zW).at 6; have q7 : wB.cell? ⟨wr.heap.size, 7, none⟩ = some (.bool n.g) := (HG0.out.under hx zW).at 7; have q8 : wB.cell? ⟨wr.heap.size, 8, none⟩ = some (.slice none 0 0) := ((HG0.out.under hx zW).at 8).trans HK8.out; clear hx hh)
              | (go_at_call 37; ((with_reducible refine (Ch.out _).mono ?_)); rintro e wC ⟨rfl, hh⟩; have hx : Below W1.heap.size W1 wC := (BB.out).trans (hh.mono (by have := BB.out.size; omega)); have CC := Lib.hid hx; have c0 : wC.cell? ⟨wr.heap.size, 0, none⟩ = some (.int .i64 n.k) := (HG0.out.under hx zW).at 0; have c3 : wC.cell? ⟨wr.heap.size, 3, none⟩ = some (.int .i64 n.l) := (HG0.out.under hx zW).at 3; have c4 : wC.cell? ⟨wr.heap.size, 4, none⟩ = some (.string n.x) := (HG0.out.under hx zW).at 4; have c5 : wC.cell? ⟨wr.heap.size, 5, none⟩ = some (.string n.u) := (HG0.out.under hx zW).at 5; have c6 : wC.cell? ⟨wr.heap.size, 6, none⟩ = some (.string n.h) := (HG0.out.under hx zW).at 6; have c7 : wC.cell? ⟨wr.heap.size, 7, none⟩ = some (.bool n.g) := (HG0.out.under hx zW).at 7; have c8 : wC.cell? ⟨wr.heap.size, 8, none⟩ = some (.slice none 0 0) := ((HG0.out.under hx zW).at 8).trans HK8.out; have DA : Hid (∀ ob, Below W1.heap.size W1 (wC.alloc ob)) := fun ob => hx.alloc (by have := hx.size; omega) ob; have da0 : ∀ ob, (wC.alloc ob).cell? ⟨wr.heap.size, 0, none⟩ = some (.int .i64 n.k) := fun ob => (HG0.out.under (DA.out ob) zW).at 0; have da3 : ∀ ob, (wC.alloc ob).cell? ⟨wr.heap.size, 3, none⟩ = some (.int .i64 n.l) := fun ob => (HG0.out.under (DA.out ob) zW).at 3; have da4 : ∀ ob, (wC.alloc ob).cell? ⟨wr.heap.size, 4, none⟩ = some (.string n.x) := fun ob => (HG0.out.under (DA.out ob) zW).at 4; have da5 : ∀ ob, (wC.alloc ob).cell? ⟨wr.heap.size, 5, none⟩ = some (.string n.u) := fun ob => (HG0.out.under (DA.out ob) zW).at 5; have da6 : ∀ ob, (wC.alloc ob).cell? ⟨wr.heap.size, 6, none⟩ = some (.string n.h) := fun ob => (HG0.out.under (DA.out ob) zW).at 6; have da7 : ∀ ob, (wC.alloc ob).cell? ⟨wr.heap.size, 7, none⟩ = some (.bool n.g) := fun ob => (HG0.out.under (DA.out ob) zW).at 7; have da8 : ∀ ob, (wC.alloc ob).cell? ⟨wr.heap.size, 8, none⟩ = some (.slice none 0 0) := fun ob => ((HG0.out.under (DA.out ob) zW).at 8).trans HK8.out; clear hx hh)
              | (refine step_append_lies _ rfl _ _ 22 rfl w.heap.size 39 i0 (.agg #[.int .i64 0, .int .i64 0, .int .i64 0, .int .i64 0, .string ⟨#[]⟩, .string ⟨#[]⟩, .string ⟨#[]⟩, .bool false, .slice none 0 0, .slice none 0 0]) 10 136 Tryd.underlying22 hi0 hz0 hz1 hz2 rfl (by decide) (.slice UA i uc) i (ncells ((T.take i).map era) S) rfl (HRow.out _ (DA.out _)) ⟨wC.heap.size, 0, none⟩ 1 1 (ncell (era n) (.slice none 0 0) (.slice none 0 0)) rfl rfl (by have := cells_new wC 39 #[.int .i64 n.k, .int .i64 0, .int .i64 0, .int .i64 n.l, .string n.x, .string n.u, .string n.h, .bool n.g, .slice none 0 0, .slice none 0 0]; simpa [ncell, era] using this) (ncell_one _ _ _ rfl rfl) (by decide) (by unfold maxLen; omega) (by omega) (by have := (DA.out (.cells #[] 3)).size; simp at this ⊢; omega) _ rfl ?_; intro gu ud wE hownE hgrowE hatE hltE; have ue0 := hgrowE.cell (da0 _) HNe.out; have ue3 := hgrowE.cell (da3 _) HNe.out; have ue4 := hgrowE.cell (da4 _) HNe.out; have ue5 := hgrowE.cell (da5 _) HNe.out; have ue6 := hgrowE.cell (da6 _) HNe.out; have ue7 := hgrowE.cell (da7 _) HNe.out; have ue8 := hgrowE.cell (da8 _) HNe.out))
          have hW2 := DA.out (.cells #[.int .i64 n.k, .int .i64 0, .int .i64 0, .int .i64 n.l, .string n.x, .string n.u, .string n.h, .bool n.g, .slice none 0 0, .slice none 0 0] 39)
          have hWr := HWb.out.trans (hW2.mono (by omega))
          have FO : Hid (OwnT wE w.heap.size (.slice (some ⟨gu, 0, none⟩) (i + 1) ud) ((T.take i).map era ++ [era n]) (S ++ [(.slice none 0 0, .slice none 0 0)])) := by
            refine (HO.out.below hWr).snoc hgrowE (by rw [HTl.out]; exact hownE) ?_ ⟨rfl, Or.inl ⟨rfl, rfl⟩⟩ ?_
            · show World.ownsRow _ _ _ _ _ n.ks.length (icells n.ks)
              rw [HKe.out]
              exact ⟨rfl, Or.inl ⟨rfl, rfl⟩⟩
            · intro j s g hs hg hg'
              simp [Value.ownBlock] at hg'
          have hrow := HRow.out _ hW2
          have F0 := Lib.hid (grown_holds hgrowE (H0.out.under hWr H0.out.lt) (own_holds_ne hrow (H0.out.under hWr H0.out.lt) (by decide)))
          have F1 := Lib.hid (grown_holds hgrowE (H1.out.under hWr zz) (own_holds_ne hrow (H1.out.under hWr zz) (by decide)))
          have FB : Hid (Below w.heap.size w wE) := below_grown' (HB.out.trans (hWr.mono (by omega))) hgrowE (by have := hWr.size; omega) (fun k hk => (own_block_ge hrow k hk).1)
          clear x0 x3 x4 x5 x6 x7 x8 p0 p3 p4 p5 p6 p7 p8 q0 q3 q4 q5 q6 q7 q8 c0 c3 c4 c5 c6 c7 c8 da0 da3 da4 da5 da6 da7 da8 ue0 ue3 ue4 ue5 ue6 ue7 ue8 hownE hgrowE hatE hW2 hWr hrow
          go_wp2_with fail
          go_roundw
          case rel =>
            refine ⟨i + 1, some ⟨gu, 0, none⟩, ud, S ++ [(.slice none 0 0, .slice none 0 0)], by omega, by go_num, rfl, ?_, F0.out, F1.out, FB.out⟩
            rw [HTk.out]
            exact FO.out
          case measure => simp [intOf]; omega
        · have HK8 : Hid (some (Value.slice (some ad) n.ks.length kc) = some (.slice (some ad) 0 kc)) := by show _ = _; rw [hk0]
          have HKe : Hid (n.ks = []) := List.eq_nil_of_length_eq_zero hk0
          rw [hk0] at x8
          have HRow : Hid (∀ W, Below W1.heap.size W1 W → W.ownsRow w.heap.size 39 10 (.slice UA i uc) i (ncells ((T.take i).map era) S)) := fun W hb => by have := (HO.out.below (HWb.out.trans (hb.mono (by omega)))).row; rw [HTl.out] at this; exact this
          have HNe : Hid (some wr.heap.size ≠ (Value.slice UA i uc).ownBlock) := fun e => by have := (own_block_ge HO.out.row _ e.symm).2; omega
          clear hk0
          go_region_held3 (fun w' => w'.cell? ⟨wr.heap.size, 0, none⟩ = some (.int .i64 n.k) ∧ w'.cell? ⟨wr.heap.size, 3, none⟩ = some (.int .i64 n.l) ∧ w'.cell? ⟨wr.heap.size, 4, none⟩ = some (.string n.x) ∧ w'.cell? ⟨wr.heap.size, 5, none⟩ = some (.string n.u) ∧ w'.cell? ⟨wr.heap.size, 6, none⟩ = some (.string n.h) ∧ w'.cell? ⟨wr.heap.size, 7, none⟩ = some (.bool n.g) ∧ w'.cell? ⟨wr.heap.size, 8, none⟩ = some (.slice (some ad) 0 kc)) (first | exact ⟨x0, x3, x4, x5, x6, x7, x8⟩ | (refine ⟨?_, ?_, ?_, ?_, ?_, ?_, ?_⟩ <;> first | assumption | (exact da0 _) | (exact da3 _) | (exact da4 _) | (exact da5 _) | (exact da6 _) | (exact da7 _) | (exact da8 _)))
            (first
              | (go_at_call 37; ((with_reducible refine (Cx.out _).mono ?_)); rintro e wA ⟨rfl, hh⟩; have hx : Below W1.heap.size W1 wA := (Below.refl W1.heap.size W1).drew.trans hh; have AA := Lib.hid hx; have p0 : wA.cell? ⟨wr.heap.size, 0, none⟩ = some (.int .i64 n.k) := (HG0.out.under hx zW).at 0; have p3 : wA.cell? ⟨wr.heap.size, 3, none⟩ = some (.int .i64 n.l) := (HG0.out.under hx zW).at 3; have p4 : wA.cell? ⟨wr.heap.size, 4, none⟩ = some (.string n.x) := (HG0.out.under hx zW).at 4; have p5 : wA.cell? ⟨wr.heap.size, 5, none⟩ = some (.string n.u) := (HG0.out.under hx zW).at 5; have p6 : wA.cell? ⟨wr.heap.size, 6, none⟩ = some (.string n.h) := (HG0.out.under hx zW).at 6; have p7 : wA.cell? ⟨wr.heap.size, 7, none⟩ = some (.bool n.g) := (HG0.out.under hx zW).at 7; have p8 : wA.cell? ⟨wr.heap.size, 8, none⟩ = some (.slice (some ad) 0 kc) := ((HG0.out.under hx zW).at 8).trans HK8.out; clear hx hh)
              | (go_at_call 37; ((with_reducible refine (Cu.out _).mono ?_)); rintro e wB ⟨rfl, hh⟩; have hx : Below W1.heap.size W1 wB := (AA.out).trans (hh.mono (by have := AA.out.size; omega)); have BB := Lib.hid hx; have q0 : wB.cell? ⟨wr.heap.size, 0, none⟩ = some (.int .i64 n.k) := (HG0.out.under hx zW).at 0; have q3 : wB.cell? ⟨wr.heap.size, 3, none⟩ = some (.int .i64 n.l) := (HG0.out.under hx zW).at 3; have q4 : wB.cell? ⟨wr.heap.size, 4, none⟩ = some (.string n.x) := (HG0.out.under hx zW).at 4; have q5 : wB.cell? ⟨wr.heap.size, 5, none⟩ = some (.string n.u) := (HG0.out.under hx zW).at 5; have q6 : wB.cell? ⟨wr.heap.size, 6, none⟩ = some (.string n.h) := (HG0.out.under hx zW).at 6; have q7 : wB.cell? ⟨wr.heap.size, 7, none⟩ = some (.bool n.g) := (HG0.out.under hx zW).at 7; have q8 : wB.cell? ⟨wr.heap.size, 8, none⟩ = some (.slice (some ad) 0 kc) := ((HG0.out.under hx zW).at 8).trans HK8.out; clear hx hh)
              | (go_at_call 37; ((with_reducible refine (Ch.out _).mono ?_)); rintro e wC ⟨rfl, hh⟩; have hx : Below W1.heap.size W1 wC := (BB.out).trans (hh.mono (by have := BB.out.size; omega)); have CC := Lib.hid hx; have c0 : wC.cell? ⟨wr.heap.size, 0, none⟩ = some (.int .i64 n.k) := (HG0.out.under hx zW).at 0; have c3 : wC.cell? ⟨wr.heap.size, 3, none⟩ = some (.int .i64 n.l) := (HG0.out.under hx zW).at 3; have c4 : wC.cell? ⟨wr.heap.size, 4, none⟩ = some (.string n.x) := (HG0.out.under hx zW).at 4; have c5 : wC.cell? ⟨wr.heap.size, 5, none⟩ = some (.string n.u) := (HG0.out.under hx zW).at 5; have c6 : wC.cell? ⟨wr.heap.size, 6, none⟩ = some (.string n.h) := (HG0.out.under hx zW).at 6; have c7 : wC.cell? ⟨wr.heap.size, 7, none⟩ = some (.bool n.g) := (HG0.out.under hx zW).at 7; have c8 : wC.cell? ⟨wr.heap.size, 8, none⟩ = some (.slice (some ad) 0 kc) := ((HG0.out.under hx zW).at 8).trans HK8.out; have DA : Hid (∀ ob, Below W1.heap.size W1 (wC.alloc ob)) := fun ob => hx.alloc (by have := hx.size; omega) ob; have da0 : ∀ ob, (wC.alloc ob).cell? ⟨wr.heap.size, 0, none⟩ = some (.int .i64 n.k) := fun ob => (HG0.out.under (DA.out ob) zW).at 0; have da3 : ∀ ob, (wC.alloc ob).cell? ⟨wr.heap.size, 3, none⟩ = some (.int .i64 n.l) := fun ob => (HG0.out.under (DA.out ob) zW).at 3; have da4 : ∀ ob, (wC.alloc ob).cell? ⟨wr.heap.size, 4, none⟩ = some (.string n.x) := fun ob => (HG0.out.under (DA.out ob) zW).at 4; have da5 : ∀ ob, (wC.alloc ob).cell? ⟨wr.heap.size, 5, none⟩ = some (.string n.u) := fun ob => (HG0.out.under (DA.out ob) zW).at 5; have da6 : ∀ ob, (wC.alloc ob).cell? ⟨wr.heap.size, 6, none⟩ = some (.string n.h) := fun ob => (HG0.out.under (DA.out ob) zW).at 6; have da7 : ∀ ob, (wC.alloc ob).cell? ⟨wr.heap.size, 7, none⟩ = some (.bool n.g) := fun ob => (HG0.out.under (DA.out ob) zW).at 7; have da8 : ∀ ob, (wC.alloc ob).cell? ⟨wr.heap.size, 8, none⟩ = some (.slice (some ad) 0 kc) := fun ob => ((HG0.out.under (DA.out ob) zW).at 8).trans HK8.out; clear hx hh)
              | (refine step_append_lies _ rfl _ _ 22 rfl w.heap.size 39 i0 (.agg #[.int .i64 0, .int .i64 0, .int .i64 0, .int .i64 0, .string ⟨#[]⟩, .string ⟨#[]⟩, .string ⟨#[]⟩, .bool false, .slice none 0 0, .slice none 0 0]) 10 136 Tryd.underlying22 hi0 hz0 hz1 hz2 rfl (by decide) (.slice UA i uc) i (ncells ((T.take i).map era) S) rfl (HRow.out _ (DA.out _)) ⟨wC.heap.size, 0, none⟩ 1 1 (ncell (era n) (.slice none 0 0) (.slice none 0 0)) rfl rfl (by have := cells_new wC 39 #[.int .i64 n.k, .int .i64 0, .int .i64 0, .int .i64 n.l, .string n.x, .string n.u, .string n.h, .bool n.g, .slice none 0 0, .slice none 0 0]; simpa [ncell, era] using this) (ncell_one _ _ _ rfl rfl) (by decide) (by unfold maxLen; omega) (by omega) (by have := (DA.out (.cells #[] 3)).size; simp at this ⊢; omega) _ rfl ?_; intro gu ud wE hownE hgrowE hatE hltE; have ue0 := hgrowE.cell (da0 _) HNe.out; have ue3 := hgrowE.cell (da3 _) HNe.out; have ue4 := hgrowE.cell (da4 _) HNe.out; have ue5 := hgrowE.cell (da5 _) HNe.out; have ue6 := hgrowE.cell (da6 _) HNe.out; have ue7 := hgrowE.cell (da7 _) HNe.out; have ue8 := hgrowE.cell (da8 _) HNe.out))
          have hW2 := DA.out (.cells #[.int .i64 n.k, .int .i64 0, .int .i64 0, .int .i64 n.l, .string n.x, .string n.u, .string n.h, .bool n.g, .slice none 0 0, .slice none 0 0] 39)
          have hWr := HWb.out.trans (hW2.mono (by omega))
          have FO : Hid (OwnT wE w.heap.size (.slice (some ⟨gu, 0, none⟩) (i + 1) ud) ((T.take i).map era ++ [era n]) (S ++ [(.slice none 0 0, .slice none 0 0)])) := by
            refine (HO.out.below hWr).snoc hgrowE (by rw [HTl.out]; exact hownE) ?_ ⟨rfl, Or.inl ⟨rfl, rfl⟩⟩ ?_
            · show World.ownsRow _ _ _ _ _ n.ks.length (icells n.ks)
              rw [HKe.out]
              exact ⟨rfl, Or.inl ⟨rfl, rfl⟩⟩
            · intro j s g hs hg hg'
              simp [Value.ownBlock] at hg'
          have hrow := HRow.out _ hW2
          have F0 := Lib.hid (grown_holds hgrowE (H0.out.under hWr H0.out.lt) (own_holds_ne hrow (H0.out.under hWr H0.out.lt) (by decide)))
          have F1 := Lib.hid (grown_holds hgrowE (H1.out.under hWr zz) (own_holds_ne hrow (H1.out.under hWr zz) (by decide)))
          have FB : Hid (Below w.heap.size w wE) := below_grown' (HB.out.trans (hWr.mono (by omega))) hgrowE (by have := hWr.size; omega) (fun k hk => (own_block_ge hrow k hk).1)
          clear x0 x3 x4 x5 x6 x7 x8 p0 p3 p4 p5 p6 p7 p8 q0 q3 q4 q5 q6 q7 q8 c0 c3 c4 c5 c6 c7 c8 da0 da3 da4 da5 da6 da7 da8 ue0 ue3 ue4 ue5 ue6 ue7 ue8 hownE hgrowE hatE hW2 hWr hrow
          go_wp2_with fail
          go_roundw
          case rel =>
            refine ⟨i + 1, some ⟨gu, 0, none⟩, ud, S ++ [(.slice none 0 0, .slice none 0 0)], by omega, by go_num, rfl, ?_, F0.out, F1.out, FB.out⟩
            rw [HTk.out]
            exact FO.out
          case measure => simp [intOf]; omega
      · have hpos : 0 < n.ks.length := by omega
        obtain ⟨bk, ok, rfl, _⟩ := HKs.out 0 n.ks[0] (List.getElem?_eq_getElem hpos)
        have HKc : Hid (∀ W, Below W1.heap.size W1 W → ∀ j u, (icells n.ks)[j]? = some u → W.cell? ((⟨bk, ok, none⟩ : Addr).add j) = some u) := fun W hb => (HKs.out.below (HWb.out.mono (by omega) |>.trans (hb.mono (by omega)))).cells
        have HRow : Hid (∀ W, Below W1.heap.size W1 W → W.ownsRow w.heap.size 39 10 (.slice UA i uc) i (ncells ((T.take i).map era) S)) := fun W hb => by have := (HO.out.below (HWb.out.trans (hb.mono (by omega)))).row; rw [HTl.out] at this; exact this
        have HNe : Hid (some wr.heap.size ≠ (Value.slice UA i uc).ownBlock) := fun e => by have := (own_block_ge HO.out.row _ e.symm).2; omega
        go_region_held3 (fun w' => w'.cell? ⟨wr.heap.size, 0, none⟩ = some (.int .i64 n.k) ∧ w'.cell? ⟨wr.heap.size, 3, none⟩ = some (.int .i64 n.l) ∧ w'.cell? ⟨wr.heap.size, 4, none⟩ = some (.string n.x) ∧ w'.cell? ⟨wr.heap.size, 5, none⟩ = some (.string n.u) ∧ w'.cell? ⟨wr.heap.size, 6, none⟩ = some (.string n.h) ∧ w'.cell? ⟨wr.heap.size, 7, none⟩ = some (.bool n.g) ∧ w'.cell? ⟨wr.heap.size, 8, none⟩ = some (.slice (some ⟨bk, ok, none⟩) n.ks.length kc)) (first | exact ⟨x0, x3, x4, x5, x6, x7, x8⟩ | (refine ⟨?_, ?_, ?_, ?_, ?_, ?_, ?_⟩ <;> first | assumption | (exact da0 _) | (exact da3 _) | (exact da4 _) | (exact da5 _) | (exact da6 _) | (exact da7 _) | (exact da8 _)))
          (first
            | (go_at_call 37; ((with_reducible refine (Cx.out _).mono ?_)); rintro e wA ⟨rfl, hh⟩; have hx : Below W1.heap.size W1 wA := (Below.refl W1.heap.size W1).drew.trans hh; have AA := Lib.hid hx; have p0 : wA.cell? ⟨wr.heap.size, 0, none⟩ = some (.int .i64 n.k) := (HG0.out.under hx zW).at 0; have p3 : wA.cell? ⟨wr.heap.size, 3, none⟩ = some (.int .i64 n.l) := (HG0.out.under hx zW).at 3; have p4 : wA.cell? ⟨wr.heap.size, 4, none⟩ = some (.string n.x) := (HG0.out.under hx zW).at 4; have p5 : wA.cell? ⟨wr.heap.size, 5, none⟩ = some (.string n.u) := (HG0.out.under hx zW).at 5; have p6 : wA.cell? ⟨wr.heap.size, 6, none⟩ = some (.string n.h) := (HG0.out.under hx zW).at 6; have p7 : wA.cell? ⟨wr.heap.size, 7, none⟩ = some (.bool n.g) := (HG0.out.under hx zW).at 7; have p8 : wA.cell? ⟨wr.heap.size, 8, none⟩ = some (.slice (some ⟨bk, ok, none⟩) n.ks.length kc) := (HG0.out.under hx zW).at 8; clear hx hh)
            | (go_at_call 37; ((with_reducible refine (Cu.out _).mono ?_)); rintro e wB ⟨rfl, hh⟩; have hx : Below W1.heap.size W1 wB := (AA.out).trans (hh.mono (by have := AA.out.size; omega)); have BB := Lib.hid hx; have q0 : wB.cell? ⟨wr.heap.size, 0, none⟩ = some (.int .i64 n.k) := (HG0.out.under hx zW).at 0; have q3 : wB.cell? ⟨wr.heap.size, 3, none⟩ = some (.int .i64 n.l) := (HG0.out.under hx zW).at 3; have q4 : wB.cell? ⟨wr.heap.size, 4, none⟩ = some (.string n.x) := (HG0.out.under hx zW).at 4; have q5 : wB.cell? ⟨wr.heap.size, 5, none⟩ = some (.string n.u) := (HG0.out.under hx zW).at 5; have q6 : wB.cell? ⟨wr.heap.size, 6, none⟩ = some (.string n.h) := (HG0.out.under hx zW).at 6; have q7 : wB.cell? ⟨wr.heap.size, 7, none⟩ = some (.bool n.g) := (HG0.out.under hx zW).at 7; have q8 : wB.cell? ⟨wr.heap.size, 8, none⟩ = some (.slice (some ⟨bk, ok, none⟩) n.ks.length kc) := (HG0.out.under hx zW).at 8; clear hx hh)
            | (go_at_call 37; ((with_reducible refine (Ch.out _).mono ?_)); rintro e wC ⟨rfl, hh⟩; have hx : Below W1.heap.size W1 wC := (BB.out).trans (hh.mono (by have := BB.out.size; omega)); have CC := Lib.hid hx; have c0 : wC.cell? ⟨wr.heap.size, 0, none⟩ = some (.int .i64 n.k) := (HG0.out.under hx zW).at 0; have c3 : wC.cell? ⟨wr.heap.size, 3, none⟩ = some (.int .i64 n.l) := (HG0.out.under hx zW).at 3; have c4 : wC.cell? ⟨wr.heap.size, 4, none⟩ = some (.string n.x) := (HG0.out.under hx zW).at 4; have c5 : wC.cell? ⟨wr.heap.size, 5, none⟩ = some (.string n.u) := (HG0.out.under hx zW).at 5; have c6 : wC.cell? ⟨wr.heap.size, 6, none⟩ = some (.string n.h) := (HG0.out.under hx zW).at 6; have c7 : wC.cell? ⟨wr.heap.size, 7, none⟩ = some (.bool n.g) := (HG0.out.under hx zW).at 7; have c8 : wC.cell? ⟨wr.heap.size, 8, none⟩ = some (.slice (some ⟨bk, ok, none⟩) n.ks.length kc) := (HG0.out.under hx zW).at 8; clear hx hh)
            | (refine step_append_lies _ rfl _ _ 30 rfl w.heap.size 3 j0 (.int .i64 0) 1 8 Tryd.underlying30 hj0 hy0 hy1 hy2 rfl (by decide) (.slice none 0 0) 0 [] rfl ⟨rfl, Or.inl ⟨rfl, rfl⟩⟩ ⟨bk, ok, none⟩ n.ks.length kc (icells n.ks) rfl (by rw [icells_len, Nat.mul_one]) (HKc.out _ CC.out) (icells_one _) hpos (by unfold maxLen; omega) (by omega) (by have := CC.out.size; omega) _ rfl ?_; intro gk kd wD hownD hgrowD hatD hltD; have hx : Below W1.heap.size W1 wD := CC.out.trans ⟨hgrowD.os, hgrowD.tape, hgrowD.output, hgrowD.size, fun k hk => hgrowD.block k (by have := CC.out.size; omega) (by simp [Value.ownBlock])⟩; have DD := Lib.hid hx; have DO := Lib.hid hownD; have Dg : Hid (gk = wC.heap.size) := (hatD.resolve_left (by simp [Value.ownBlock])); have d0 : wD.cell? ⟨wr.heap.size, 0, none⟩ = some (.int .i64 n.k) := (HG0.out.under hx zW).at 0; have d3 : wD.cell? ⟨wr.heap.size, 3, none⟩ = some (.int .i64 n.l) := (HG0.out.under hx zW).at 3; have d4 : wD.cell? ⟨wr.heap.size, 4, none⟩ = some (.string n.x) := (HG0.out.under hx zW).at 4; have d5 : wD.cell? ⟨wr.heap.size, 5, none⟩ = some (.string n.u) := (HG0.out.under hx zW).at 5; have d6 : wD.cell? ⟨wr.heap.size, 6, none⟩ = some (.string n.h) := (HG0.out.under hx zW).at 6; have d7 : wD.cell? ⟨wr.heap.size, 7, none⟩ = some (.bool n.g) := (HG0.out.under hx zW).at 7; have d8 : wD.cell? ⟨wr.heap.size, 8, none⟩ = some (.slice (some ⟨bk, ok, none⟩) n.ks.length kc) := (HG0.out.under hx zW).at 8; have DA : Hid (∀ ob, Below W1.heap.size W1 (wD.alloc ob)) := fun ob => hx.alloc (by have := hx.size; omega) ob; have da0 : ∀ ob, (wD.alloc ob).cell? ⟨wr.heap.size, 0, none⟩ = some (.int .i64 n.k) := fun ob => (HG0.out.under (DA.out ob) zW).at 0; have da3 : ∀ ob, (wD.alloc ob).cell? ⟨wr.heap.size, 3, none⟩ = some (.int .i64 n.l) := fun ob => (HG0.out.under (DA.out ob) zW).at 3; have da4 : ∀ ob, (wD.alloc ob).cell? ⟨wr.heap.size, 4, none⟩ = some (.string n.x) := fun ob => (HG0.out.under (DA.out ob) zW).at 4; have da5 : ∀ ob, (wD.alloc ob).cell? ⟨wr.heap.size, 5, none⟩ = some (.string n.u) := fun ob => (HG0.out.under (DA.out ob) zW).at 5; have da6 : ∀ ob, (wD.alloc ob).cell? ⟨wr.heap.size, 6, none⟩ = some (.string n.h) := fun ob => (HG0.out.under (DA.out ob) zW).at 6; have da7 : ∀ ob, (wD.alloc ob).cell? ⟨wr.heap.size, 7, none⟩ = some (.bool n.g) := fun ob => (HG0.out.under (DA.out ob) zW).at 7; have da8 : ∀ ob, (wD.alloc ob).cell? ⟨wr.heap.size, 8, none⟩ = some (.slice (some ⟨bk, ok, none⟩) n.ks.length kc) := fun ob => (HG0.out.under (DA.out ob) zW).at 8; clear hx hownD hgrowD hatD)
            | (refine step_append_lies _ rfl _ _ 22 rfl w.heap.size 39 i0 (.agg #[.int .i64 0, .int .i64 0, .int .i64 0, .int .i64 0, .string ⟨#[]⟩, .string ⟨#[]⟩, .string ⟨#[]⟩, .bool false, .slice none 0 0, .slice none 0 0]) 10 136 Tryd.underlying22 hi0 hz0 hz1 hz2 rfl (by decide) (.slice UA i uc) i (ncells ((T.take i).map era) S) rfl (HRow.out _ (DA.out _)) ⟨wD.heap.size, 0, none⟩ 1 1 (ncell (era n) (.slice (some ⟨gk, 0, none⟩) n.ks.length kd) (.slice none 0 0)) rfl rfl (by have := cells_new wD 39 #[.int .i64 n.k, .int .i64 0, .int .i64 0, .int .i64 n.l, .string n.x, .string n.u, .string n.h, .bool n.g, .slice (some ⟨gk, 0, none⟩) n.ks.length kd, .slice none 0 0]; simpa [ncell, era] using this) (ncell_one _ _ _ rfl rfl) (by decide) (by unfold maxLen; omega) (by omega) (by have := (DA.out (.cells #[] 3)).size; simp at this ⊢; omega) _ rfl ?_; intro gu ud wE hownE hgrowE hatE hltE; have ue0 := hgrowE.cell (da0 _) HNe.out; have ue3 := hgrowE.cell (da3 _) HNe.out; have ue4 := hgrowE.cell (da4 _) HNe.out; have ue5 := hgrowE.cell (da5 _) HNe.out; have ue6 := hgrowE.cell (da6 _) HNe.out; have ue7 := hgrowE.cell (da7 _) HNe.out; have ue8 := hgrowE.cell (da8 _) HNe.out))
        have hW2 := DA.out (.cells #[.int .i64 n.k, .int .i64 0, .int .i64 0, .int .i64 n.l, .string n.x, .string n.u, .string n.h, .bool n.g, .slice (some ⟨gk, 0, none⟩) n.ks.length kd, .slice none 0 0] 39)
        have hWr := HWb.out.trans (hW2.mono (by omega))
        have hgk : wr.heap.size < gk := by have := CC.out.size; have := Dg.out; omega
        have FO : Hid (OwnT wE w.heap.size (.slice (some ⟨gu, 0, none⟩) (i + 1) ud) ((T.take i).map era ++ [era n]) (S ++ [(.slice (some ⟨gk, 0, none⟩) n.ks.length kd, .slice none 0 0)])) := by
          refine (HO.out.below hWr).snoc hgrowE (by rw [HTl.out]; exact hownE) ?_ ⟨rfl, Or.inl ⟨rfl, rfl⟩⟩ ?_
          · have := own_below DO.out ((Below.refl _ _).alloc (Nat.le_refl _) (.cells #[.int .i64 n.k, .int .i64 0, .int .i64 0, .int .i64 n.l, .string n.x, .string n.u, .string n.h, .bool n.g, .slice (some ⟨gk, 0, none⟩) n.ks.length kd, .slice none 0 0] 39))
            rw [List.nil_append] at this
            show World.ownsRow _ _ _ _ _ n.ks.length (icells n.ks)
            simp only [Nat.zero_add] at this
            exact this
          · intro j s g hs hg hg'
            have hj : j < ((T.take i).map era).length := by rw [← HO.out.len]; exact (List.getElem?_eq_some_iff.1 hs).1
            have h2 := (own_block_ge (HO.out.sub j _ s (List.getElem?_eq_getElem hj) hs).1 g hg).2
            simp [Value.ownBlock] at hg'
            omega
        have hrow := HRow.out _ hW2
        have F0 := Lib.hid (grown_holds hgrowE (H0.out.under hWr H0.out.lt) (own_holds_ne hrow (H0.out.under hWr H0.out.lt) (by decide)))
        have F1 := Lib.hid (grown_holds hgrowE (H1.out.under hWr zz) (own_holds_ne hrow (H1.out.under hWr zz) (by decide)))
        have FB : Hid (Below w.heap.size w wE) := below_grown' (HB.out.trans (hWr.mono (by omega))) hgrowE (by have := hWr.size; omega) (fun k hk => (own_block_ge hrow k hk).1)
        clear x0 x3 x4 x5 x6 x7 x8 p0 p3 p4 p5 p6 p7 p8 q0 q3 q4 q5 q6 q7 q8 c0 c3 c4 c5 c6 c7 c8 d0 d3 d4 d5 d6 d7 d8 da0 da3 da4 da5 da6 da7 da8 ue0 ue3 ue4 ue5 ue6 ue7 ue8 hownE hgrowE hatE hW2 hWr hrow
        go_wp2_with fail
        go_roundw
        case rel =>
          refine ⟨i + 1, some ⟨gu, 0, none⟩, ud, S ++ [(.slice (some ⟨gk, 0, none⟩) n.ks.length kd, .slice none 0 0)], by omega, by go_num, rfl, ?_, F0.out, F1.out, FB.out⟩
          rw [HTk.out]
          exact FO.out
        case measure => simp [intOf]; omega
    · have HE : Hid ((T.take i).map era = T.map era) := by show _ = _; rw [List.take_of_length_le (by omega)]
      have HO2 : Hid (OwnT wr w.heap.size (.slice UA i uc) (T.map era) S) := by have := HO.out; rw [HE.out] at this; exact this
      go_wp2_with fail
      refine bodyPost_ret (v := .agg #[.slice UA i uc]) (by simp [results, Tryd.results19, go_sem, a1]) rfl ⟨_, S, rfl, HO2.out.set H1.out, HB.out.setCell (by show _ ≤ w.heap.size + 1; omega) _⟩
end Go.Proofs.YtdfhgcknelgdmaaDoor
