/-
  PROVED: contract of emph.Pairs: the model's pairs, in new memory. Conditions: the slice lies in memory that holds the rows, at most 600 of them, each mark a byte.
-/
import Derived.Test.YtldillhgpjmjpaaBind
import Derived.Test.YtldillhgpjmjpaaRunLen
namespace Go.Proofs.Ytldillhgpjmjpaa
open Go.ChangeShapes Go.WideShapes Go.ChangeAt Go.RowKit Go.Sort
set_option linter.unusedVariables false

/-- What the loops of Pairs go by: pairs P so far. -/
structure PRel (w2 : World) (wr : World) (v : Value) (P : List Bd) : Prop where
  ow : wr.ownsRow w2.heap.size 33 3 v P.length (bcells P)
  bl : Below w2.heap.size w2 wr
theorem bcells_snoc (P : List Bd) (b : Bd) : bcells (P ++ [b]) = bcells P ++ bcell b := by simp [bcells]

set_option maxHeartbeats 8000000 in
theorem pairs_any (A : Option Addr) (c : Nat) (L : List Rw) (hl : L.length ≤ 600) (hm : ∀ r ∈ L, (Lit.int .u8 r.m).wf = true) (w : World) (h : Rdc w w.heap.size A (rcells L)) :
    Calls Try.prog 11 #[.slice A L.length c] w (OwnR w 33 3 (pairsM L).length (bcells (pairsM L))) := by
  obtain ⟨i0, hi0, hz0, hz1, hz2⟩ := info_parts Try.info33
  have HBi := Lib.hid (bind_any A c L hl hm w h)
  have hlen := run_len L 600 L.length hl
  have hq := run_q L L.length
  have HP : Hid (pairsM L = expand (runM L L.length).2.2) := rfl
  clear h hm
  go_enter Try.func11, Try.ntmps11
  go_wp2_with fail
  refine (HBi.out).mono ?_
  rintro e w2 ⟨g, mb, k, D, rfl, ⟨vR, vO, vB, hV⟩, hb2⟩
  obtain ⟨bs, hbs⟩ : ∃ bs, bs = (runM L L.length).2.2 := ⟨_, rfl⟩
  rw [← hbs] at hV hlen hq HP
  have hlb : bs.length ≤ 361200 := by have : L.length * 601 ≤ 600 * 601 := Nat.mul_le_mul_right _ hl; omega
  have HQ := Lib.hid hq
  have B2 := Lib.hid hb2
  have p3 : w2.cell? ⟨g, 3, none⟩ = some vB := hV.par.at 3
  have hg := hV.par.lt
  obtain ⟨AB, cB, hvB, _, _, hrd⟩ := own_rdc hV.bnd
  have HRd := Lib.hid hrd
  subst hvB
  have hsz := hb2.size
  clear hbs hV hq hb2 hrd HBi hlen
  go_wp2_with fail
  go_loopw [3, 13] (fun s3 v wr => ∃ i : Nat, v = .int .i64 i ∧ i ≤ bs.length ∧ PRel w2 wr s3 (expand (bs.take i))) (fun _ v _ => bs.length - (intOf v).toNat)
  case atStart => exact ⟨0, rfl, Nat.zero_le _, ⟨World.ownsRow_nil _ _ _ _, Below.refl _ _⟩⟩
  case round =>
    obtain ⟨i, rfl, hi, hr⟩ := hrel
    have HR := Lib.hid hr
    by_cases hlt : i < bs.length
    · obtain ⟨b, o, rfl, hb, r0, r1, r2⟩ := (HRd.out.below hr.bl).pair (List.getElem?_eq_getElem hlt)
      have hqi := HQ.out bs[i] (List.getElem_mem hlt)
      have HT : Hid (expand (bs.take (i + 1)) = expand (bs.take i) ++ expB bs[i]) := by
        show _ = _
        rw [List.take_succ_eq_append_getElem hlt, expand_app]
        simp [expand]
      have hTl : (expand (bs.take (i + 1))).length ≤ 361200 * 1048576 := by
        have h1 := expand_len (bs.take (i + 1)) (fun x hx => HQ.out x (List.mem_of_mem_take hx))
        have h2 : (bs.take (i + 1)).length ≤ 361200 := by rw [List.length_take]; omega
        exact Nat.le_trans h1 (Nat.mul_le_mul_right _ h2)
      obtain ⟨bo, hbo⟩ : ∃ bo, bo = bs[i].1 := ⟨_, rfl⟩
      obtain ⟨bc, hbc⟩ : ∃ bc, bc = bs[i].2.1 := ⟨_, rfl⟩
      obtain ⟨bq, hbq⟩ : ∃ bq, bq = bs[i].2.2 := ⟨_, rfl⟩
      have HBB : Hid (bs[i] = (bo, bc, bq)) := by show _ = _; rw [hbo, hbc, hbq]
      rw [← hbo] at r0
      rw [← hbc] at r1
      rw [← hbq] at r2 hqi
      clear hbo hbc hbq
      obtain ⟨A3, c3, hs3⟩ := own_sl hr.ow
      obtain ⟨T, hT⟩ : ∃ T, T = expand (bs.take (i + 1)) := ⟨_, rfl⟩
      rw [← hT] at HT hTl
      have HTT := Lib.hid hT
      subst hs3
      clear hr hT
      obtain ⟨bx, hbx⟩ : ∃ bx, bx = wr.heap.size := ⟨_, rfl⟩
      have H3 : Hid (Holds (wr.alloc (.cells #[.int .i64 bo, .int .i64 bc, .int .i64 bq] 45)) bx 45 #[.int .i64 bo, .int .i64 bc, .int .i64 bq]) := by rw [hbx]; exact Holds.made wr 45 _
      have O3 : Hid ((wr.alloc (.cells #[.int .i64 bo, .int .i64 bc, .int .i64 bq] 45)).ownsRow w2.heap.size 33 3 (.slice A3 (expand (bs.take i)).length c3) (expand (bs.take i)).length (bcells (expand (bs.take i)))) := HR.out.ow.alloc _
      have B3 : Hid (Below w2.heap.size w2 (wr.alloc (.cells #[.int .i64 bo, .int .i64 bc, .int .i64 bq] 45))) := HR.out.bl.alloc (by have := HR.out.bl.size; omega) _
      go_wp2_with fail
      rw [← hbx]
      clear hbx
      go_loopw [3, 6] (fun s3 v wq => ∃ (z : Int) (P : List Bd), v = .int .i64 z ∧ -1 ≤ z ∧ z ≤ 1048576 ∧ P ++ expB (bo, bc, z.toNat) = T ∧ PRel w2 wq s3 P ∧ Holds wq bx 45 #[.int .i64 bo, .int .i64 bc, .int .i64 bq]) (fun _ v _ => ((intOf v) + 1).toNat)
      case atStart => exact ⟨bq, _, rfl, by omega, by omega, by rw [HT.out, HBB.out]; rfl, ⟨O3.out, B3.out⟩, H3.out⟩
      case round =>
        obtain ⟨z, P, rfl, hzl, hzu, hP, hr, hh⟩ := hrel
        have HPT := Lib.hid hP
        have HRr := Lib.hid hr
        have HHr := Lib.hid hh
        obtain ⟨A4, c4, hs4⟩ := own_sl hr.ow
        subst hs4
        clear H3 O3 B3 HR
        by_cases hz : 0 < z
        · obtain ⟨kk, hkk⟩ : ∃ kk : Nat, (kk : Int) = if 2 < z then 2 else z := ⟨(if 2 < z then 2 else z : Int).toNat, by split <;> omega⟩
          have HK := Lib.hid hkk
          have hst := expB_step bo bc z hz kk hkk
          have hPl : P.length < 361200 * 1048576 := by
            have := congrArg List.length hP
            rw [hst, List.length_append, List.length_cons] at this
            omega
          have HST := Lib.hid hst
          have hmin : (if (2 : Int) < z then (2 : Int) else z) = (kk : Int) := hkk.symm
          have x0 : wr.cell? ⟨bx, 0, none⟩ = some (.int .i64 bo) := hh.at 0
          have x1 : wr.cell? ⟨bx, 1, none⟩ = some (.int .i64 bc) := hh.at 1
          have hwr : w2.heap.size ≤ wr.heap.size := hr.bl.size
          clear hP hr hh hkk hst r0 r1 r2 p3
          go_wp2_with (at_builtin; refine wpList_append_lies _ rfl _ _ 26 rfl w2.heap.size 33 i0 (.agg #[.int .i64 0, .int .i64 0, .int .i64 0]) 3 24 Try.underlying26 hi0 hz0 hz1 hz2 rfl (by decide) (.slice A4 P.length c4) P.length (bcells P) rfl (HRr.out.ow.alloc _) ⟨wr.heap.size, 0, none⟩ 1 1 (bcell (bo, bc, kk)) rfl rfl (World.news_of_block (heap_alloc_new _ _)) (bcell_one _) (by decide) (by unfold maxLen; omega) (by omega) (by simp; omega) _ rfl ?_)
          intro gB cB' w4 hown hgrow hat hlt4
          have K4 : Hid (Kept (fun j => (Value.slice A4 P.length c4).ownBlock = some j) wr w4) := (Kept.alloc _ wr _).trans (Kept.grown _ hgrow (fun _ e => e)) (fun _ _ => id)
          have H4 : Hid (Holds w4 bx 45 #[.int .i64 bo, .int .i64 bc, .int .i64 bq]) := K4.out.holds HHr.out (fun e => own_holds_ne HRr.out.ow HHr.out (by decide) e)
          have O4 := Lib.hid hown
          have B4 : Hid (Below w2.heap.size w2 w4) := HRr.out.bl.trans (K4.out.below hwr (fun j hj => (own_block_ge HRr.out.ow j hj).1))
          clear hown hgrow hat
          go_wp2_with fail
          go_roundw
          case rel =>
            refine ⟨z - 2, P ++ [(bo, bc, kk)], by go_num, by omega, by omega, ?_, ⟨?_, B4.out⟩, H4.out⟩
            · rw [List.append_assoc]
              show P ++ ((bo, bc, kk) :: expB (bo, bc, (z - 2).toNat)) = T
              rw [← HST.out]
              exact HPT.out
            · rw [bcells_snoc, List.length_append]
              exact O4.out
          case measure => simp [intOf]; omega
        · have hzz : z.toNat = 0 := by omega
          have hPT : P = T := by
            have := HPT.out
            rw [hzz] at this
            simpa [expB, expN] using this
          subst hPT
          clear hP hh r0 r1 r2 p3
          have hz' : ¬ (0 : Int) < z := hz
          go_wp2_with fail
          go_roundw
          case rel => exact ⟨i + 1, by go_num, by omega, by rw [← HTT.out]; exact HRr.out⟩
          case measure => simp [intOf]; omega
    · have hi2 : i = bs.length := by omega
      subst hi2
      obtain ⟨A3, c3, hs3⟩ := own_sl hr.ow
      subst hs3
      have hO : Hid (OwnR w 33 3 (pairsM L).length (bcells (pairsM L)) (.returned (.slice A3 (expand (bs.take bs.length)).length c3)) wr) := by
        have := hr.ow
        rw [List.take_length] at this ⊢
        refine ⟨_, rfl, ?_, B2.out.trans (hr.bl.mono hsz)⟩
        rw [HP.out]
        exact own_base this hsz
      clear hr p3
      go_wp2_with fail
      go_ret
      exact hO.out
end Go.Proofs.Ytldillhgpjmjpaa
