/-
  PROVED: contract of the document's Parents: it answers 'parP'. Conditions: the tree is small ('Bd') and has at most 4000 nodes.
-/
import Derived.Test.YtdfhgcknelgdmaaDoorRightEq
import Derived.Test.YtdfhgcknelgdmaaDoorPar
namespace Go.Proofs.YtdfhgcknelgdmaaDoor
open Go.ChangeShapes Go.WideShapes Go.ChangeAt Go.RowKit Go.Sort
set_option linter.unusedVariables false

/-- What is told of the nodes below i, and of the first k kids of i. -/
structure RInv (T : List Nd) (P D : List Int) (i k : Nat) : Prop where
  len : D.length = T.length
  first : D[0]? = some (-1)
  told : ∀ (m j : Nat) (q : Nd), 0 < m → P[m]? = some (j : Int) → T[j]? = some q → (j < i ∨ (j = i ∧ (m : Int) ∈ q.ks.take k)) → D[m]? = some (j : Int)

theorem RInv.next {T : List Nd} {P D : List Int} {i k : Nat} {q : Nd} (h : RInv T P D i k) (hq : T[i]? = some q) (hk : q.ks.length ≤ k) (hm : ∀ (m : Nat) (q : Nd), P[m]? = some (i : Int) → 0 < m → T[i]? = some q → (m : Int) ∈ q.ks) : RInv T P D (i + 1) 0 := by
  refine ⟨h.len, h.first, fun m j r hm0 hp hr hh => h.told m j r hm0 hp hr ?_⟩
  rcases hh with hh | ⟨_, hh⟩
  · rcases Nat.lt_or_ge j i with q1 | q1
    · exact Or.inl q1
    · obtain rfl : j = i := by omega
      refine Or.inr ⟨rfl, ?_⟩
      rw [hq] at hr
      obtain rfl := Option.some.inj hr
      rw [List.take_of_length_le hk]
      exact hm m q hp hm0 hq
  · simp at hh
theorem RInv.put {T : List Nd} {P D : List Int} {i k m : Nat} {q : Nd} (h : RInv T P D i k) (hq : T[i]? = some q) (hk : q.ks[k]? = some (m : Int)) (hm0 : 0 < m) (hmT : m < T.length) (hP : P[m]? = some (i : Int)) : RInv T P (D.set m (i : Int)) i (k + 1) := by
  refine ⟨by rw [List.length_set]; exact h.len, by rw [List.getElem?_set_ne (by omega)]; exact h.first, fun m' j r hm' hp hr hh => ?_⟩
  by_cases e : m = m'
  · subst e
    rw [hP] at hp
    rw [List.getElem?_set_self (by rw [h.len]; exact hmT)]
    exact hp
  · rw [List.getElem?_set_ne e]
    refine h.told m' j r hm' hp hr ?_
    rcases hh with hh | ⟨h1, h2⟩
    · exact Or.inl hh
    · refine Or.inr ⟨h1, ?_⟩
      subst h1
      rw [hq] at hr
      obtain rfl := Option.some.inj hr
      have hkl := (List.getElem?_eq_some_iff.1 hk).1
      rw [List.take_succ_eq_append_getElem hkl, List.mem_append] at h2
      rcases h2 with h2 | h2
      · exact h2
      · rw [List.getElem?_eq_getElem hkl] at hk
        rw [Option.some.inj hk] at h2
        simp at h2
        omega
theorem RInv.all {T : List Nd} {P D : List Int} (h : RInv T P D T.length 0) (hl : P.length = T.length) (h0 : P[0]? = some (-1)) (hp : ∀ m, 0 < m → m < T.length → ∃ (j : Nat) (q : Nd), P[m]? = some (j : Int) ∧ T[j]? = some q) : D = P := by
  apply List.ext_getElem?
  intro m
  rcases Nat.eq_zero_or_pos m with rfl | hm
  · rw [h.first, h0]
  · rcases Nat.lt_or_ge m T.length with q1 | q1
    · obtain ⟨j, q, e1, e2⟩ := hp m hm q1
      rw [e1]
      exact h.told m j q hm e1 e2 (Or.inl (List.getElem?_eq_some_iff.1 e2).1)
    · rw [List.getElem?_eq_none (by rw [h.len]; exact q1), List.getElem?_eq_none (by omega)]

def RPO (T : List Nd) (P : List Int) (w W : World) (gd : Nat) (v : Value) (wr : World) : Prop :=
  ∃ (i : Nat) (D : List Int), i ≤ T.length ∧ v = .int .i64 i ∧ RInv T P D i 0 ∧ wr.ownsRow w.heap.size 3 1 (.slice (some ⟨gd, 0, none⟩) T.length T.length) T.length (icells D) ∧ Below gd W wr
def RPI (T : List Nd) (P : List Int) (w W : World) (gd i : Nat) (q : Nd) (v : Value) (wr : World) : Prop :=
  ∃ (k : Nat) (D : List Int), k ≤ q.ks.length ∧ v = .int .i64 k ∧ RInv T P D i k ∧ wr.ownsRow w.heap.size 3 1 (.slice (some ⟨gd, 0, none⟩) T.length T.length) T.length (icells D) ∧ Below gd W wr

theorem bx_under {w w' : World} {g : Nat} {A : Value} {B : Nat} (h : Holds w g 24 #[A]) (hb : Below B w w') (hB : g < B) : Holds w' g 24 #[A] := h.under hb hB

set_option maxRecDepth 100000 in
set_option maxHeartbeats 8000000 in
theorem rparents_any (A : Option Addr) (c : Nat) (T : List Nd) (hT : Bd T) (hL : T.length ≤ 4000) (w : World) (h : Tr w w.heap.size A T) :
    Calls Tryd.prog 15 #[.agg #[.slice A T.length c]] w (AnsI w (parP T)) := by
  obtain ⟨i0, hi0, hz0, hz1, hz2⟩ := info_parts Tryd.info3
  have HT := Lib.hid hT
  have HA := Lib.hid h
  have HR : Hid (∀ W, Below w.heap.size w W → Calls Tryd.prog 12 #[.agg #[.slice A T.length c]] W fun e w' => e = .returned (.bool (decide (0 < (parP T).length))) ∧ Below W.heap.size W w') := fun W hb => by
    have := rright_any A c T hT hL W ((h.below hb).more hb.size)
    rw [rg_par] at this
    exact this
  clear h hT
  by_cases hr : parP T = []
  · have q : decide (0 < (parP T).length) = false := by rw [hr]; rfl
    rw [q] at HR
    have HE := Lib.hid hr
    clear q hr
    go_enter Tryd.func15, Tryd.ntmps15
    go_wp2_with fail
    refine (HR.out _ ((Below.refl _ _).alloc (Nat.le_refl _) _)).mono ?_
    rintro e w1 ⟨rfl, hb⟩
    have HB : Hid (Below w.heap.size w w1) := ((Below.refl _ _).alloc (Nat.le_refl _) _).trans (hb.mono (by simp))
    clear hb
    go_wp2_with fail
    go_ret
    exact ⟨none, 0, by rw [HE.out]; rfl, by rw [HE.out]; exact fun i l hi => by simp at hi, HB.out⟩
  · have q : decide (0 < (parP T).length) = true := decide_eq_true (List.length_pos_iff.2 hr)
    rw [q] at HR
    obtain ⟨hgn, hlen, _, _⟩ := parP_right hr
    have HF := Lib.hid (gone_facts hgn)
    have hT0 : 0 < T.length := by rw [← hlen]; exact List.length_pos_iff.2 hr
    obtain ⟨P, hP⟩ : ∃ P, P = parP T := ⟨_, rfl⟩
    rw [← hP] at HF hlen ⊢
    have HLe := Lib.hid hlen
    clear q hr hgn hP hlen
    have H0 : Hid (Holds (w.alloc (.cells #[.slice A T.length c] 24)) w.heap.size 24 #[.slice A T.length c]) := Holds.made w 24 _
    go_enter Tryd.func15, Tryd.ntmps15
    go_wp2_with fail
    refine (HR.out _ ((Below.refl _ _).alloc (Nat.le_refl _) _)).mono ?_
    rintro e w1 ⟨rfl, hb⟩
    have H1 := Lib.hid (H0.out.under hb H0.out.lt)
    have B1 : Hid (Below w.heap.size w w1) := ((Below.refl _ _).alloc (Nat.le_refl _) _).trans (hb.mono (by simp))
    have a1 : w1.cell? ⟨w.heap.size, 0, none⟩ = some (.slice A T.length c) := H1.out.at 0
    have z1 : w.heap.size < w1.heap.size := H1.out.lt
    clear hb H0
    go_wp2_with (at_make; refine wpList_make_full _ rfl _ _ 30 rfl w.heap.size 3 i0 (.int .i64 0) 1 Tryd.underlying30 hi0 hz0 hz1 .i64 .i64 _ _ T.length rfl rfl rfl rfl (by rw [hz2]; omega) (by unfold maxLen; omega) (by omega) ?_)
    intro w2 hown hgrow
    rw [made_ints] at hown
    have H2 := Lib.hid (grown_holds hgrow H1.out (by simp))
    have B2 := Lib.hid (below_grown' B1.out hgrow (by omega) (fun k hk => by cases hk))
    obtain ⟨c0, f0⟩ := own_cell (i := 0) (x := 0) hown (by rw [List.getElem?_replicate, if_pos hT0])
    have O2 := Lib.hid (own_put (x := -1) hown hT0)
    clear hown hgrow a1
    go_wp2_with fail
    obtain ⟨W0, hW0⟩ : ∃ W0, W0 = w2.setCell ⟨w1.heap.size, 0, none⟩ (.int .i64 (-1)) := ⟨_, rfl⟩
    have O3 := O2
    rw [← hW0] at O3
    have H3 : Hid (Holds W0 w.heap.size 24 #[.slice A T.length c]) := by show Holds _ _ _ _; rw [hW0]; exact H2.out.past (by show w.heap.size ≠ w1.heap.size; omega) _
    have B3 : Hid (Below w.heap.size w W0) := by show Below _ _ _; rw [hW0]; exact B2.out.setCell (p := ⟨w1.heap.size, 0, none⟩) (by show w.heap.size ≤ w1.heap.size; omega) _
    have HK : Hid (∀ (m : Nat) (i : Nat) (q : Nd), P[m]? = some (i : Int) → 0 < m → T[i]? = some q → (m : Int) ∈ q.ks) := fun m i q hp hm hq => by
      obtain ⟨j, n, _, _, h3, h4, h5⟩ := HF.out.2.1 m hm (List.getElem?_eq_some_iff.1 hp).1
      rw [hp] at h3
      have e : i = j := by have := Option.some.inj h3; omega
      subst e
      rw [hq] at h4
      obtain rfl := Option.some.inj h4
      exact h5
    have HW0 := Lib.hid hW0
    rw [← hW0]
    clear hW0 O2 H2 B2 c0 f0
    go_loopw [4] (fun v wr => RPO T P w W0 w1.heap.size v wr) (fun v _ => T.length - (intOf v).toNat)
    case atStart =>
      refine ⟨0, _, Nat.zero_le _, rfl, ⟨by simp, ?_, fun m j q hm hp hq hh => ?_⟩, O3.out, Below.refl _ _⟩
      · rw [List.getElem?_set_self (by simpa using hT0)]
      · rcases hh with hh | ⟨_, hh⟩
        · omega
        · simp at hh
    case round =>
      obtain ⟨i, D, hi, rfl, hR, hO, hB⟩ := hrel
      have HRi := Lib.hid hR
      have HO := Lib.hid hO
      have HB := Lib.hid hB
      have a4 : wr.cell? ⟨w.heap.size, 0, none⟩ = some (.slice A T.length c) := (H3.out.under hB z1).at 0
      clear hR hO hB
      by_cases hlt : i < T.length
      · obtain ⟨q, hq⟩ : ∃ q, T[i]? = some q := ⟨_, List.getElem?_eq_getElem hlt⟩
        have mk : q.ks.length ≤ 10000 := (HT.out.2 q (List.mem_of_getElem? hq)).2.2.2.1
        have HQ := Lib.hid hq
        obtain ⟨q', hq', hpw, hset⟩ := HF.out.1 i (Nat.zero_le _) (by have := HLe.out; omega)
        rw [hq] at hq'
        obtain rfl := Option.some.inj hq'
        have HSet := Lib.hid hset
        obtain ⟨b, o, kv, pv, rfl, hbb, _⟩ := HA.out i q hq
        clear hq hset hpw
        go_wp2_with fail
        go_loopw [5] (fun v wx => RPI T P w W0 w1.heap.size i q v wx) (fun v _ => q.ks.length - (intOf v).toNat)
        case atStart => exact ⟨0, D, Nat.zero_le _, rfl, HRi.out, HO.out, HB.out⟩
        case round =>
          obtain ⟨k, D', hk, rfl, hR2, hO2, hB2⟩ := hrel
          have HR2 := Lib.hid hR2
          have HO2 := Lib.hid hO2
          have HB2 := Lib.hid hB2
          have HBw : Hid (Below w.heap.size w wr) := B3.out.trans (hB2.mono (by omega))
          have a5 : wr.cell? ⟨w.heap.size, 0, none⟩ = some (.slice (some ⟨b, o, none⟩) T.length c) := (H3.out.under hB2 z1).at 0
          obtain ⟨b', o', kv', pv', e', _, hK, KA, kc, PA, pc, rfl, _, e3, rfl, _, _⟩ := (HA.out.below HBw.out) i q HQ.out
          injection e' with e'
          injection e' with e1 e2
          subst e1 e2
          have k8 := hK.c8
          have HKs := Lib.hid e3
          clear hR2 hO2 hB2 hK e3
          by_cases hkl : k < q.ks.length
          · obtain ⟨y, hy⟩ : ∃ y, q.ks[k]? = some y := ⟨_, List.getElem?_eq_getElem hkl⟩
            obtain ⟨m, rfl, hm1, hm2, hm3⟩ := HSet.out y (List.mem_of_getElem? hy)
            obtain ⟨bk, ok, rfl, hbk, cy⟩ := HKs.out k _ hy
            have hmT : m < T.length := by have := HLe.out; omega
            have HR3 := Lib.hid (HR2.out.put HQ.out hy (by omega) hmT hm3)
            have hml : m < D'.length := by rw [HR2.out.len]; exact hmT
            obtain ⟨cm, fm⟩ := own_cell HO2.out (List.getElem?_eq_getElem hml)
            have HO3 := Lib.hid (own_put (x := (i : Int)) HO2.out hmT)
            clear hy hm3
            generalize D'[m] = dm at cm
            go_wp2_with fail
            go_roundw
            case rel => exact ⟨k + 1, _, by omega, by go_num, HR3.out, HO3.out, HB2.out.setCell (p := ⟨w1.heap.size, m, none⟩) (Nat.le_refl _) _⟩
            case measure => simp [intOf]; omega
          · have HN := Lib.hid (HR2.out.next HQ.out (by omega) (fun m q' h1 h2 h3 => HK.out m i q' h1 h2 h3))
            go_wp2_with fail
            go_roundw
            case rel => exact ⟨i + 1, D', by omega, by go_num, HN.out, HO2.out, HB2.out⟩
            case measure => simp [intOf]; omega
      · have hie : i = T.length := by omega
        have HE : Hid (D = P) := RInv.all (by have := HRi.out; rw [hie] at this; exact this) HLe.out HF.out.2.2 (fun m h1 h2 => by
          obtain ⟨j, q, _, _, h3, h4, _⟩ := HF.out.2.1 m h1 (by have := HLe.out; omega)
          exact ⟨j, q, h3, h4⟩)
        obtain ⟨A2, c2, e1, _, _, e4⟩ := own_ints (L := D) (by rw [HRi.out.len]; exact HO.out)
        rw [HRi.out.len] at e1
        injection e1 with e1 e1b e1c
        have E4 := Lib.hid e4
        rw [← e1] at E4
        clear e4 e1 e1b e1c hie
        go_wp2_with fail
        go_ret
        exact ⟨some ⟨w1.heap.size, 0, none⟩, T.length, by rw [HLe.out]; rfl, by rw [← HE.out]; exact E4.out, B3.out.trans (HB.out.mono (by omega))⟩
end Go.Proofs.YtdfhgcknelgdmaaDoor
