/-
  PROVED: contract of the document's own Erase: the tree without places, in new memory. Conditions: the tree is small.
-/
import Derived.Test.YtdfhgcknelgdmaaDoorPut
import Derived.Test.YtdfhgcknelgdmaaDoorErase
namespace Go.Proofs.YtdfhgcknelgdmaaDoor
open Go.ChangeShapes Go.WideShapes Go.ChangeAt Go.RowKit Go.Sort
set_option linter.unusedVariables false

def RERel (T : List Nd) (w : World) (g3 : Nat) (A : Option Addr) (c : Nat) (v : Value) (wr : World) : Prop :=
  ∃ (i : Nat) (L : List Nd) (S : List (Value × Value)), i ≤ T.length ∧ v = .int .i64 i ∧ L.length = T.length ∧ (∀ j n, j < i → T[j]? = some n → L[j]? = some (era n)) ∧ (∀ j, i ≤ j → L[j]? = T[j]?) ∧
    OwnT wr w.heap.size (.slice A T.length c) L S ∧ Holds wr (w.heap.size + 1) 24 #[.slice none 0 0] ∧ Holds wr g3 24 #[.slice A T.length c] ∧ Below w.heap.size w wr

set_option maxRecDepth 100000 in
set_option maxHeartbeats 16000000 in
theorem rerase_any (A : Option Addr) (c : Nat) (T : List Nd) (hT : Bd T) (w : World) (h : Tr w w.heap.size A T) :
    Calls Tryd.prog 20 #[.agg #[.slice A T.length c]] w (CopT w (T.map era)) := by
  have hl : T.length ≤ 10000 := hT.1
  have K1 : Hid (Holds ((w.alloc (.cells #[.slice A T.length c] 24)).alloc (.cells #[.slice none 0 0] 24)) (w.heap.size + 1) 24 #[.slice none 0 0]) := by
    have := Holds.made (w.alloc (.cells #[.slice A T.length c] 24)) 24 #[.slice none 0 0]
    simp only [World.alloc, Array.size_push] at this
    exact this
  have KB : Hid (Below w.heap.size w ((w.alloc (.cells #[.slice A T.length c] 24)).alloc (.cells #[.slice none 0 0] 24))) := ((Below.refl _ _).alloc (Nat.le_refl _) _).alloc (by simp) _
  have HC : Hid (∀ W, Below w.heap.size w W → Calls Tryd.prog 10 #[.agg #[.slice A T.length c]] W (CopT W T)) := fun W hb => copyTree_any A c T hT W ((h.below hb).more hb.size)
  clear hT h
  go_enter Tryd.func20, Tryd.ntmps20
  go_wp2_with fail
  refine (HC.out _ KB.out).mono ?_
  rintro e w1 ⟨v, S0, rfl, hO, hb⟩
  obtain ⟨A1, c1, rfl, _, _, _⟩ := hO.tr
  have O1 : Hid (OwnT w1 w.heap.size (.slice A1 T.length c1) T S0) := hO.base (by simp; omega)
  have B1 := Lib.hid (chain (Nat.le_refl _) KB.out hb)
  have J1 := Lib.hid (K1.out.under hb K1.out.lt)
  have z1 : w.heap.size + 1 < w1.heap.size := J1.out.lt
  clear hO hb K1 KB HC
  go_wp2_with fail
  go_loopw [4] (fun v wr => RERel T w w1.heap.size A1 c1 v wr) (fun v _ => T.length - (intOf v).toNat)
  case atStart =>
    have hb : Below w1.heap.size w1 (w1.alloc (.cells #[.slice A1 T.length c1] 24)) := (Below.refl _ _).alloc (Nat.le_refl _) _
    exact ⟨0, T, S0, Nat.zero_le _, rfl, rfl, (fun j n h => by omega), (fun j _ => rfl), O1.out.below hb, J1.out.under hb z1, Holds.made w1 24 _, chain (Nat.le_refl _) B1.out hb⟩
  case round =>
    obtain ⟨i, L, S, hi, rfl, hL, hd, hu, hO, hH2, hH3, hB⟩ := hrel
    have HO := Lib.hid hO
    have H2 := Lib.hid hH2
    have H3 := Lib.hid hH3
    have HB := Lib.hid hB
    have HL := Lib.hid hL
    have HD := Lib.hid hd
    have HU := Lib.hid hu
    have a3 : wr.cell? ⟨w1.heap.size, 0, none⟩ = some (.slice A1 T.length c1) := hH3.at 0
    by_cases hlt : i < T.length
    · obtain ⟨g, c', e, hge, hgl⟩ := hO.block (by omega)
      injection e with e1 e2 e3
      subst e1
      subst e3
      have hli : i < L.length := by omega
      have hsi : i < S.length := by rw [hO.len]; exact hli
      obtain ⟨n, hn⟩ : ∃ n, L[i]? = some n := ⟨_, List.getElem?_eq_getElem hli⟩
      obtain ⟨s, hs⟩ : ∃ s, S[i]? = some s := ⟨_, List.getElem?_eq_getElem hsi⟩
      obtain ⟨hK, hF⟩ := hO.at hn hs
      have r1 := hK.c1
      have r2 := hK.c2
      have r9 := hK.c9
      have v1 := hF (i * 10 + 1)
      have v2 := hF (i * 10 + 2)
      have v9 := hF (i * 10 + 9)
      have hgne : g ≠ w1.heap.size := fun e => own_holds_ne hO.row hH3 (by decide) (by rw [← e]; rfl)
      have hgne' : w1.heap.size ≠ g := fun e => hgne e.symm
      have hg2 : g ≠ w.heap.size + 1 := fun e => own_holds_ne hO.row hH2 (by decide) (by rw [← e]; rfl)
      have HFin : Hid (OwnT (((wr.setCell ⟨g, i * 10 + 1, none⟩ (.int .i64 0)).setCell ⟨g, i * 10 + 2, none⟩ (.int .i64 0)).setCell ⟨g, i * 10 + 9, none⟩ (.slice none 0 0)) w.heap.size (.slice (some ⟨g, 0, none⟩) T.length c1) (((L.set i { n with f := 0 }).set i { n with f := 0, t := 0 }).set i (era n)) (((S.set i s).set i s).set i (s.1, .slice none 0 0))) := by
        have p1 := hO.put0 (j := 1) (u := .int .i64 0) (n' := { n with f := 0 }) (s' := s) hL.symm hn hs (by omega) rfl rfl rfl (hO.sub i n s hn hs).2
        have q1 := p1.put0 (i := i) (j := 2) (u := .int .i64 0) (n := { n with f := 0 }) (n' := { n with f := 0, t := 0 }) (s := s) (s' := s) (by simp [hL]) (by rw [List.getElem?_set_self hli]) (by rw [List.getElem?_set_self hsi]) (by omega) rfl rfl rfl (p1.sub i { n with f := 0 } s (by rw [List.getElem?_set_self hli]) (by rw [List.getElem?_set_self hsi])).2
        exact q1.put0 (i := i) (j := 9) (u := .slice none 0 0) (n := { n with f := 0, t := 0 }) (n' := era n) (s := s) (s' := (s.1, .slice none 0 0)) (by simp [hL]) (by rw [List.getElem?_set_self (by simpa using hli)]) (by rw [List.getElem?_set_self (by simpa using hsi)]) (by omega) rfl rfl rfl ⟨rfl, Or.inl ⟨rfl, rfl⟩⟩
      have HBn : Hid (Below w.heap.size w (((wr.setCell ⟨g, i * 10 + 1, none⟩ (.int .i64 0)).setCell ⟨g, i * 10 + 2, none⟩ (.int .i64 0)).setCell ⟨g, i * 10 + 9, none⟩ (.slice none 0 0))) := ((hB.setCell (p := ⟨g, i * 10 + 1, none⟩) hge _).setCell (p := ⟨g, i * 10 + 2, none⟩) hge _).setCell (p := ⟨g, i * 10 + 9, none⟩) hge _
      have HH2 : Hid (Holds (((wr.setCell ⟨g, i * 10 + 1, none⟩ (.int .i64 0)).setCell ⟨g, i * 10 + 2, none⟩ (.int .i64 0)).setCell ⟨g, i * 10 + 9, none⟩ (.slice none 0 0)) (w.heap.size + 1) 24 #[.slice none 0 0]) := ((hH2.past (p := ⟨g, i * 10 + 1, none⟩) (fun e => hg2 e.symm) _).past (p := ⟨g, i * 10 + 2, none⟩) (fun e => hg2 e.symm) _).past (p := ⟨g, i * 10 + 9, none⟩) (fun e => hg2 e.symm) _
      have HH3 : Hid (Holds (((wr.setCell ⟨g, i * 10 + 1, none⟩ (.int .i64 0)).setCell ⟨g, i * 10 + 2, none⟩ (.int .i64 0)).setCell ⟨g, i * 10 + 9, none⟩ (.slice none 0 0)) w1.heap.size 24 #[.slice (some ⟨g, 0, none⟩) T.length c1]) := ((hH3.past (p := ⟨g, i * 10 + 1, none⟩) hgne' _).past (p := ⟨g, i * 10 + 2, none⟩) hgne' _).past (p := ⟨g, i * 10 + 9, none⟩) hgne' _
      have HLs : Hid ((((L.set i { n with f := 0 }).set i { n with f := 0, t := 0 }).set i (era n)).length = T.length ∧ (∀ j m, j < i + 1 → T[j]? = some m → (((L.set i { n with f := 0 }).set i { n with f := 0, t := 0 }).set i (era n))[j]? = some (era m)) ∧ (∀ j, i + 1 ≤ j → (((L.set i { n with f := 0 }).set i { n with f := 0, t := 0 }).set i (era n))[j]? = T[j]?)) := by
        refine ⟨by simp [hL], fun j m hj hm => ?_, fun j hj => ?_⟩
        · by_cases hij : i = j
          · subst hij
            rw [List.getElem?_set_self (by simpa using hli)]
            have := hu i (Nat.le_refl _)
            rw [hn, hm] at this
            obtain rfl := Option.some.inj this
            rfl
          · rw [List.getElem?_set_ne hij, List.getElem?_set_ne hij, List.getElem?_set_ne hij]
            exact hd j m (by omega) hm
        · rw [List.getElem?_set_ne (by omega), List.getElem?_set_ne (by omega), List.getElem?_set_ne (by omega)]
          exact hu j (by omega)
      clear hO hH2 hH3 hB hL hd hu hK hF hn hs hli hsi
      go_wp2_with fail
      go_roundw
      case rel => exact ⟨i + 1, _, _, by omega, by go_num, HLs.out.1, HLs.out.2.1, HLs.out.2.2, HFin.out, HH2.out, HH3.out, HBn.out⟩
      case measure => simp [intOf]; omega
    · have HE : Hid (L = T.map era) := by
        show L = T.map era
        apply List.ext_getElem?
        intro j
        rw [List.getElem?_map]
        cases hj : T[j]? with
        | none =>
          have : T.length ≤ j := List.getElem?_eq_none_iff.1 hj
          rw [List.getElem?_eq_none (by omega)]; rfl
        | some m =>
          have := (List.getElem?_eq_some_iff.1 hj).1
          exact hd j m (by omega) hj
      have a2 : wr.cell? ⟨w.heap.size + 1, 0, none⟩ = some (.slice none 0 0) := hH2.at 0
      have f2 : wr.frozen? ⟨w.heap.size + 1, 0, none⟩ = false := hH2.soft 0
      clear hO hH2 hH3 hB hL hd hu
      go_wp2_with fail
      refine bodyPost_ret (v := .agg #[.slice A1 T.length c1]) (by simp [results, Tryd.results20, go_sem, a2]) rfl ⟨_, S, rfl, ?_, HB.out.setCell (by show _ ≤ w.heap.size + 1; omega) _⟩
      rw [← HE.out]
      exact HO.out.set H2.out
end Go.Proofs.YtdfhgcknelgdmaaDoor
