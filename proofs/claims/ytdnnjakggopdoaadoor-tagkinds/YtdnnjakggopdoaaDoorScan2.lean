/-
  PROVED: contracts of tag.scan's methods value and attribute: what they leave in the scan, and where they panic. Conditions: the text has at most 1000000 bytes; the scan lies in a block of its own.
-/
import Derived.Test.YtdnnjakggopdoaaDoorScan
namespace Go.Proofs.YtdnnjakggopdoaaDoor
open Go.ChangeShapes Go.WideShapes Go.ChangeAt Go.RowKit
set_option linter.unusedVariables false

theorem valL_39 {l : List UInt8} {e : Nat} (h : l[e]? = some 39) : valL l e = quoL l (e + 1) 39 := by unfold valL; rw [if_pos h]
theorem valL_34 {l : List UInt8} {e : Nat} (h : l[e]? = some 34) : valL l e = quoL l (e + 1) 34 := by unfold valL; rw [if_neg (by rw [h]; simp), if_pos h]
theorem valL_v {l : List UInt8} {e : Nat} (h : ¬ l[e]? = some 39) (h' : ¬ l[e]? = some 34) : valL l e = if upL isV l e = e then none else some (upL isV l e) := by unfold valL; rw [if_neg h, if_neg h']
theorem past_no {l : List UInt8} {c : UInt8} {k : Nat} (h : ¬ l[k]? = some c) : past l c k = k := by unfold past; rw [if_neg h]
theorem past_yes {l : List UInt8} {c : UInt8} {k : Nat} (h : l[k]? = some c) : past l c k = k + 1 := by unfold past; rw [if_pos h]
theorem lt_of_at {s : ByteArray} {k : Nat} {c : UInt8} (h : (lst s)[k]? = some c) : k + 1 ≤ s.size := by have := (List.getElem?_eq_some_iff.1 h).1; rw [lst_size] at this; omega

set_option maxHeartbeats 8000000 in
theorem value_any (s : ByteArray) (hs : s.size ≤ 1000000) (g k B : Nat) (hB : B ≤ g) (hk : k ≤ s.size) (w : World) (hH : Sc w g s k) :
    Calls Tryd.prog 65 #[.pointer (some ⟨g, 0, none⟩)] w (Went w g s B (valueL (lst s) k)) := by
  have HS := Lib.hid (skip_any 47 isS tells_blank s hs g k B hB hk w hH)
  have hb := upL_bd isS (lst s) k (by rw [lst_size]; exact hk)
  rw [lst_size] at hb
  have HT := Lib.hid (fun W (hW : Sc W g s (upL isS (lst s) k)) => take_any 61 s hs g (upL isS (lst s) k) B hB hb.2 W hW)
  have c1 : w.cell? ⟨g, 1, none⟩ = some (.int .i64 k) := hH.at 1
  unfold valueL
  by_cases h61 : (lst s)[upL isS (lst s) k]? = some 61
  · rw [if_pos h61]
    have hlt : upL isS (lst s) k + 1 ≤ s.size := lt_of_at h61
    rw [decide_eq_true h61, past_yes h61] at HT
    have hb2 := upL_bd isS (lst s) (upL isS (lst s) k + 1) (by rw [lst_size]; exact hlt)
    rw [lst_size] at hb2
    have HS2 := Lib.hid (fun W (hW : Sc W g s (upL isS (lst s) k + 1)) => skip_any 47 isS tells_blank s hs g (upL isS (lst s) k + 1) B hB hlt W hW)
    generalize upL isS (lst s) k = b at *
    generalize upL isS (lst s) (b + 1) - (b + 1) = n2 at *
    generalize upL isS (lst s) (b + 1) = e at *
    have HA := Lib.hid (fun W (hW : Sc W g s e) => take_any 39 s hs g e B hB hb2.2 W hW)
    have HQ := Lib.hid (fun W (hW : Sc W g s e) => take_any 34 s hs g e B hB hb2.2 W hW)
    have HV := Lib.hid (fun W (hW : Sc W g s e) => skip_any 79 isV tells_bare s hs g e B hB hb2.2 W hW)
    by_cases h39 : (lst s)[e]? = some 39
    · rw [valL_39 h39]
      have hle : e + 1 ≤ s.size := lt_of_at h39
      have HU := Lib.hid (fun W (hW : Sc W g s (e + 1)) => upTo_any 39 s hs g (e + 1) B hB hle W hW)
      rw [decide_eq_true h39, past_yes h39] at HA
      generalize quoL (lst s) (e + 1) 39 = r at *
      clear hH h61 h39 HQ HV hb hb2 hlt hle
      go_enter Tryd.func65, Tryd.ntmps65
      go_wp2_with fail
      refine HS.out.mono ?_
      rintro e1 w1 ⟨rfl, h1, h2⟩
      have A1 := Lib.hid h1
      have B1 := Lib.hid h2
      clear h1 h2
      go_wp2_with fail
      refine (HT.out _ A1.out).mono ?_
      rintro e1 w2 ⟨rfl, h1, h2⟩
      have A2 := Lib.hid h1
      have B2 := Lib.hid (B1.out.trans h2)
      clear h1 h2
      go_wp2_with fail
      refine (HS2.out _ A2.out).mono ?_
      rintro e1 w3 ⟨rfl, h1, h2⟩
      have A3 := Lib.hid h1
      have B3 := Lib.hid (B2.out.trans h2)
      clear h1 h2
      go_wp2_with fail
      refine (HA.out _ A3.out).mono ?_
      rintro e1 w4 ⟨rfl, h1, h2⟩
      have A4 := Lib.hid h1
      have B4 := Lib.hid (B3.out.trans h2)
      clear h1 h2
      go_wp2_with fail
      refine (HU.out _ A4.out).mono ?_
      intro e1 w5 hW
      cases r with
      | none =>
        obtain ⟨m, rfl, h2⟩ := hW
        have B5 := Lib.hid (B4.out.trans h2)
        clear h2
        unfold miss
        go_wp2_with fail
        exact ⟨rfl, _, rfl, B5.out⟩
      | some r =>
        obtain ⟨rfl, h1, h2⟩ := hW
        have A5 := Lib.hid h1
        have B5 := Lib.hid (B4.out.trans h2)
        clear h1 h2
        go_wp2_with fail
        go_end0
        exact ⟨rfl, A5.out, B5.out⟩
    · rw [decide_eq_false h39, past_no h39] at HA
      by_cases h34 : (lst s)[e]? = some 34
      · rw [valL_34 h34]
        have hle : e + 1 ≤ s.size := lt_of_at h34
        have HU := Lib.hid (fun W (hW : Sc W g s (e + 1)) => upTo_any 34 s hs g (e + 1) B hB hle W hW)
        rw [decide_eq_true h34, past_yes h34] at HQ
        generalize quoL (lst s) (e + 1) 34 = r at *
        clear hH h61 h39 h34 HV hb hb2 hlt hle
        go_enter Tryd.func65, Tryd.ntmps65
        go_wp2_with fail
        refine HS.out.mono ?_
        rintro e1 w1 ⟨rfl, h1, h2⟩
        have A1 := Lib.hid h1
        have B1 := Lib.hid h2
        clear h1 h2
        go_wp2_with fail
        refine (HT.out _ A1.out).mono ?_
        rintro e1 w2 ⟨rfl, h1, h2⟩
        have A2 := Lib.hid h1
        have B2 := Lib.hid (B1.out.trans h2)
        clear h1 h2
        go_wp2_with fail
        refine (HS2.out _ A2.out).mono ?_
        rintro e1 w3 ⟨rfl, h1, h2⟩
        have A3 := Lib.hid h1
        have B3 := Lib.hid (B2.out.trans h2)
        clear h1 h2
        go_wp2_with fail
        refine (HA.out _ A3.out).mono ?_
        rintro e1 w4 ⟨rfl, h1, h2⟩
        have A4 := Lib.hid h1
        have B4 := Lib.hid (B3.out.trans h2)
        clear h1 h2
        go_wp2_with fail
        refine (HQ.out _ A4.out).mono ?_
        rintro e1 w5 ⟨rfl, h1, h2⟩
        have A5 := Lib.hid h1
        have B5 := Lib.hid (B4.out.trans h2)
        clear h1 h2
        go_wp2_with fail
        refine (HU.out _ A5.out).mono ?_
        intro e1 w6 hW
        cases r with
        | none =>
          obtain ⟨m, rfl, h2⟩ := hW
          have B6 := Lib.hid (B5.out.trans h2)
          clear h2
          unfold miss
          go_wp2_with fail
          exact ⟨rfl, _, rfl, B6.out⟩
        | some r =>
          obtain ⟨rfl, h1, h2⟩ := hW
          have A6 := Lib.hid h1
          have B6 := Lib.hid (B5.out.trans h2)
          clear h1 h2
          go_wp2_with fail
          go_end0
          exact ⟨rfl, A6.out, B6.out⟩
      · rw [decide_eq_false h34, past_no h34] at HQ
        rw [valL_v h39 h34]
        have hbv := upL_ge isV (lst s) e
        by_cases hv : upL isV (lst s) e = e
        · rw [if_pos hv]
          rw [hv, Nat.sub_self] at HV
          clear hH h61 h39 h34 hb hb2 hlt hbv hv
          go_enter Tryd.func65, Tryd.ntmps65
          go_wp2_with fail
          refine HS.out.mono ?_
          rintro e1 w1 ⟨rfl, h1, h2⟩
          have A1 := Lib.hid h1
          have B1 := Lib.hid h2
          clear h1 h2
          go_wp2_with fail
          refine (HT.out _ A1.out).mono ?_
          rintro e1 w2 ⟨rfl, h1, h2⟩
          have A2 := Lib.hid h1
          have B2 := Lib.hid (B1.out.trans h2)
          clear h1 h2
          go_wp2_with fail
          refine (HS2.out _ A2.out).mono ?_
          rintro e1 w3 ⟨rfl, h1, h2⟩
          have A3 := Lib.hid h1
          have B3 := Lib.hid (B2.out.trans h2)
          clear h1 h2
          go_wp2_with fail
          refine (HA.out _ A3.out).mono ?_
          rintro e1 w4 ⟨rfl, h1, h2⟩
          have A4 := Lib.hid h1
          have B4 := Lib.hid (B3.out.trans h2)
          clear h1 h2
          go_wp2_with fail
          refine (HQ.out _ A4.out).mono ?_
          rintro e1 w5 ⟨rfl, h1, h2⟩
          have A5 := Lib.hid h1
          have B5 := Lib.hid (B4.out.trans h2)
          clear h1 h2
          go_wp2_with fail
          refine (HV.out _ A5.out).mono ?_
          rintro e1 w6 ⟨rfl, h1, h2⟩
          have A6 := Lib.hid h1
          have B6 := Lib.hid (B5.out.trans h2)
          clear h1 h2
          go_wp2_with fail
          exact ⟨rfl, _, rfl, B6.out⟩
        · rw [if_neg hv]
          obtain ⟨n, hn⟩ : ∃ n, n = upL isV (lst s) e - e := ⟨_, rfl⟩
          rw [← hn] at HV
          have hq : ((n : Int) == 0) = false := by simp; omega
          generalize upL isV (lst s) e = v at *
          clear hH h61 h39 h34 hb hb2 hlt hbv hv hn
          go_enter Tryd.func65, Tryd.ntmps65
          go_wp2_with fail
          refine HS.out.mono ?_
          rintro e1 w1 ⟨rfl, h1, h2⟩
          have A1 := Lib.hid h1
          have B1 := Lib.hid h2
          clear h1 h2
          go_wp2_with fail
          refine (HT.out _ A1.out).mono ?_
          rintro e1 w2 ⟨rfl, h1, h2⟩
          have A2 := Lib.hid h1
          have B2 := Lib.hid (B1.out.trans h2)
          clear h1 h2
          go_wp2_with fail
          refine (HS2.out _ A2.out).mono ?_
          rintro e1 w3 ⟨rfl, h1, h2⟩
          have A3 := Lib.hid h1
          have B3 := Lib.hid (B2.out.trans h2)
          clear h1 h2
          go_wp2_with fail
          refine (HA.out _ A3.out).mono ?_
          rintro e1 w4 ⟨rfl, h1, h2⟩
          have A4 := Lib.hid h1
          have B4 := Lib.hid (B3.out.trans h2)
          clear h1 h2
          go_wp2_with fail
          refine (HQ.out _ A4.out).mono ?_
          rintro e1 w5 ⟨rfl, h1, h2⟩
          have A5 := Lib.hid h1
          have B5 := Lib.hid (B4.out.trans h2)
          clear h1 h2
          go_wp2_with fail
          refine (HV.out _ A5.out).mono ?_
          rintro e1 w6 ⟨rfl, h1, h2⟩
          have A6 := Lib.hid h1
          have B6 := Lib.hid (B5.out.trans h2)
          clear h1 h2
          go_wp2_with fail
          go_end0
          exact ⟨rfl, A6.out, B6.out⟩
  · rw [if_neg h61]
    rw [decide_eq_false h61, past_no h61] at HT
    generalize upL isS (lst s) k = b at *
    clear hH h61 hb
    go_enter Tryd.func65, Tryd.ntmps65
    go_wp2_with fail
    refine HS.out.mono ?_
    rintro e1 w1 ⟨rfl, h1, h2⟩
    have A1 := Lib.hid h1
    have B1 := Lib.hid h2
    clear h1 h2
    go_wp2_with fail
    refine (HT.out _ A1.out).mono ?_
    rintro e1 w2 ⟨rfl, h1, h2⟩
    have A2 := Lib.hid h1
    have B2 := Lib.hid (B1.out.trans h2)
    clear h1 h2
    have z2 : w2.frozen? ⟨g, 1, none⟩ = false := A2.out.soft 1
    have y2 : w2.cell? ⟨g, 1, none⟩ = some (.int .i64 b) := A2.out.at 1
    go_wp2_with fail
    go_end0
    exact ⟨rfl, A2.out.set 1 _, B2.out.setCell hB _⟩

/-- How tag.scan's attribute ends. -/
def WentA (w : World) (g : Nat) (s : ByteArray) (B : Nat) (k : Nat) (e : Ending) (w' : World) : Prop :=
  if isAtt (lst s) k then (match attE (lst s) k with
    | some j => e = .returned (.bool true) ∧ Sc w' g s j ∧ Below B w w'
    | none => ∃ m, e = miss m ∧ Below B w w')
  else e = .returned (.bool false) ∧ Sc w' g s k ∧ Below B w w'
theorem att_no1 {l : List UInt8} {k : Nat} (h : upL isS l k = k) : isAtt l k = false := by unfold isAtt; simp [h]
theorem att_no2 {l : List UInt8} {k : Nat} (h : upL isF l (upL isS l k) = upL isS l k) : isAtt l k = false := by unfold isAtt; simp [h]
theorem att_yes {l : List UInt8} {k : Nat} (h : ¬ upL isS l k = k) (h2 : ¬ upL isF l (upL isS l k) = upL isS l k) : isAtt l k = true := by unfold isAtt; simp [h, h2]

set_option maxHeartbeats 8000000 in
theorem attribute_any (s : ByteArray) (hs : s.size ≤ 1000000) (g k B : Nat) (hB : B ≤ g) (hk : k ≤ s.size) (w : World) (hH : Sc w g s k) :
    Calls Tryd.prog 48 #[.pointer (some ⟨g, 0, none⟩)] w (WentA w g s B k) := by
  have HS := Lib.hid (skip_any 47 isS tells_blank s hs g k B hB hk w hH)
  have hb := upL_bd isS (lst s) k (by rw [lst_size]; exact hk)
  rw [lst_size] at hb
  have c1 : w.cell? ⟨g, 1, none⟩ = some (.int .i64 k) := hH.at 1
  have HF := Lib.hid (fun W (hW : Sc W g s (upL isS (lst s) k)) => skip_any 63 isF tells_first s hs g (upL isS (lst s) k) B hB hb.2 W hW)
  by_cases h1 : upL isS (lst s) k = k
  · have HR : Hid (∀ e w', e = .returned (.bool false) ∧ Sc w' g s k ∧ Below B w w' → WentA w g s B k e w') := fun e w' h => by
      unfold WentA
      rw [att_no1 h1]
      exact h
    rw [h1, Nat.sub_self] at HS
    clear hH HF hb h1
    go_enter Tryd.func48, Tryd.ntmps48
    go_wp2_with fail
    refine HS.out.mono ?_
    rintro e1 w1 ⟨rfl, h1, h2⟩
    have A1 := Lib.hid h1
    have B1 := Lib.hid h2
    clear h1 h2
    have z1 : w1.frozen? ⟨g, 1, none⟩ = false := A1.out.soft 1
    have y1 : w1.cell? ⟨g, 1, none⟩ = some (.int .i64 k) := A1.out.at 1
    go_wp2_with fail
    go_ret
    exact HR.out _ _ ⟨rfl, A1.out.set 1 _, B1.out.setCell hB _⟩
  · have hb2 := upL_bd isF (lst s) (upL isS (lst s) k) (by rw [lst_size]; exact hb.2)
    rw [lst_size] at hb2
    by_cases h2 : upL isF (lst s) (upL isS (lst s) k) = upL isS (lst s) k
    · have HR : Hid (∀ e w', e = .returned (.bool false) ∧ Sc w' g s k ∧ Below B w w' → WentA w g s B k e w') := fun e w' h => by
        unfold WentA
        rw [att_no2 h2]
        exact h
      rw [h2, Nat.sub_self] at HF
      obtain ⟨n, hn⟩ : ∃ n, n = upL isS (lst s) k - k := ⟨_, rfl⟩
      rw [← hn] at HS
      have hq : ((n : Int) == 0) = false := by simp; omega
      generalize upL isS (lst s) k = b at *
      clear hH hb hb2 h1 h2 hn
      go_enter Tryd.func48, Tryd.ntmps48
      go_wp2_with fail
      refine HS.out.mono ?_
      rintro e1 w1 ⟨rfl, h1, h2⟩
      have A1 := Lib.hid h1
      have B1 := Lib.hid h2
      clear h1 h2
      go_wp2_with fail
      refine (HF.out _ A1.out).mono ?_
      rintro e1 w2 ⟨rfl, h1, h2⟩
      have A2 := Lib.hid h1
      have B2 := Lib.hid (B1.out.trans h2)
      clear h1 h2
      have z2 : w2.frozen? ⟨g, 1, none⟩ = false := A2.out.soft 1
      have y2 : w2.cell? ⟨g, 1, none⟩ = some (.int .i64 b) := A2.out.at 1
      go_wp2_with fail
      go_ret
      exact HR.out _ _ ⟨rfl, A2.out.set 1 _, B2.out.setCell hB _⟩
    · have hb3 := upL_bd isA (lst s) (upL isF (lst s) (upL isS (lst s) k)) (by rw [lst_size]; exact hb2.2)
      rw [lst_size] at hb3
      have HR : Hid (∀ e w', (match attE (lst s) k with
          | some j => e = .returned (.bool true) ∧ Sc w' g s j ∧ Below B w w'
          | none => ∃ m, e = miss m ∧ Below B w w') → WentA w g s B k e w') := fun e w' h => by
        unfold WentA
        rw [att_yes h1 h2]
        exact h
      unfold attE at HR
      have HA := Lib.hid (fun W (hW : Sc W g s (upL isF (lst s) (upL isS (lst s) k))) => skip_any 64 isA tells_attr s hs g (upL isF (lst s) (upL isS (lst s) k)) B hB hb2.2 W hW)
      have HU := Lib.hid (fun W (hW : Sc W g s (upL isA (lst s) (upL isF (lst s) (upL isS (lst s) k)))) => value_any s hs g (upL isA (lst s) (upL isF (lst s) (upL isS (lst s) k))) B hB hb3.2 W hW)
      obtain ⟨n, hn⟩ : ∃ n, n = upL isS (lst s) k - k := ⟨_, rfl⟩
      rw [← hn] at HS
      have hq : ((n : Int) == 0) = false := by simp; omega
      obtain ⟨n2, hn2⟩ : ∃ n, n = upL isF (lst s) (upL isS (lst s) k) - upL isS (lst s) k := ⟨_, rfl⟩
      rw [← hn2] at HF
      have hq2 : ((n2 : Int) == 0) = false := by simp; omega
      generalize valueL (lst s) (upL isA (lst s) (upL isF (lst s) (upL isS (lst s) k))) = r at *
      generalize upL isS (lst s) k = b at *
      generalize upL isF (lst s) b = f at *
      generalize upL isA (lst s) f = a at *
      clear hH hb hb2 hb3 h1 h2 hn hn2
      go_enter Tryd.func48, Tryd.ntmps48
      go_wp2_with fail
      refine HS.out.mono ?_
      rintro e1 w1 ⟨rfl, h1, h2⟩
      have A1 := Lib.hid h1
      have B1 := Lib.hid h2
      clear h1 h2
      go_wp2_with fail
      refine (HF.out _ A1.out).mono ?_
      rintro e1 w2 ⟨rfl, h1, h2⟩
      have A2 := Lib.hid h1
      have B2 := Lib.hid (B1.out.trans h2)
      clear h1 h2
      go_wp2_with fail
      refine (HA.out _ A2.out).mono ?_
      rintro e1 w3 ⟨rfl, h1, h2⟩
      have A3 := Lib.hid h1
      have B3 := Lib.hid (B2.out.trans h2)
      clear h1 h2
      go_wp2_with fail
      refine (HU.out _ A3.out).mono ?_
      intro e1 w4 hW
      cases r with
      | none =>
        obtain ⟨m, rfl, h2⟩ := hW
        have B4 := Lib.hid (B3.out.trans h2)
        clear h2
        unfold miss
        go_wp2_with fail
        exact ⟨rfl, HR.out _ _ ⟨_, rfl, B4.out⟩⟩
      | some r =>
        obtain ⟨rfl, h1, h2⟩ := hW
        have A4 := Lib.hid h1
        have B4 := Lib.hid (B3.out.trans h2)
        clear h1 h2
        go_wp2_with fail
        go_ret
        exact HR.out _ _ ⟨rfl, A4.out, B4.out⟩
end Go.Proofs.YtdnnjakggopdoaaDoor
