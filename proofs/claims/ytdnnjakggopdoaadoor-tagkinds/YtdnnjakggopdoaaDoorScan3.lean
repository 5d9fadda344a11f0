/-
  PROVED: contracts of tag.scan's closing and opening. Conditions: the text has at most 1000000 bytes; the scan lies in a block of its own.
-/
import Derived.Test.YtdnnjakggopdoaaDoorScan2
namespace Go.Proofs.YtdnnjakggopdoaaDoor
open Go.ChangeShapes Go.WideShapes Go.ChangeAt Go.RowKit
set_option linter.unusedVariables false

set_option maxHeartbeats 4000000 in
theorem closing_any (s : ByteArray) (hs : s.size ≤ 1000000) (g k B : Nat) (hB : B ≤ g) (hk : k ≤ s.size) (w : World) (hH : Sc w g s k) :
    Calls Tryd.prog 26 #[.pointer (some ⟨g, 0, none⟩)] w (Went w g s B (closeO (lst s) k)) := by
  have HN := Lib.hid (nameM_any s hs g k B hB hk w hH)
  unfold closeO
  cases hn : nameL (lst s) k with
  | none =>
    rw [hn] at HN
    clear hH hn
    go_enter Tryd.func26, Tryd.ntmps26
    go_wp2_with fail
    refine HN.out.mono ?_
    rintro e1 w1 ⟨m, rfl, h2⟩
    have B1 := Lib.hid h2
    clear h2
    unfold miss
    go_wp2_with fail
    exact ⟨rfl, _, rfl, B1.out⟩
  | some a =>
    rw [hn] at HN
    have ha := (name_bd (lst s) k a hn).2
    rw [lst_size] at ha
    have hb := upL_bd isS (lst s) a (by rw [lst_size]; exact ha)
    rw [lst_size] at hb
    have HS := Lib.hid (fun W (hW : Sc W g s a) => skip_any 47 isS tells_blank s hs g a B hB ha W hW)
    have HE := Lib.hid (fun W (hW : Sc W g s (upL isS (lst s) a)) => need_any 62 s hs g (upL isS (lst s) a) B hB hb.2 W hW)
    show Calls Tryd.prog 26 _ w (Went w g s B (needL (lst s) 62 (upL isS (lst s) a)))
    generalize needL (lst s) 62 (upL isS (lst s) a) = r at *
    generalize upL isS (lst s) a - a = n at *
    generalize upL isS (lst s) a = b at *
    clear hH hn ha hb
    go_enter Tryd.func26, Tryd.ntmps26
    go_wp2_with fail
    refine HN.out.mono ?_
    rintro e1 w1 ⟨rfl, h1, h2⟩
    have A1 := Lib.hid h1
    have B1 := Lib.hid h2
    clear h1 h2
    go_wp2_with fail
    refine (HS.out _ A1.out).mono ?_
    rintro e1 w2 ⟨rfl, h1, h2⟩
    have A2 := Lib.hid h1
    have B2 := Lib.hid (B1.out.trans h2)
    clear h1 h2
    go_wp2_with fail
    refine (HE.out _ A2.out).mono ?_
    intro e1 w3 hW
    cases r with
    | none =>
      obtain ⟨m, rfl, h2⟩ := hW
      have B3 := Lib.hid (B2.out.trans h2)
      clear h2
      unfold miss
      go_wp2_with fail
      exact ⟨rfl, _, rfl, B3.out⟩
    | some r =>
      obtain ⟨rfl, h1, h2⟩ := hW
      have A3 := Lib.hid h1
      have B3 := Lib.hid (B2.out.trans h2)
      clear h1 h2
      go_wp2_with fail
      go_end0
      exact ⟨rfl, A3.out, B3.out⟩

/-- Where a scan stands. -/
def posS (w : World) (g : Nat) : Nat := match w.cell? ⟨g, 1, none⟩ with
  | some (.int _ q) => q.toNat
  | _ => 0
theorem posS_sc {w : World} {g : Nat} {s : ByteArray} {k : Nat} (h : Sc w g s k) : posS w g = k := by
  unfold posS
  rw [show w.cell? ⟨g, 1, none⟩ = some (.int .i64 k) from h.at 1]
  rfl
/-- What the loop over attributes goes by. -/
def ORel (s : ByteArray) (g B k : Nat) (w wr : World) : Prop := ∃ j : Nat, j ≤ s.size ∧ Sc wr g s j ∧ attsL (lst s) j = attsL (lst s) k ∧ Below B w wr
/-- What is behind the attributes. -/
def behO (l : List UInt8) : Option Nat → Option Nat
  | none => none
  | some j => tailL l j

set_option maxHeartbeats 8000000 in
theorem opening_any (s : ByteArray) (hs : s.size ≤ 1000000) (g k B : Nat) (hB : B ≤ g) (hk : k ≤ s.size) (w : World) (hH : Sc w g s k) :
    Calls Tryd.prog 27 #[.pointer (some ⟨g, 0, none⟩)] w (Went w g s B (openO (lst s) k)) := by
  have HN := Lib.hid (nameM_any s hs g k B hB hk w hH)
  unfold openO
  cases hn : nameL (lst s) k with
  | none =>
    rw [hn] at HN
    clear hH hn
    go_enter Tryd.func27, Tryd.ntmps27
    go_wp2_with fail
    refine HN.out.mono ?_
    rintro e1 w1 ⟨m, rfl, h2⟩
    have B1 := Lib.hid h2
    clear h2
    unfold miss
    go_wp2_with fail
    exact ⟨rfl, _, rfl, B1.out⟩
  | some a =>
    rw [hn] at HN
    have ha := (name_bd (lst s) k a hn).2
    rw [lst_size] at ha
    show Calls Tryd.prog 27 _ w (Went w g s B (behO (lst s) (attsL (lst s) a)))
    have HAT := Lib.hid (fun j hj W (hW : Sc W g s j) => attribute_any s hs g j B hB hj W hW)
    clear hH hn
    go_enter Tryd.func27, Tryd.ntmps27
    go_wp2_with fail
    refine HN.out.mono ?_
    rintro e1 w1 ⟨rfl, h1, h2⟩
    have A1 := Lib.hid h1
    have B1 := Lib.hid h2
    clear h1 h2
    go_wp2_with fail
    go_loopw [] (fun wr => ORel s g B a w wr) (fun wr => s.size - posS wr g)
    case atStart => exact ⟨a, ha, A1.out, rfl, B1.out⟩
    case round =>
      obtain ⟨j, hj, h1, h2, h3⟩ := hrel
      have A2 := Lib.hid h1
      have E2 := Lib.hid h2
      have B2 := Lib.hid h3
      clear h1 h2 h3
      have HC := Lib.hid (HAT.out j hj wr A2.out)
      cases hat : isAtt (lst s) j with
      | true =>
        cases hae : attE (lst s) j with
        | none =>
          have HE := Lib.hid ((atts_bad (lst s) j (by rw [lst_size]; exact hj) hat hae).symm.trans E2.out)
          unfold WentA at HC
          rw [hat, hae] at HC
          clear hat hae HAT E2
          generalize attsL (lst s) a = r at *
          obtain rfl := HE.out
          clear HE
          go_wp2_with fail
          refine HC.out.mono ?_
          rintro e1 w3 ⟨m, rfl, h2⟩
          have B3 := Lib.hid (B2.out.trans h2)
          clear h2
          unfold miss
          go_wp2_with fail
          exact ⟨rfl, _, rfl, B3.out⟩
        | some i =>
          have hb := att_bd (lst s) j (by rw [lst_size]; exact hj) hat i hae
          rw [lst_size] at hb
          have HE := Lib.hid ((atts_step (lst s) j (by rw [lst_size]; exact hj) hat i hae).symm.trans E2.out)
          unfold WentA at HC
          rw [hat, hae] at HC
          clear hat hae HAT E2
          go_wp2_with fail
          refine HC.out.mono ?_
          rintro e1 w3 ⟨rfl, h1, h2⟩
          have A3 := Lib.hid h1
          have B3 := Lib.hid (B2.out.trans h2)
          clear h1 h2
          go_wp2_with fail
          go_roundw
          case rel => exact ⟨i, hb.2, A3.out, HE.out, B3.out⟩
          case measure => rw [posS_sc A3.out, posS_sc A2.out]; omega
      | false =>
        have HE := Lib.hid ((atts_stop (lst s) j (by rw [lst_size]; exact hj) hat).symm.trans E2.out)
        unfold WentA at HC
        rw [hat] at HC
        clear hat HAT E2
        generalize attsL (lst s) a = r at *
        obtain rfl := HE.out
        clear HE
        have hb := upL_bd isS (lst s) j (by rw [lst_size]; exact hj)
        rw [lst_size] at hb
        have hp := past_bd (lst s) 47 (upL isS (lst s) j) (by rw [lst_size]; exact hb.2)
        rw [lst_size] at hp
        have HS := Lib.hid (fun W (hW : Sc W g s j) => skip_any 47 isS tells_blank s hs g j B hB hj W hW)
        have HT := Lib.hid (fun W (hW : Sc W g s (upL isS (lst s) j)) => take_any 47 s hs g (upL isS (lst s) j) B hB hb.2 W hW)
        have HE := Lib.hid (fun W (hW : Sc W g s (past (lst s) 47 (upL isS (lst s) j))) => need_any 62 s hs g (past (lst s) 47 (upL isS (lst s) j)) B hB hp.2 W hW)
        have HR : Hid (∀ e w', Went w g s B (needL (lst s) 62 (past (lst s) 47 (upL isS (lst s) j))) e w' → Went w g s B (behO (lst s) (some j)) e w') := fun e w' h => h
        generalize needL (lst s) 62 (past (lst s) 47 (upL isS (lst s) j)) = r at *
        generalize past (lst s) 47 (upL isS (lst s) j) = c at *
        generalize upL isS (lst s) j - j = n at *
        generalize upL isS (lst s) j = b at *
        generalize decide ((lst s)[b]? = some 47) = v at *
        clear hb hp
        go_wp2_with fail
        refine HC.out.mono ?_
        rintro e1 w3 ⟨rfl, h1, h2⟩
        have A3 := Lib.hid h1
        have B3 := Lib.hid (B2.out.trans h2)
        clear h1 h2
        go_wp2_with fail
        refine (HS.out _ A3.out).mono ?_
        rintro e1 w4 ⟨rfl, h1, h2⟩
        have A4 := Lib.hid h1
        have B4 := Lib.hid (B3.out.trans h2)
        clear h1 h2
        go_wp2_with fail
        refine (HT.out _ A4.out).mono ?_
        rintro e1 w5 ⟨rfl, h1, h2⟩
        have A5 := Lib.hid h1
        have B5 := Lib.hid (B4.out.trans h2)
        clear h1 h2
        go_wp2_with fail
        refine (HE.out _ A5.out).mono ?_
        intro e1 w6 hW
        cases r with
        | none =>
          obtain ⟨m, rfl, h2⟩ := hW
          have B6 := Lib.hid (B5.out.trans h2)
          clear h2
          unfold miss
          go_wp2_with fail
          exact ⟨rfl, HR.out _ _ ⟨_, rfl, B6.out⟩⟩
        | some r =>
          obtain ⟨rfl, h1, h2⟩ := hW
          have A6 := Lib.hid h1
          have B6 := Lib.hid (B5.out.trans h2)
          clear h1 h2
          go_wp2_with fail
          go_end0
          exact HR.out _ _ ⟨rfl, A6.out, B6.out⟩
end Go.Proofs.YtdnnjakggopdoaaDoor
