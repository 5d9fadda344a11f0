/-
  PROVED: stetlaw06.TagMade returns true for all texts: a tag that is made of a name, an attribute's name and a value between quotes is a whole one (the row, and its card, tied to the program's text). Conditions: none beside the row's own: the listed tables (tag's three, unicode/utf8's two) hold what their initialisers lay (the card ties them; that nothing else writes them is the translator's report, over the pruned copy of the project).
-/
import Derived.Test.YtdnnjakggopdoaaDoorAlive
import Derived.Test.YtdnnjakggopdoaaDoorMadePure
import Derived.Test.YtdnnjakggopdoaaDoorCards
import Derived.Test.YtdnnjakggopdoaaDoorTie
import Derived.SevenTiedAt
namespace Go.Proofs.YtdnnjakggopdoaaDoor.tagMade
open Go.ChangeShapes Go.WideShapes Go.ChangeAt Go.RowKit
open Go.ChangeMaps (open_string shut_string)
set_option linter.unusedVariables false
set_option linter.unusedSimpArgs false

theorem lst_app (a b : ByteArray) : lst (a ++ b) = lst a ++ lst b := by simp [lst]
/-- What the law's loops go by. -/
def KRel (p : UInt8 → Bool) (s : ByteArray) (w : World) (i : Value) (wr : World) : Prop := ∃ j : Nat, j ≤ s.size ∧ i = .int .i64 j ∧ (∀ t, t < j → ∀ x, (lst s)[t]? = some x → p x = true) ∧ w = wr
theorem k_next {p : UInt8 → Bool} {s : ByteArray} {j : Nat} (h : ∀ t, t < j → ∀ x, (lst s)[t]? = some x → p x = true) (hlt : j < s.size) (hp : p (s[j]'hlt) = true) : ∀ t, t < j + 1 → ∀ x, (lst s)[t]? = some x → p x = true := fun t ht x hx => by
  by_cases e : t = j
  · subst e
    rw [Lib.data_getElem? s t hlt] at hx
    rw [← Option.some.inj hx]
    exact hp
  · exact h t (by omega) x hx
theorem k_all {p : UInt8 → Bool} {s : ByteArray} {j : Nat} (h : ∀ t, t < j → ∀ x, (lst s)[t]? = some x → p x = true) (hj : ¬ j < s.size) : ∀ x ∈ lst s, p x = true := fun x hx => by
  obtain ⟨t, ht⟩ := List.getElem?_of_mem hx
  have := (List.getElem?_eq_some_iff.1 ht).1
  rw [lst_size] at this
  exact h t (by omega) x ht
def okV (x : UInt8) : Bool := x != 34
def okA (x : UInt8) : Bool := x != 32 && x != 9 && x != 10 && x != 61 && x != 47 && x != 62
def okN (x : UInt8) : Bool := x != 32 && x != 9 && x != 10 && x != 47
set_option maxHeartbeats 32000000 in
set_option maxRecDepth 100000 in
theorem walk (a0 : ByteArray) (a1 : ByteArray) (a2 : ByteArray) (w0 : a0.size ≤ maxLen) (w1 : a1.size ≤ maxLen) (w2 : a2.size ≤ maxLen) (w : World) (hG : Glob w) :
    Calls Tryd.prog 7 #[.string a0, .string a1, .string a2] w fun e w' => e = .returned (.bool true) ∧ RowKit.Below w.heap.size w w' := by
  have HG := Lib.hid (fun w' (hb : RowKit.Below w.heap.size w w') => hG.under hb)
  have HG0 := Lib.hid hG
  clear hG
  by_cases hl0 : 1000 < a0.size
  · skip
    have q0 : decide ((1000 : Int) < (a0.size : Int)) = true := by simp; omega
    go_enter Tryd.func7, Tryd.ntmps7
    go_wp2_with fail
    refine (alive_any _ HG0.out).mono ?_
    rintro e w1 ⟨rfl, hb⟩
    have B1 := Lib.hid hb
    have G1 := Lib.hid (HG.out _ B1.out)
    clear hb
    go_wp2_with fail
    go_ret
    exact ⟨rfl, B1.out⟩
  have q0 : decide ((1000 : Int) < (a0.size : Int)) = false := by simp; omega
  by_cases hl1 : 1000 < a1.size
  · skip
    have q1 : decide ((1000 : Int) < (a1.size : Int)) = true := by simp; omega
    go_enter Tryd.func7, Tryd.ntmps7
    go_wp2_with fail
    refine (alive_any _ HG0.out).mono ?_
    rintro e w1 ⟨rfl, hb⟩
    have B1 := Lib.hid hb
    have G1 := Lib.hid (HG.out _ B1.out)
    clear hb
    go_wp2_with fail
    go_ret
    exact ⟨rfl, B1.out⟩
  have q1 : decide ((1000 : Int) < (a1.size : Int)) = false := by simp; omega
  by_cases hl2 : 5000 < a2.size
  · skip
    have q2 : decide ((5000 : Int) < (a2.size : Int)) = true := by simp; omega
    go_enter Tryd.func7, Tryd.ntmps7
    go_wp2_with fail
    refine (alive_any _ HG0.out).mono ?_
    rintro e w1 ⟨rfl, hb⟩
    have B1 := Lib.hid hb
    have G1 := Lib.hid (HG.out _ B1.out)
    clear hb
    go_wp2_with fail
    go_ret
    exact ⟨rfl, B1.out⟩
  have q2 : decide ((5000 : Int) < (a2.size : Int)) = false := by simp; omega
  by_cases hl3 : a1.size = 0
  · skip
    have q3 := emp_yes a1 hl3
    go_enter Tryd.func7, Tryd.ntmps7
    go_wp2_with fail
    refine (alive_any _ HG0.out).mono ?_
    rintro e w1 ⟨rfl, hb⟩
    have B1 := Lib.hid hb
    have G1 := Lib.hid (HG.out _ B1.out)
    clear hb
    go_wp2_with fail
    go_ret
    exact ⟨rfl, B1.out⟩
  have q3 := emp_no a1 (by omega)
  clear w0 w1 w2
  have e1 : lst ({ data := #[60] } ++ a0 ++ { data := #[62] }) = [60] ++ (lst a0 ++ [62]) := by rw [lst_app, lst_app, List.append_assoc]
  have e2 : lst ({ data := #[60] } ++ a0 ++ { data := #[32] } ++ a1 ++ { data := #[62] }) = [60] ++ (lst a0 ++ ([32] ++ (lst a1 ++ [62]))) := by simp only [lst_app, List.append_assoc]
  have z1 : ({ data := #[60] } ++ a0 ++ { data := #[62] } : ByteArray).size ≤ 1000000 := by rw [← lst_size, e1]; simp; omega
  have z2 : ({ data := #[60] } ++ a0 ++ { data := #[32] } ++ a1 ++ { data := #[62] } : ByteArray).size ≤ 1000000 := by rw [← lst_size, e2]; simp; omega
  have P1 := Lib.hid (fun W => open_any ({ data := #[60] } ++ a0 ++ { data := #[62] }) z1 W)
  have P2 := Lib.hid (fun W => open_any ({ data := #[60] } ++ a0 ++ { data := #[32] } ++ a1 ++ { data := #[62] }) z2 W)
  rw [e1] at P1
  rw [e2] at P2
  clear e1 e2 z1 z2
  have hN : Hid (∀ h : (∀ x ∈ lst a0, okN x = true), openL ([60] ++ (lst a0 ++ [62])) = a0.size + 2 → nameOk (lst a0)) := fun hc h => made_name (lst a0) (fun x hx => by
    have := hc x hx
    simp [okN] at this
    exact ⟨this.1.1.1, this.1.1.2, this.1.2, this.2⟩) (by rw [lst_size]; exact h)
  have hA : Hid (∀ h : (∀ x ∈ lst a1, okA x = true), nameOk (lst a0) → openL ([60] ++ (lst a0 ++ ([32] ++ (lst a1 ++ [62])))) = a0.size + a1.size + 3 → (∀ x ∈ lst a1, isA x = true) ∧ ∃ c, (lst a1)[0]? = some c ∧ isF c = true) := fun hc hok h => made_attr (lst a0) (lst a1) hok (by intro e; have := congrArg List.length e; rw [lst_size, List.length_nil] at this; exact hl3 this) (fun x hx => by
    have := hc x hx
    simp [okA] at this
    exact ⟨this.1.1.1.1.1, this.1.1.1.1.2, this.1.1.1.2, this.1.1.2, this.1.2, this.2⟩) (by rw [lst_size, lst_size]; exact h)
  generalize openL ([60] ++ (lst a0 ++ [62])) = n1 at *
  generalize openL ([60] ++ (lst a0 ++ ([32] ++ (lst a1 ++ [62])))) = n2 at *
  by_cases hb1 : n1 = a0.size + 2
  · by_cases hb2 : n2 = a0.size + a1.size + 3
    · have HB1 := Lib.hid hb1
      have HB2 := Lib.hid hb2
      have y1 : ((n1 : Int) != (a0.size : Int) + 2) = false := by rw [bne, Bool.not_eq_false', beq_iff_eq]; omega
      have y2 : ((n2 : Int) != (a0.size : Int) + (a1.size : Int) + 3) = false := by rw [bne, Bool.not_eq_false', beq_iff_eq]; omega
      clear hb1 hb2
      go_enter Tryd.func7, Tryd.ntmps7
      go_wp2_with fail
      refine (alive_any _ HG0.out).mono ?_
      rintro e w1 ⟨rfl, hb⟩
      have B1 := Lib.hid hb
      have G1 := Lib.hid (HG.out _ B1.out)
      clear hb
      go_wp2_with fail
      refine (P1.out _).mono ?_
      rintro e w2 ⟨rfl, hb⟩
      have B2 := Lib.hid (chain (Nat.le_refl _) B1.out hb)
      have G2 := Lib.hid (HG.out _ B2.out)
      clear hb
      go_wp2_with fail
      refine (P2.out _).mono ?_
      rintro e w3 ⟨rfl, hb⟩
      have B3 := Lib.hid (chain (Nat.le_refl _) B2.out hb)
      have G3 := Lib.hid (HG.out _ B3.out)
      clear hb
      go_wp2_with fail
      go_loopw [9] (fun i wr => KRel okV a2 w3 i wr) (fun i _ => a2.size - (intOf i).toNat)
      case atStart => exact ⟨0, Nat.zero_le _, rfl, fun t ht => by omega, rfl⟩
      case round =>
        obtain ⟨j, hj, rfl, hno, rfl⟩ := hrel
        have HK := Lib.hid hno
        clear hno
        by_cases hlt : j < a2.size
        · skip
          by_cases g0 : (a2[j]'hlt) = 34
          · have c0 : (((a2[j]'hlt).toNat : Int) == 34) = true := by rw [g0]; rfl
            clear g0
            go_wp2_with fail
            go_ret
            exact ⟨rfl, B3.out⟩
          · have c0 : (((a2[j]'hlt).toNat : Int) == 34) = false := u8_not _ 34 (by omega) g0
            have HN := Lib.hid (k_next (p := okV) HK.out hlt (by simp [okV, g0]))
            clear g0
            go_wp2_with fail
            go_roundw
            case rel => exact ⟨j + 1, by omega, by go_num, HN.out, rfl⟩
            case measure => simp [intOf]; omega
        · have HV := Lib.hid (k_all HK.out hlt)
          clear HK
          go_wp2_with fail
          go_loopw [10] (fun i wr => KRel okA a1 w3 i wr) (fun i _ => a1.size - (intOf i).toNat)
          case atStart => exact ⟨0, Nat.zero_le _, rfl, fun t ht => by omega, rfl⟩
          case round =>
            obtain ⟨j, hj, rfl, hno, rfl⟩ := hrel
            have HK := Lib.hid hno
            clear hno
            by_cases hlt : j < a1.size
            · skip
              by_cases g0 : (a1[j]'hlt) = 32
              · have c0 : (((a1[j]'hlt).toNat : Int) == 32) = true := by rw [g0]; rfl
                clear g0
                go_wp2_with fail
                go_ret
                exact ⟨rfl, B3.out⟩
              · have c0 : (((a1[j]'hlt).toNat : Int) == 32) = false := u8_not _ 32 (by omega) g0
                by_cases g1 : (a1[j]'hlt) = 9
                · have c1 : (((a1[j]'hlt).toNat : Int) == 9) = true := by rw [g1]; rfl
                  clear g0 g1
                  go_wp2_with fail
                  go_ret
                  exact ⟨rfl, B3.out⟩
                · have c1 : (((a1[j]'hlt).toNat : Int) == 9) = false := u8_not _ 9 (by omega) g1
                  by_cases g2 : (a1[j]'hlt) = 10
                  · have c2 : (((a1[j]'hlt).toNat : Int) == 10) = true := by rw [g2]; rfl
                    clear g0 g1 g2
                    go_wp2_with fail
                    go_ret
                    exact ⟨rfl, B3.out⟩
                  · have c2 : (((a1[j]'hlt).toNat : Int) == 10) = false := u8_not _ 10 (by omega) g2
                    by_cases g3 : (a1[j]'hlt) = 61
                    · have c3 : (((a1[j]'hlt).toNat : Int) == 61) = true := by rw [g3]; rfl
                      clear g0 g1 g2 g3
                      go_wp2_with fail
                      go_ret
                      exact ⟨rfl, B3.out⟩
                    · have c3 : (((a1[j]'hlt).toNat : Int) == 61) = false := u8_not _ 61 (by omega) g3
                      by_cases g4 : (a1[j]'hlt) = 47
                      · have c4 : (((a1[j]'hlt).toNat : Int) == 47) = true := by rw [g4]; rfl
                        clear g0 g1 g2 g3 g4
                        go_wp2_with fail
                        go_ret
                        exact ⟨rfl, B3.out⟩
                      · have c4 : (((a1[j]'hlt).toNat : Int) == 47) = false := u8_not _ 47 (by omega) g4
                        by_cases g5 : (a1[j]'hlt) = 62
                        · have c5 : (((a1[j]'hlt).toNat : Int) == 62) = true := by rw [g5]; rfl
                          clear g0 g1 g2 g3 g4 g5
                          go_wp2_with fail
                          go_ret
                          exact ⟨rfl, B3.out⟩
                        · have c5 : (((a1[j]'hlt).toNat : Int) == 62) = false := u8_not _ 62 (by omega) g5
                          have HN := Lib.hid (k_next (p := okA) HK.out hlt (by simp [okA, g0, g1, g2, g3, g4, g5]))
                          clear g0 g1 g2 g3 g4 g5
                          go_wp2_with fail
                          go_roundw
                          case rel => exact ⟨j + 1, by omega, by go_num, HN.out, rfl⟩
                          case measure => simp [intOf]; omega
            · have HAA := Lib.hid (k_all HK.out hlt)
              clear HK
              go_wp2_with fail
              go_loopw [12] (fun i wr => KRel okN a0 w3 i wr) (fun i _ => a0.size - (intOf i).toNat)
              case atStart => exact ⟨0, Nat.zero_le _, rfl, fun t ht => by omega, rfl⟩
              case round =>
                obtain ⟨j, hj, rfl, hno, rfl⟩ := hrel
                have HK := Lib.hid hno
                clear hno
                by_cases hlt : j < a0.size
                · skip
                  by_cases g0 : (a0[j]'hlt) = 32
                  · have c0 : (((a0[j]'hlt).toNat : Int) == 32) = true := by rw [g0]; rfl
                    clear g0
                    go_wp2_with fail
                    go_ret
                    exact ⟨rfl, B3.out⟩
                  · have c0 : (((a0[j]'hlt).toNat : Int) == 32) = false := u8_not _ 32 (by omega) g0
                    by_cases g1 : (a0[j]'hlt) = 9
                    · have c1 : (((a0[j]'hlt).toNat : Int) == 9) = true := by rw [g1]; rfl
                      clear g0 g1
                      go_wp2_with fail
                      go_ret
                      exact ⟨rfl, B3.out⟩
                    · have c1 : (((a0[j]'hlt).toNat : Int) == 9) = false := u8_not _ 9 (by omega) g1
                      by_cases g2 : (a0[j]'hlt) = 10
                      · have c2 : (((a0[j]'hlt).toNat : Int) == 10) = true := by rw [g2]; rfl
                        clear g0 g1 g2
                        go_wp2_with fail
                        go_ret
                        exact ⟨rfl, B3.out⟩
                      · have c2 : (((a0[j]'hlt).toNat : Int) == 10) = false := u8_not _ 10 (by omega) g2
                        by_cases g3 : (a0[j]'hlt) = 47
                        · have c3 : (((a0[j]'hlt).toNat : Int) == 47) = true := by rw [g3]; rfl
                          clear g0 g1 g2 g3
                          go_wp2_with fail
                          go_ret
                          exact ⟨rfl, B3.out⟩
                        · have c3 : (((a0[j]'hlt).toNat : Int) == 47) = false := u8_not _ 47 (by omega) g3
                          have HN := Lib.hid (k_next (p := okN) HK.out hlt (by simp [okN, g0, g1, g2, g3]))
                          clear g0 g1 g2 g3
                          go_wp2_with fail
                          go_roundw
                          case rel => exact ⟨j + 1, by omega, by go_num, HN.out, rfl⟩
                          case measure => simp [intOf]; omega
                · have HNN := Lib.hid (k_all HK.out hlt)
                  clear HK
                  have hok := hN.out HNN.out HB1.out
                  obtain ⟨hat, hfc⟩ := hA.out HAA.out hok HB2.out
                  have hva : ∀ x ∈ lst a2, x ≠ 34 := fun x hx => by
                    have := HV.out x hx
                    simpa [okV] using this
                  have hop := made_open (lst a0) (lst a1) (lst a2) hok hat hfc hva
                  have hln := made_len (lst a0) (lst a1) (lst a2)
                  rw [lst_size, lst_size, lst_size] at hln
                  have hrw := made_raw (lst a0) (lst a1) (lst a2) hok hop [120]
                  have hcl := made_close (lst a0) hok
                  rw [lst_size] at hcl
                  rw [hln] at hop hrw
                  obtain ⟨T, hT⟩ : ∃ T : ByteArray, T = { data := #[60] } ++ a0 ++ { data := #[10] } ++ a1 ++ { data := #[32, 61, 9, 34] } ++ a2 ++ { data := #[34, 32, 47, 62] } := ⟨_, rfl⟩
                  have eT : lst T = madeL (lst a0) (lst a1) (lst a2) := by
                    rw [hT]
                    unfold madeL
                    simp only [lst_app, List.append_assoc]
                  have hTs : T.size = a0.size + a1.size + a2.size + 10 := by rw [← lst_size, eT]; exact hln
                  have e4 : lst ({ data := #[60, 47] } ++ a0 ++ { data := #[32, 62] }) = [60, 47] ++ (lst a0 ++ [32, 62]) := by simp only [lst_app, List.append_assoc]
                  have z4 : ({ data := #[60, 47] } ++ a0 ++ { data := #[32, 62] } : ByteArray).size ≤ 1000000 := by rw [← lst_size, e4]; simp; omega
                  have Q1 : Hid (∀ W, Calls Tryd.prog 11 #[.string T] W fun e w' => e = .returned (.int .i64 T.size) ∧ Below W.heap.size W w') := fun W => by
                    have h := open_any T (by omega) W
                    rw [eT, hop, ← hTs] at h
                    exact h
                  have Q2 : Hid (∀ W, Glob W → Calls Tryd.prog 9 #[.string (T ++ { data := #[120] })] W fun e w' => e = .returned (.int .i64 T.size) ∧ Below W.heap.size W w') := fun W hW => by
                    have hz : (T ++ { data := #[120] }).size ≤ 1000000 := by rw [← lst_size, lst_app, List.length_append, lst_size]; show T.size + 1 ≤ 1000000; omega
                    have h := raw_any _ hz W hW
                    rw [lst_app, eT, show lst ({ data := #[120] } : ByteArray) = [120] from rfl, hrw, ← hTs] at h
                    exact h
                  have Q3 : Hid (∀ W, Calls Tryd.prog 11 #[.string ({ data := #[60, 47] } ++ a0 ++ { data := #[32, 62] })] W fun e w' => e = .returned (.int .i64 ((a0.size + 4 : Nat) : Int)) ∧ Below W.heap.size W w') := fun W => by
                    have h := open_any _ z4 W
                    rw [e4, hcl] at h
                    exact h
                  have HT := Lib.hid hT
                  have HTS := Lib.hid hTs
                  have hTm : T.size ≤ 10000 := by omega
                  clear hok hat hfc hva hop hln hrw hcl eT e4 z4 hTs hT HNN HAA HV hN hA HB1 HB2 P1 P2
                  go_upto_region 27 with fail
                  rw [← HT.out]
                  clear HT
                  have v1 : ((T.size : Int) == (T.size : Int)) = true := by simp
                  have v2 : (((a0.size + 4 : Nat) : Int) == (a0.size : Int) + 4) = true := by simp
                  go_wp2_with fail
                  refine (Q1.out _).mono ?_
                  rintro e x1 ⟨rfl, hb⟩
                  have C1 := Lib.hid (chain (Nat.le_refl _) B3.out hb)
                  have D1 := Lib.hid (HG.out _ C1.out)
                  clear hb
                  go_wp2_with fail
                  refine (Q2.out _ D1.out).mono ?_
                  rintro e x2 ⟨rfl, hb⟩
                  have C2 := Lib.hid (chain (Nat.le_refl _) C1.out hb)
                  clear hb
                  go_wp2_with fail
                  refine (Q3.out _).mono ?_
                  rintro e x3 ⟨rfl, hb⟩
                  have C3 := Lib.hid (chain (Nat.le_refl _) C2.out hb)
                  clear hb
                  go_wp2_with fail
                  go_ret
                  exact ⟨congrArg (fun b => Ending.returned (Value.bool b)) (by simp), C3.out⟩
    · have y1 : ((n1 : Int) != (a0.size : Int) + 2) = false := by rw [bne, Bool.not_eq_false', beq_iff_eq]; omega
      have y2 : ((n2 : Int) != (a0.size : Int) + (a1.size : Int) + 3) = true := by rw [bne, Bool.not_eq_true', beq_eq_false_iff_ne]; omega
      clear hN hA
      go_enter Tryd.func7, Tryd.ntmps7
      go_wp2_with fail
      refine (alive_any _ HG0.out).mono ?_
      rintro e w1 ⟨rfl, hb⟩
      have B1 := Lib.hid hb
      have G1 := Lib.hid (HG.out _ B1.out)
      clear hb
      go_wp2_with fail
      refine (P1.out _).mono ?_
      rintro e w2 ⟨rfl, hb⟩
      have B2 := Lib.hid (chain (Nat.le_refl _) B1.out hb)
      have G2 := Lib.hid (HG.out _ B2.out)
      clear hb
      go_wp2_with fail
      refine (P2.out _).mono ?_
      rintro e w3 ⟨rfl, hb⟩
      have B3 := Lib.hid (chain (Nat.le_refl _) B2.out hb)
      have G3 := Lib.hid (HG.out _ B3.out)
      clear hb
      go_wp2_with fail
      go_ret
      exact ⟨rfl, B3.out⟩
  · have y1 : ((n1 : Int) != (a0.size : Int) + 2) = true := by rw [bne, Bool.not_eq_true', beq_eq_false_iff_ne]; omega
    clear hN hA
    go_enter Tryd.func7, Tryd.ntmps7
    go_wp2_with fail
    refine (alive_any _ HG0.out).mono ?_
    rintro e w1 ⟨rfl, hb⟩
    have B1 := Lib.hid hb
    have G1 := Lib.hid (HG.out _ B1.out)
    clear hb
    go_wp2_with fail
    refine (P1.out _).mono ?_
    rintro e w2 ⟨rfl, hb⟩
    have B2 := Lib.hid (chain (Nat.le_refl _) B1.out hb)
    have G2 := Lib.hid (HG.out _ B2.out)
    clear hb
    go_wp2_with fail
    refine (P2.out _).mono ?_
    rintro e w3 ⟨rfl, hb⟩
    have B3 := Lib.hid (chain (Nat.le_refl _) B2.out hb)
    have G3 := Lib.hid (HG.out _ B3.out)
    clear hb
    go_wp2_with fail
    go_ret
    exact ⟨rfl, B3.out⟩

set_option maxRecDepth 100000 in
theorem lifted (os : Os) (started : os.Started) (H : Type) (enc : TypeId × Value → H) :
    ReturnsInHanded {} Tryd.checked os 7 .any (fun w args => (Rows.tagMadeSpec.pre enc Tryd.prog Tryd.f7 [] false w args ∧ laidMetH Tryd.prog laid5 w) ∧ sizedMet enc Tryd.prog Tryd.f7 (OpenSpec.ofChange Rows.tagMadeSpec) false w args)
      (Rows.tagMadeSpec.post enc Tryd.prog Tryd.f7 false true false false) := by
  refine returns_shaped (X := fun w _ => laidMetH Tryd.prog laid5 w) (fun _ _ _ hh h => h.of_heap hh) started (by kernel_rfl) Tryd.func7
    (ChangeSpec.witness_at (enc := enc) (C := Tryd.checked) (os := os) (X := fun w _ => laidMetH Tryd.prog laid5 w) false (laidWorld os) #[.string ByteArray.empty, .string ByteArray.empty, .string ByteArray.empty] 8 rfl (by kernel_rfl) (by kernel_rfl) (by kernel_rfl) (by kernel_rfl) (by kernel_rfl) (laid_met os _)) ?_
  intro W base args ds gs before hval0 hW hL hsh
  have hval : ∀ (j : Nat) t v, Tryd.f7.params[j]? = some t → args[j]? = some v → Value.okWide Tryd.prog W .any base t v := hval0
  have hW' := hW
  obtain ⟨p, q, hA0, hV, rfl, hfz, hnd⟩ := hW
  have hA : DataW.TrodAll enc Tryd.prog W 0 (fun _ => true) true Tryd.f7.params.toList args.toList ds p := hA0
  rw [Tryd.params7] at hA hval
  obtain ⟨v0, vs0, d0, ds0, p0, q0, hargs, rfl, rfl, h0, r0⟩ := trodAll_cons hA
  obtain ⟨v1, vs1, d1, ds1, p1, q1, rfl, rfl, rfl, h1, r1⟩ := trodAll_cons r0
  obtain ⟨v2, vs2, d2, ds2, p2, q2, rfl, rfl, rfl, h2, r2⟩ := trodAll_cons r1
  obtain ⟨rfl, rfl, rfl⟩ := trodAll_nil r2
  obtain rfl : args = #[v0, v1, v2] := by cases args; simp_all
  obtain ⟨rfl, rfl⟩ := trodVars_none hV
  obtain ⟨a0, rfl, rfl, rfl, w0⟩ := open_string Tryd.underlying9 (hval 0 9 v0 rfl rfl) h0
  obtain ⟨a1, rfl, rfl, rfl, w1⟩ := open_string Tryd.underlying9 (hval 1 9 v1 rfl rfl) h1
  obtain ⟨a2, rfl, rfl, rfl, w2⟩ := open_string Tryd.underlying9 (hval 2 9 v2 rfl rfl) h2
  clear hA0 hval0
  simp only [List.append_nil] at hW'
  refine (walk a0 a1 a2 w0 w1 w2 W (glob_of hL hsh (six hsh))).mono fun e W' ⟨he, hg⟩ => ?_
  subst he
  exact ⟨_, rfl, _, _, _, [], [], [], hW', (trodAll_cons_mk (shut_bool Tryd.underlying4 _) trodAll_mk0), (trodAll_cons_mk (shut_string Tryd.underlying9 w0) (trodAll_cons_mk (shut_string Tryd.underlying9 w1) (trodAll_cons_mk (shut_string Tryd.underlying9 w2) trodAll_mk0))), rfl, hg.frame _, fun h => by cases h⟩

theorem over : Rows.TagMadeSaid :=
  OpenClaim.holds_of_wide 7 Tryd.f7 rfl rfl rfl rfl rfl rfl rfl ⟨rfl, rfl, rfl, rfl, rfl⟩ rfl rfl rfl rfl rfl (by kernel_rfl) Tryd.func7 (by kernel_rfl)
    (of_decide_eq_true (by kernel_rfl)) (by unfold Func.isWrapper; first | (rw [if_pos (by decide +kernel)]; kernel_rfl) | (rw [if_neg (by decide +kernel)]; exact ⟨rfl, rfl⟩))
    (fun os started H enc _ => lifted os started H enc)

theorem proved : Rows.TagMadeCardSaid :=
  Claim7.holds_tied_plain_at .later [] [.data, .wider, .data, .data, .pinned] true (true, "983f382e791182f6ff44ae0bd4e010dfb45b40c53505750620b68fca4238e8b4") true
    over (fun _ h => by cases h) (by kernel_rfl) (fun _ h => by cases h) tagMade_row_tie rfl ⟨rfl, rfl⟩ (by kernel_rfl) rfl
    (fun f fn hf hfn => by
      obtain rfl : f = 7 := Option.some.inj ((show Tryd.prog.funcNamed "stet/stetlaw06.TagMade" = some 7 by kernel_rfl).symm.trans hf) |>.symm
      obtain rfl : fn = Tryd.f7 := (Option.some.inj (Tryd.func7.symm.trans hfn)).symm
      exact ⟨by kernel_rfl, fun j t ht => by
        rw [Tryd.params7] at ht
        have hm : t ∈ [9, 9, 9] := by simpa using Array.mem_of_getElem? ht
        have hall : ([9, 9, 9].all fun u => !Tryd.prog.wantsStandIn u) = true := by kernel_rfl
        exact (show Tryd.prog.wantsStandIn t = false by simpa using List.all_eq_true.1 hall t hm)⟩)
    (by kernel_rfl)
#print axioms proved
end Go.Proofs.YtdnnjakggopdoaaDoor.tagMade
