/-
  PROVED: contracts of tag.beginsBlock and tag.Kind: which HTML block does a line begin? Conditions: the tables of the package and those of unicode/utf8 hold what their initialisers lay; the text has at most 1000000 bytes.
-/
import Derived.Test.YtdnnjakggopdoaaDoorVerb
import Derived.Test.YtdnnjakggopdoaaDoorRaw
import Derived.Test.YtdnnjakggopdoaaDoorBlock
namespace Go.Proofs.YtdnnjakggopdoaaDoor
open Go.ChangeShapes Go.WideShapes Go.ChangeAt Go.RowKit Go.Sort
set_option linter.unusedVariables false
set_option linter.unusedSimpArgs false

/-- Behind "<" or "</". -/
def behB (l : List UInt8) : List UInt8 := Lib.trimPrefix (l.drop 1) [47]
def tagAt (m : List UInt8) (n : Nat) : Bool := isTag (Lib.mapD lowR (m.take n)) && (endsN (m.drop n) || Lib.hasPrefix (m.drop n) [47, 62])
/-- Does a line begin with a block tag? -/
def begB (l : List UInt8) : Bool := Lib.hasPrefix l [60] && tagAt (behB l) (upL isW (behB l) 0)
/-- A blank of a line. -/
def isB (b : UInt8) : Bool := b == 32 || b == 9
def kindL (l : List UInt8) : Int := if begV l then 1 else if 0 ≤ otherL l then 2 + otherL l else if begB l then 6 else if 0 < openL l ∧ (l.drop (openL l)).all isB = true then 7 else 0

theorem made (l : List UInt8) : ∃ A : ByteArray, lst A = l ∧ (⟨l.toArray⟩ : ByteArray) = A := ⟨⟨l.toArray⟩, lst_mk l, rfl⟩
theorem cut_one (s : ByteArray) (w : World) : Calls Tryd.prog 41 #[.string s, .string { data := #[60] }] w fun e w' => (∃ t : ByteArray, e = .returned (.tuple #[.string t, .bool (Lib.hasPrefix (lst s) [60])]) ∧ (Lib.hasPrefix (lst s) [60] = true → lst t = (lst s).drop 1)) ∧ w' = w := by
  refine (Tryd.cutPrefix s { data := #[60] } w).mono fun e w' ⟨h1, h2⟩ => ⟨⟨⟨(Lib.trimPrefix (lst s) [60]).toArray⟩, h1, fun h => ?_⟩, h2⟩
  rw [lst_mk]
  unfold Lib.trimPrefix
  rw [h]
  rfl
theorem trim_one (t : ByteArray) (w : World) : Calls Tryd.prog 53 #[.string t, .string { data := #[47] }] w fun e w' => (∃ u : ByteArray, e = .returned (.string u) ∧ lst u = Lib.trimPrefix (lst t) [47]) ∧ w' = w :=
  (Tryd.trimPrefix t { data := #[47] } w).mono fun e w' ⟨h1, h2⟩ => ⟨⟨⟨(Lib.trimPrefix (lst t) [47]).toArray⟩, h1, lst_mk _⟩, h2⟩
theorem lst_head (s : ByteArray) (n : Nat) : lst (s.extract 0 n) = (lst s).take n := by rw [lst_cut, List.drop_zero]
theorem head_size (s : ByteArray) (n : Nat) (h : s.size ≤ 1000000) : (s.extract 0 n).size ≤ 1000000 := by rw [← lst_size, lst_head, List.length_take, lst_size]; omega
theorem trim_len (l p : List UInt8) : (Lib.trimPrefix l p).length ≤ l.length := by
  unfold Lib.trimPrefix
  split
  · rw [List.length_drop]; omega
  · exact Nat.le_refl _

set_option maxHeartbeats 8000000 in
theorem begB_any (s : ByteArray) (hs : s.size ≤ 1000000) (w : World) (hG : Glob w) :
    Calls Tryd.prog 32 #[.string s] w fun e w' => e = .returned (.bool (begB (lst s))) ∧ RowKit.Below w.heap.size w w' := by
  have HC := Lib.hid (cut_one s)
  have HU := Lib.hid hG.u
  clear hG
  cases hp : Lib.hasPrefix (lst s) [60] with
  | false =>
    have HV : Hid (begB (lst s) = false) := show _ = _ from by unfold begB; rw [hp]; rfl
    rw [hp] at HC
    clear hp
    go_enter Tryd.func32, Tryd.ntmps32
    go_wp2_with fail
    refine (HC.out _).mono ?_
    rintro e w1 ⟨⟨t, rfl, _⟩, rfl⟩
    go_wp2_with fail
    go_ret
    exact ⟨ret_bool (by rw [HV.out]), Below.refl _ _⟩
  | true =>
    have HV : Hid (begB (lst s) = tagAt (behB (lst s)) (upL isW (behB (lst s)) 0)) := show _ = _ from by unfold begB; rw [hp]; rfl
    rw [hp] at HC
    clear hp
    go_enter Tryd.func32, Tryd.ntmps32
    go_wp2_with fail
    refine (HC.out _).mono ?_
    rintro e w1 ⟨⟨t, rfl, ht⟩, rfl⟩
    have HTL := Lib.hid (ht (by trivial))
    have HT := Lib.hid (trim_one t)
    clear ht HC
    go_wp2_with fail
    refine (HT.out _).mono ?_
    rintro e w2 ⟨⟨u, rfl, hu⟩, rfl⟩
    have hul : lst u = behB (lst s) := by rw [hu, HTL.out]; rfl
    have hus : u.size ≤ 1000000 := by
      rw [← lst_size, hu, HTL.out]
      refine Nat.le_trans (trim_len _ _) ?_
      rw [List.length_drop, lst_size]
      omega
    have HR := Lib.hid (fun W => row_any 54 isW tells_word u hus W)
    have hn := upL_bd isW (lst u) 0 (Nat.zero_le _)
    rw [lst_size] at hn
    rw [← hul] at HV
    have HB : Hid (∀ W, Lib.Utf8Tabs 4 5 W → Calls Tryd.prog 55 #[.string (u.extract 0 (upL isW (lst u) 0))] W fun e w' => e = .returned (.bool (isTag (Lib.mapD lowR ((lst u).take (upL isW (lst u) 0))))) ∧ RowKit.Below W.heap.size W w') := fun W hW => by
      have h := block_any (u.extract 0 (upL isW (lst u) 0)) (by have := head_size u (upL isW (lst u) 0) hus; omega) W hW
      rw [show (u.extract 0 (upL isW (lst u) 0)).data.toList = (lst u).take (upL isW (lst u) 0) from lst_head u _] at h
      exact h
    have HE : Hid (∀ W, Calls Tryd.prog 52 #[.string (u.extract (upL isW (lst u) 0) u.size)] W fun e w' => e = .returned (.bool (endsN ((lst u).drop (upL isW (lst u) 0)))) ∧ w' = W) := fun W => by
      have h := endsName_any (u.extract (upL isW (lst u) 0) u.size) W
      rw [lst_from] at h
      exact h
    have HP : Hid (∀ W, Calls Tryd.prog 17 #[.string (u.extract (upL isW (lst u) 0) u.size), .string { data := #[47, 62] }] W fun e w' => e = .returned (.bool (Lib.hasPrefix ((lst u).drop (upL isW (lst u) 0)) [47, 62])) ∧ w' = W) := fun W => by
      have h := Tryd.hasPrefix (u.extract (upL isW (lst u) 0) u.size) { data := #[47, 62] } W
      rw [show (u.extract (upL isW (lst u) 0) u.size).data.toList = (lst u).drop (upL isW (lst u) 0) from lst_from u _] at h
      exact h
    unfold tagAt at HV
    clear hu hul hus HTL HT
    generalize isTag (Lib.mapD lowR ((lst u).take (upL isW (lst u) 0))) = b1 at *
    generalize endsN ((lst u).drop (upL isW (lst u) 0)) = b2 at *
    generalize Lib.hasPrefix ((lst u).drop (upL isW (lst u) 0)) [47, 62] = b3 at *
    generalize upL isW (lst u) 0 = n at *
    cases b1
    · go_wp2_with fail
      refine (HR.out _).mono ?_
      rintro e w3 ⟨rfl, rfl⟩
      go_wp2_with fail
      refine (HB.out _ HU.out).mono ?_
      rintro e w4 ⟨rfl, hb⟩
      have B4 := Lib.hid hb
      clear hb
      go_wp2_with fail
      go_ret
      exact ⟨ret_bool (by rw [HV.out]; rfl), B4.out⟩
    · cases b2
      · go_wp2_with fail
        refine (HR.out _).mono ?_
        rintro e w3 ⟨rfl, rfl⟩
        go_wp2_with fail
        refine (HB.out _ HU.out).mono ?_
        rintro e w4 ⟨rfl, hb⟩
        have B4 := Lib.hid hb
        clear hb
        go_wp2_with fail
        refine (HE.out _).mono ?_
        rintro e w5 ⟨rfl, rfl⟩
        go_wp2_with fail
        refine (HP.out _).mono ?_
        rintro e w6 ⟨rfl, rfl⟩
        go_wp2_with fail
        go_ret
        exact ⟨ret_bool (by rw [HV.out]; rfl), B4.out⟩
      · go_wp2_with fail
        refine (HR.out _).mono ?_
        rintro e w3 ⟨rfl, rfl⟩
        go_wp2_with fail
        refine (HB.out _ HU.out).mono ?_
        rintro e w4 ⟨rfl, hb⟩
        have B4 := Lib.hid hb
        clear hb
        go_wp2_with fail
        refine (HE.out _).mono ?_
        rintro e w5 ⟨rfl, rfl⟩
        go_wp2_with fail
        go_ret
        exact ⟨ret_bool (by rw [HV.out]; rfl), B4.out⟩

theorem open_le (l : List UInt8) : openL l ≤ l.length := by
  unfold openL
  cases h : tagO l with
  | none => exact Nat.zero_le _
  | some k =>
    unfold tagO at h
    split at h
    · split at h
      · unfold closeO at h
        split at h
        · cases h
        · exact (need_bd _ _ _ _ h).2
      · unfold openO at h
        split at h
        · cases h
        · split at h
          · cases h
          · exact (need_bd _ _ _ _ h).2
    · cases h
theorem has_B (c : UInt8) : [32, 9].contains c = isB c := by
  simp only [isB, List.contains, List.elem]
  cases (c == 32) <;> cases (c == 9) <;> rfl
theorem drop_all (l : List UInt8) : (l.dropWhile isB).isEmpty = l.all isB := by
  induction l with
  | nil => rfl
  | cons x l ih =>
    rw [List.dropWhile_cons, List.all_cons]
    cases h : isB x with
    | true => simpa using ih
    | false => simp
theorem left_any (s : ByteArray) (w : World) : Calls Tryd.prog 33 #[.string s, .string { data := #[32, 9] }] w fun e w' => (∃ t : ByteArray, e = .returned (.string t) ∧ t.toList.isEmpty = (lst s).all isB) ∧ RowKit.Below w.heap.size w w' := by
  have h := Tryd.trimLeft s { data := #[32, 9] } (by decide) (by decide) w
  refine h.mono fun e w' ⟨h1, h2⟩ => ⟨⟨_, h1, ?_⟩, h2⟩
  rw [Lib.toList_data, ← drop_all]
  show (lst ⟨_⟩).isEmpty = _
  rw [lst_mk]
  unfold Lib.trimLeftS
  congr 2
  funext b
  exact has_B b

set_option maxHeartbeats 16000000 in
theorem kind_any (s : ByteArray) (hs : s.size ≤ 1000000) (w : World) (hG : Glob w) :
    Calls Tryd.prog 13 #[.string s] w fun e w' => e = .returned (.int .i64 (kindL (lst s))) ∧ RowKit.Below w.heap.size w w' := by
  have HG := Lib.hid (fun w' (hb : RowKit.Below w.heap.size w w') => hG.under hb)
  have HV := Lib.hid (begV_any s hs w hG)
  have HO := Lib.hid (fun W (hW : Glob W) => other_any s hs W hW)
  have HB := Lib.hid (fun W (hW : Glob W) => begB_any s hs W hW)
  have HP := Lib.hid (fun W => open_any s hs W)
  have hle := open_le (lst s)
  rw [lst_size] at hle
  have HL : Hid (∀ W, Calls Tryd.prog 33 #[.string (s.extract (openL (lst s)) s.size), .string { data := #[32, 9] }] W fun e w' => (∃ t : ByteArray, e = .returned (.string t) ∧ t.toList.isEmpty = ((lst s).drop (openL (lst s))).all isB) ∧ RowKit.Below W.heap.size W w') := fun W => by
    have h := left_any (s.extract (openL (lst s)) s.size) W
    rw [lst_from] at h
    exact h
  have HK : Hid (kindL (lst s) = if begV (lst s) then 1 else if 0 ≤ otherL (lst s) then 2 + otherL (lst s) else if begB (lst s) then 6 else if 0 < openL (lst s) ∧ ((lst s).drop (openL (lst s))).all isB = true then 7 else 0) := rfl
  have hob : -1 ≤ otherL (lst s) ∧ otherL (lst s) ≤ 3 := by unfold otherL; repeat' split <;> omega
  clear hG
  generalize kindL (lst s) = kk at *
  generalize ((lst s).drop (openL (lst s))).all isB = ba at *
  generalize openL (lst s) = n at *
  generalize otherL (lst s) = o at *
  generalize begB (lst s) = b2 at *
  generalize begV (lst s) = b1 at *
  cases b1
  · by_cases ho : 0 ≤ o
    · have HF : Hid (kk = 2 + o) := show _ = _ from by rw [HK.out, if_neg (by decide), if_pos ho]
      clear HK HP HL HB
      go_enter Tryd.func13, Tryd.ntmps13
      go_wp2_with fail
      refine HV.out.mono ?_
      rintro e w1 ⟨rfl, hb1⟩
      have B1 := Lib.hid hb1
      have G1 := Lib.hid (HG.out _ hb1)
      clear hb1
      go_wp2_with fail
      refine (HO.out _ G1.out).mono ?_
      rintro e w2 ⟨rfl, hb2⟩
      have B2 := Lib.hid (chain (Nat.le_refl _) B1.out hb2)
      clear hb2
      go_wp2_with fail
      go_ret
      exact ⟨ret_int (by rw [HF.out]), B2.out⟩
    · cases b2
      · by_cases hn : 0 < n
        · cases ba
          · have HF : Hid (kk = 0) := show _ = _ from by rw [HK.out, if_neg (by decide), if_neg ho, if_neg (by decide), if_neg (by simp)]
            clear HK
            go_enter Tryd.func13, Tryd.ntmps13
            go_wp2_with fail
            refine HV.out.mono ?_
            rintro e w1 ⟨rfl, hb1⟩
            have B1 := Lib.hid hb1
            have G1 := Lib.hid (HG.out _ hb1)
            clear hb1
            go_wp2_with fail
            refine (HO.out _ G1.out).mono ?_
            rintro e w2 ⟨rfl, hb2⟩
            have B2 := Lib.hid (chain (Nat.le_refl _) B1.out hb2)
            have G2 := Lib.hid (HG.out _ B2.out)
            clear hb2
            go_wp2_with fail
            refine (HB.out _ G2.out).mono ?_
            rintro e w3 ⟨rfl, hb3⟩
            have B3 := Lib.hid (chain (Nat.le_refl _) B2.out hb3)
            clear hb3
            go_wp2_with fail
            refine (HP.out _).mono ?_
            rintro e w4 ⟨rfl, hb4⟩
            have B4 := Lib.hid (chain (Nat.le_refl _) B3.out hb4)
            clear hb4
            go_wp2_with fail
            refine (HL.out _).mono ?_
            rintro e w5 ⟨⟨t, rfl, ht⟩, hb5⟩
            have B5 := Lib.hid (chain (Nat.le_refl _) B4.out hb5)
            clear hb5
            go_wp2_with fail
            go_ret
            exact ⟨ret_int (by rw [HF.out]), B5.out⟩
          · have HF : Hid (kk = 7) := show _ = _ from by rw [HK.out, if_neg (by decide), if_neg ho, if_neg (by decide), if_pos ⟨hn, rfl⟩]
            clear HK
            go_enter Tryd.func13, Tryd.ntmps13
            go_wp2_with fail
            refine HV.out.mono ?_
            rintro e w1 ⟨rfl, hb1⟩
            have B1 := Lib.hid hb1
            have G1 := Lib.hid (HG.out _ hb1)
            clear hb1
            go_wp2_with fail
            refine (HO.out _ G1.out).mono ?_
            rintro e w2 ⟨rfl, hb2⟩
            have B2 := Lib.hid (chain (Nat.le_refl _) B1.out hb2)
            have G2 := Lib.hid (HG.out _ B2.out)
            clear hb2
            go_wp2_with fail
            refine (HB.out _ G2.out).mono ?_
            rintro e w3 ⟨rfl, hb3⟩
            have B3 := Lib.hid (chain (Nat.le_refl _) B2.out hb3)
            clear hb3
            go_wp2_with fail
            refine (HP.out _).mono ?_
            rintro e w4 ⟨rfl, hb4⟩
            have B4 := Lib.hid (chain (Nat.le_refl _) B3.out hb4)
            clear hb4
            go_wp2_with fail
            refine (HL.out _).mono ?_
            rintro e w5 ⟨⟨t, rfl, ht⟩, hb5⟩
            have B5 := Lib.hid (chain (Nat.le_refl _) B4.out hb5)
            clear hb5
            go_wp2_with fail
            go_ret
            exact ⟨ret_int (by rw [HF.out]), B5.out⟩
        · have HF : Hid (kk = 0) := show _ = _ from by rw [HK.out, if_neg (by decide), if_neg ho, if_neg (by decide), if_neg (fun h => hn h.1)]
          clear HK HL
          go_enter Tryd.func13, Tryd.ntmps13
          go_wp2_with fail
          refine HV.out.mono ?_
          rintro e w1 ⟨rfl, hb1⟩
          have B1 := Lib.hid hb1
          have G1 := Lib.hid (HG.out _ hb1)
          clear hb1
          go_wp2_with fail
          refine (HO.out _ G1.out).mono ?_
          rintro e w2 ⟨rfl, hb2⟩
          have B2 := Lib.hid (chain (Nat.le_refl _) B1.out hb2)
          have G2 := Lib.hid (HG.out _ B2.out)
          clear hb2
          go_wp2_with fail
          refine (HB.out _ G2.out).mono ?_
          rintro e w3 ⟨rfl, hb3⟩
          have B3 := Lib.hid (chain (Nat.le_refl _) B2.out hb3)
          clear hb3
          go_wp2_with fail
          refine (HP.out _).mono ?_
          rintro e w4 ⟨rfl, hb4⟩
          have B4 := Lib.hid (chain (Nat.le_refl _) B3.out hb4)
          clear hb4
          go_wp2_with fail
          go_ret
          exact ⟨ret_int (by rw [HF.out]), B4.out⟩
      · have HF : Hid (kk = 6) := show _ = _ from by rw [HK.out, if_neg (by decide), if_neg ho, if_pos rfl]
        clear HK HL HP
        go_enter Tryd.func13, Tryd.ntmps13
        go_wp2_with fail
        refine HV.out.mono ?_
        rintro e w1 ⟨rfl, hb1⟩
        have B1 := Lib.hid hb1
        have G1 := Lib.hid (HG.out _ hb1)
        clear hb1
        go_wp2_with fail
        refine (HO.out _ G1.out).mono ?_
        rintro e w2 ⟨rfl, hb2⟩
        have B2 := Lib.hid (chain (Nat.le_refl _) B1.out hb2)
        have G2 := Lib.hid (HG.out _ B2.out)
        clear hb2
        go_wp2_with fail
        refine (HB.out _ G2.out).mono ?_
        rintro e w3 ⟨rfl, hb3⟩
        have B3 := Lib.hid (chain (Nat.le_refl _) B2.out hb3)
        clear hb3
        go_wp2_with fail
        go_ret
        exact ⟨ret_int (by rw [HF.out]), B3.out⟩
  · have HF : Hid (kk = 1) := show _ = _ from by rw [HK.out, if_pos rfl]
    clear HK HL HP HB HO
    go_enter Tryd.func13, Tryd.ntmps13
    go_wp2_with fail
    refine HV.out.mono ?_
    rintro e w1 ⟨rfl, hb1⟩
    have B1 := Lib.hid hb1
    clear hb1
    go_wp2_with fail
    go_ret
    exact ⟨ret_int (by rw [HF.out]), B1.out⟩
end Go.Proofs.YtdnnjakggopdoaaDoor
