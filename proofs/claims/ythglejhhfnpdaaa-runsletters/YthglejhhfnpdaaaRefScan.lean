/-
  PROVED: contract of the document's own Scan: the row that stands at a place, or none. Conditions: the text has at most 1000000 bytes.
-/
import Derived.Test.YthglejhhfnpdaaaLeans
import Derived.Test.YthglejhhfnpdaaaRefMark
import Derived.Deep.LoopGhost
import Derived.Deep.CutBlock
import Derived.Deep.DeepCutAuto
namespace Go.Proofs.Ythglejhhfnpdaaa
open Go.ChangeShapes Go.WideShapes Go.ChangeAt Go.RowKit Go.Sort
set_option linter.unusedVariables false

set_option maxHeartbeats 4000000 in
theorem refScan_no (s : ByteArray) (a : Int) (hs : s.size ≤ 1000000) (h : ¬ isRow s a) (w : World) :
    Calls Try.prog 9 #[.string s, .int .i64 a] w fun e w' => e = .returned (.tuple #[noV, .bool false]) ∧ Below w.heap.size w w' := by
  by_cases h0 : a < 0
  · have b1 : decide (a < 0) = true := by simpa using h0
    go_enter Try.func9, Try.ntmps9
    go_wp2_with fail
    exact bodyPost_ret (v := .tuple #[noV, .bool false]) (by simp [results, Try.results9, go_sem, noV]) rfl ⟨rfl, (Below.refl _ _).alloc (Nat.le_refl _) _⟩
  · obtain ⟨p, rfl⟩ : ∃ p : Nat, a = p := ⟨a.toNat, by omega⟩
    by_cases hp : p < s.size
    · have hk : s[p]'hp ≠ 42 ∧ s[p]'hp ≠ 95 := ⟨fun e => h ⟨p, hp, rfl, Or.inl e⟩, fun e => h ⟨p, hp, rfl, Or.inr e⟩⟩
      have e1 : (((s[p]'hp).toNat : Int) == 42) = false := ne_u8 _ 42 hk.1
      have e2 : (((s[p]'hp).toNat : Int) == 95) = false := ne_u8 _ 95 hk.2
      have e3 : (((s[p]'hp).toNat : Int) != 42) = true := by rw [bne, e1]; rfl
      have e4 : (((s[p]'hp).toNat : Int) != 95) = true := by rw [bne, e2]; rfl
      clear h hk
      go_enter Try.func9, Try.ntmps9
      go_wp2_with fail
      exact bodyPost_ret (v := .tuple #[noV, .bool false]) (by simp [results, Try.results9, go_sem, noV]) rfl ⟨rfl, (Below.refl _ _).alloc (Nat.le_refl _) _⟩
    · clear h
      have b2 : decide (s.size ≤ p) = true := by simpa using hp
      go_enter Try.func9, Try.ntmps9
      go_wp2_with fail
      exact bodyPost_ret (v := .tuple #[noV, .bool false]) (by simp [results, Try.results9, go_sem, noV]) rfl ⟨rfl, (Below.refl _ _).alloc (Nat.le_refl _) _⟩

/-- What the loop of the document's Scan goes by: G is the row's block. -/
def NRel (s : ByteArray) (c : UInt8) (p G k : Nat) (w wr : World) : Prop :=
  p + k ≤ s.size ∧ rowTo s c (p + k) = rowTo s c p ∧ Holds wr G 24 #[.int .u8 c.toNat, .int .i64 k, .bool false, .bool false] ∧ Holds wr w.heap.size 24 #[.int .u8 0, .int .i64 0, .bool false, .bool false] ∧ Below w.heap.size w wr
theorem below_cell {B : Nat} {a b : World} (h : Below B a b) {G i : Nat} (hG : B ≤ G) (v : Value) : Below B a (b.setCell ⟨G, i, none⟩ v) := h.setCell hG v

set_option maxHeartbeats 16000000 in
theorem refScan_in (s : ByteArray) (p : Nat) (c : UInt8) (hs : s.size ≤ 1000000) (hp : p < s.size) (hc : s[p]'hp = c) (hk : c = 42 ∨ c = 95) (w : World) :
    Calls Try.prog 9 #[.string s, .int .i64 p] w fun e w' => e = .returned (.tuple #[atV s p c, .bool true]) ∧ Below w.heap.size w w' := by
  have e1 : (((s[p]'hp).toNat : Int) != 42) = true ∧ (((s[p]'hp).toNat : Int) != 95) = false ∨ (((s[p]'hp).toNat : Int) != 42) = false := by
    rw [hc]; rcases hk with rfl | rfl
    · exact Or.inr rfl
    · exact Or.inl ⟨rfl, rfl⟩
  have hlt := rowTo_lt s c p hp hc
  have hle := (rowTo_bd s c p (by omega)).2
  obtain ⟨n, hn⟩ : ∃ n, rowTo s c p = p + n := ⟨rowTo s c p - p, by omega⟩
  obtain ⟨x, hx⟩ : ∃ x, x = ahV s p := ⟨_, rfl⟩
  obtain ⟨y, hy⟩ : ∃ y, y = bhV s (p + n) := ⟨_, rfl⟩
  have hxb := ahV_bd s p
  have hyb := bhV_bd s (p + n)
  rw [← hx] at hxb
  rw [← hy] at hyb
  have HV : Hid (atV s p c = rowV c n x y) := show _ = _ from by unfold atV; rw [hn, hx, hy, show p + n - p = n from by omega]
  obtain ⟨O, hO⟩ : ∃ O, O = opB (c == 95) (isBlank x) (isMark x) (isBlank y) (isMark y) := ⟨_, rfl⟩
  obtain ⟨C, hC⟩ : ∃ C, C = clB (c == 95) (isBlank x) (isMark x) (isBlank y) (isMark y) := ⟨_, rfl⟩
  have HV2 : Hid (rowV c n x y = .agg #[.int .u8 c.toNat, .int .i64 n, .bool O, .bool C]) := show _ = _ from by rw [hO, hC]; rfl
  rw [HV.out, HV2.out]
  clear HV HV2
  have HBX := Lib.hid (refBlank_any x)
  have HMX := Lib.hid (refMark_any x)
  have HBY := Lib.hid (refBlank_any y)
  have HMY := Lib.hid (refMark_any y)
  have HO := Lib.hid hO
  have HCl := Lib.hid hC
  clear hO hC
  generalize isBlank x = bx at *
  generalize isMark x = mx at *
  generalize isBlank y = bY at *
  generalize isMark y = my at *
  have e95 : ((c.toNat : Int) == 95) = (c == 95) := by
    by_cases e : c = 95
    · subst e; rfl
    · have h := ne_u8 c 95 e
      rw [show ((UInt8.toNat 95 : Nat) : Int) = 95 from rfl] at h
      rw [h]; symm; simpa using e
  generalize (c == 95) = low at *
  have HAh : Hid (0 < p → ∀ W, Calls Try.prog 14 #[.string s, .int .i64 p] W fun e w' => e = .returned (.int .i64 x) ∧ Below W.heap.size W w') := fun h0 W => by
    rw [hx, show ahV s p = beforeV s p from if_neg (by omega)]
    exact refBefore_any s p (by unfold maxLen; omega) W
  have HAz : Hid (p = 0 → x = 32) := fun h0 => by rw [hx, h0]; rfl
  have HBh : Hid (p + n < s.size → ∀ W, Calls Try.prog 15 #[.string s, .int .i64 ((p : Int) + n)] W fun e w' => e = .returned (.tuple #[.int .i64 y, .int .i64 (runeN s (p + n : Nat))]) ∧ Below W.heap.size W w') := fun h0 W => by
    rw [hy, show bhV s (p + n) = runeV s (p + n : Nat) from if_neg (by omega)]
    exact refRune_any s (p + n : Nat) (by unfold maxLen; omega) W
  have HBz : Hid (¬ p + n < s.size → y = 32) := fun h0 => by rw [hy]; exact bh_end s _ (by omega)
  have hrb := runeN_bd s (p + n : Nat)
  have HC := Lib.hid hc
  have HN := Lib.hid hn
  have hu := c.toNat_lt
  have HK := Lib.hid hk
  clear hc hk hx hy hn hlt
  rcases e1 with ⟨e1, e2⟩ | e1
  all_goals
    have a0 : decide ((p : Int) < 0) = false := by simp
    have a1 : decide (s.size ≤ p) = false := by simp; omega
    go_enter Try.func9, Try.ntmps9
    go_upto_block 0 with fail
    go_cut [] from 36 to 57 (fun wx => NRel s c p (w.heap.size + 1) n w wx)
    case first =>
      go_wp2_with fail
      go_loopg [] n (fun r wr => r ≤ n ∧ NRel s c p (w.heap.size + 1) (n - r) w wr)
      case atStart =>
        refine ⟨Nat.le_refl _, by omega, by rw [Nat.sub_self]; rfl, ?_, ?_, ?_⟩
        · have := Holds.made (w.alloc (.cells #[.int .u8 0, .int .i64 0, .bool false, .bool false] 24)) 24 #[.int .u8 (s[p]'hp).toNat, .int .i64 0, .bool false, .bool false]
          rw [HC.out] at this
          rw [Nat.sub_self]
          simpa [HC.out] using this
        · exact (Holds.made w 24 _).under ((Below.refl _ _).alloc (Nat.le_refl _) _) (by simp)
        · exact ((Below.refl _ _).alloc (Nat.le_refl _) _).alloc (by simp) _
      case round =>
        obtain ⟨hr, h1, h2, h3, h4, h5⟩ := hrel
        obtain ⟨k, hk⟩ : ∃ k, k = n - gk := ⟨_, rfl⟩
        rw [← hk] at h1 h2 h3
        have x0 : wr.cell? ⟨w.heap.size + 1, 0, none⟩ = some (.int .u8 c.toNat) := h3.at 0
        have x1 : wr.cell? ⟨w.heap.size + 1, 1, none⟩ = some (.int .i64 k) := h3.at 1
        have v1 := h3.soft 1
        have H1 := Lib.hid (And.intro h1 (And.intro h2 (And.intro h3 (And.intro h4 h5))))
        have HGK := Lib.hid hk
        have hkn : k ≤ n := by omega
        clear h2 h3 h4 h5 hk
        by_cases hlt : p + k < s.size
        · have d1 : decide (p + k < s.size) = true := by simpa using hlt
          have d2 : decide ((p : Int) + k < s.size) = true := by simp; omega
          have z0 : (0 : Int) ≤ (p : Int) + k := by omega
          have z1 : (p : Int) + k < s.size := by omega
          by_cases he : (s[p + k]'hlt) = c
          · have c1 : (((s[p + k]'hlt).toNat : Int) == (c.toNat : Int)) = true := eq_u8 _ _ he
            have HX := Lib.hid (rowTo_step s c (p + k) hlt he)
            have hkn2 : k + 1 ≤ n := by
              have e1 := HX.out.trans H1.out.2.1
              have e2 := (rowTo_bd s c (p + k + 1) (by omega)).1
              rw [e1, HN.out] at e2
              omega
            clear he
            go_wp2_with fail
            go_quiet (fail)
            go_wp2_with fail
            go_roundg (n - (k + 1))
            case measure => have := HGK.out; omega
            case rel =>
              have e : n - (n - (k + 1)) = k + 1 := by omega
              refine ⟨by omega, ?_⟩
              rw [e]
              obtain ⟨g1, g2, g3, g4, g5⟩ := H1.out
              refine ⟨by omega, HX.out.trans g2, ?_, ?_, ?_⟩
              · have := (show Holds (wr.drewN nq) _ _ _ from g3).set 1 (.int .i64 ((k : Int) + 1))
                simpa using this
              · exact (show Holds (wr.drewN nq) _ _ _ from g4).past (by show _ ≠ _; simp) _
              · exact below_cell (below_dr g5 nq) (by omega) _
          · have c1 : (((s[p + k]'hlt).toNat : Int) == (c.toNat : Int)) = false := ne_u8 _ _ he
            have HX := Lib.hid (rowTo_stop s c (p + k) (fun h e => he e))
            clear he
            go_wp2_with fail
            go_quiet (fail)
            go_wp2_with fail
            go_meet
            obtain ⟨g1, g2, g3, g4, g5⟩ := H1.out
            obtain rfl : k = n := by have := HX.out.symm.trans (g2.trans HN.out); omega
            exact ⟨g1, g2, g3, g4, below_dr g5 nq⟩
        · have HX := Lib.hid (rowTo_stop s c (p + k) (fun h => absurd h hlt))
          have d1 : decide (p + k < s.size) = false := by simpa using hlt
          have d2 : decide ((p : Int) + k < s.size) = false := by simp; omega
          go_wp2_with fail
          go_quiet (fail)
          go_wp2_with fail
          go_meet
          obtain ⟨g1, g2, g3, g4, g5⟩ := H1.out
          obtain rfl : k = n := by have := HX.out.symm.trans (g2.trans HN.out); omega
          exact ⟨g1, g2, g3, g4, below_dr g5 nq⟩
    case rest =>
      obtain ⟨h1, h2, h3, h4, h5⟩ := hcut
      clear h2
      go_upto_if 59 with fail
      go_cut [7] from 59 to 62 (fun v wx => v = .int .i64 x ∧ Holds wx (w.heap.size + 1) 24 #[.int .u8 c.toNat, .int .i64 n, .bool false, .bool false] ∧ Holds wx w.heap.size 24 #[.int .u8 0, .int .i64 0, .bool false, .bool false] ∧ Below w.heap.size w wx)
      case first =>
        by_cases h0 : 0 < p
        · have d0 : decide (0 < p) = true := by simpa using h0
          have d1 : decide ((0 : Int) < (p : Int)) = true := by simp; omega
          have HAh2 := Lib.hid (HAh.out h0)
          have H3 := Lib.hid (And.intro h3 (And.intro h4 h5))
          clear h3 h4 h5
          go_wp2_with fail
          refine (HAh2.out _).mono ?_
          rintro e w2 ⟨rfl, hb⟩
          have hb2 := Lib.hid hb
          clear hb
          go_wp2_with fail
          go_meet
          obtain ⟨g3, g4, g5⟩ := H3.out
          exact ⟨rfl, g3.under hb2.out g3.lt, g4.under hb2.out g4.lt, chain (Nat.le_refl _) g5 hb2.out⟩
        · have d0 : decide (0 < p) = false := by simpa using h0
          have d1 : decide ((0 : Int) < (p : Int)) = false := by simp; omega
          have H3 := Lib.hid (And.intro h3 (And.intro h4 h5))
          have hx := HAz.out (by omega)
          clear h3 h4 h5
          go_wp2_with fail
          go_meet
          exact ⟨by rw [hx], H3.out⟩
      case rest =>
        obtain ⟨rfl, h3, h4, h5⟩ := hcut
        have k1 := h3.at 1
        have H3 := Lib.hid (And.intro h3 (And.intro h4 h5))
        have k1 : wc.cell? ⟨w.heap.size + 1, 1, none⟩ = some (.int .i64 n) := h3.at 1
        clear h3 h4 h5
        go_upto_if 69 with fail
        go_cut [8] from 69 to 78 (fun v wx => v = .int .i64 y ∧ Holds wx (w.heap.size + 1) 24 #[.int .u8 c.toNat, .int .i64 n, .bool false, .bool false] ∧ Holds wx w.heap.size 24 #[.int .u8 0, .int .i64 0, .bool false, .bool false] ∧ Below w.heap.size w wx)
        case first =>
          by_cases h0 : p + n < s.size
          · have d0 : decide (p + n < s.size) = true := by simpa using h0
            have d1 : decide ((p : Int) + n < s.size) = true := by simp; omega
            have HBh2 := Lib.hid (HBh.out h0)
            generalize runeN s (p + n : Nat) = rn at *
            go_wp2_with fail
            refine (HBh2.out _).mono ?_
            rintro e w2 ⟨rfl, hb⟩
            have hb2 := Lib.hid hb
            clear hb
            go_wp2_with fail
            go_meet
            obtain ⟨g3, g4, g5⟩ := H3.out
            exact ⟨rfl, g3.under hb2.out g3.lt, g4.under hb2.out g4.lt, chain (Nat.le_refl _) g5 hb2.out⟩
          · have d0 : decide (p + n < s.size) = false := by simpa using h0
            have d1 : decide ((p : Int) + n < s.size) = false := by simp; omega
            have hy := HBz.out h0
            go_wp2_with fail
            go_meet
            exact ⟨by rw [hy], H3.out⟩
        case rest =>
          obtain ⟨rfl, h3, h4, h5⟩ := hcut
          have H3 := Lib.hid (And.intro h3 (And.intro h4 h5))
          clear h3 h4 h5
          go_upto_region 12 with fail
          go_cut [9] from 79 to 94 (fun v wx => v = .bool (leanB bY my bx mx) ∧ wc = wx)
          case first =>
            have hcs : (bY = true) ∨ (bY = false ∧ my = false) ∨ (bY = false ∧ my = true ∧ bx = true) ∨ (bY = false ∧ my = true ∧ bx = false) := by cases bY <;> cases my <;> cases bx <;> simp
            rcases hcs with rfl | ⟨rfl, rfl⟩ | ⟨rfl, rfl, rfl⟩ | ⟨rfl, rfl, rfl⟩
            all_goals
              go_wp2_with (first | (with_reducible refine (HBY.out _).mono ?_; rintro e yw ⟨rfl, rfl⟩) | (with_reducible refine (HMY.out _).mono ?_; rintro e yw ⟨rfl, rfl⟩) | (with_reducible refine (HBX.out _).mono ?_; rintro e yw ⟨rfl, rfl⟩) | (with_reducible refine (HMX.out _).mono ?_; rintro e yw ⟨rfl, rfl⟩))
              go_meet
              exact ⟨rfl, rfl⟩
          case rest =>
            obtain ⟨rfl, rfl⟩ := hcut
            go_upto_region 13 with fail
            go_cut [10] from 95 to 110 (fun v wx => v = .bool (leanB bx mx bY my) ∧ wc = wx)
            case first =>
              have hcs : (bx = true) ∨ (bx = false ∧ mx = false) ∨ (bx = false ∧ mx = true ∧ bY = true) ∨ (bx = false ∧ mx = true ∧ bY = false) := by cases bx <;> cases mx <;> cases bY <;> simp
              rcases hcs with rfl | ⟨rfl, rfl⟩ | ⟨rfl, rfl, rfl⟩ | ⟨rfl, rfl, rfl⟩
              all_goals
                go_wp2_with (first | (with_reducible refine (HBX.out _).mono ?_; rintro e yw ⟨rfl, rfl⟩) | (with_reducible refine (HMX.out _).mono ?_; rintro e yw ⟨rfl, rfl⟩) | (with_reducible refine (HBY.out _).mono ?_; rintro e yw ⟨rfl, rfl⟩) | (with_reducible refine (HMY.out _).mono ?_; rintro e yw ⟨rfl, rfl⟩))
                go_meet
                exact ⟨rfl, rfl⟩
            case rest =>
              obtain ⟨rfl, rfl⟩ := hcut
              have hO : O = (leanB bY my bx mx && (!low || (!leanB bx mx bY my || mx))) := HO.out
              have hC : C = (leanB bx mx bY my && (!low || (!leanB bY my bx mx || my))) := HCl.out
              have HO2 := Lib.hid hO
              have HC2 := Lib.hid hC
              clear hO hC HO HCl
              generalize leanB bY my bx mx = l at *
              generalize leanB bx mx bY my = r at *
              obtain ⟨h3, h4, h5⟩ := H3.out
              have x0 : wc.cell? ⟨w.heap.size, 0, none⟩ = some (.int .u8 0) := h4.at 0
              have x1 : wc.cell? ⟨w.heap.size, 1, none⟩ = some (.int .i64 0) := h4.at 1
              have x2 : wc.cell? ⟨w.heap.size, 2, none⟩ = some (.bool false) := h4.at 2
              have x3 : wc.cell? ⟨w.heap.size, 3, none⟩ = some (.bool false) := h4.at 3
              have v0 := h4.soft 0
              have v1 := h4.soft 1
              have v2 := h4.soft 2
              have v3 := h4.soft 3
              have y0 : wc.cell? ⟨w.heap.size + 1, 0, none⟩ = some (.int .u8 c.toNat) := h3.at 0
              have y1 : wc.cell? ⟨w.heap.size + 1, 1, none⟩ = some (.int .i64 n) := h3.at 1
              have y2 : wc.cell? ⟨w.heap.size + 1, 2, none⟩ = some (.bool false) := h3.at 2
              have y3 : wc.cell? ⟨w.heap.size + 1, 3, none⟩ = some (.bool false) := h3.at 3
              have u0 := h3.soft 0
              have u1 := h3.soft 1
              have u2 := h3.soft 2
              have u3 := h3.soft 3
              clear h3 h4 h5
              go_upto_if 117 with fail
              generalize hw5 : World.setCell _ ⟨w.heap.size + 1, 3, none⟩ _ = w5
              obtain ⟨h3, h4, h5⟩ := H3.out
              have g3 : Holds w5 (w.heap.size + 1) 24 #[.int .u8 c.toNat, .int .i64 n, .bool l, .bool r] := by rw [← hw5]; exact (h3.set 2 _).set 3 _
              have n1 : ∀ i, w.heap.size ≠ (⟨w.heap.size + 1, i, none⟩ : Addr).block := fun i => by show _ ≠ w.heap.size + 1; omega
              have g4 : Holds w5 w.heap.size 24 #[.int .u8 0, .int .i64 0, .bool false, .bool false] := by rw [← hw5]; exact (h4.past (n1 2) _).past (n1 3) _
              have g5 : Below w.heap.size w w5 := by rw [← hw5]; exact below_cell (below_cell h5 (by omega) _) (by omega) _
              clear hw5 h3 h4 h5 H3 x0 x1 x2 x3 v0 v1 v2 v3 y0 y1 y2 y3 u0 u1 u2 u3
              have x0 : w5.cell? ⟨w.heap.size, 0, none⟩ = some (.int .u8 0) := g4.at 0
              have x1 : w5.cell? ⟨w.heap.size, 1, none⟩ = some (.int .i64 0) := g4.at 1
              have x2 : w5.cell? ⟨w.heap.size, 2, none⟩ = some (.bool false) := g4.at 2
              have x3 : w5.cell? ⟨w.heap.size, 3, none⟩ = some (.bool false) := g4.at 3
              have v0 := g4.soft 0
              have v1 := g4.soft 1
              have v2 := g4.soft 2
              have v3 := g4.soft 3
              have y0 : w5.cell? ⟨w.heap.size + 1, 0, none⟩ = some (.int .u8 c.toNat) := g3.at 0
              have y1 : w5.cell? ⟨w.heap.size + 1, 1, none⟩ = some (.int .i64 n) := g3.at 1
              have y2 : w5.cell? ⟨w.heap.size + 1, 2, none⟩ = some (.bool l) := g3.at 2
              have y3 : w5.cell? ⟨w.heap.size + 1, 3, none⟩ = some (.bool r) := g3.at 3
              have u2 := g3.soft 2
              have u3 := g3.soft 3
              have G5 := Lib.hid g5
              clear g3 g4 g5
              cases low <;> cases l <;> cases r
              all_goals
                go_wp2_with (first | (with_reducible refine (HMX.out _).mono ?_; rintro e yw ⟨rfl, rfl⟩) | (with_reducible refine (HMY.out _).mono ?_; rintro e yw ⟨rfl, rfl⟩))
                have hO := HO2.out
                have hC := HC2.out
                simp at hO hC
                exact bodyPost_ret (by simp [results, Try.results9, go_sem, x0, x1, x2, x3, hO, hC]) rfl ⟨rfl, by
                  have := G5.out
                  repeat (first | (with_reducible exact this) | refine below_cell ?_ (by omega) _)⟩
end Go.Proofs.Ythglejhhfnpdaaa
