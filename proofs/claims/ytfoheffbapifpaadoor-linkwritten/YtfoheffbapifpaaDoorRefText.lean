/-
  PROVED: contracts of the document's own Entity (at every place) and Plain: the text without backslashes and entities ('plG'). Conditions: the text has at most 2000000 bytes.
-/
import Derived.Test.YtfoheffbapifpaaDoorRefEntB
import Derived.Test.YtfoheffbapifpaaDoorPlain
namespace Go.Proofs.YtfoheffbapifpaaDoor
open Go.ChangeShapes Go.WideShapes Go.ChangeAt Go.RowKit Go.Sort
set_option linter.unusedVariables false

theorem refEnt_in (s : ByteArray) (p : Nat) (hp : p < s.size) (hs : s.size ≤ 2000000) (w : World) : Calls Tryd.prog 59 #[.string s, .int .i64 p] w (EntPost (entAt ((lst s).drop p)) w) := by
  have hn := (s[p]'hp).toNat_lt
  by_cases h38 : (s[p]'hp) = 38
  · by_cases h3 : p + 3 ≤ s.size
    · by_cases h35 : (s[p + 1]'(by omega)) = 35
      · by_cases hx : (s[p + 2]'(by omega)) = 120
        · exact refEnt_x s p h3 hs h38 h35 hx w
        by_cases hX : (s[p + 2]'(by omega)) = 88
        · exact refEnt_X s p h3 hs h38 h35 hX w
        exact refEnt_dec s p h3 hs h38 h35 hx hX w
      · exact refEnt_name s p h3 hs h38 h35 w
    · have HO : Hid (entAt ((lst s).drop p) = none) := ent_short _ (by rw [List.length_drop, lst_size]; omega)
      have c0 : (((s[p]'hp).toNat : Int) != 38) = false := by rw [h38]; decide
      generalize entAt ((lst s).drop p) = o at *
      clear h38
      go_enter Tryd.func59, Tryd.ntmps59
      go_wp2_with fail
      go_ret2
      exact post_nothing HO.out (Below.refl _ _)
  · have HO : Hid (entAt ((lst s).drop p) = none) := show entAt ((lst s).drop p) = none from by rw [lst_at s p hp, entAt_not _ _ h38]
    have c0 : (((s[p]'hp).toNat : Int) != 38) = true := by have := ne_u8 _ 38 (by decide) h38; rw [bne_iff_ne]; omega
    generalize entAt ((lst s).drop p) = o at *
    clear h38
    go_enter Tryd.func59, Tryd.ntmps59
    go_wp2_with fail
    go_ret2
    exact post_nothing HO.out (Below.refl _ _)

theorem newsB (w : World) (l : List UInt8) : ∀ j u, (Lib.byteCells l)[j]? = some u → (w.alloc (.cells (Lib.byteCells l).toArray 5)).cell? ((⟨w.heap.size, 0, none⟩ : Addr).add j) = some u := by
  intro j u hj
  have e : (⟨w.heap.size, 0, none⟩ : Addr).add j = ⟨w.heap.size, j, none⟩ := by
    unfold Addr.add
    split
    · rename_i h; subst h; rfl
    · simp
  rw [e]
  simpa using hj
/-- What the loops of the document's Plain, Html and Url go by. -/
def BRel (f : List UInt8 → List UInt8) (c : ByteArray) (W : World) (v i : Value) (wr : World) : Prop :=
  ∃ (p : Nat) (acc : List UInt8), p ≤ c.size ∧ i = .int .i64 p ∧ acc ++ f ((lst c).drop p) = f (lst c) ∧ acc.length ≤ 6 * p ∧ wr.ownsRow W.heap.size 5 1 v acc.length (Lib.byteCells acc) ∧ v ≠ .slice none 0 0 ∧ Below W.heap.size W wr
theorem brel_step {f : List UInt8 → List UInt8} {c : ByteArray} {W w2 : World} {v : Value} {p n : Nat} {z : Int} {acc x : List UInt8} (hz : z = (p : Int) + n) (hpn : p + n ≤ c.size) (hx : x.length ≤ 6 * n) (ha : acc ++ f ((lst c).drop p) = f (lst c)) (hl : acc.length ≤ 6 * p) (hf : f ((lst c).drop p) = x ++ f ((lst c).drop (p + n)))
    (ho : w2.ownsRow W.heap.size 5 1 v (acc.length + x.length) (Lib.byteCells acc ++ Lib.byteCells x)) (hv : v ≠ .slice none 0 0) (hb : Below W.heap.size W w2) : BRel f c W v (.int .i64 z) w2 := by
  refine ⟨p + n, acc ++ x, hpn, by rw [hz, Int.natCast_add], ?_, by rw [List.length_append]; omega, ?_, hv, hb⟩
  · rw [List.append_assoc, ← hf, ha]
  · rw [List.length_append, Lib.byteCells_append]; exact ho
theorem strx {l : List UInt8} {X : ByteArray} (h : lst X = l) : Lib.strCells X = Lib.byteCells l := by rw [Lib.strCells_eq]; exact congrArg _ h

set_option maxHeartbeats 8000000 in
set_option maxRecDepth 100000 in
theorem refPlain_text (s : ByteArray) (hs : s.size ≤ 2000000) (w : World) : Calls Tryd.prog 28 #[.string s] w fun e w' => e = .returned (.string ⟨(plG 0 (lst s)).toArray⟩) ∧ Below w.heap.size w w' := by
  obtain ⟨i0, hi, hz0, hz1, hz2⟩ := info_parts Tryd.info5
  go_enter Tryd.func28, Tryd.ntmps28
  go_wp2_with fail
  go_loopw [3, 4] (fun v i wr => BRel (plG 0) s w v i wr) (fun _ i _ => s.size - (intOf i).toNat)
  case atStart => exact ⟨0, [], Nat.zero_le _, rfl, rfl, by simp, own_empty5 _ _ (Nat.le_refl _), (fun h => by cases h), (Below.refl _ _).alloc (Nat.le_refl _) _⟩
  case round =>
    obtain ⟨p, acc, hp, rfl, hacc, hal, hown0, hnil, hB0⟩ := hrel
    have hBz := hB0.size
    have HNIL := Lib.hid hnil
    by_cases hlt : p < s.size
    · have hn := (s[p]'hlt).toNat_lt
      have hne : (lst s).drop p ≠ [] := by rw [lst_at s p hlt]; simp
      have hgo := plG_go ((lst s).drop p) hne
      rw [List.drop_drop] at hgo
      have HS := Lib.hid (fun (w2 : World) (v : Value) (x : List UInt8) (n : Nat) (z : Int) (ht : told ((lst s).drop p) = (x, n)) (hz : z = (p : Int) + n) (hpn : p + n ≤ s.size) (ho : w2.ownsRow w.heap.size 5 1 v (acc.length + x.length) (Lib.byteCells acc ++ Lib.byteCells x)) (hv : v ≠ .slice none 0 0) (hb : Below w.heap.size w w2) => brel_step (f := plG 0) (n := n) (x := x) hz hpn (by have h4 := told_len ((lst s).drop p); have h1 := told_pos ((lst s).drop p); rw [ht] at h4 h1; simp only [] at h4 h1; omega) hacc hal (by rw [hgo, ht]) ho hv hb)
      have hE := fun W => refEnt_in s p hlt hs W
      clear hgo hne hacc
      cases he : entAt ((lst s).drop p) with
      | some q =>
        obtain ⟨v, n⟩ := q
        rw [he] at hE
        have hbd := entAt_bd _ v n he
        rw [List.length_drop, lst_size] at hbd
        have hesc : escd ((lst s).drop p) = false := by
          obtain ⟨wd, r, h1, _⟩ := (entAt_iff _ v n).1 he
          rw [h1]
          cases wd <;> rfl
        have HT := Lib.hid (told_ent _ _ hesc he)
        have hl4 := (chr_len v).2
        obtain ⟨X, hX, hX2⟩ := made (chr v)
        have HE : Hid (∀ W, Calls Tryd.prog 59 #[.string s, .int .i64 p] W fun e w' => e = .returned (.tuple #[.string X, .int .i64 n]) ∧ Below W.heap.size W w') := fun W => by
          have := hE W
          unfold EntPost at this
          rw [show entB (some (v, n)) = chr v from rfl, hX2] at this
          exact this
        have HX := Lib.hid hX
        have hXs : X.size = (chr v).length := by rw [← lst_size, hX]
        have HXS := Lib.hid hXs
        have hX4 : X.size ≤ 4 := by omega
        clear hE he hesc hX hX2 hXs
        generalize chr v = x at *
        go_wp2_with fail
        refine (HE.out _).mono ?_
        rintro e w1 ⟨rfl, hb⟩
        have hown := own_below hown0 hb
        have hB1 : Below w.heap.size w w1 := hB0.trans (hb.mono hBz)
        have hz1' := hB1.size
        clear HE hb hown0 hB0
        go_wp2_with (at_builtin; refine Lib.wpList_append_own_string _ rfl _ _ 43 9 rfl w.heap.size 5 i0 Tryd.underlying43 Tryd.underlying9 hi hz0 hz1 hz2 _ _ _ rfl hown X rfl (by unfold maxLen; omega) (by omega) (by omega) ?_)
        intro v' w2 hown' hgrow hiff
        have hge := own_block_ge hown
        have HR := Lib.hid (HS.out w2 v' x n _ HT.out rfl (by omega) (by rw [HXS.out, strx HX.out] at hown'; exact hown') (by first | exact hiff | exact fun hv => HNIL.out (hiff.1 hv).1) (hB1.grown hgrow (by omega) (fun k hk => (hge k hk).1)))
        clear hown' hgrow hown hiff hge hB1 HS HT
        go_wp2_with fail
        go_roundw
        case rel => exact HR.out
        case measure => simp [intOf]; omega
      | none =>
        rw [he] at hE
        have HE : Hid (∀ W, Calls Tryd.prog 59 #[.string s, .int .i64 p] W fun e w' => e = .returned (.tuple #[.string { data := #[] }, .int .i64 0]) ∧ Below W.heap.size W w') := fun W => hE W
        have hnone := he
        clear hE he
        by_cases h92 : (s[p]'hlt) = 92
        · have c0 : (((s[p]'hlt).toNat : Int) == 92) = true := by rw [h92]; decide
          by_cases hp1 : p + 1 < s.size
          · have hP := fun W => refPlain_any ((s[p + 1]'hp1).toNat : Int) W
            have hesc : escd ((lst s).drop p) = pl (s[p + 1]'hp1) := by
              rw [lst_at s p hlt, lst_at s (p + 1) hp1, h92]
              simp [escd]
            cases hpl : pl (s[p + 1]'hp1) with
            | true =>
              rw [hpl] at hesc
              have HP : Hid (∀ W, Calls Tryd.prog 57 #[.int .u8 (s[p + 1]'hp1).toNat] W fun e w' => e = .returned (.bool true) ∧ w' = W) := fun W => by
                have := hP W
                rw [show inSps ((s[p + 1]'hp1).toNat : Int) plainL = true from hpl] at this
                exact this
              have HT : Hid (told ((lst s).drop p) = ([s[p + 1]'hp1], 2)) := show told ((lst s).drop p) = _ from by
                rw [told_esc _ hesc, List.drop_drop, lst_at s (p + 1) hp1]
                rfl
              clear hP hesc hpl hnone h92
              go_wp2_with fail
              refine (HE.out _).mono ?_
              rintro e w1 ⟨rfl, hb⟩
              have hown := own_below hown0 hb
              have hB1 : Below w.heap.size w w1 := hB0.trans (hb.mono hBz)
              have hz1' := hB1.size
              clear HE hb hown0 hB0
              go_wp2_with fail
              refine (HP.out _).mono ?_
              rintro e w2 ⟨rfl, rfl⟩
              clear HP
              go_wp2_with (at_builtin; refine wpList_append_own _ rfl _ _ 43 rfl w.heap.size 5 i0 (.int .u8 0) 1 1 Tryd.underlying43 hi hz0 hz1 hz2 rfl (by decide) _ _ _ rfl (hown.alloc _) ⟨w2.heap.size, 0, none⟩ 1 1 (Lib.byteCells [s[p + 1]'hp1]) rfl rfl (newsB _ [s[p + 1]'hp1]) (bytes_one _) (by unfold maxLen; omega) (by omega) (by simp; omega) ?_)
              intro v' w3 hown' hgrow hiff
              have hge := own_block_ge hown
              have HR := Lib.hid (HS.out w3 v' _ 2 _ HT.out rfl (by omega) hown' (by first | exact hiff | exact fun hv => HNIL.out (hiff.1 hv).1) ((hB1.alloc (by omega) _).grown hgrow (by simp; omega) (fun k hk => (hge k hk).1)))
              clear hown' hgrow hown hiff hge hB1 HS HT
              go_wp2_with fail
              go_roundw
              case rel => exact HR.out
              case measure => simp [intOf]; omega
            | false =>
              rw [hpl] at hesc
              have HP : Hid (∀ W, Calls Tryd.prog 57 #[.int .u8 (s[p + 1]'hp1).toNat] W fun e w' => e = .returned (.bool false) ∧ w' = W) := fun W => by
                have := hP W
                rw [show inSps ((s[p + 1]'hp1).toNat : Int) plainL = false from hpl] at this
                exact this
              have HT : Hid (told ((lst s).drop p) = ([s[p]'hlt], 1)) := show told ((lst s).drop p) = _ from by
                rw [told_none _ hesc hnone, lst_at s p hlt]
                rfl
              clear hP hesc hpl hnone h92
              go_wp2_with fail
              refine (HE.out _).mono ?_
              rintro e w1 ⟨rfl, hb⟩
              have hown := own_below hown0 hb
              have hB1 : Below w.heap.size w w1 := hB0.trans (hb.mono hBz)
              have hz1' := hB1.size
              clear HE hb hown0 hB0
              go_wp2_with fail
              refine (HP.out _).mono ?_
              rintro e w2 ⟨rfl, rfl⟩
              clear HP
              go_wp2_with (at_builtin; refine wpList_append_own _ rfl _ _ 43 rfl w.heap.size 5 i0 (.int .u8 0) 1 1 Tryd.underlying43 hi hz0 hz1 hz2 rfl (by decide) _ _ _ rfl (hown.alloc _) ⟨w2.heap.size, 0, none⟩ 1 1 (Lib.byteCells [s[p]'hlt]) rfl rfl (newsB _ [s[p]'hlt]) (bytes_one _) (by unfold maxLen; omega) (by omega) (by simp; omega) ?_)
              intro v' w3 hown' hgrow hiff
              have hge := own_block_ge hown
              have HR := Lib.hid (HS.out w3 v' _ 1 _ HT.out rfl (by omega) hown' (by first | exact hiff | exact fun hv => HNIL.out (hiff.1 hv).1) ((hB1.alloc (by omega) _).grown hgrow (by simp; omega) (fun k hk => (hge k hk).1)))
              clear hown' hgrow hown hiff hge hB1 HS HT
              go_wp2_with fail
              go_roundw
              case rel => exact HR.out
              case measure => simp [intOf]; omega
          · have HT : Hid (told ((lst s).drop p) = ([s[p]'hlt], 1)) := show told ((lst s).drop p) = _ from by
              have hesc : escd ((lst s).drop p) = false := by rw [lst_at s p hlt, lst_out s (p + 1) (by omega)]; rfl
              rw [told_none _ hesc hnone, lst_at s p hlt]
              rfl
            clear hnone h92
            go_wp2_with fail
            refine (HE.out _).mono ?_
            rintro e w1 ⟨rfl, hb⟩
            have hown := own_below hown0 hb
            have hB1 : Below w.heap.size w w1 := hB0.trans (hb.mono hBz)
            have hz1' := hB1.size
            clear HE hb hown0 hB0
            obtain ⟨w2, rfl⟩ : ∃ w2, w2 = w1 := ⟨w1, rfl⟩
            go_wp2_with (at_builtin; refine wpList_append_own _ rfl _ _ 43 rfl w.heap.size 5 i0 (.int .u8 0) 1 1 Tryd.underlying43 hi hz0 hz1 hz2 rfl (by decide) _ _ _ rfl (hown.alloc _) ⟨w2.heap.size, 0, none⟩ 1 1 (Lib.byteCells [s[p]'hlt]) rfl rfl (newsB _ [s[p]'hlt]) (bytes_one _) (by unfold maxLen; omega) (by omega) (by simp; omega) ?_)
            intro v' w3 hown' hgrow hiff
            have hge := own_block_ge hown
            have HR := Lib.hid (HS.out w3 v' _ 1 _ HT.out rfl (by omega) hown' (by first | exact hiff | exact fun hv => HNIL.out (hiff.1 hv).1) ((hB1.alloc (by omega) _).grown hgrow (by simp; omega) (fun k hk => (hge k hk).1)))
            clear hown' hgrow hown hiff hge hB1 HS HT
            go_wp2_with fail
            go_roundw
            case rel => exact HR.out
            case measure => simp [intOf]; omega
        · have c0 : (((s[p]'hlt).toNat : Int) == 92) = false := by have := ne_u8 _ 92 (by decide) h92; rw [beq_eq_false_iff_ne]; omega
          have HT : Hid (told ((lst s).drop p) = ([s[p]'hlt], 1)) := show told ((lst s).drop p) = _ from by
            have hesc : escd ((lst s).drop p) = false := by
              rw [lst_at s p hlt]
              have h' : ((s[p]'hlt) == 92) = false := by simpa using h92
              cases (lst s).drop (p + 1) with
              | nil => rfl
              | cons y l => show ((s[p]'hlt) == 92 && pl y) = false; rw [h']; rfl
            rw [told_none _ hesc hnone, lst_at s p hlt]
            rfl
          clear hnone h92
          go_wp2_with fail
          refine (HE.out _).mono ?_
          rintro e w1 ⟨rfl, hb⟩
          have hown := own_below hown0 hb
          have hB1 : Below w.heap.size w w1 := hB0.trans (hb.mono hBz)
          have hz1' := hB1.size
          clear HE hb hown0 hB0
          obtain ⟨w2, rfl⟩ : ∃ w2, w2 = w1 := ⟨w1, rfl⟩
          go_wp2_with (at_builtin; refine wpList_append_own _ rfl _ _ 43 rfl w.heap.size 5 i0 (.int .u8 0) 1 1 Tryd.underlying43 hi hz0 hz1 hz2 rfl (by decide) _ _ _ rfl (hown.alloc _) ⟨w2.heap.size, 0, none⟩ 1 1 (Lib.byteCells [s[p]'hlt]) rfl rfl (newsB _ [s[p]'hlt]) (bytes_one _) (by unfold maxLen; omega) (by omega) (by simp; omega) ?_)
          intro v' w3 hown' hgrow hiff
          have hge := own_block_ge hown
          have HR := Lib.hid (HS.out w3 v' _ 1 _ HT.out rfl (by omega) hown' (by first | exact hiff | exact fun hv => HNIL.out (hiff.1 hv).1) ((hB1.alloc (by omega) _).grown hgrow (by simp; omega) (fun k hk => (hge k hk).1)))
          clear hown' hgrow hown hiff hge hB1 HS HT
          go_wp2_with fail
          go_roundw
          case rel => exact HR.out
          case measure => simp [intOf]; omega
    · obtain ⟨a, c, rfl, hconv⟩ := own_string hown0 hnil
      have h1 := hacc
      rw [lst_out s p (by omega), show plG 0 [] = [] from rfl, List.append_nil] at h1
      have H1 := Lib.hid h1
      clear h1 hacc hnil
      go_wp2_with fail
      go_ret
      rw [← H1.out]
      exact ⟨rfl, hB0⟩
end Go.Proofs.YtfoheffbapifpaaDoor
