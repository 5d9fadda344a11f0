/-
  PROVED: stetlaw06.alive returns true; what the rows list gives the tables' cells; a world in which the listed variables hold what the rows list. Conditions: the tables of the package and those of unicode/utf8 hold what their initialisers lay.
-/
import Derived.Test.YtdnnjakggopdoaaDoorKind
import Derived.Test.YtdnnjakggopdoaaDoorEnds
import Derived.Test.YtdnnjakggopdoaaDoorRaw
import Derived.Test.YtdnnjakggopdoaaDoorShelfMap
import Derived.LaidMore
import Derived.Stop.Joined
import Derived.MakeChecks
import Derived.PinnedBridge
import Derived.Lib.LaidIn
import Derived.Lib.LaidU8
import Derived.Shelf.Vars
import Derived.Deep.Strs
namespace Go.Proofs.YtdnnjakggopdoaaDoor
open Go.ChangeShapes Go.WideShapes Go.ChangeAt Go.RowKit Go.Shelf
set_option linter.unusedVariables false
set_option linter.unusedSimpArgs false

theorem own : ownKnob Tryd.prog.godebug = none := by kernel_rfl
/-- What the rows list. -/
def laid5 : List (String × DataW Unit) := [("unicode/utf8.acceptRanges", Rows.laid_unicode_utf8_acceptRanges), ("stet/tag.others", Rows.laid_stet_tag_others), ("stet/tag.verbatims", Rows.laid_stet_tag_verbatims), ("stet/tag.shortComments", Rows.laid_stet_tag_shortComments), ("unicode/utf8.first", Rows.laid_unicode_utf8_first)]
/-- A world that meets the condition: the settled one, the variables' cells laid. -/
noncomputable def laidWorld (os : Os) : World :=
  let w0 := World.holding Tryd.prog os ⟨#[], #[], []⟩
  let put (h : Array Obj) (g : Nat) (cs : Array Value) : Array Obj := h.modify g fun
    | .cells _ t frozen => .cells cs t frozen
    | o => o
  let h1 := put w0.heap 4 (Lib.firstTab.map fun z => Value.int .u8 z).toArray
  let h2 := put h1 5 ((List.range 16).flatMap fun i => [Value.int .u8 (Lib.accLo i), Value.int .u8 (Lib.accHi i)]).toArray
  let h3 := put h2 0 #[.string { data := #[60, 33, 45, 45, 62] }, .string { data := #[60, 33, 45, 45, 45, 62] }]
  let h4 := put h3 1 #[.string { data := #[60, 33, 45, 45] }, .bool false, .string { data := #[45, 45, 62] }, .string { data := #[60, 63] }, .bool false, .string { data := #[63, 62] }, .string { data := #[60, 33] }, .bool true, .string { data := #[62] }, .string { data := #[60, 33, 91, 67, 68, 65, 84, 65, 91] }, .bool false, .string { data := #[93, 93, 62] }]
  let h5 := put h4 2 #[.string { data := #[60, 112, 114, 101] }, .bool false, .string { data := #[60, 47, 112, 114, 101, 62] }, .string { data := #[60, 115, 99, 114, 105, 112, 116] }, .bool false, .string { data := #[60, 47, 115, 99, 114, 105, 112, 116, 62] }, .string { data := #[60, 115, 116, 121, 108, 101] }, .bool false, .string { data := #[60, 47, 115, 116, 121, 108, 101, 62] }, .string { data := #[60, 116, 101, 120, 116, 97, 114, 101, 97] }, .bool false, .string { data := #[60, 47, 116, 101, 120, 116, 97, 114, 101, 97, 62] }]
  { w0 with heap := h5 }
theorem laid_in (os : Os) (args : Array Value) : LaidIn Tryd.prog ((laidWorld os).forCall (fun _ _ => 0) ⟨#[], args, []⟩).memory laid5 [5, 1, 2, 0, 4] :=
  LaidIn.of_run [5, 1, 2, 0, 4] 8 (by kernel_rfl) (by kernel_rfl) (by kernel_rfl) (by kernel_rfl)
theorem laid_met (os : Os) (args : Array Value) : laidMetH Tryd.prog laid5 ((laidWorld os).forCall (fun _ _ => 0) ⟨#[], args, []⟩).memory := by
  rw [MakeChecks.laidMetH_plain _ _ _ (by kernel_rfl)]
  exact (laid_in os args).met

theorem first_eq : Rows.laid_unicode_utf8_first = Lib.firstData := Pinned.utf8First_eq
theorem accept_eq : (Rows.laid_unicode_utf8_acceptRanges : DataW Unit) = Lib.acceptData := by kernel_rfl

theorem str_of {W : World} {fuel : Nat} {cs : List Value} {l : List UInt8} {q : List MemPlace} (h : DataW.trod (fun _ => ()) Tryd.prog W 0 (fun _ => true) false fuel 9 cs = some (.lit (.string l), q)) : cs = [.string ⟨l.toArray⟩] := by
  obtain ⟨s, rfl, hx, _⟩ := DataW.trod_string Tryd.underlying9 h
  have e := (Prod.mk.inj hx).1
  simp only [DataW.lit.injEq, Lit.string.injEq] at e
  rw [e, show (ByteArray.mk s.data.toList.toArray) = s from Lib.mk_data s]
theorem bool_of {W : World} {fuel : Nat} {cs : List Value} {b : Bool} {q : List MemPlace} (h : DataW.trod (fun _ => ()) Tryd.prog W 0 (fun _ => true) false fuel 4 cs = some (.lit (.bool b), q)) : cs = [.bool b] := by
  obtain ⟨s, rfl, hx⟩ := DataW.trod_bool Tryd.underlying4 h
  have e := (Prod.mk.inj hx).1
  simp only [DataW.lit.injEq, Lit.bool.injEq] at e
  rw [e]
theorem take_one {cs : List Value} {k : Nat} {v : Value} (h : (cs.drop k).take 1 = [v]) : cs[k]? = some v := by
  have := congrArg (·[0]?) h
  simpa [List.getElem?_take, List.getElem?_drop] using this
theorem cells32 : Tryd.prog.cellsOf 32 = 3 := by kernel_rfl
theorem cells9 : Tryd.prog.cellsOf 9 = 1 := by kernel_rfl
theorem cells4 : Tryd.prog.cellsOf 4 = 1 := by kernel_rfl
/-- One of the tables' rows: its three cells. -/
theorem row_of {W : World} {fuel : Nat} {cs : List Value} {b e : List UInt8} {t : Bool} {q : List MemPlace} {i : Nat} (h : DataW.trod (fun _ => ()) Tryd.prog W 0 (fun _ => true) false fuel 32 ((cs.drop (i * 3)).take 3) = some (.agg [.lit (.string b), .lit (.bool t), .lit (.string e)], q)) :
    cs[i * 3]? = some (.string ⟨b.toArray⟩) ∧ cs[i * 3 + 1]? = some (.bool t) ∧ cs[i * 3 + 2]? = some (.string ⟨e.toArray⟩) := by
  obtain ⟨y0, y1, y2, n, hx, hl, f0, f1, f2⟩ := Deep.trod_struct3 Tryd.underlying32 h
  have e3 := DataW.agg.inj (Prod.mk.inj hx).1
  simp only [List.cons.injEq, and_true] at e3
  obtain ⟨d0, p0⟩ := y0
  obtain ⟨d1, p1⟩ := y1
  obtain ⟨d2, p2⟩ := y2
  obtain ⟨rfl, rfl, rfl⟩ := e3
  have s0 := str_of f0
  have s1 := bool_of f1
  have s2 := str_of f2
  rw [cells9] at s0 s2
  rw [cells4] at s1
  have g0 := take_one s0
  have g1 := take_one s1
  have g2 := take_one s2
  simp [List.getElem?_take, List.getElem?_drop] at g0 g1 g2
  exact ⟨g0, g1, g2⟩
theorem tab_of {W : World} {n : String} {g : Nat} {ds : List (DataW Unit)} (hg : Tryd.prog.globalNamed n = some g) (ht : (Tryd.prog.globals[g]?).map (·.type) = some 33) (h : Lib.VarReads Tryd.prog W n (.agg ds))
    (i : Nat) (hi : i < 4) (b e : List UInt8) (t : Bool) (hd : ds[i]? = some (.agg [.lit (.string b), .lit (.bool t), .lit (.string e)])) :
    W.cell? ⟨g, i * 3, none⟩ = some (.string ⟨b.toArray⟩) ∧ W.cell? ⟨g, i * 3 + 1, none⟩ = some (.bool t) ∧ W.cell? ⟨g, i * 3 + 2, none⟩ = some (.string ⟨e.toArray⟩) := by
  obtain ⟨g', t', cs, fuel, p, hg', hty, hvar, htr⟩ := h
  obtain rfl := Option.some.inj (hg.symm.trans hg')
  obtain rfl := Option.some.inj (ht.symm.trans hty)
  obtain ⟨fuel', d, q, hdi, he⟩ := Lib.array_elem Tryd.underlying33 htr i hi
  obtain rfl := Option.some.inj (hd.symm.trans hdi)
  rw [cells32] at he
  have hr := row_of he
  have hc := World.var?_cell hg hvar
  rw [hc, hc, hc, ← Array.getElem?_toList, ← Array.getElem?_toList, ← Array.getElem?_toList]
  exact hr
theorem shorts_of {W : World} {ds : List (DataW Unit)} (h : Lib.VarReads Tryd.prog W "stet/tag.shortComments" (.agg ds)) (i : Nat) (hi : i < 2) (b : List UInt8) (hd : ds[i]? = some (.lit (.string b))) : W.cell? ⟨0, i, none⟩ = some (.string ⟨b.toArray⟩) := by
  obtain ⟨g', t', cs, fuel, p, hg', hty, hvar, htr⟩ := h
  obtain rfl := Option.some.inj ((show Tryd.prog.globalNamed "stet/tag.shortComments" = some 0 by kernel_rfl).symm.trans hg')
  obtain rfl := Option.some.inj ((show (Tryd.prog.globals[0]?).map (·.type) = some 30 by kernel_rfl).symm.trans hty)
  obtain ⟨fuel', d, q, hdi, he⟩ := Lib.array_elem Tryd.underlying30 htr i hi
  obtain rfl := Option.some.inj (hd.symm.trans hdi)
  rw [cells9, Nat.mul_one] at he
  have hr := take_one (str_of he)
  rw [World.var?_cell hg' hvar, ← Array.getElem?_toList]
  exact hr

/-- What the condition gives the walks. -/
theorem glob_of {W : World} (h : laidMetH Tryd.prog laid5 W) (hsh : W.ShapedOpen Tryd.prog) (hz : 6 ≤ W.heap.size) : Glob W := by
  rw [MakeChecks.laidMetH_plain _ _ _ (by kernel_rfl)] at h
  have ha := Lib.laidMet.reads h (.head _)
  have ho := Lib.laidMet.reads h (.tail _ (.head _))
  have hv := Lib.laidMet.reads h (.tail _ (.tail _ (.head _)))
  have hc := Lib.laidMet.reads h (.tail _ (.tail _ (.tail _ (.head _))))
  have hf := Lib.laidMet.reads h (.tail _ (.tail _ (.tail _ (.tail _ (.head _)))))
  rw [accept_eq] at ha
  rw [first_eq] at hf
  have gO : Tryd.prog.globalNamed "stet/tag.others" = some 1 := by kernel_rfl
  have gV : Tryd.prog.globalNamed "stet/tag.verbatims" = some 2 := by kernel_rfl
  have tO : (Tryd.prog.globals[1]?).map (·.type) = some 33 := by kernel_rfl
  have tV : (Tryd.prog.globals[2]?).map (·.type) = some 33 := by kernel_rfl
  obtain ⟨o0, o1, o2⟩ := tab_of gO tO ho 0 (by omega) _ _ _ rfl
  obtain ⟨v0, v1, v2⟩ := tab_of gV tV hv 0 (by omega) _ _ _ rfl
  obtain ⟨o3, o4, o5⟩ := tab_of gO tO ho 1 (by omega) _ _ _ rfl
  obtain ⟨v3, v4, v5⟩ := tab_of gV tV hv 1 (by omega) _ _ _ rfl
  obtain ⟨o6, o7, o8⟩ := tab_of gO tO ho 2 (by omega) _ _ _ rfl
  obtain ⟨v6, v7, v8⟩ := tab_of gV tV hv 2 (by omega) _ _ _ rfl
  obtain ⟨o9, o10, o11⟩ := tab_of gO tO ho 3 (by omega) _ _ _ rfl
  obtain ⟨v9, v10, v11⟩ := tab_of gV tV hv 3 (by omega) _ _ _ rfl
  have c0 := shorts_of hc 0 (by omega) _ rfl
  have c1 := shorts_of hc 1 (by omega) _ rfl
  exact ⟨c0, c1, o0, o1, o2, o3, o4, o5, o6, o7, o8, o9, o10, o11, v0, v1, v2, v3, v4, v5, v6, v7, v8, v9, v10, v11,
    cell_of_shapedOpen_int (P := Tryd.prog) (g := 3) (t := 3) (zero := #[.int .i64 0]) hsh (of_decide_eq_true (by kernel_rfl)) (by kernel_rfl) rfl (by kernel_rfl) (by kernel_rfl) Tryd.underlying3,
    utf8Tabs_of_reads (ρ := Tryd.ren) { Tryd.lays230 with } ⟨by kernel_rfl, by kernel_rfl, by kernel_rfl, by kernel_rfl, by kernel_rfl, by kernel_rfl, by kernel_rfl⟩ hf ha, hz⟩

theorem i64_bd {a : Int} (h : (Lit.int .i64 a).wf = true) : -9223372036854775808 ≤ a ∧ a ≤ 9223372036854775807 := by
  unfold Lit.wf at h
  rw [Bool.and_eq_true, decide_eq_true_iff, decide_eq_true_iff] at h
  exact h
theorem tagAt_eq (m : List UInt8) (n : Nat) : tagAt m n = (isTag ((m.take n).map lowb) && (endsN (m.drop n) || Lib.hasPrefix (m.drop n) [47, 62])) := by unfold tagAt; rw [tag_same]
theorem lit_r0 (w : World) (hG : Glob w) : Calls Tryd.prog 9 #[.string { data := #[60, 97, 32, 98, 61, 39, 99, 39, 32, 100, 62, 120] }] w fun e w' => e = .returned (.int .i64 11) ∧ RowKit.Below w.heap.size w w' := by
  have h := raw_any { data := #[60, 97, 32, 98, 61, 39, 99, 39, 32, 100, 62, 120] } (by decide) w hG
  rw [show (rawL (lst { data := #[60, 97, 32, 98, 61, 39, 99, 39, 32, 100, 62, 120] }) : Int) = 11 from by decide +kernel] at h
  exact h
theorem lit_r1 (w : World) (hG : Glob w) : Calls Tryd.prog 9 #[.string { data := #[97] }] w fun e w' => e = .returned (.int .i64 0) ∧ RowKit.Below w.heap.size w w' := by
  have h := raw_any { data := #[97] } (by decide) w hG
  rw [show (rawL (lst { data := #[97] }) : Int) = 0 from by decide +kernel] at h
  exact h
theorem lit_p0 (w : World) : Calls Tryd.prog 11 #[.string { data := #[60, 47, 97, 32, 62] }] w fun e w' => e = .returned (.int .i64 5) ∧ RowKit.Below w.heap.size w w' := by
  have h := open_any { data := #[60, 47, 97, 32, 62] } (by decide) w
  rw [show (openL (lst { data := #[60, 47, 97, 32, 62] }) : Int) = 5 from by decide +kernel] at h
  exact h
theorem lit_k0 (w : World) (hG : Glob w) : Calls Tryd.prog 13 #[.string { data := #[60, 47, 100, 105, 118, 62] }] w fun e w' => e = .returned (.int .i64 6) ∧ RowKit.Below w.heap.size w w' := by
  have h := kind_any { data := #[60, 47, 100, 105, 118, 62] } (by decide) w hG
  rw [show (kindL (lst { data := #[60, 47, 100, 105, 118, 62] }) : Int) = 6 from by
    unfold kindL begB
    rw [tagAt_eq]
    decide +kernel] at h
  exact h
theorem lit_k1 (w : World) (hG : Glob w) : Calls Tryd.prog 13 #[.string { data := #[60, 98, 62] }] w fun e w' => e = .returned (.int .i64 7) ∧ RowKit.Below w.heap.size w w' := by
  have h := kind_any { data := #[60, 98, 62] } (by decide) w hG
  rw [show (kindL (lst { data := #[60, 98, 62] }) : Int) = 7 from by
    unfold kindL begB
    rw [tagAt_eq]
    decide +kernel] at h
  exact h
theorem lit_k2 (w : World) (hG : Glob w) : Calls Tryd.prog 13 #[.string { data := #[60, 98, 62, 120] }] w fun e w' => e = .returned (.int .i64 0) ∧ RowKit.Below w.heap.size w w' := by
  have h := kind_any { data := #[60, 98, 62, 120] } (by decide) w hG
  rw [show (kindL (lst { data := #[60, 98, 62, 120] }) : Int) = 0 from by
    unfold kindL begB
    rw [tagAt_eq]
    decide +kernel] at h
  exact h
theorem lit_e0 (w : World) (hG : Glob w) : Calls Tryd.prog 15 #[.string { data := #[120, 45, 45, 62] }, .int .i64 2] w fun e w' => e = .returned (.bool true) ∧ RowKit.Below w.heap.size w w' := by
  have h := ends_any { data := #[120, 45, 45, 62] } (by decide) 2 (by decide) w hG
  rw [show endsL (lst { data := #[120, 45, 45, 62] }) 2 = true from by decide +kernel] at h
  exact h
theorem lit_e1 (w : World) (hG : Glob w) : Calls Tryd.prog 15 #[.string { data := #[120] }, .int .i64 2] w fun e w' => e = .returned (.bool false) ∧ RowKit.Below w.heap.size w w' := by
  have h := ends_any { data := #[120] } (by decide) 2 (by decide) w hG
  rw [show endsL (lst { data := #[120] }) 2 = false from by decide +kernel] at h
  exact h

set_option maxHeartbeats 4000000 in
theorem alive_any (w : World) (hG : Glob w) : Calls Tryd.prog 8 #[] w fun e w' => e = .returned (.bool true) ∧ RowKit.Below w.heap.size w w' := by
  have HG := Lib.hid (fun w' (hb : RowKit.Below w.heap.size w w') => hG.under hb)
  have HG0 := Lib.hid hG
  clear hG
  go_enter Tryd.func8, Tryd.ntmps8
  go_wp2_with fail
  refine (lit_r0 _ HG0.out).mono ?_
  rintro e w1 ⟨rfl, hb⟩
  have B1 := Lib.hid hb
  have G1 := Lib.hid (HG.out _ B1.out)
  clear hb
  go_wp2_with fail
  refine (lit_r1 _ G1.out).mono ?_
  rintro e w2 ⟨rfl, hb⟩
  have B2 := Lib.hid (chain (Nat.le_refl _) B1.out hb)
  have G2 := Lib.hid (HG.out _ B2.out)
  clear hb
  go_wp2_with fail
  refine (lit_p0 _).mono ?_
  rintro e w3 ⟨rfl, hb⟩
  have B3 := Lib.hid (chain (Nat.le_refl _) B2.out hb)
  have G3 := Lib.hid (HG.out _ B3.out)
  clear hb
  go_wp2_with fail
  refine (lit_k0 _ G3.out).mono ?_
  rintro e w4 ⟨rfl, hb⟩
  have B4 := Lib.hid (chain (Nat.le_refl _) B3.out hb)
  have G4 := Lib.hid (HG.out _ B4.out)
  clear hb
  go_wp2_with fail
  refine (lit_k1 _ G4.out).mono ?_
  rintro e w5 ⟨rfl, hb⟩
  have B5 := Lib.hid (chain (Nat.le_refl _) B4.out hb)
  have G5 := Lib.hid (HG.out _ B5.out)
  clear hb
  go_wp2_with fail
  refine (lit_k2 _ G5.out).mono ?_
  rintro e w6 ⟨rfl, hb⟩
  have B6 := Lib.hid (chain (Nat.le_refl _) B5.out hb)
  have G6 := Lib.hid (HG.out _ B6.out)
  clear hb
  go_wp2_with fail
  refine (lit_e0 _ G6.out).mono ?_
  rintro e w7 ⟨rfl, hb⟩
  have B7 := Lib.hid (chain (Nat.le_refl _) B6.out hb)
  have G7 := Lib.hid (HG.out _ B7.out)
  clear hb
  go_wp2_with fail
  refine (lit_e1 _ G7.out).mono ?_
  rintro e w8 ⟨rfl, hb⟩
  have B8 := Lib.hid (chain (Nat.le_refl _) B7.out hb)
  have G8 := Lib.hid (HG.out _ B8.out)
  clear hb
  go_wp2_with fail
  go_ret
  exact ⟨rfl, B8.out⟩

section
variable {H : Type} {enc : TypeId × Value → H}
/-- The wrap for a row that lists variables, the world's shape kept. -/
theorem returns_shaped {os : Os} {f : FuncId} {fn : Func} {s : ChangeSpec} {X : World → Array Value → Prop}
    (hX : ∀ (w w' : World) (args : Array Value), w.heap = w'.heap → X w args → X w' args)
    (started : os.Started) (noInit : Tryd.checked.prog.inits.idxOf? f = none) (hfn : Tryd.checked.prog.funcs[f]? = some fn)
    (witness : ∃ (w : World) (tape : Tape) (i : Input), w.os = os ∧ (w.forCall tape i).Shaped Tryd.checked.prog ∧ i.vars = [] ∧ Input.okWide Tryd.checked.prog (w.forCall tape i) .any w.heap.size f i ∧
      ((s.pre enc Tryd.checked.prog fn [] false (w.forCall tape i).memory i.args ∧ X (w.forCall tape i).memory i.args) ∧ sizedMet enc Tryd.checked.prog fn (OpenSpec.ofChange s) false (w.forCall tape i).memory i.args) ∧ ({} : Assume).holds Tryd.checked.prog (lone (Frame.enter Tryd.checked.prog f i.args .normal) [] (w.forCall tape i)))
    (contract : ∀ (W : World) (base : Nat) (args : Array Value) (ds gs : List (DataW H)) (before : List MemPlace),
      (∀ (j : Nat) t v, fn.params[j]? = some t → args[j]? = some v → Value.okWide Tryd.checked.prog W .any base t v) →
      DataW.Whole enc Tryd.checked.prog fn.params.toList s.vars false W args.toList ds gs before → X W args → W.ShapedOpen Tryd.checked.prog →
      Calls Tryd.checked.prog f args W fun e W' => ∃ v, e = .returned v ∧ s.post enc Tryd.checked.prog fn false true false false W args v W') :
    ReturnsInHanded {} Tryd.checked os f .any (fun w args => (s.pre enc Tryd.checked.prog fn [] false w args ∧ X w args) ∧ sizedMet enc Tryd.checked.prog fn (OpenSpec.ofChange s) false w args) (s.post enc Tryd.checked.prog fn false true false false) := by
  refine returnsInHanded_of_calls own started noInit witness ?_
  intro w tape i _ hsh _ hok hpre hholds
  obtain ⟨_, _, _, fn', hfn', _, _, _, _, hval⟩ := hok
  obtain rfl : fn' = fn := Option.some.inj (hfn'.symm.trans hfn)
  obtain ⟨⟨⟨ds, gs, before, hw, hc⟩, hx⟩, hz⟩ := hpre
  refine (contract (w.forCall tape i) w.heap.size i.args ds gs before hval (DataW.Whole.of_heap (w' := w.forCall tape i) (by rfl) hw) (hX _ _ _ (by rfl) hx) hsh).mono fun e W' ⟨v, he, hp⟩ => ?_
  subst he
  exact ChangeSpec.post_blind hp
end
/-- A world of the program's shape has its six variables. -/
theorem six {W : World} (h : W.ShapedOpen Tryd.prog) : 6 ≤ W.heap.size := by
  obtain ⟨cs, hh, _⟩ := h.1 5 (Array.replicate 32 (.int .u8 0)) 92 (of_decide_eq_true (by kernel_rfl)) (by kernel_rfl)
  exact (Array.getElem?_eq_some_iff.1 hh).1
end Go.Proofs.YtdnnjakggopdoaaDoor
