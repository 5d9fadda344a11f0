/-
  PROVED: contract of tree.fits: it answers 'fitB'. Conditions: none.
-/
import Derived.Test.YtdfhgcknelgdmaaDoorMem
namespace Go.Proofs.YtdfhgcknelgdmaaDoor
open Go.ChangeShapes Go.WideShapes Go.ChangeAt Go.RowKit Go.Sort
set_option linter.unusedVariables false

set_option maxHeartbeats 4000000 in
theorem fits_a (k f t l : Int) (x u h : ByteArray) (g : Bool) (K P : Nat) (KA PA : Option Addr) (kc pc : Nat) (h0 : f < 0) (w : World) : Calls Tryd.prog 26 #[.agg #[.int .i64 k, .int .i64 f, .int .i64 t, .int .i64 l, .string x, .string u, .string h, .bool g, .slice KA K kc, .slice PA P pc]] w (Grows (.bool false) w) := by
  have H0 : Hid (Holds (w.alloc (.cells #[.int .i64 k, .int .i64 f, .int .i64 t, .int .i64 l, .string x, .string u, .string h, .bool g, .slice KA K kc, .slice PA P pc] 39)) w.heap.size 39 #[.int .i64 k, .int .i64 f, .int .i64 t, .int .i64 l, .string x, .string u, .string h, .bool g, .slice KA K kc, .slice PA P pc]) := Holds.made w 39 _
  have G0 : Hid (Gr w (w.alloc (.cells #[.int .i64 k, .int .i64 f, .int .i64 t, .int .i64 l, .string x, .string u, .string h, .bool g, .slice KA K kc, .slice PA P pc] 39))) := Gr.alloc w _
  have q : ¬ 0 ≤ f := by omega
  go_enter Tryd.func26, Tryd.ntmps26
  go_wp2_with fail
  go_ret
  exact ⟨rfl, G0.out⟩

set_option maxHeartbeats 4000000 in
theorem fits_b (k f t l : Int) (x u h : ByteArray) (g : Bool) (K P : Nat) (KA PA : Option Addr) (kc pc : Nat) (h0 : 0 ≤ f) (h1 : t < f) (w : World) : Calls Tryd.prog 26 #[.agg #[.int .i64 k, .int .i64 f, .int .i64 t, .int .i64 l, .string x, .string u, .string h, .bool g, .slice KA K kc, .slice PA P pc]] w (Grows (.bool false) w) := by
  have H0 : Hid (Holds (w.alloc (.cells #[.int .i64 k, .int .i64 f, .int .i64 t, .int .i64 l, .string x, .string u, .string h, .bool g, .slice KA K kc, .slice PA P pc] 39)) w.heap.size 39 #[.int .i64 k, .int .i64 f, .int .i64 t, .int .i64 l, .string x, .string u, .string h, .bool g, .slice KA K kc, .slice PA P pc]) := Holds.made w 39 _
  have G0 : Hid (Gr w (w.alloc (.cells #[.int .i64 k, .int .i64 f, .int .i64 t, .int .i64 l, .string x, .string u, .string h, .bool g, .slice KA K kc, .slice PA P pc] 39))) := Gr.alloc w _
  have q : ¬ f ≤ t := by omega
  go_enter Tryd.func26, Tryd.ntmps26
  go_wp2_with fail
  go_ret
  exact ⟨rfl, G0.out⟩

set_option maxHeartbeats 4000000 in
theorem fits_0 (k f t l : Int) (x u h : ByteArray) (g : Bool) (K P : Nat) (KA PA : Option Addr) (kc pc : Nat) (h0 : 0 ≤ f) (h1 : f ≤ t)
    (HL : Hid (∀ W, Calls Tryd.prog 40 #[.agg #[.int .i64 k, .int .i64 f, .int .i64 t, .int .i64 l, .string x, .string u, .string h, .bool g, .slice KA K kc, .slice PA P pc]] W (Grows (.bool false) W))) (w : World) : Calls Tryd.prog 26 #[.agg #[.int .i64 k, .int .i64 f, .int .i64 t, .int .i64 l, .string x, .string u, .string h, .bool g, .slice KA K kc, .slice PA P pc]] w (Grows (.bool false) w) := by
  have H0 : Hid (Holds (w.alloc (.cells #[.int .i64 k, .int .i64 f, .int .i64 t, .int .i64 l, .string x, .string u, .string h, .bool g, .slice KA K kc, .slice PA P pc] 39)) w.heap.size 39 #[.int .i64 k, .int .i64 f, .int .i64 t, .int .i64 l, .string x, .string u, .string h, .bool g, .slice KA K kc, .slice PA P pc]) := Holds.made w 39 _
  have G0 : Hid (Gr w (w.alloc (.cells #[.int .i64 k, .int .i64 f, .int .i64 t, .int .i64 l, .string x, .string u, .string h, .bool g, .slice KA K kc, .slice PA P pc] 39))) := Gr.alloc w _
  go_enter Tryd.func26, Tryd.ntmps26
  go_wp2_with fail
  refine (HL.out _).mono ?_
  rintro e y1 ⟨rfl, hy⟩
  have H1 := Lib.hid (Gr.holds hy H0.out)
  have G1 := Lib.hid (Gr.trans G0.out hy)
  clear hy
  have c0 : y1.cell? ⟨w.heap.size, 0, none⟩ = some (.int .i64 k) := H1.out.at 0
  have c1 : y1.cell? ⟨w.heap.size, 1, none⟩ = some (.int .i64 f) := H1.out.at 1
  have c2 : y1.cell? ⟨w.heap.size, 2, none⟩ = some (.int .i64 t) := H1.out.at 2
  have c3 : y1.cell? ⟨w.heap.size, 3, none⟩ = some (.int .i64 l) := H1.out.at 3
  have c4 : y1.cell? ⟨w.heap.size, 4, none⟩ = some (.string x) := H1.out.at 4
  have c5 : y1.cell? ⟨w.heap.size, 5, none⟩ = some (.string u) := H1.out.at 5
  have c6 : y1.cell? ⟨w.heap.size, 6, none⟩ = some (.string h) := H1.out.at 6
  have c7 : y1.cell? ⟨w.heap.size, 7, none⟩ = some (.bool g) := H1.out.at 7
  have c8 : y1.cell? ⟨w.heap.size, 8, none⟩ = some (.slice KA K kc) := H1.out.at 8
  have c9 : y1.cell? ⟨w.heap.size, 9, none⟩ = some (.slice PA P pc) := H1.out.at 9
  go_wp2_with fail
  go_ret
  exact ⟨rfl, G1.out⟩

set_option maxHeartbeats 4000000 in
theorem fits_1 (k f t l : Int) (x u h : ByteArray) (g : Bool) (K P : Nat) (KA PA : Option Addr) (kc pc : Nat) (h0 : 0 ≤ f) (h1 : f ≤ t)
    (HL : Hid (∀ W, Calls Tryd.prog 40 #[.agg #[.int .i64 k, .int .i64 f, .int .i64 t, .int .i64 l, .string x, .string u, .string h, .bool g, .slice KA K kc, .slice PA P pc]] W (Grows (.bool true) W)))
    (HT : Hid (∀ W, Calls Tryd.prog 41 #[.agg #[.int .i64 k, .int .i64 f, .int .i64 t, .int .i64 l, .string x, .string u, .string h, .bool g, .slice KA K kc, .slice PA P pc]] W (Grows (.bool false) W))) (w : World) : Calls Tryd.prog 26 #[.agg #[.int .i64 k, .int .i64 f, .int .i64 t, .int .i64 l, .string x, .string u, .string h, .bool g, .slice KA K kc, .slice PA P pc]] w (Grows (.bool false) w) := by
  have H0 : Hid (Holds (w.alloc (.cells #[.int .i64 k, .int .i64 f, .int .i64 t, .int .i64 l, .string x, .string u, .string h, .bool g, .slice KA K kc, .slice PA P pc] 39)) w.heap.size 39 #[.int .i64 k, .int .i64 f, .int .i64 t, .int .i64 l, .string x, .string u, .string h, .bool g, .slice KA K kc, .slice PA P pc]) := Holds.made w 39 _
  have G0 : Hid (Gr w (w.alloc (.cells #[.int .i64 k, .int .i64 f, .int .i64 t, .int .i64 l, .string x, .string u, .string h, .bool g, .slice KA K kc, .slice PA P pc] 39))) := Gr.alloc w _
  go_enter Tryd.func26, Tryd.ntmps26
  go_wp2_with fail
  refine (HL.out _).mono ?_
  rintro e y1 ⟨rfl, hy⟩
  have H1 := Lib.hid (Gr.holds hy H0.out)
  have G1 := Lib.hid (Gr.trans G0.out hy)
  clear hy
  have c0 : y1.cell? ⟨w.heap.size, 0, none⟩ = some (.int .i64 k) := H1.out.at 0
  have c1 : y1.cell? ⟨w.heap.size, 1, none⟩ = some (.int .i64 f) := H1.out.at 1
  have c2 : y1.cell? ⟨w.heap.size, 2, none⟩ = some (.int .i64 t) := H1.out.at 2
  have c3 : y1.cell? ⟨w.heap.size, 3, none⟩ = some (.int .i64 l) := H1.out.at 3
  have c4 : y1.cell? ⟨w.heap.size, 4, none⟩ = some (.string x) := H1.out.at 4
  have c5 : y1.cell? ⟨w.heap.size, 5, none⟩ = some (.string u) := H1.out.at 5
  have c6 : y1.cell? ⟨w.heap.size, 6, none⟩ = some (.string h) := H1.out.at 6
  have c7 : y1.cell? ⟨w.heap.size, 7, none⟩ = some (.bool g) := H1.out.at 7
  have c8 : y1.cell? ⟨w.heap.size, 8, none⟩ = some (.slice KA K kc) := H1.out.at 8
  have c9 : y1.cell? ⟨w.heap.size, 9, none⟩ = some (.slice PA P pc) := H1.out.at 9
  go_wp2_with fail
  clear c0 c1 c2 c3 c4 c5 c6 c7 c8 c9
  refine (HT.out _).mono ?_
  rintro e y2 ⟨rfl, hy⟩
  have H2 := Lib.hid (Gr.holds hy H1.out)
  have G2 := Lib.hid (Gr.trans G1.out hy)
  clear hy
  have c0 : y2.cell? ⟨w.heap.size, 0, none⟩ = some (.int .i64 k) := H2.out.at 0
  have c1 : y2.cell? ⟨w.heap.size, 1, none⟩ = some (.int .i64 f) := H2.out.at 1
  have c2 : y2.cell? ⟨w.heap.size, 2, none⟩ = some (.int .i64 t) := H2.out.at 2
  have c3 : y2.cell? ⟨w.heap.size, 3, none⟩ = some (.int .i64 l) := H2.out.at 3
  have c4 : y2.cell? ⟨w.heap.size, 4, none⟩ = some (.string x) := H2.out.at 4
  have c5 : y2.cell? ⟨w.heap.size, 5, none⟩ = some (.string u) := H2.out.at 5
  have c6 : y2.cell? ⟨w.heap.size, 6, none⟩ = some (.string h) := H2.out.at 6
  have c7 : y2.cell? ⟨w.heap.size, 7, none⟩ = some (.bool g) := H2.out.at 7
  have c8 : y2.cell? ⟨w.heap.size, 8, none⟩ = some (.slice KA K kc) := H2.out.at 8
  have c9 : y2.cell? ⟨w.heap.size, 9, none⟩ = some (.slice PA P pc) := H2.out.at 9
  go_wp2_with fail
  go_ret
  exact ⟨rfl, G2.out⟩

set_option maxHeartbeats 4000000 in
theorem fits_2 (k f t l : Int) (x u h : ByteArray) (g : Bool) (K P : Nat) (KA PA : Option Addr) (kc pc : Nat) (h0 : 0 ≤ f) (h1 : f ≤ t)
    (HL : Hid (∀ W, Calls Tryd.prog 40 #[.agg #[.int .i64 k, .int .i64 f, .int .i64 t, .int .i64 l, .string x, .string u, .string h, .bool g, .slice KA K kc, .slice PA P pc]] W (Grows (.bool true) W)))
    (HT : Hid (∀ W, Calls Tryd.prog 41 #[.agg #[.int .i64 k, .int .i64 f, .int .i64 t, .int .i64 l, .string x, .string u, .string h, .bool g, .slice KA K kc, .slice PA P pc]] W (Grows (.bool true) W)))
    (HK : Hid (∀ W, Calls Tryd.prog 42 #[.agg #[.int .i64 k, .int .i64 f, .int .i64 t, .int .i64 l, .string x, .string u, .string h, .bool g, .slice KA K kc, .slice PA P pc]] W (Grows (.bool false) W))) (w : World) : Calls Tryd.prog 26 #[.agg #[.int .i64 k, .int .i64 f, .int .i64 t, .int .i64 l, .string x, .string u, .string h, .bool g, .slice KA K kc, .slice PA P pc]] w (Grows (.bool false) w) := by
  have H0 : Hid (Holds (w.alloc (.cells #[.int .i64 k, .int .i64 f, .int .i64 t, .int .i64 l, .string x, .string u, .string h, .bool g, .slice KA K kc, .slice PA P pc] 39)) w.heap.size 39 #[.int .i64 k, .int .i64 f, .int .i64 t, .int .i64 l, .string x, .string u, .string h, .bool g, .slice KA K kc, .slice PA P pc]) := Holds.made w 39 _
  have G0 : Hid (Gr w (w.alloc (.cells #[.int .i64 k, .int .i64 f, .int .i64 t, .int .i64 l, .string x, .string u, .string h, .bool g, .slice KA K kc, .slice PA P pc] 39))) := Gr.alloc w _
  go_enter Tryd.func26, Tryd.ntmps26
  go_wp2_with fail
  refine (HL.out _).mono ?_
  rintro e y1 ⟨rfl, hy⟩
  have H1 := Lib.hid (Gr.holds hy H0.out)
  have G1 := Lib.hid (Gr.trans G0.out hy)
  clear hy
  have c0 : y1.cell? ⟨w.heap.size, 0, none⟩ = some (.int .i64 k) := H1.out.at 0
  have c1 : y1.cell? ⟨w.heap.size, 1, none⟩ = some (.int .i64 f) := H1.out.at 1
  have c2 : y1.cell? ⟨w.heap.size, 2, none⟩ = some (.int .i64 t) := H1.out.at 2
  have c3 : y1.cell? ⟨w.heap.size, 3, none⟩ = some (.int .i64 l) := H1.out.at 3
  have c4 : y1.cell? ⟨w.heap.size, 4, none⟩ = some (.string x) := H1.out.at 4
  have c5 : y1.cell? ⟨w.heap.size, 5, none⟩ = some (.string u) := H1.out.at 5
  have c6 : y1.cell? ⟨w.heap.size, 6, none⟩ = some (.string h) := H1.out.at 6
  have c7 : y1.cell? ⟨w.heap.size, 7, none⟩ = some (.bool g) := H1.out.at 7
  have c8 : y1.cell? ⟨w.heap.size, 8, none⟩ = some (.slice KA K kc) := H1.out.at 8
  have c9 : y1.cell? ⟨w.heap.size, 9, none⟩ = some (.slice PA P pc) := H1.out.at 9
  go_wp2_with fail
  clear c0 c1 c2 c3 c4 c5 c6 c7 c8 c9
  refine (HT.out _).mono ?_
  rintro e y2 ⟨rfl, hy⟩
  have H2 := Lib.hid (Gr.holds hy H1.out)
  have G2 := Lib.hid (Gr.trans G1.out hy)
  clear hy
  have c0 : y2.cell? ⟨w.heap.size, 0, none⟩ = some (.int .i64 k) := H2.out.at 0
  have c1 : y2.cell? ⟨w.heap.size, 1, none⟩ = some (.int .i64 f) := H2.out.at 1
  have c2 : y2.cell? ⟨w.heap.size, 2, none⟩ = some (.int .i64 t) := H2.out.at 2
  have c3 : y2.cell? ⟨w.heap.size, 3, none⟩ = some (.int .i64 l) := H2.out.at 3
  have c4 : y2.cell? ⟨w.heap.size, 4, none⟩ = some (.string x) := H2.out.at 4
  have c5 : y2.cell? ⟨w.heap.size, 5, none⟩ = some (.string u) := H2.out.at 5
  have c6 : y2.cell? ⟨w.heap.size, 6, none⟩ = some (.string h) := H2.out.at 6
  have c7 : y2.cell? ⟨w.heap.size, 7, none⟩ = some (.bool g) := H2.out.at 7
  have c8 : y2.cell? ⟨w.heap.size, 8, none⟩ = some (.slice KA K kc) := H2.out.at 8
  have c9 : y2.cell? ⟨w.heap.size, 9, none⟩ = some (.slice PA P pc) := H2.out.at 9
  go_wp2_with fail
  clear c0 c1 c2 c3 c4 c5 c6 c7 c8 c9
  refine (HK.out _).mono ?_
  rintro e y3 ⟨rfl, hy⟩
  have H3 := Lib.hid (Gr.holds hy H2.out)
  have G3 := Lib.hid (Gr.trans G2.out hy)
  clear hy
  have c0 : y3.cell? ⟨w.heap.size, 0, none⟩ = some (.int .i64 k) := H3.out.at 0
  have c1 : y3.cell? ⟨w.heap.size, 1, none⟩ = some (.int .i64 f) := H3.out.at 1
  have c2 : y3.cell? ⟨w.heap.size, 2, none⟩ = some (.int .i64 t) := H3.out.at 2
  have c3 : y3.cell? ⟨w.heap.size, 3, none⟩ = some (.int .i64 l) := H3.out.at 3
  have c4 : y3.cell? ⟨w.heap.size, 4, none⟩ = some (.string x) := H3.out.at 4
  have c5 : y3.cell? ⟨w.heap.size, 5, none⟩ = some (.string u) := H3.out.at 5
  have c6 : y3.cell? ⟨w.heap.size, 6, none⟩ = some (.string h) := H3.out.at 6
  have c7 : y3.cell? ⟨w.heap.size, 7, none⟩ = some (.bool g) := H3.out.at 7
  have c8 : y3.cell? ⟨w.heap.size, 8, none⟩ = some (.slice KA K kc) := H3.out.at 8
  have c9 : y3.cell? ⟨w.heap.size, 9, none⟩ = some (.slice PA P pc) := H3.out.at 9
  go_wp2_with fail
  go_ret
  exact ⟨rfl, G3.out⟩

set_option maxHeartbeats 4000000 in
theorem fits_3 (k f t l : Int) (x u h : ByteArray) (g : Bool) (K P : Nat) (KA PA : Option Addr) (kc pc : Nat) (h0 : 0 ≤ f) (h1 : f ≤ t)
    (HL : Hid (∀ W, Calls Tryd.prog 40 #[.agg #[.int .i64 k, .int .i64 f, .int .i64 t, .int .i64 l, .string x, .string u, .string h, .bool g, .slice KA K kc, .slice PA P pc]] W (Grows (.bool true) W)))
    (HT : Hid (∀ W, Calls Tryd.prog 41 #[.agg #[.int .i64 k, .int .i64 f, .int .i64 t, .int .i64 l, .string x, .string u, .string h, .bool g, .slice KA K kc, .slice PA P pc]] W (Grows (.bool true) W)))
    (HK : Hid (∀ W, Calls Tryd.prog 42 #[.agg #[.int .i64 k, .int .i64 f, .int .i64 t, .int .i64 l, .string x, .string u, .string h, .bool g, .slice KA K kc, .slice PA P pc]] W (Grows (.bool true) W)))
    (HH : Hid (∀ W, Calls Tryd.prog 43 #[.agg #[.int .i64 k, .int .i64 f, .int .i64 t, .int .i64 l, .string x, .string u, .string h, .bool g, .slice KA K kc, .slice PA P pc]] W (Grows (.bool false) W))) (w : World) : Calls Tryd.prog 26 #[.agg #[.int .i64 k, .int .i64 f, .int .i64 t, .int .i64 l, .string x, .string u, .string h, .bool g, .slice KA K kc, .slice PA P pc]] w (Grows (.bool false) w) := by
  have H0 : Hid (Holds (w.alloc (.cells #[.int .i64 k, .int .i64 f, .int .i64 t, .int .i64 l, .string x, .string u, .string h, .bool g, .slice KA K kc, .slice PA P pc] 39)) w.heap.size 39 #[.int .i64 k, .int .i64 f, .int .i64 t, .int .i64 l, .string x, .string u, .string h, .bool g, .slice KA K kc, .slice PA P pc]) := Holds.made w 39 _
  have G0 : Hid (Gr w (w.alloc (.cells #[.int .i64 k, .int .i64 f, .int .i64 t, .int .i64 l, .string x, .string u, .string h, .bool g, .slice KA K kc, .slice PA P pc] 39))) := Gr.alloc w _
  go_enter Tryd.func26, Tryd.ntmps26
  go_wp2_with fail
  refine (HL.out _).mono ?_
  rintro e y1 ⟨rfl, hy⟩
  have H1 := Lib.hid (Gr.holds hy H0.out)
  have G1 := Lib.hid (Gr.trans G0.out hy)
  clear hy
  have c0 : y1.cell? ⟨w.heap.size, 0, none⟩ = some (.int .i64 k) := H1.out.at 0
  have c1 : y1.cell? ⟨w.heap.size, 1, none⟩ = some (.int .i64 f) := H1.out.at 1
  have c2 : y1.cell? ⟨w.heap.size, 2, none⟩ = some (.int .i64 t) := H1.out.at 2
  have c3 : y1.cell? ⟨w.heap.size, 3, none⟩ = some (.int .i64 l) := H1.out.at 3
  have c4 : y1.cell? ⟨w.heap.size, 4, none⟩ = some (.string x) := H1.out.at 4
  have c5 : y1.cell? ⟨w.heap.size, 5, none⟩ = some (.string u) := H1.out.at 5
  have c6 : y1.cell? ⟨w.heap.size, 6, none⟩ = some (.string h) := H1.out.at 6
  have c7 : y1.cell? ⟨w.heap.size, 7, none⟩ = some (.bool g) := H1.out.at 7
  have c8 : y1.cell? ⟨w.heap.size, 8, none⟩ = some (.slice KA K kc) := H1.out.at 8
  have c9 : y1.cell? ⟨w.heap.size, 9, none⟩ = some (.slice PA P pc) := H1.out.at 9
  go_wp2_with fail
  clear c0 c1 c2 c3 c4 c5 c6 c7 c8 c9
  refine (HT.out _).mono ?_
  rintro e y2 ⟨rfl, hy⟩
  have H2 := Lib.hid (Gr.holds hy H1.out)
  have G2 := Lib.hid (Gr.trans G1.out hy)
  clear hy
  have c0 : y2.cell? ⟨w.heap.size, 0, none⟩ = some (.int .i64 k) := H2.out.at 0
  have c1 : y2.cell? ⟨w.heap.size, 1, none⟩ = some (.int .i64 f) := H2.out.at 1
  have c2 : y2.cell? ⟨w.heap.size, 2, none⟩ = some (.int .i64 t) := H2.out.at 2
  have c3 : y2.cell? ⟨w.heap.size, 3, none⟩ = some (.int .i64 l) := H2.out.at 3
  have c4 : y2.cell? ⟨w.heap.size, 4, none⟩ = some (.string x) := H2.out.at 4
  have c5 : y2.cell? ⟨w.heap.size, 5, none⟩ = some (.string u) := H2.out.at 5
  have c6 : y2.cell? ⟨w.heap.size, 6, none⟩ = some (.string h) := H2.out.at 6
  have c7 : y2.cell? ⟨w.heap.size, 7, none⟩ = some (.bool g) := H2.out.at 7
  have c8 : y2.cell? ⟨w.heap.size, 8, none⟩ = some (.slice KA K kc) := H2.out.at 8
  have c9 : y2.cell? ⟨w.heap.size, 9, none⟩ = some (.slice PA P pc) := H2.out.at 9
  go_wp2_with fail
  clear c0 c1 c2 c3 c4 c5 c6 c7 c8 c9
  refine (HK.out _).mono ?_
  rintro e y3 ⟨rfl, hy⟩
  have H3 := Lib.hid (Gr.holds hy H2.out)
  have G3 := Lib.hid (Gr.trans G2.out hy)
  clear hy
  have c0 : y3.cell? ⟨w.heap.size, 0, none⟩ = some (.int .i64 k) := H3.out.at 0
  have c1 : y3.cell? ⟨w.heap.size, 1, none⟩ = some (.int .i64 f) := H3.out.at 1
  have c2 : y3.cell? ⟨w.heap.size, 2, none⟩ = some (.int .i64 t) := H3.out.at 2
  have c3 : y3.cell? ⟨w.heap.size, 3, none⟩ = some (.int .i64 l) := H3.out.at 3
  have c4 : y3.cell? ⟨w.heap.size, 4, none⟩ = some (.string x) := H3.out.at 4
  have c5 : y3.cell? ⟨w.heap.size, 5, none⟩ = some (.string u) := H3.out.at 5
  have c6 : y3.cell? ⟨w.heap.size, 6, none⟩ = some (.string h) := H3.out.at 6
  have c7 : y3.cell? ⟨w.heap.size, 7, none⟩ = some (.bool g) := H3.out.at 7
  have c8 : y3.cell? ⟨w.heap.size, 8, none⟩ = some (.slice KA K kc) := H3.out.at 8
  have c9 : y3.cell? ⟨w.heap.size, 9, none⟩ = some (.slice PA P pc) := H3.out.at 9
  go_wp2_with fail
  clear c0 c1 c2 c3 c4 c5 c6 c7 c8 c9
  refine (HH.out _).mono ?_
  rintro e y4 ⟨rfl, hy⟩
  have H4 := Lib.hid (Gr.holds hy H3.out)
  have G4 := Lib.hid (Gr.trans G3.out hy)
  clear hy
  have c0 : y4.cell? ⟨w.heap.size, 0, none⟩ = some (.int .i64 k) := H4.out.at 0
  have c1 : y4.cell? ⟨w.heap.size, 1, none⟩ = some (.int .i64 f) := H4.out.at 1
  have c2 : y4.cell? ⟨w.heap.size, 2, none⟩ = some (.int .i64 t) := H4.out.at 2
  have c3 : y4.cell? ⟨w.heap.size, 3, none⟩ = some (.int .i64 l) := H4.out.at 3
  have c4 : y4.cell? ⟨w.heap.size, 4, none⟩ = some (.string x) := H4.out.at 4
  have c5 : y4.cell? ⟨w.heap.size, 5, none⟩ = some (.string u) := H4.out.at 5
  have c6 : y4.cell? ⟨w.heap.size, 6, none⟩ = some (.string h) := H4.out.at 6
  have c7 : y4.cell? ⟨w.heap.size, 7, none⟩ = some (.bool g) := H4.out.at 7
  have c8 : y4.cell? ⟨w.heap.size, 8, none⟩ = some (.slice KA K kc) := H4.out.at 8
  have c9 : y4.cell? ⟨w.heap.size, 9, none⟩ = some (.slice PA P pc) := H4.out.at 9
  go_wp2_with fail
  go_ret
  exact ⟨rfl, G4.out⟩

set_option maxHeartbeats 4000000 in
theorem fits_4 (k f t l : Int) (x u h : ByteArray) (g : Bool) (K P : Nat) (KA PA : Option Addr) (kc pc : Nat) (h0 : 0 ≤ f) (h1 : f ≤ t)
    (HL : Hid (∀ W, Calls Tryd.prog 40 #[.agg #[.int .i64 k, .int .i64 f, .int .i64 t, .int .i64 l, .string x, .string u, .string h, .bool g, .slice KA K kc, .slice PA P pc]] W (Grows (.bool true) W)))
    (HT : Hid (∀ W, Calls Tryd.prog 41 #[.agg #[.int .i64 k, .int .i64 f, .int .i64 t, .int .i64 l, .string x, .string u, .string h, .bool g, .slice KA K kc, .slice PA P pc]] W (Grows (.bool true) W)))
    (HK : Hid (∀ W, Calls Tryd.prog 42 #[.agg #[.int .i64 k, .int .i64 f, .int .i64 t, .int .i64 l, .string x, .string u, .string h, .bool g, .slice KA K kc, .slice PA P pc]] W (Grows (.bool true) W)))
    (HH : Hid (∀ W, Calls Tryd.prog 43 #[.agg #[.int .i64 k, .int .i64 f, .int .i64 t, .int .i64 l, .string x, .string u, .string h, .bool g, .slice KA K kc, .slice PA P pc]] W (Grows (.bool true) W)))
    (HG : Hid (∀ W, Calls Tryd.prog 44 #[.agg #[.int .i64 k, .int .i64 f, .int .i64 t, .int .i64 l, .string x, .string u, .string h, .bool g, .slice KA K kc, .slice PA P pc]] W (Grows (.bool false) W))) (w : World) : Calls Tryd.prog 26 #[.agg #[.int .i64 k, .int .i64 f, .int .i64 t, .int .i64 l, .string x, .string u, .string h, .bool g, .slice KA K kc, .slice PA P pc]] w (Grows (.bool false) w) := by
  have H0 : Hid (Holds (w.alloc (.cells #[.int .i64 k, .int .i64 f, .int .i64 t, .int .i64 l, .string x, .string u, .string h, .bool g, .slice KA K kc, .slice PA P pc] 39)) w.heap.size 39 #[.int .i64 k, .int .i64 f, .int .i64 t, .int .i64 l, .string x, .string u, .string h, .bool g, .slice KA K kc, .slice PA P pc]) := Holds.made w 39 _
  have G0 : Hid (Gr w (w.alloc (.cells #[.int .i64 k, .int .i64 f, .int .i64 t, .int .i64 l, .string x, .string u, .string h, .bool g, .slice KA K kc, .slice PA P pc] 39))) := Gr.alloc w _
  go_enter Tryd.func26, Tryd.ntmps26
  go_wp2_with fail
  refine (HL.out _).mono ?_
  rintro e y1 ⟨rfl, hy⟩
  have H1 := Lib.hid (Gr.holds hy H0.out)
  have G1 := Lib.hid (Gr.trans G0.out hy)
  clear hy
  have c0 : y1.cell? ⟨w.heap.size, 0, none⟩ = some (.int .i64 k) := H1.out.at 0
  have c1 : y1.cell? ⟨w.heap.size, 1, none⟩ = some (.int .i64 f) := H1.out.at 1
  have c2 : y1.cell? ⟨w.heap.size, 2, none⟩ = some (.int .i64 t) := H1.out.at 2
  have c3 : y1.cell? ⟨w.heap.size, 3, none⟩ = some (.int .i64 l) := H1.out.at 3
  have c4 : y1.cell? ⟨w.heap.size, 4, none⟩ = some (.string x) := H1.out.at 4
  have c5 : y1.cell? ⟨w.heap.size, 5, none⟩ = some (.string u) := H1.out.at 5
  have c6 : y1.cell? ⟨w.heap.size, 6, none⟩ = some (.string h) := H1.out.at 6
  have c7 : y1.cell? ⟨w.heap.size, 7, none⟩ = some (.bool g) := H1.out.at 7
  have c8 : y1.cell? ⟨w.heap.size, 8, none⟩ = some (.slice KA K kc) := H1.out.at 8
  have c9 : y1.cell? ⟨w.heap.size, 9, none⟩ = some (.slice PA P pc) := H1.out.at 9
  go_wp2_with fail
  clear c0 c1 c2 c3 c4 c5 c6 c7 c8 c9
  refine (HT.out _).mono ?_
  rintro e y2 ⟨rfl, hy⟩
  have H2 := Lib.hid (Gr.holds hy H1.out)
  have G2 := Lib.hid (Gr.trans G1.out hy)
  clear hy
  have c0 : y2.cell? ⟨w.heap.size, 0, none⟩ = some (.int .i64 k) := H2.out.at 0
  have c1 : y2.cell? ⟨w.heap.size, 1, none⟩ = some (.int .i64 f) := H2.out.at 1
  have c2 : y2.cell? ⟨w.heap.size, 2, none⟩ = some (.int .i64 t) := H2.out.at 2
  have c3 : y2.cell? ⟨w.heap.size, 3, none⟩ = some (.int .i64 l) := H2.out.at 3
  have c4 : y2.cell? ⟨w.heap.size, 4, none⟩ = some (.string x) := H2.out.at 4
  have c5 : y2.cell? ⟨w.heap.size, 5, none⟩ = some (.string u) := H2.out.at 5
  have c6 : y2.cell? ⟨w.heap.size, 6, none⟩ = some (.string h) := H2.out.at 6
  have c7 : y2.cell? ⟨w.heap.size, 7, none⟩ = some (.bool g) := H2.out.at 7
  have c8 : y2.cell? ⟨w.heap.size, 8, none⟩ = some (.slice KA K kc) := H2.out.at 8
  have c9 : y2.cell? ⟨w.heap.size, 9, none⟩ = some (.slice PA P pc) := H2.out.at 9
  go_wp2_with fail
  clear c0 c1 c2 c3 c4 c5 c6 c7 c8 c9
  refine (HK.out _).mono ?_
  rintro e y3 ⟨rfl, hy⟩
  have H3 := Lib.hid (Gr.holds hy H2.out)
  have G3 := Lib.hid (Gr.trans G2.out hy)
  clear hy
  have c0 : y3.cell? ⟨w.heap.size, 0, none⟩ = some (.int .i64 k) := H3.out.at 0
  have c1 : y3.cell? ⟨w.heap.size, 1, none⟩ = some (.int .i64 f) := H3.out.at 1
  have c2 : y3.cell? ⟨w.heap.size, 2, none⟩ = some (.int .i64 t) := H3.out.at 2
  have c3 : y3.cell? ⟨w.heap.size, 3, none⟩ = some (.int .i64 l) := H3.out.at 3
  have c4 : y3.cell? ⟨w.heap.size, 4, none⟩ = some (.string x) := H3.out.at 4
  have c5 : y3.cell? ⟨w.heap.size, 5, none⟩ = some (.string u) := H3.out.at 5
  have c6 : y3.cell? ⟨w.heap.size, 6, none⟩ = some (.string h) := H3.out.at 6
  have c7 : y3.cell? ⟨w.heap.size, 7, none⟩ = some (.bool g) := H3.out.at 7
  have c8 : y3.cell? ⟨w.heap.size, 8, none⟩ = some (.slice KA K kc) := H3.out.at 8
  have c9 : y3.cell? ⟨w.heap.size, 9, none⟩ = some (.slice PA P pc) := H3.out.at 9
  go_wp2_with fail
  clear c0 c1 c2 c3 c4 c5 c6 c7 c8 c9
  refine (HH.out _).mono ?_
  rintro e y4 ⟨rfl, hy⟩
  have H4 := Lib.hid (Gr.holds hy H3.out)
  have G4 := Lib.hid (Gr.trans G3.out hy)
  clear hy
  have c0 : y4.cell? ⟨w.heap.size, 0, none⟩ = some (.int .i64 k) := H4.out.at 0
  have c1 : y4.cell? ⟨w.heap.size, 1, none⟩ = some (.int .i64 f) := H4.out.at 1
  have c2 : y4.cell? ⟨w.heap.size, 2, none⟩ = some (.int .i64 t) := H4.out.at 2
  have c3 : y4.cell? ⟨w.heap.size, 3, none⟩ = some (.int .i64 l) := H4.out.at 3
  have c4 : y4.cell? ⟨w.heap.size, 4, none⟩ = some (.string x) := H4.out.at 4
  have c5 : y4.cell? ⟨w.heap.size, 5, none⟩ = some (.string u) := H4.out.at 5
  have c6 : y4.cell? ⟨w.heap.size, 6, none⟩ = some (.string h) := H4.out.at 6
  have c7 : y4.cell? ⟨w.heap.size, 7, none⟩ = some (.bool g) := H4.out.at 7
  have c8 : y4.cell? ⟨w.heap.size, 8, none⟩ = some (.slice KA K kc) := H4.out.at 8
  have c9 : y4.cell? ⟨w.heap.size, 9, none⟩ = some (.slice PA P pc) := H4.out.at 9
  go_wp2_with fail
  clear c0 c1 c2 c3 c4 c5 c6 c7 c8 c9
  refine (HG.out _).mono ?_
  rintro e y5 ⟨rfl, hy⟩
  have H5 := Lib.hid (Gr.holds hy H4.out)
  have G5 := Lib.hid (Gr.trans G4.out hy)
  clear hy
  have c0 : y5.cell? ⟨w.heap.size, 0, none⟩ = some (.int .i64 k) := H5.out.at 0
  have c1 : y5.cell? ⟨w.heap.size, 1, none⟩ = some (.int .i64 f) := H5.out.at 1
  have c2 : y5.cell? ⟨w.heap.size, 2, none⟩ = some (.int .i64 t) := H5.out.at 2
  have c3 : y5.cell? ⟨w.heap.size, 3, none⟩ = some (.int .i64 l) := H5.out.at 3
  have c4 : y5.cell? ⟨w.heap.size, 4, none⟩ = some (.string x) := H5.out.at 4
  have c5 : y5.cell? ⟨w.heap.size, 5, none⟩ = some (.string u) := H5.out.at 5
  have c6 : y5.cell? ⟨w.heap.size, 6, none⟩ = some (.string h) := H5.out.at 6
  have c7 : y5.cell? ⟨w.heap.size, 7, none⟩ = some (.bool g) := H5.out.at 7
  have c8 : y5.cell? ⟨w.heap.size, 8, none⟩ = some (.slice KA K kc) := H5.out.at 8
  have c9 : y5.cell? ⟨w.heap.size, 9, none⟩ = some (.slice PA P pc) := H5.out.at 9
  go_wp2_with fail
  go_ret
  exact ⟨rfl, G5.out⟩

set_option maxHeartbeats 4000000 in
theorem fits_c (k f t l : Int) (x u h : ByteArray) (g : Bool) (K P : Nat) (KA PA : Option Addr) (kc pc : Nat) (h0 : 0 ≤ f) (h1 : f ≤ t) (h2 : 0 < P)
    (HL : Hid (∀ W, Calls Tryd.prog 40 #[.agg #[.int .i64 k, .int .i64 f, .int .i64 t, .int .i64 l, .string x, .string u, .string h, .bool g, .slice KA K kc, .slice PA P pc]] W (Grows (.bool true) W)))
    (HT : Hid (∀ W, Calls Tryd.prog 41 #[.agg #[.int .i64 k, .int .i64 f, .int .i64 t, .int .i64 l, .string x, .string u, .string h, .bool g, .slice KA K kc, .slice PA P pc]] W (Grows (.bool true) W)))
    (HK : Hid (∀ W, Calls Tryd.prog 42 #[.agg #[.int .i64 k, .int .i64 f, .int .i64 t, .int .i64 l, .string x, .string u, .string h, .bool g, .slice KA K kc, .slice PA P pc]] W (Grows (.bool true) W)))
    (HH : Hid (∀ W, Calls Tryd.prog 43 #[.agg #[.int .i64 k, .int .i64 f, .int .i64 t, .int .i64 l, .string x, .string u, .string h, .bool g, .slice KA K kc, .slice PA P pc]] W (Grows (.bool true) W)))
    (HG : Hid (∀ W, Calls Tryd.prog 44 #[.agg #[.int .i64 k, .int .i64 f, .int .i64 t, .int .i64 l, .string x, .string u, .string h, .bool g, .slice KA K kc, .slice PA P pc]] W (Grows (.bool true) W))) (w : World) : Calls Tryd.prog 26 #[.agg #[.int .i64 k, .int .i64 f, .int .i64 t, .int .i64 l, .string x, .string u, .string h, .bool g, .slice KA K kc, .slice PA P pc]] w (Grows (.bool false) w) := by
  have H0 : Hid (Holds (w.alloc (.cells #[.int .i64 k, .int .i64 f, .int .i64 t, .int .i64 l, .string x, .string u, .string h, .bool g, .slice KA K kc, .slice PA P pc] 39)) w.heap.size 39 #[.int .i64 k, .int .i64 f, .int .i64 t, .int .i64 l, .string x, .string u, .string h, .bool g, .slice KA K kc, .slice PA P pc]) := Holds.made w 39 _
  have G0 : Hid (Gr w (w.alloc (.cells #[.int .i64 k, .int .i64 f, .int .i64 t, .int .i64 l, .string x, .string u, .string h, .bool g, .slice KA K kc, .slice PA P pc] 39))) := Gr.alloc w _
  have q1 : ((P : Int) == 0) = false := by rw [beq_eq_false_iff_ne]; omega
  have q2 : ¬ P = 0 := by omega
  go_enter Tryd.func26, Tryd.ntmps26
  go_wp2_with fail
  refine (HL.out _).mono ?_
  rintro e y1 ⟨rfl, hy⟩
  have H1 := Lib.hid (Gr.holds hy H0.out)
  have G1 := Lib.hid (Gr.trans G0.out hy)
  clear hy
  have c0 : y1.cell? ⟨w.heap.size, 0, none⟩ = some (.int .i64 k) := H1.out.at 0
  have c1 : y1.cell? ⟨w.heap.size, 1, none⟩ = some (.int .i64 f) := H1.out.at 1
  have c2 : y1.cell? ⟨w.heap.size, 2, none⟩ = some (.int .i64 t) := H1.out.at 2
  have c3 : y1.cell? ⟨w.heap.size, 3, none⟩ = some (.int .i64 l) := H1.out.at 3
  have c4 : y1.cell? ⟨w.heap.size, 4, none⟩ = some (.string x) := H1.out.at 4
  have c5 : y1.cell? ⟨w.heap.size, 5, none⟩ = some (.string u) := H1.out.at 5
  have c6 : y1.cell? ⟨w.heap.size, 6, none⟩ = some (.string h) := H1.out.at 6
  have c7 : y1.cell? ⟨w.heap.size, 7, none⟩ = some (.bool g) := H1.out.at 7
  have c8 : y1.cell? ⟨w.heap.size, 8, none⟩ = some (.slice KA K kc) := H1.out.at 8
  have c9 : y1.cell? ⟨w.heap.size, 9, none⟩ = some (.slice PA P pc) := H1.out.at 9
  go_wp2_with fail
  clear c0 c1 c2 c3 c4 c5 c6 c7 c8 c9
  refine (HT.out _).mono ?_
  rintro e y2 ⟨rfl, hy⟩
  have H2 := Lib.hid (Gr.holds hy H1.out)
  have G2 := Lib.hid (Gr.trans G1.out hy)
  clear hy
  have c0 : y2.cell? ⟨w.heap.size, 0, none⟩ = some (.int .i64 k) := H2.out.at 0
  have c1 : y2.cell? ⟨w.heap.size, 1, none⟩ = some (.int .i64 f) := H2.out.at 1
  have c2 : y2.cell? ⟨w.heap.size, 2, none⟩ = some (.int .i64 t) := H2.out.at 2
  have c3 : y2.cell? ⟨w.heap.size, 3, none⟩ = some (.int .i64 l) := H2.out.at 3
  have c4 : y2.cell? ⟨w.heap.size, 4, none⟩ = some (.string x) := H2.out.at 4
  have c5 : y2.cell? ⟨w.heap.size, 5, none⟩ = some (.string u) := H2.out.at 5
  have c6 : y2.cell? ⟨w.heap.size, 6, none⟩ = some (.string h) := H2.out.at 6
  have c7 : y2.cell? ⟨w.heap.size, 7, none⟩ = some (.bool g) := H2.out.at 7
  have c8 : y2.cell? ⟨w.heap.size, 8, none⟩ = some (.slice KA K kc) := H2.out.at 8
  have c9 : y2.cell? ⟨w.heap.size, 9, none⟩ = some (.slice PA P pc) := H2.out.at 9
  go_wp2_with fail
  clear c0 c1 c2 c3 c4 c5 c6 c7 c8 c9
  refine (HK.out _).mono ?_
  rintro e y3 ⟨rfl, hy⟩
  have H3 := Lib.hid (Gr.holds hy H2.out)
  have G3 := Lib.hid (Gr.trans G2.out hy)
  clear hy
  have c0 : y3.cell? ⟨w.heap.size, 0, none⟩ = some (.int .i64 k) := H3.out.at 0
  have c1 : y3.cell? ⟨w.heap.size, 1, none⟩ = some (.int .i64 f) := H3.out.at 1
  have c2 : y3.cell? ⟨w.heap.size, 2, none⟩ = some (.int .i64 t) := H3.out.at 2
  have c3 : y3.cell? ⟨w.heap.size, 3, none⟩ = some (.int .i64 l) := H3.out.at 3
  have c4 : y3.cell? ⟨w.heap.size, 4, none⟩ = some (.string x) := H3.out.at 4
  have c5 : y3.cell? ⟨w.heap.size, 5, none⟩ = some (.string u) := H3.out.at 5
  have c6 : y3.cell? ⟨w.heap.size, 6, none⟩ = some (.string h) := H3.out.at 6
  have c7 : y3.cell? ⟨w.heap.size, 7, none⟩ = some (.bool g) := H3.out.at 7
  have c8 : y3.cell? ⟨w.heap.size, 8, none⟩ = some (.slice KA K kc) := H3.out.at 8
  have c9 : y3.cell? ⟨w.heap.size, 9, none⟩ = some (.slice PA P pc) := H3.out.at 9
  go_wp2_with fail
  clear c0 c1 c2 c3 c4 c5 c6 c7 c8 c9
  refine (HH.out _).mono ?_
  rintro e y4 ⟨rfl, hy⟩
  have H4 := Lib.hid (Gr.holds hy H3.out)
  have G4 := Lib.hid (Gr.trans G3.out hy)
  clear hy
  have c0 : y4.cell? ⟨w.heap.size, 0, none⟩ = some (.int .i64 k) := H4.out.at 0
  have c1 : y4.cell? ⟨w.heap.size, 1, none⟩ = some (.int .i64 f) := H4.out.at 1
  have c2 : y4.cell? ⟨w.heap.size, 2, none⟩ = some (.int .i64 t) := H4.out.at 2
  have c3 : y4.cell? ⟨w.heap.size, 3, none⟩ = some (.int .i64 l) := H4.out.at 3
  have c4 : y4.cell? ⟨w.heap.size, 4, none⟩ = some (.string x) := H4.out.at 4
  have c5 : y4.cell? ⟨w.heap.size, 5, none⟩ = some (.string u) := H4.out.at 5
  have c6 : y4.cell? ⟨w.heap.size, 6, none⟩ = some (.string h) := H4.out.at 6
  have c7 : y4.cell? ⟨w.heap.size, 7, none⟩ = some (.bool g) := H4.out.at 7
  have c8 : y4.cell? ⟨w.heap.size, 8, none⟩ = some (.slice KA K kc) := H4.out.at 8
  have c9 : y4.cell? ⟨w.heap.size, 9, none⟩ = some (.slice PA P pc) := H4.out.at 9
  go_wp2_with fail
  clear c0 c1 c2 c3 c4 c5 c6 c7 c8 c9
  refine (HG.out _).mono ?_
  rintro e y5 ⟨rfl, hy⟩
  have H5 := Lib.hid (Gr.holds hy H4.out)
  have G5 := Lib.hid (Gr.trans G4.out hy)
  clear hy
  have c0 : y5.cell? ⟨w.heap.size, 0, none⟩ = some (.int .i64 k) := H5.out.at 0
  have c1 : y5.cell? ⟨w.heap.size, 1, none⟩ = some (.int .i64 f) := H5.out.at 1
  have c2 : y5.cell? ⟨w.heap.size, 2, none⟩ = some (.int .i64 t) := H5.out.at 2
  have c3 : y5.cell? ⟨w.heap.size, 3, none⟩ = some (.int .i64 l) := H5.out.at 3
  have c4 : y5.cell? ⟨w.heap.size, 4, none⟩ = some (.string x) := H5.out.at 4
  have c5 : y5.cell? ⟨w.heap.size, 5, none⟩ = some (.string u) := H5.out.at 5
  have c6 : y5.cell? ⟨w.heap.size, 6, none⟩ = some (.string h) := H5.out.at 6
  have c7 : y5.cell? ⟨w.heap.size, 7, none⟩ = some (.bool g) := H5.out.at 7
  have c8 : y5.cell? ⟨w.heap.size, 8, none⟩ = some (.slice KA K kc) := H5.out.at 8
  have c9 : y5.cell? ⟨w.heap.size, 9, none⟩ = some (.slice PA P pc) := H5.out.at 9
  go_wp2_with fail
  go_ret
  exact ⟨rfl, G5.out⟩

set_option maxHeartbeats 4000000 in
theorem fits_d (k f t l : Int) (x u h : ByteArray) (g : Bool) (K : Nat) (KA PA : Option Addr) (kc pc : Nat) (h0 : 0 ≤ f) (h1 : f ≤ t) (h3 : k ≠ 3)
    (HL : Hid (∀ W, Calls Tryd.prog 40 #[.agg #[.int .i64 k, .int .i64 f, .int .i64 t, .int .i64 l, .string x, .string u, .string h, .bool g, .slice KA K kc, .slice PA 0 pc]] W (Grows (.bool true) W)))
    (HT : Hid (∀ W, Calls Tryd.prog 41 #[.agg #[.int .i64 k, .int .i64 f, .int .i64 t, .int .i64 l, .string x, .string u, .string h, .bool g, .slice KA K kc, .slice PA 0 pc]] W (Grows (.bool true) W)))
    (HK : Hid (∀ W, Calls Tryd.prog 42 #[.agg #[.int .i64 k, .int .i64 f, .int .i64 t, .int .i64 l, .string x, .string u, .string h, .bool g, .slice KA K kc, .slice PA 0 pc]] W (Grows (.bool true) W)))
    (HH : Hid (∀ W, Calls Tryd.prog 43 #[.agg #[.int .i64 k, .int .i64 f, .int .i64 t, .int .i64 l, .string x, .string u, .string h, .bool g, .slice KA K kc, .slice PA 0 pc]] W (Grows (.bool true) W)))
    (HG : Hid (∀ W, Calls Tryd.prog 44 #[.agg #[.int .i64 k, .int .i64 f, .int .i64 t, .int .i64 l, .string x, .string u, .string h, .bool g, .slice KA K kc, .slice PA 0 pc]] W (Grows (.bool true) W))) (w : World) : Calls Tryd.prog 26 #[.agg #[.int .i64 k, .int .i64 f, .int .i64 t, .int .i64 l, .string x, .string u, .string h, .bool g, .slice KA K kc, .slice PA 0 pc]] w (Grows (.bool true) w) := by
  have H0 : Hid (Holds (w.alloc (.cells #[.int .i64 k, .int .i64 f, .int .i64 t, .int .i64 l, .string x, .string u, .string h, .bool g, .slice KA K kc, .slice PA 0 pc] 39)) w.heap.size 39 #[.int .i64 k, .int .i64 f, .int .i64 t, .int .i64 l, .string x, .string u, .string h, .bool g, .slice KA K kc, .slice PA 0 pc]) := Holds.made w 39 _
  have G0 : Hid (Gr w (w.alloc (.cells #[.int .i64 k, .int .i64 f, .int .i64 t, .int .i64 l, .string x, .string u, .string h, .bool g, .slice KA K kc, .slice PA 0 pc] 39))) := Gr.alloc w _
  have q3 : (k != 3) = true := by simpa using h3
  clear h3
  go_enter Tryd.func26, Tryd.ntmps26
  go_wp2_with fail
  refine (HL.out _).mono ?_
  rintro e y1 ⟨rfl, hy⟩
  have H1 := Lib.hid (Gr.holds hy H0.out)
  have G1 := Lib.hid (Gr.trans G0.out hy)
  clear hy
  have c0 : y1.cell? ⟨w.heap.size, 0, none⟩ = some (.int .i64 k) := H1.out.at 0
  have c1 : y1.cell? ⟨w.heap.size, 1, none⟩ = some (.int .i64 f) := H1.out.at 1
  have c2 : y1.cell? ⟨w.heap.size, 2, none⟩ = some (.int .i64 t) := H1.out.at 2
  have c3 : y1.cell? ⟨w.heap.size, 3, none⟩ = some (.int .i64 l) := H1.out.at 3
  have c4 : y1.cell? ⟨w.heap.size, 4, none⟩ = some (.string x) := H1.out.at 4
  have c5 : y1.cell? ⟨w.heap.size, 5, none⟩ = some (.string u) := H1.out.at 5
  have c6 : y1.cell? ⟨w.heap.size, 6, none⟩ = some (.string h) := H1.out.at 6
  have c7 : y1.cell? ⟨w.heap.size, 7, none⟩ = some (.bool g) := H1.out.at 7
  have c8 : y1.cell? ⟨w.heap.size, 8, none⟩ = some (.slice KA K kc) := H1.out.at 8
  have c9 : y1.cell? ⟨w.heap.size, 9, none⟩ = some (.slice PA 0 pc) := H1.out.at 9
  go_wp2_with fail
  clear c0 c1 c2 c3 c4 c5 c6 c7 c8 c9
  refine (HT.out _).mono ?_
  rintro e y2 ⟨rfl, hy⟩
  have H2 := Lib.hid (Gr.holds hy H1.out)
  have G2 := Lib.hid (Gr.trans G1.out hy)
  clear hy
  have c0 : y2.cell? ⟨w.heap.size, 0, none⟩ = some (.int .i64 k) := H2.out.at 0
  have c1 : y2.cell? ⟨w.heap.size, 1, none⟩ = some (.int .i64 f) := H2.out.at 1
  have c2 : y2.cell? ⟨w.heap.size, 2, none⟩ = some (.int .i64 t) := H2.out.at 2
  have c3 : y2.cell? ⟨w.heap.size, 3, none⟩ = some (.int .i64 l) := H2.out.at 3
  have c4 : y2.cell? ⟨w.heap.size, 4, none⟩ = some (.string x) := H2.out.at 4
  have c5 : y2.cell? ⟨w.heap.size, 5, none⟩ = some (.string u) := H2.out.at 5
  have c6 : y2.cell? ⟨w.heap.size, 6, none⟩ = some (.string h) := H2.out.at 6
  have c7 : y2.cell? ⟨w.heap.size, 7, none⟩ = some (.bool g) := H2.out.at 7
  have c8 : y2.cell? ⟨w.heap.size, 8, none⟩ = some (.slice KA K kc) := H2.out.at 8
  have c9 : y2.cell? ⟨w.heap.size, 9, none⟩ = some (.slice PA 0 pc) := H2.out.at 9
  go_wp2_with fail
  clear c0 c1 c2 c3 c4 c5 c6 c7 c8 c9
  refine (HK.out _).mono ?_
  rintro e y3 ⟨rfl, hy⟩
  have H3 := Lib.hid (Gr.holds hy H2.out)
  have G3 := Lib.hid (Gr.trans G2.out hy)
  clear hy
  have c0 : y3.cell? ⟨w.heap.size, 0, none⟩ = some (.int .i64 k) := H3.out.at 0
  have c1 : y3.cell? ⟨w.heap.size, 1, none⟩ = some (.int .i64 f) := H3.out.at 1
  have c2 : y3.cell? ⟨w.heap.size, 2, none⟩ = some (.int .i64 t) := H3.out.at 2
  have c3 : y3.cell? ⟨w.heap.size, 3, none⟩ = some (.int .i64 l) := H3.out.at 3
  have c4 : y3.cell? ⟨w.heap.size, 4, none⟩ = some (.string x) := H3.out.at 4
  have c5 : y3.cell? ⟨w.heap.size, 5, none⟩ = some (.string u) := H3.out.at 5
  have c6 : y3.cell? ⟨w.heap.size, 6, none⟩ = some (.string h) := H3.out.at 6
  have c7 : y3.cell? ⟨w.heap.size, 7, none⟩ = some (.bool g) := H3.out.at 7
  have c8 : y3.cell? ⟨w.heap.size, 8, none⟩ = some (.slice KA K kc) := H3.out.at 8
  have c9 : y3.cell? ⟨w.heap.size, 9, none⟩ = some (.slice PA 0 pc) := H3.out.at 9
  go_wp2_with fail
  clear c0 c1 c2 c3 c4 c5 c6 c7 c8 c9
  refine (HH.out _).mono ?_
  rintro e y4 ⟨rfl, hy⟩
  have H4 := Lib.hid (Gr.holds hy H3.out)
  have G4 := Lib.hid (Gr.trans G3.out hy)
  clear hy
  have c0 : y4.cell? ⟨w.heap.size, 0, none⟩ = some (.int .i64 k) := H4.out.at 0
  have c1 : y4.cell? ⟨w.heap.size, 1, none⟩ = some (.int .i64 f) := H4.out.at 1
  have c2 : y4.cell? ⟨w.heap.size, 2, none⟩ = some (.int .i64 t) := H4.out.at 2
  have c3 : y4.cell? ⟨w.heap.size, 3, none⟩ = some (.int .i64 l) := H4.out.at 3
  have c4 : y4.cell? ⟨w.heap.size, 4, none⟩ = some (.string x) := H4.out.at 4
  have c5 : y4.cell? ⟨w.heap.size, 5, none⟩ = some (.string u) := H4.out.at 5
  have c6 : y4.cell? ⟨w.heap.size, 6, none⟩ = some (.string h) := H4.out.at 6
  have c7 : y4.cell? ⟨w.heap.size, 7, none⟩ = some (.bool g) := H4.out.at 7
  have c8 : y4.cell? ⟨w.heap.size, 8, none⟩ = some (.slice KA K kc) := H4.out.at 8
  have c9 : y4.cell? ⟨w.heap.size, 9, none⟩ = some (.slice PA 0 pc) := H4.out.at 9
  go_wp2_with fail
  clear c0 c1 c2 c3 c4 c5 c6 c7 c8 c9
  refine (HG.out _).mono ?_
  rintro e y5 ⟨rfl, hy⟩
  have H5 := Lib.hid (Gr.holds hy H4.out)
  have G5 := Lib.hid (Gr.trans G4.out hy)
  clear hy
  have c0 : y5.cell? ⟨w.heap.size, 0, none⟩ = some (.int .i64 k) := H5.out.at 0
  have c1 : y5.cell? ⟨w.heap.size, 1, none⟩ = some (.int .i64 f) := H5.out.at 1
  have c2 : y5.cell? ⟨w.heap.size, 2, none⟩ = some (.int .i64 t) := H5.out.at 2
  have c3 : y5.cell? ⟨w.heap.size, 3, none⟩ = some (.int .i64 l) := H5.out.at 3
  have c4 : y5.cell? ⟨w.heap.size, 4, none⟩ = some (.string x) := H5.out.at 4
  have c5 : y5.cell? ⟨w.heap.size, 5, none⟩ = some (.string u) := H5.out.at 5
  have c6 : y5.cell? ⟨w.heap.size, 6, none⟩ = some (.string h) := H5.out.at 6
  have c7 : y5.cell? ⟨w.heap.size, 7, none⟩ = some (.bool g) := H5.out.at 7
  have c8 : y5.cell? ⟨w.heap.size, 8, none⟩ = some (.slice KA K kc) := H5.out.at 8
  have c9 : y5.cell? ⟨w.heap.size, 9, none⟩ = some (.slice PA 0 pc) := H5.out.at 9
  go_wp2_with fail
  go_ret
  exact ⟨rfl, G5.out⟩

set_option maxHeartbeats 4000000 in
theorem fits_e (k f t l : Int) (x u h : ByteArray) (g : Bool) (K : Nat) (KA PA : Option Addr) (kc pc : Nat) (h0 : 0 ≤ f) (h1 : f ≤ t) (h3 : k = 3) (h4 : 0 < K)
    (HL : Hid (∀ W, Calls Tryd.prog 40 #[.agg #[.int .i64 k, .int .i64 f, .int .i64 t, .int .i64 l, .string x, .string u, .string h, .bool g, .slice KA K kc, .slice PA 0 pc]] W (Grows (.bool true) W)))
    (HT : Hid (∀ W, Calls Tryd.prog 41 #[.agg #[.int .i64 k, .int .i64 f, .int .i64 t, .int .i64 l, .string x, .string u, .string h, .bool g, .slice KA K kc, .slice PA 0 pc]] W (Grows (.bool true) W)))
    (HK : Hid (∀ W, Calls Tryd.prog 42 #[.agg #[.int .i64 k, .int .i64 f, .int .i64 t, .int .i64 l, .string x, .string u, .string h, .bool g, .slice KA K kc, .slice PA 0 pc]] W (Grows (.bool true) W)))
    (HH : Hid (∀ W, Calls Tryd.prog 43 #[.agg #[.int .i64 k, .int .i64 f, .int .i64 t, .int .i64 l, .string x, .string u, .string h, .bool g, .slice KA K kc, .slice PA 0 pc]] W (Grows (.bool true) W)))
    (HG : Hid (∀ W, Calls Tryd.prog 44 #[.agg #[.int .i64 k, .int .i64 f, .int .i64 t, .int .i64 l, .string x, .string u, .string h, .bool g, .slice KA K kc, .slice PA 0 pc]] W (Grows (.bool true) W))) (w : World) : Calls Tryd.prog 26 #[.agg #[.int .i64 k, .int .i64 f, .int .i64 t, .int .i64 l, .string x, .string u, .string h, .bool g, .slice KA K kc, .slice PA 0 pc]] w (Grows (.bool true) w) := by
  have H0 : Hid (Holds (w.alloc (.cells #[.int .i64 k, .int .i64 f, .int .i64 t, .int .i64 l, .string x, .string u, .string h, .bool g, .slice KA K kc, .slice PA 0 pc] 39)) w.heap.size 39 #[.int .i64 k, .int .i64 f, .int .i64 t, .int .i64 l, .string x, .string u, .string h, .bool g, .slice KA K kc, .slice PA 0 pc]) := Holds.made w 39 _
  have G0 : Hid (Gr w (w.alloc (.cells #[.int .i64 k, .int .i64 f, .int .i64 t, .int .i64 l, .string x, .string u, .string h, .bool g, .slice KA K kc, .slice PA 0 pc] 39))) := Gr.alloc w _
  have q3 : (k != 3) = false := by simpa using h3
  clear h3
  have q4 : (0 : Int) < (K : Int) := by omega
  go_enter Tryd.func26, Tryd.ntmps26
  go_wp2_with fail
  refine (HL.out _).mono ?_
  rintro e y1 ⟨rfl, hy⟩
  have H1 := Lib.hid (Gr.holds hy H0.out)
  have G1 := Lib.hid (Gr.trans G0.out hy)
  clear hy
  have c0 : y1.cell? ⟨w.heap.size, 0, none⟩ = some (.int .i64 k) := H1.out.at 0
  have c1 : y1.cell? ⟨w.heap.size, 1, none⟩ = some (.int .i64 f) := H1.out.at 1
  have c2 : y1.cell? ⟨w.heap.size, 2, none⟩ = some (.int .i64 t) := H1.out.at 2
  have c3 : y1.cell? ⟨w.heap.size, 3, none⟩ = some (.int .i64 l) := H1.out.at 3
  have c4 : y1.cell? ⟨w.heap.size, 4, none⟩ = some (.string x) := H1.out.at 4
  have c5 : y1.cell? ⟨w.heap.size, 5, none⟩ = some (.string u) := H1.out.at 5
  have c6 : y1.cell? ⟨w.heap.size, 6, none⟩ = some (.string h) := H1.out.at 6
  have c7 : y1.cell? ⟨w.heap.size, 7, none⟩ = some (.bool g) := H1.out.at 7
  have c8 : y1.cell? ⟨w.heap.size, 8, none⟩ = some (.slice KA K kc) := H1.out.at 8
  have c9 : y1.cell? ⟨w.heap.size, 9, none⟩ = some (.slice PA 0 pc) := H1.out.at 9
  go_wp2_with fail
  clear c0 c1 c2 c3 c4 c5 c6 c7 c8 c9
  refine (HT.out _).mono ?_
  rintro e y2 ⟨rfl, hy⟩
  have H2 := Lib.hid (Gr.holds hy H1.out)
  have G2 := Lib.hid (Gr.trans G1.out hy)
  clear hy
  have c0 : y2.cell? ⟨w.heap.size, 0, none⟩ = some (.int .i64 k) := H2.out.at 0
  have c1 : y2.cell? ⟨w.heap.size, 1, none⟩ = some (.int .i64 f) := H2.out.at 1
  have c2 : y2.cell? ⟨w.heap.size, 2, none⟩ = some (.int .i64 t) := H2.out.at 2
  have c3 : y2.cell? ⟨w.heap.size, 3, none⟩ = some (.int .i64 l) := H2.out.at 3
  have c4 : y2.cell? ⟨w.heap.size, 4, none⟩ = some (.string x) := H2.out.at 4
  have c5 : y2.cell? ⟨w.heap.size, 5, none⟩ = some (.string u) := H2.out.at 5
  have c6 : y2.cell? ⟨w.heap.size, 6, none⟩ = some (.string h) := H2.out.at 6
  have c7 : y2.cell? ⟨w.heap.size, 7, none⟩ = some (.bool g) := H2.out.at 7
  have c8 : y2.cell? ⟨w.heap.size, 8, none⟩ = some (.slice KA K kc) := H2.out.at 8
  have c9 : y2.cell? ⟨w.heap.size, 9, none⟩ = some (.slice PA 0 pc) := H2.out.at 9
  go_wp2_with fail
  clear c0 c1 c2 c3 c4 c5 c6 c7 c8 c9
  refine (HK.out _).mono ?_
  rintro e y3 ⟨rfl, hy⟩
  have H3 := Lib.hid (Gr.holds hy H2.out)
  have G3 := Lib.hid (Gr.trans G2.out hy)
  clear hy
  have c0 : y3.cell? ⟨w.heap.size, 0, none⟩ = some (.int .i64 k) := H3.out.at 0
  have c1 : y3.cell? ⟨w.heap.size, 1, none⟩ = some (.int .i64 f) := H3.out.at 1
  have c2 : y3.cell? ⟨w.heap.size, 2, none⟩ = some (.int .i64 t) := H3.out.at 2
  have c3 : y3.cell? ⟨w.heap.size, 3, none⟩ = some (.int .i64 l) := H3.out.at 3
  have c4 : y3.cell? ⟨w.heap.size, 4, none⟩ = some (.string x) := H3.out.at 4
  have c5 : y3.cell? ⟨w.heap.size, 5, none⟩ = some (.string u) := H3.out.at 5
  have c6 : y3.cell? ⟨w.heap.size, 6, none⟩ = some (.string h) := H3.out.at 6
  have c7 : y3.cell? ⟨w.heap.size, 7, none⟩ = some (.bool g) := H3.out.at 7
  have c8 : y3.cell? ⟨w.heap.size, 8, none⟩ = some (.slice KA K kc) := H3.out.at 8
  have c9 : y3.cell? ⟨w.heap.size, 9, none⟩ = some (.slice PA 0 pc) := H3.out.at 9
  go_wp2_with fail
  clear c0 c1 c2 c3 c4 c5 c6 c7 c8 c9
  refine (HH.out _).mono ?_
  rintro e y4 ⟨rfl, hy⟩
  have H4 := Lib.hid (Gr.holds hy H3.out)
  have G4 := Lib.hid (Gr.trans G3.out hy)
  clear hy
  have c0 : y4.cell? ⟨w.heap.size, 0, none⟩ = some (.int .i64 k) := H4.out.at 0
  have c1 : y4.cell? ⟨w.heap.size, 1, none⟩ = some (.int .i64 f) := H4.out.at 1
  have c2 : y4.cell? ⟨w.heap.size, 2, none⟩ = some (.int .i64 t) := H4.out.at 2
  have c3 : y4.cell? ⟨w.heap.size, 3, none⟩ = some (.int .i64 l) := H4.out.at 3
  have c4 : y4.cell? ⟨w.heap.size, 4, none⟩ = some (.string x) := H4.out.at 4
  have c5 : y4.cell? ⟨w.heap.size, 5, none⟩ = some (.string u) := H4.out.at 5
  have c6 : y4.cell? ⟨w.heap.size, 6, none⟩ = some (.string h) := H4.out.at 6
  have c7 : y4.cell? ⟨w.heap.size, 7, none⟩ = some (.bool g) := H4.out.at 7
  have c8 : y4.cell? ⟨w.heap.size, 8, none⟩ = some (.slice KA K kc) := H4.out.at 8
  have c9 : y4.cell? ⟨w.heap.size, 9, none⟩ = some (.slice PA 0 pc) := H4.out.at 9
  go_wp2_with fail
  clear c0 c1 c2 c3 c4 c5 c6 c7 c8 c9
  refine (HG.out _).mono ?_
  rintro e y5 ⟨rfl, hy⟩
  have H5 := Lib.hid (Gr.holds hy H4.out)
  have G5 := Lib.hid (Gr.trans G4.out hy)
  clear hy
  have c0 : y5.cell? ⟨w.heap.size, 0, none⟩ = some (.int .i64 k) := H5.out.at 0
  have c1 : y5.cell? ⟨w.heap.size, 1, none⟩ = some (.int .i64 f) := H5.out.at 1
  have c2 : y5.cell? ⟨w.heap.size, 2, none⟩ = some (.int .i64 t) := H5.out.at 2
  have c3 : y5.cell? ⟨w.heap.size, 3, none⟩ = some (.int .i64 l) := H5.out.at 3
  have c4 : y5.cell? ⟨w.heap.size, 4, none⟩ = some (.string x) := H5.out.at 4
  have c5 : y5.cell? ⟨w.heap.size, 5, none⟩ = some (.string u) := H5.out.at 5
  have c6 : y5.cell? ⟨w.heap.size, 6, none⟩ = some (.string h) := H5.out.at 6
  have c7 : y5.cell? ⟨w.heap.size, 7, none⟩ = some (.bool g) := H5.out.at 7
  have c8 : y5.cell? ⟨w.heap.size, 8, none⟩ = some (.slice KA K kc) := H5.out.at 8
  have c9 : y5.cell? ⟨w.heap.size, 9, none⟩ = some (.slice PA 0 pc) := H5.out.at 9
  go_wp2_with fail
  go_ret
  exact ⟨rfl, G5.out⟩

set_option maxHeartbeats 4000000 in
theorem fits_f (k f t l : Int) (x u h : ByteArray) (g : Bool) (KA PA : Option Addr) (kc pc : Nat) (h0 : 0 ≤ f) (h1 : f ≤ t) (h3 : k = 3)
    (HL : Hid (∀ W, Calls Tryd.prog 40 #[.agg #[.int .i64 k, .int .i64 f, .int .i64 t, .int .i64 l, .string x, .string u, .string h, .bool g, .slice KA 0 kc, .slice PA 0 pc]] W (Grows (.bool true) W)))
    (HT : Hid (∀ W, Calls Tryd.prog 41 #[.agg #[.int .i64 k, .int .i64 f, .int .i64 t, .int .i64 l, .string x, .string u, .string h, .bool g, .slice KA 0 kc, .slice PA 0 pc]] W (Grows (.bool true) W)))
    (HK : Hid (∀ W, Calls Tryd.prog 42 #[.agg #[.int .i64 k, .int .i64 f, .int .i64 t, .int .i64 l, .string x, .string u, .string h, .bool g, .slice KA 0 kc, .slice PA 0 pc]] W (Grows (.bool true) W)))
    (HH : Hid (∀ W, Calls Tryd.prog 43 #[.agg #[.int .i64 k, .int .i64 f, .int .i64 t, .int .i64 l, .string x, .string u, .string h, .bool g, .slice KA 0 kc, .slice PA 0 pc]] W (Grows (.bool true) W)))
    (HG : Hid (∀ W, Calls Tryd.prog 44 #[.agg #[.int .i64 k, .int .i64 f, .int .i64 t, .int .i64 l, .string x, .string u, .string h, .bool g, .slice KA 0 kc, .slice PA 0 pc]] W (Grows (.bool true) W))) (w : World) : Calls Tryd.prog 26 #[.agg #[.int .i64 k, .int .i64 f, .int .i64 t, .int .i64 l, .string x, .string u, .string h, .bool g, .slice KA 0 kc, .slice PA 0 pc]] w (Grows (.bool false) w) := by
  have H0 : Hid (Holds (w.alloc (.cells #[.int .i64 k, .int .i64 f, .int .i64 t, .int .i64 l, .string x, .string u, .string h, .bool g, .slice KA 0 kc, .slice PA 0 pc] 39)) w.heap.size 39 #[.int .i64 k, .int .i64 f, .int .i64 t, .int .i64 l, .string x, .string u, .string h, .bool g, .slice KA 0 kc, .slice PA 0 pc]) := Holds.made w 39 _
  have G0 : Hid (Gr w (w.alloc (.cells #[.int .i64 k, .int .i64 f, .int .i64 t, .int .i64 l, .string x, .string u, .string h, .bool g, .slice KA 0 kc, .slice PA 0 pc] 39))) := Gr.alloc w _
  have q3 : (k != 3) = false := by simpa using h3
  clear h3
  go_enter Tryd.func26, Tryd.ntmps26
  go_wp2_with fail
  refine (HL.out _).mono ?_
  rintro e y1 ⟨rfl, hy⟩
  have H1 := Lib.hid (Gr.holds hy H0.out)
  have G1 := Lib.hid (Gr.trans G0.out hy)
  clear hy
  have c0 : y1.cell? ⟨w.heap.size, 0, none⟩ = some (.int .i64 k) := H1.out.at 0
  have c1 : y1.cell? ⟨w.heap.size, 1, none⟩ = some (.int .i64 f) := H1.out.at 1
  have c2 : y1.cell? ⟨w.heap.size, 2, none⟩ = some (.int .i64 t) := H1.out.at 2
  have c3 : y1.cell? ⟨w.heap.size, 3, none⟩ = some (.int .i64 l) := H1.out.at 3
  have c4 : y1.cell? ⟨w.heap.size, 4, none⟩ = some (.string x) := H1.out.at 4
  have c5 : y1.cell? ⟨w.heap.size, 5, none⟩ = some (.string u) := H1.out.at 5
  have c6 : y1.cell? ⟨w.heap.size, 6, none⟩ = some (.string h) := H1.out.at 6
  have c7 : y1.cell? ⟨w.heap.size, 7, none⟩ = some (.bool g) := H1.out.at 7
  have c8 : y1.cell? ⟨w.heap.size, 8, none⟩ = some (.slice KA 0 kc) := H1.out.at 8
  have c9 : y1.cell? ⟨w.heap.size, 9, none⟩ = some (.slice PA 0 pc) := H1.out.at 9
  go_wp2_with fail
  clear c0 c1 c2 c3 c4 c5 c6 c7 c8 c9
  refine (HT.out _).mono ?_
  rintro e y2 ⟨rfl, hy⟩
  have H2 := Lib.hid (Gr.holds hy H1.out)
  have G2 := Lib.hid (Gr.trans G1.out hy)
  clear hy
  have c0 : y2.cell? ⟨w.heap.size, 0, none⟩ = some (.int .i64 k) := H2.out.at 0
  have c1 : y2.cell? ⟨w.heap.size, 1, none⟩ = some (.int .i64 f) := H2.out.at 1
  have c2 : y2.cell? ⟨w.heap.size, 2, none⟩ = some (.int .i64 t) := H2.out.at 2
  have c3 : y2.cell? ⟨w.heap.size, 3, none⟩ = some (.int .i64 l) := H2.out.at 3
  have c4 : y2.cell? ⟨w.heap.size, 4, none⟩ = some (.string x) := H2.out.at 4
  have c5 : y2.cell? ⟨w.heap.size, 5, none⟩ = some (.string u) := H2.out.at 5
  have c6 : y2.cell? ⟨w.heap.size, 6, none⟩ = some (.string h) := H2.out.at 6
  have c7 : y2.cell? ⟨w.heap.size, 7, none⟩ = some (.bool g) := H2.out.at 7
  have c8 : y2.cell? ⟨w.heap.size, 8, none⟩ = some (.slice KA 0 kc) := H2.out.at 8
  have c9 : y2.cell? ⟨w.heap.size, 9, none⟩ = some (.slice PA 0 pc) := H2.out.at 9
  go_wp2_with fail
  clear c0 c1 c2 c3 c4 c5 c6 c7 c8 c9
  refine (HK.out _).mono ?_
  rintro e y3 ⟨rfl, hy⟩
  have H3 := Lib.hid (Gr.holds hy H2.out)
  have G3 := Lib.hid (Gr.trans G2.out hy)
  clear hy
  have c0 : y3.cell? ⟨w.heap.size, 0, none⟩ = some (.int .i64 k) := H3.out.at 0
  have c1 : y3.cell? ⟨w.heap.size, 1, none⟩ = some (.int .i64 f) := H3.out.at 1
  have c2 : y3.cell? ⟨w.heap.size, 2, none⟩ = some (.int .i64 t) := H3.out.at 2
  have c3 : y3.cell? ⟨w.heap.size, 3, none⟩ = some (.int .i64 l) := H3.out.at 3
  have c4 : y3.cell? ⟨w.heap.size, 4, none⟩ = some (.string x) := H3.out.at 4
  have c5 : y3.cell? ⟨w.heap.size, 5, none⟩ = some (.string u) := H3.out.at 5
  have c6 : y3.cell? ⟨w.heap.size, 6, none⟩ = some (.string h) := H3.out.at 6
  have c7 : y3.cell? ⟨w.heap.size, 7, none⟩ = some (.bool g) := H3.out.at 7
  have c8 : y3.cell? ⟨w.heap.size, 8, none⟩ = some (.slice KA 0 kc) := H3.out.at 8
  have c9 : y3.cell? ⟨w.heap.size, 9, none⟩ = some (.slice PA 0 pc) := H3.out.at 9
  go_wp2_with fail
  clear c0 c1 c2 c3 c4 c5 c6 c7 c8 c9
  refine (HH.out _).mono ?_
  rintro e y4 ⟨rfl, hy⟩
  have H4 := Lib.hid (Gr.holds hy H3.out)
  have G4 := Lib.hid (Gr.trans G3.out hy)
  clear hy
  have c0 : y4.cell? ⟨w.heap.size, 0, none⟩ = some (.int .i64 k) := H4.out.at 0
  have c1 : y4.cell? ⟨w.heap.size, 1, none⟩ = some (.int .i64 f) := H4.out.at 1
  have c2 : y4.cell? ⟨w.heap.size, 2, none⟩ = some (.int .i64 t) := H4.out.at 2
  have c3 : y4.cell? ⟨w.heap.size, 3, none⟩ = some (.int .i64 l) := H4.out.at 3
  have c4 : y4.cell? ⟨w.heap.size, 4, none⟩ = some (.string x) := H4.out.at 4
  have c5 : y4.cell? ⟨w.heap.size, 5, none⟩ = some (.string u) := H4.out.at 5
  have c6 : y4.cell? ⟨w.heap.size, 6, none⟩ = some (.string h) := H4.out.at 6
  have c7 : y4.cell? ⟨w.heap.size, 7, none⟩ = some (.bool g) := H4.out.at 7
  have c8 : y4.cell? ⟨w.heap.size, 8, none⟩ = some (.slice KA 0 kc) := H4.out.at 8
  have c9 : y4.cell? ⟨w.heap.size, 9, none⟩ = some (.slice PA 0 pc) := H4.out.at 9
  go_wp2_with fail
  clear c0 c1 c2 c3 c4 c5 c6 c7 c8 c9
  refine (HG.out _).mono ?_
  rintro e y5 ⟨rfl, hy⟩
  have H5 := Lib.hid (Gr.holds hy H4.out)
  have G5 := Lib.hid (Gr.trans G4.out hy)
  clear hy
  have c0 : y5.cell? ⟨w.heap.size, 0, none⟩ = some (.int .i64 k) := H5.out.at 0
  have c1 : y5.cell? ⟨w.heap.size, 1, none⟩ = some (.int .i64 f) := H5.out.at 1
  have c2 : y5.cell? ⟨w.heap.size, 2, none⟩ = some (.int .i64 t) := H5.out.at 2
  have c3 : y5.cell? ⟨w.heap.size, 3, none⟩ = some (.int .i64 l) := H5.out.at 3
  have c4 : y5.cell? ⟨w.heap.size, 4, none⟩ = some (.string x) := H5.out.at 4
  have c5 : y5.cell? ⟨w.heap.size, 5, none⟩ = some (.string u) := H5.out.at 5
  have c6 : y5.cell? ⟨w.heap.size, 6, none⟩ = some (.string h) := H5.out.at 6
  have c7 : y5.cell? ⟨w.heap.size, 7, none⟩ = some (.bool g) := H5.out.at 7
  have c8 : y5.cell? ⟨w.heap.size, 8, none⟩ = some (.slice KA 0 kc) := H5.out.at 8
  have c9 : y5.cell? ⟨w.heap.size, 9, none⟩ = some (.slice PA 0 pc) := H5.out.at 9
  go_wp2_with fail
  go_ret
  exact ⟨rfl, G5.out⟩

theorem fits_any (n : Nd) (KA PA : Option Addr) (kc pc : Nat) (w : World) : Calls Tryd.prog 26 #[nagg n (.slice KA n.ks.length kc) (.slice PA n.ps.length pc)] w (Grows (.bool (fitB n)) w) := by
  obtain ⟨k, f, t, l, x, u, h, g, ks, ps⟩ := n
  have HF : fitB ⟨k, f, t, l, x, u, h, g, ks, ps⟩ = (decide (0 ≤ f) && (decide (f ≤ t) && (lvB k l && (txB k l x && (lnB k u && (tiB k h && (tgB k g && (decide (ps.length = 0) && (decide (k ≠ 3) || decide (0 < ks.length)))))))))) := rfl
  rw [HF]
  clear HF
  have H0 : ∀ W, Calls Tryd.prog 40 #[.agg #[.int .i64 k, .int .i64 f, .int .i64 t, .int .i64 l, .string x, .string u, .string h, .bool g, .slice KA ks.length kc, .slice PA ps.length pc]] W (Grows (.bool (lvB k l)) W) := fun W => level_any ⟨k, f, t, l, x, u, h, g, ks, ps⟩ _ _ W
  have H1 : ∀ W, Calls Tryd.prog 41 #[.agg #[.int .i64 k, .int .i64 f, .int .i64 t, .int .i64 l, .string x, .string u, .string h, .bool g, .slice KA ks.length kc, .slice PA ps.length pc]] W (Grows (.bool (txB k l x)) W) := fun W => text_any ⟨k, f, t, l, x, u, h, g, ks, ps⟩ _ _ W
  have H2 : ∀ W, Calls Tryd.prog 42 #[.agg #[.int .i64 k, .int .i64 f, .int .i64 t, .int .i64 l, .string x, .string u, .string h, .bool g, .slice KA ks.length kc, .slice PA ps.length pc]] W (Grows (.bool (lnB k u)) W) := fun W => link_any ⟨k, f, t, l, x, u, h, g, ks, ps⟩ _ _ W
  have H3 : ∀ W, Calls Tryd.prog 43 #[.agg #[.int .i64 k, .int .i64 f, .int .i64 t, .int .i64 l, .string x, .string u, .string h, .bool g, .slice KA ks.length kc, .slice PA ps.length pc]] W (Grows (.bool (tiB k h)) W) := fun W => title_any ⟨k, f, t, l, x, u, h, g, ks, ps⟩ _ _ W
  have H4 : ∀ W, Calls Tryd.prog 44 #[.agg #[.int .i64 k, .int .i64 f, .int .i64 t, .int .i64 l, .string x, .string u, .string h, .bool g, .slice KA ks.length kc, .slice PA ps.length pc]] W (Grows (.bool (tgB k g)) W) := fun W => tight_any ⟨k, f, t, l, x, u, h, g, ks, ps⟩ _ _ W
  show Calls Tryd.prog 26 #[.agg #[.int .i64 k, .int .i64 f, .int .i64 t, .int .i64 l, .string x, .string u, .string h, .bool g, .slice KA ks.length kc, .slice PA ps.length pc]] w _
  generalize ps.length = P at *
  generalize ks.length = K at *
  by_cases h0 : 0 ≤ f
  · by_cases h1 : f ≤ t
    · rw [decide_eq_true h0, decide_eq_true h1, Bool.true_and, Bool.true_and]
      generalize lvB k l = b0 at H0 ⊢
      generalize txB k l x = b1 at H1 ⊢
      generalize lnB k u = b2 at H2 ⊢
      generalize tiB k h = b3 at H3 ⊢
      generalize tgB k g = b4 at H4 ⊢
      cases b0 with
      | false => simpa using fits_0 k f t l x u h g K P KA PA kc pc h0 h1 H0 w
      | true =>
        cases b1 with
        | false => simpa using fits_1 k f t l x u h g K P KA PA kc pc h0 h1 H0 H1 w
        | true =>
          cases b2 with
          | false => simpa using fits_2 k f t l x u h g K P KA PA kc pc h0 h1 H0 H1 H2 w
          | true =>
            cases b3 with
            | false => simpa using fits_3 k f t l x u h g K P KA PA kc pc h0 h1 H0 H1 H2 H3 w
            | true =>
              cases b4 with
              | false => simpa using fits_4 k f t l x u h g K P KA PA kc pc h0 h1 H0 H1 H2 H3 H4 w
              | true =>
                simp only [Bool.true_and]
                by_cases h2 : P = 0
                · subst h2
                  by_cases h3 : k = 3
                  · by_cases h4 : 0 < K
                    · rw [decide_eq_true (rfl : (0:Nat) = 0), decide_eq_true h4, Bool.or_true, Bool.and_true]; exact fits_e k f t l x u h g K KA PA kc pc h0 h1 h3 h4 H0 H1 H2 H3 H4 w
                    · obtain rfl : K = 0 := by omega
                      rw [decide_eq_true (rfl : (0:Nat) = 0), decide_eq_false h4, decide_eq_false (show ¬ k ≠ 3 from fun q => q h3)]; exact fits_f k f t l x u h g KA PA kc pc h0 h1 h3 H0 H1 H2 H3 H4 w
                  · rw [decide_eq_true (rfl : (0:Nat) = 0), decide_eq_true h3]; exact fits_d k f t l x u h g K KA PA kc pc h0 h1 h3 H0 H1 H2 H3 H4 w
                · rw [decide_eq_false h2, Bool.false_and]; exact fits_c k f t l x u h g K P KA PA kc pc h0 h1 (by omega) H0 H1 H2 H3 H4 w
    · rw [decide_eq_false h1, Bool.false_and, Bool.and_false]; exact fits_b k f t l x u h g K P KA PA kc pc h0 (by omega) w
  · rw [decide_eq_false h0, Bool.false_and]; exact fits_a k f t l x u h g K P KA PA kc pc (by omega) w
end Go.Proofs.YtdfhgcknelgdmaaDoor
