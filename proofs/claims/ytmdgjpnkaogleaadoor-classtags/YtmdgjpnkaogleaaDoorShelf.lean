/-
  PROVED: the library's contract of strings.Map at this program's numbers, by one application of the kit's own theorem. Conditions: as it says.
-/
import Derived.Shelf.Strings.MapGrows
import Derived.Lib.LaidU8
import Derived.Test.YtmdgjpnkaogleaaDoorTagPure
namespace Go.Proofs
open Go.Shelf
def Tryd.ren : Go.Shelf.Ren := ⟨fun | 0 => 0 | 1 => 1 | 2 => 2 | 118 => 10 | 165 => 11 | 166 => 12 | 167 => 15 | 168 => 13 | 169 => 16 | 197 => 9 | 230 => 6 | 240 => 18 | 241 => 19 | 242 => 20 | 260 => 17 | 270 => 14 | 276 => 21 | 277 => 22 | 278 => 23 | 347 => 24 | 348 => 25 | 349 => 26 | 350 => 27 | 351 => 28 | 352 => 29 | 353 => 30 | 354 => 31 | 355 => 32 | 356 => 33 | 357 => 34 | 358 => 35 | 359 => 36 | 360 => 37 | 361 => 38 | 362 => 39 | 366 => 40 | 367 => 45 | n => n, fun | 0 => 0 | 1 => 1 | 2 => 2 | 3 => 3 | 4 => 4 | 5 => 5 | 6 => 6 | 7 => 7 | 8 => 8 | 9 => 9 | 10 => 10 | 11 => 11 | 12 => 12 | 13 => 13 | 14 => 14 | 15 => 15 | 16 => 16 | 17 => 17 | 18 => 18 | 19 => 19 | 20 => 20 | 21 => 21 | 37 => 23 | 39 => 35 | 46 => 49 | 51 => 56 | 70 => 30 | 71 => 31 | 72 => 32 | 73 => 36 | 74 => 37 | 75 => 38 | 76 => 39 | 77 => 40 | 78 => 43 | 79 => 41 | 80 => 44 | 81 => 42 | 104 => 22 | 105 => 33 | 106 => 34 | 107 => 28 | 119 => 48 | 121 => 24 | 126 => 46 | 127 => 47 | 137 => 50 | 138 => 51 | 139 => 52 | 164 => 53 | 165 => 54 | 166 => 55 | 238 => 57 | 239 => 58 | 240 => 59 | 241 => 60 | 242 => 61 | 243 => 62 | 244 => 63 | 245 => 64 | 246 => 65 | 247 => 66 | 248 => 67 | 249 => 68 | n => n, fun | 1 => 2 | 3 => 0 | 4 => 1 | n => n⟩
theorem Tryd.lays230 : Go.Proofs.Lays.n230 Tryd.prog Tryd.ren := {
  mixed := by kernel_rfl
  f118 := Tryd.func10.trans (congrArg some (by kernel_rfl))
  f165 := Tryd.func11.trans (congrArg some (by kernel_rfl))
  f166 := Tryd.func12.trans (congrArg some (by kernel_rfl))
  f167 := Tryd.func15.trans (congrArg some (by kernel_rfl))
  f168 := Tryd.func13.trans (congrArg some (by kernel_rfl))
  f169 := Tryd.func16.trans (congrArg some (by kernel_rfl))
  f197 := Tryd.func9.trans (congrArg some (by kernel_rfl))
  f230 := Tryd.func6.trans (congrArg some (by kernel_rfl))
  f240 := Tryd.func18.trans (congrArg some (by kernel_rfl))
  f241 := Tryd.func19.trans (congrArg some (by kernel_rfl))
  f242 := Tryd.func20.trans (congrArg some (by kernel_rfl))
  f260 := Tryd.func17.trans (congrArg some (by kernel_rfl))
  f270 := Tryd.func14.trans (congrArg some (by kernel_rfl))
  f276 := Tryd.func21.trans (congrArg some (by kernel_rfl))
  f277 := Tryd.func22.trans (congrArg some (by kernel_rfl))
  f278 := Tryd.func23.trans (congrArg some (by kernel_rfl))
  t0 := Tryd.underlying0
  a0 := Tryd.isAgg0
  z0 := Tryd.sizeOf0
  v0 := Tryd.zeroValue0
  t3 := Tryd.underlying3
  a3 := Tryd.isAgg3
  z3 := Tryd.sizeOf3
  v3 := Tryd.zeroValue3
  t4 := Tryd.underlying4
  a4 := Tryd.isAgg4
  z4 := Tryd.sizeOf4
  v4 := Tryd.zeroValue4
  t5 := Tryd.underlying5
  a5 := Tryd.isAgg5
  z5 := Tryd.sizeOf5
  v5 := Tryd.zeroValue5
  t9 := Tryd.underlying9
  a9 := Tryd.isAgg9
  z9 := Tryd.sizeOf9
  v9 := Tryd.zeroValue9
  t20 := Tryd.underlying20
  a20 := Tryd.isAgg20
  z20 := Tryd.sizeOf20
  v20 := Tryd.zeroValue20
  t21 := Tryd.underlying21
  a21 := Tryd.isAgg21
  z21 := Tryd.sizeOf21
  v21 := Tryd.zeroValue21
  t37 := Tryd.underlying23
  a37 := Tryd.isAgg23
  z37 := Tryd.sizeOf23
  v37 := Tryd.zeroValue23
  t46 := Tryd.underlying49
  a46 := Tryd.isAgg49
  z46 := Tryd.sizeOf49
  v46 := Tryd.zeroValue49
  t51 := Tryd.underlying56
  a51 := Tryd.isAgg56
  z51 := Tryd.sizeOf56
  v51 := Tryd.zeroValue56
  t70 := Tryd.underlying30
  a70 := Tryd.isAgg30
  z70 := Tryd.sizeOf30
  v70 := Tryd.zeroValue30
  t72 := Tryd.underlying32
  a72 := Tryd.isAgg32
  z72 := Tryd.sizeOf32
  v72 := Tryd.zeroValue32
  t75 := Tryd.underlying38
  a75 := Tryd.isAgg38
  z75 := Tryd.sizeOf38
  v75 := Tryd.zeroValue38
  t76 := Tryd.underlying39
  a76 := Tryd.isAgg39
  z76 := Tryd.sizeOf39
  v76 := Tryd.zeroValue39
  t105 := Tryd.underlying33
  a105 := Tryd.isAgg33
  z105 := Tryd.sizeOf33
  v105 := Tryd.zeroValue33
  t107 := Tryd.underlying28
  a107 := Tryd.isAgg28
  z107 := Tryd.sizeOf28
  v107 := Tryd.zeroValue28
  t119 := Tryd.underlying48
  a119 := Tryd.isAgg48
  z119 := Tryd.sizeOf48
  t127 := Tryd.underlying47
  a127 := Tryd.isAgg47
  z127 := Tryd.sizeOf47
  v127 := Tryd.zeroValue47
  t138 := Tryd.underlying51
  a138 := Tryd.isAgg51
  z138 := Tryd.sizeOf51
  v138 := Tryd.zeroValue51
  t139 := Tryd.underlying52
  a139 := Tryd.isAgg52
  z139 := Tryd.sizeOf52
  v139 := Tryd.zeroValue52
  t164 := Tryd.underlying53
  a164 := Tryd.isAgg53
  z164 := Tryd.sizeOf53
  v164 := Tryd.zeroValue53
  g3 := by kernel_rfl
  g4 := by kernel_rfl }
theorem Tryd.bextra : Builder.Extra Tryd.prog Tryd.ren := {
  sizeBuilder := by kernel_rfl
  liesBuilder := by kernel_rfl
  t5 := Tryd.underlying5
  a5 := Tryd.isAgg5
  z5 := Tryd.sizeOf5
  v5 := Tryd.zeroValue5
  infoByte := by kernel_rfl
  cellsByte := by kernel_rfl
  sizeByte := by kernel_rfl
  neB5 := by decide }
open Go.RowKit in
theorem Tryd.strings_Map (g : Nat) (lb : Array Value) (eg : ∀ args w, (callFunc g args).run Tryd.prog w = .ok (.enter g args) w) (f : Int → Int) (s : ByteArray) (w : World) (hs : s.size < 35184372088832)
    (hf : MapGrows Tryd.prog g lb f w) (hnn : ∀ x : Nat, x ≤ 1114111 → -2147483648 ≤ f x ∧ f x ≤ 2147483647) (hT : Lib.Utf8Tabs (Tryd.ren.g 3) (Tryd.ren.g 4) w) :
    Calls Tryd.prog 6 #[.func (.func g) #[] lb, .string s] w fun e w' => e = .returned (.string ⟨(Lib.mapD f s.data.toList).toArray⟩) ∧ Below w.heap.size w w' := Any.strings_Map_grows Tryd.lays230 Tryd.bextra g lb eg f s w hs hf hnn hT
end Go.Proofs
