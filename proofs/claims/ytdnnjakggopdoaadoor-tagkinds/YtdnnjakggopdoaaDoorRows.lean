/-
  NARROWER THAN 'FOR EVERY INPUT', by the rows' own cells (each row's printed sentence says how): TagRaws: laid · TagKinds: laid · TagBehind: laid · TagEnds: laid · TagMade: laid.
  DERIVED. THE GIVEN ROWS OF THIS SEAT. 5 by the template 'for every input the law returns true; each argument reads behind the call as it read before'; 0 by the template 'total and deterministic' (their statements: YtdnnjakggopdoaaDoorTotals.lean).
  GIVEN WITH THE SEED: the statements are not yours to turn. If you find one false, say at which input.
  Laid BY PROGRAM, IN A SANDBOX (cutbox-rows.mjs): the forced cells as the released guide's own fill.sh prints them over the translation 0338cdcd2eb1d8f8… (all of the seat's roots in one cut). By AI agents, Wed Nov 11 2026. No macro, syntax, notation, axiom, sorry.
-/
import Derived.Test.YtdnnjakggopdoaaDoorChecked
import GoSem.PinnedTables
import GoSem.Claim
import GoSem.ClaimJoined
import GoSem.ClaimMapViews
import Derived.JoinedTies
import Derived.KernelRfl
namespace Go.Proofs.YtdnnjakggopdoaaDoor
/- THE CELL 'sum', in the pinned program and in every row, IS THE sha256 OF THE DUMP (.gsa) THAT YtdnnjakggopdoaaDoorProg.lean LOADS. Nothing in Lean hashes anything: it is a label: what it is worth is what the hold of that sum in a sandbox is worth. -/
noncomputable def Tryd.pinned : Pinned := { name := "ytdnnjakggopdoaadoor", sum := "0338cdcd2eb1d8f846c1db61c0d023cccca69a4123073c03be5bb8f6b85e46e1", checked := Tryd.checked }
namespace Rows
def none {H : Type} : Left H := { results := [], args := [] }

/- WHAT THE LISTED PACKAGE-LEVEL VARIABLES READ AS WHEN THE CALL BEGINS. Each datum BY PROGRAM (the guide's laid-datum.mjs) off the statement by which the dump's own 'gosem.cut.vars' lays the variable. In a bare row this is a premise. The card (YtdnnjakggopdoaaDoorCards.lean) ties it to the program's text. -/
def laid_unicode_utf8_acceptRanges {H : Type} : DataW H := .agg [.agg [.lit (.int .u8 128), .lit (.int .u8 191)], .agg [.lit (.int .u8 160), .lit (.int .u8 191)], .agg [.lit (.int .u8 128), .lit (.int .u8 159)], .agg [.lit (.int .u8 144), .lit (.int .u8 191)], .agg [.lit (.int .u8 128), .lit (.int .u8 143)], .agg [.lit (.int .u8 0), .lit (.int .u8 0)], .agg [.lit (.int .u8 0), .lit (.int .u8 0)], .agg [.lit (.int .u8 0), .lit (.int .u8 0)], .agg [.lit (.int .u8 0), .lit (.int .u8 0)], .agg [.lit (.int .u8 0), .lit (.int .u8 0)], .agg [.lit (.int .u8 0), .lit (.int .u8 0)], .agg [.lit (.int .u8 0), .lit (.int .u8 0)], .agg [.lit (.int .u8 0), .lit (.int .u8 0)], .agg [.lit (.int .u8 0), .lit (.int .u8 0)], .agg [.lit (.int .u8 0), .lit (.int .u8 0)], .agg [.lit (.int .u8 0), .lit (.int .u8 0)]]
def laid_stet_tag_others {H : Type} : DataW H := .agg [.agg [.lit (.string [60, 33, 45, 45]), .lit (.bool false), .lit (.string [45, 45, 62])], .agg [.lit (.string [60, 63]), .lit (.bool false), .lit (.string [63, 62])], .agg [.lit (.string [60, 33]), .lit (.bool true), .lit (.string [62])], .agg [.lit (.string [60, 33, 91, 67, 68, 65, 84, 65, 91]), .lit (.bool false), .lit (.string [93, 93, 62])]]
def laid_stet_tag_verbatims {H : Type} : DataW H := .agg [.agg [.lit (.string [60, 112, 114, 101]), .lit (.bool false), .lit (.string [60, 47, 112, 114, 101, 62])], .agg [.lit (.string [60, 115, 99, 114, 105, 112, 116]), .lit (.bool false), .lit (.string [60, 47, 115, 99, 114, 105, 112, 116, 62])], .agg [.lit (.string [60, 115, 116, 121, 108, 101]), .lit (.bool false), .lit (.string [60, 47, 115, 116, 121, 108, 101, 62])], .agg [.lit (.string [60, 116, 101, 120, 116, 97, 114, 101, 97]), .lit (.bool false), .lit (.string [60, 47, 116, 101, 120, 116, 97, 114, 101, 97, 62])]]
def laid_stet_tag_shortComments {H : Type} : DataW H := .agg [.lit (.string [60, 33, 45, 45, 62]), .lit (.string [60, 33, 45, 45, 45, 62])]
/-- One of Go's own tables, pinned by name: the form's constant. -/
def laid_unicode_utf8_first : DataW Unit := Go.Pinned.utf8First

/-- 'stetlaw06.TagRaws': WHATEVER THE INPUT: true; the input reads as it did. -/
def tagRawsSpec : ChangeSpec := { name := "tagRaws", fn := fun _ => fun
  | [d] => { results := [.lit (.bool true)], args := [d] }
  | _ => none }
def tagRawsRow : OpenClaim := { program := "ytdnnjakggopdoaadoor", sum := "0338cdcd2eb1d8f846c1db61c0d023cccca69a4123073c03be5bb8f6b85e46e1", func := "stet/stetlaw06.TagRaws", spec := "tagRaws", inPlace := ["internal/bytealg.IndexByteString", "internal/bytealg.IndexString", "internal/abi.NoEscape", "internal/bytealg.MakeNoZero"], unfollowed := true, recurses := true, named := ["stet/tag.shortComments", "stet/tag.others", "internal/bytealg.MaxLen", "stet/tag.verbatims", "unicode/utf8.first", "unicode/utf8.acceptRanges"], apart := false, laid := [("unicode/utf8.acceptRanges", laid_unicode_utf8_acceptRanges), ("stet/tag.others", laid_stet_tag_others), ("stet/tag.verbatims", laid_stet_tag_verbatims), ("stet/tag.shortComments", laid_stet_tag_shortComments), ("unicode/utf8.first", laid_unicode_utf8_first)] }
def TagRawsSaid : Prop := tagRawsRow.holds Tryd.pinned (OpenSpec.ofChange tagRawsSpec)

/-- ITS FALSE NEIGHBOUR: 'it returns false'. Refute it at one input. -/
def tagRawsWrong : ChangeSpec := { name := "tagRaws", fn := fun _ => fun
  | [d] => { results := [.lit (.bool false)], args := [d] }
  | _ => none }
def TagRawsWrongFalsely : Prop := tagRawsRow.holds Tryd.pinned (OpenSpec.ofChange tagRawsWrong)

/-- 'stetlaw06.TagKinds': WHATEVER THE INPUT: true; the input reads as it did. -/
def tagKindsSpec : ChangeSpec := { name := "tagKinds", fn := fun _ => fun
  | [d1, d2] => { results := [.lit (.bool true)], args := [d1, d2] }
  | _ => none }
def tagKindsRow : OpenClaim := { program := "ytdnnjakggopdoaadoor", sum := "0338cdcd2eb1d8f846c1db61c0d023cccca69a4123073c03be5bb8f6b85e46e1", func := "stet/stetlaw06.TagKinds", spec := "tagKinds", inPlace := ["internal/bytealg.IndexByteString", "internal/bytealg.IndexString", "internal/abi.NoEscape", "internal/bytealg.MakeNoZero"], unfollowed := true, recurses := true, named := ["stet/tag.shortComments", "stet/tag.others", "internal/bytealg.MaxLen", "stet/tag.verbatims", "unicode/utf8.first", "unicode/utf8.acceptRanges"], apart := false, laid := [("unicode/utf8.acceptRanges", laid_unicode_utf8_acceptRanges), ("stet/tag.others", laid_stet_tag_others), ("stet/tag.verbatims", laid_stet_tag_verbatims), ("stet/tag.shortComments", laid_stet_tag_shortComments), ("unicode/utf8.first", laid_unicode_utf8_first)] }
def TagKindsSaid : Prop := tagKindsRow.holds Tryd.pinned (OpenSpec.ofChange tagKindsSpec)

/-- ITS FALSE NEIGHBOUR: 'it returns false'. Refute it at one input. -/
def tagKindsWrong : ChangeSpec := { name := "tagKinds", fn := fun _ => fun
  | [d1, d2] => { results := [.lit (.bool false)], args := [d1, d2] }
  | _ => none }
def TagKindsWrongFalsely : Prop := tagKindsRow.holds Tryd.pinned (OpenSpec.ofChange tagKindsWrong)

/-- 'stetlaw06.TagBehind': WHATEVER THE INPUT: true; the input reads as it did. -/
def tagBehindSpec : ChangeSpec := { name := "tagBehind", fn := fun _ => fun
  | [d1, d2] => { results := [.lit (.bool true)], args := [d1, d2] }
  | _ => none }
def tagBehindRow : OpenClaim := { program := "ytdnnjakggopdoaadoor", sum := "0338cdcd2eb1d8f846c1db61c0d023cccca69a4123073c03be5bb8f6b85e46e1", func := "stet/stetlaw06.TagBehind", spec := "tagBehind", inPlace := ["internal/bytealg.IndexByteString", "internal/bytealg.IndexString", "internal/abi.NoEscape", "internal/bytealg.MakeNoZero"], unfollowed := true, recurses := true, named := ["stet/tag.shortComments", "stet/tag.others", "internal/bytealg.MaxLen", "stet/tag.verbatims", "unicode/utf8.first", "unicode/utf8.acceptRanges"], apart := false, laid := [("unicode/utf8.acceptRanges", laid_unicode_utf8_acceptRanges), ("stet/tag.others", laid_stet_tag_others), ("stet/tag.verbatims", laid_stet_tag_verbatims), ("stet/tag.shortComments", laid_stet_tag_shortComments), ("unicode/utf8.first", laid_unicode_utf8_first)] }
def TagBehindSaid : Prop := tagBehindRow.holds Tryd.pinned (OpenSpec.ofChange tagBehindSpec)

/-- ITS FALSE NEIGHBOUR: 'it returns false'. Refute it at one input. -/
def tagBehindWrong : ChangeSpec := { name := "tagBehind", fn := fun _ => fun
  | [d1, d2] => { results := [.lit (.bool false)], args := [d1, d2] }
  | _ => none }
def TagBehindWrongFalsely : Prop := tagBehindRow.holds Tryd.pinned (OpenSpec.ofChange tagBehindWrong)

/-- 'stetlaw06.TagEnds': WHATEVER THE INPUT: true; the input reads as it did. -/
def tagEndsSpec : ChangeSpec := { name := "tagEnds", fn := fun _ => fun
  | [d1, d2, d3, d4] => { results := [.lit (.bool true)], args := [d1, d2, d3, d4] }
  | _ => none }
def tagEndsRow : OpenClaim := { program := "ytdnnjakggopdoaadoor", sum := "0338cdcd2eb1d8f846c1db61c0d023cccca69a4123073c03be5bb8f6b85e46e1", func := "stet/stetlaw06.TagEnds", spec := "tagEnds", inPlace := ["internal/bytealg.IndexByteString", "internal/bytealg.IndexString", "internal/abi.NoEscape", "internal/bytealg.MakeNoZero"], unfollowed := true, recurses := true, named := ["stet/tag.shortComments", "stet/tag.others", "internal/bytealg.MaxLen", "stet/tag.verbatims", "unicode/utf8.first", "unicode/utf8.acceptRanges"], apart := false, laid := [("unicode/utf8.acceptRanges", laid_unicode_utf8_acceptRanges), ("stet/tag.others", laid_stet_tag_others), ("stet/tag.verbatims", laid_stet_tag_verbatims), ("stet/tag.shortComments", laid_stet_tag_shortComments), ("unicode/utf8.first", laid_unicode_utf8_first)] }
def TagEndsSaid : Prop := tagEndsRow.holds Tryd.pinned (OpenSpec.ofChange tagEndsSpec)

/-- ITS FALSE NEIGHBOUR: 'it returns false'. Refute it at one input. -/
def tagEndsWrong : ChangeSpec := { name := "tagEnds", fn := fun _ => fun
  | [d1, d2, d3, d4] => { results := [.lit (.bool false)], args := [d1, d2, d3, d4] }
  | _ => none }
def TagEndsWrongFalsely : Prop := tagEndsRow.holds Tryd.pinned (OpenSpec.ofChange tagEndsWrong)

/-- 'stetlaw06.TagMade': WHATEVER THE INPUT: true; the input reads as it did. -/
def tagMadeSpec : ChangeSpec := { name := "tagMade", fn := fun _ => fun
  | [d1, d2, d3] => { results := [.lit (.bool true)], args := [d1, d2, d3] }
  | _ => none }
def tagMadeRow : OpenClaim := { program := "ytdnnjakggopdoaadoor", sum := "0338cdcd2eb1d8f846c1db61c0d023cccca69a4123073c03be5bb8f6b85e46e1", func := "stet/stetlaw06.TagMade", spec := "tagMade", inPlace := ["internal/bytealg.IndexByteString", "internal/bytealg.IndexString", "internal/abi.NoEscape", "internal/bytealg.MakeNoZero"], unfollowed := true, recurses := true, named := ["stet/tag.shortComments", "stet/tag.others", "internal/bytealg.MaxLen", "stet/tag.verbatims", "unicode/utf8.first", "unicode/utf8.acceptRanges"], apart := false, laid := [("unicode/utf8.acceptRanges", laid_unicode_utf8_acceptRanges), ("stet/tag.others", laid_stet_tag_others), ("stet/tag.verbatims", laid_stet_tag_verbatims), ("stet/tag.shortComments", laid_stet_tag_shortComments), ("unicode/utf8.first", laid_unicode_utf8_first)] }
def TagMadeSaid : Prop := tagMadeRow.holds Tryd.pinned (OpenSpec.ofChange tagMadeSpec)

/-- ITS FALSE NEIGHBOUR: 'it returns false'. Refute it at one input. -/
def tagMadeWrong : ChangeSpec := { name := "tagMade", fn := fun _ => fun
  | [d1, d2, d3] => { results := [.lit (.bool false)], args := [d1, d2, d3] }
  | _ => none }
def TagMadeWrongFalsely : Prop := tagMadeRow.holds Tryd.pinned (OpenSpec.ofChange tagMadeWrong)

/- THE SECOND FORM. 'bulk': how many values and letters a reading holds, each counted each time it is reached (what is shared counts as often as it is met; a slice's spare places count too). A statement '..UptoSaid' is the law's where the arguments, and the package variables that the reading takes, are together of bulk at most 1048576: NARROWER than '..Said'. Prove '..Said' where nothing that the law and all that it calls make is longer than what came in: it says more and counts as full. Else prove '..UptoSaid'. A law counts once. -/
mutual
def uptoBulk {H : Type} : DataW H → Nat
  | .lit (.string bytes) => bytes.length + 1
  | .lit _ => 1
  | .nil => 1
  | .ptr d => uptoBulk d + 1
  | .slice elems spare => uptoBulkAll elems + uptoBulkAll spare + 1
  | .agg parts => uptoBulkAll parts + 1
  | .iface _ d => uptoBulk d + 1
  | .map entries => uptoBulkEntries entries + 1
  | .held _ => 1
def uptoBulkAll {H : Type} : List (DataW H) → Nat
  | [] => 0
  | d :: r => uptoBulk d + uptoBulkAll r
def uptoBulkEntries {H : Type} : List (Lit × DataW H) → Nat
  | [] => 0
  | x :: r => uptoBulkEntry x + uptoBulkEntries r
def uptoBulkEntry {H : Type} : Lit × DataW H → Nat
  | (.string bytes, d) => bytes.length + uptoBulk d + 1
  | (_, d) => uptoBulk d + 1
 end
def uptoSmall : (H : Type) → List (DataW H) → Bool := fun _ ds => decide (uptoBulkAll ds ≤ 1048576)
def OpenSpec.upto (s : _root_.Go.ChangeSpec) : _root_.Go.OpenSpec := { _root_.Go.OpenSpec.ofChange s with cond := some uptoSmall }

/-- 'stetlaw06.TagRaws', WHERE WHAT IT READS IS OF BULK AT MOST 1048576: true; the input reads as it did. -/
def tagRawsUptoRow : OpenClaim := { program := "ytdnnjakggopdoaadoor", sum := "0338cdcd2eb1d8f846c1db61c0d023cccca69a4123073c03be5bb8f6b85e46e1", func := "stet/stetlaw06.TagRaws", spec := "tagRaws", inPlace := ["internal/bytealg.IndexByteString", "internal/bytealg.IndexString", "internal/abi.NoEscape", "internal/bytealg.MakeNoZero"], unfollowed := true, recurses := true, named := ["stet/tag.shortComments", "stet/tag.others", "internal/bytealg.MaxLen", "stet/tag.verbatims", "unicode/utf8.first", "unicode/utf8.acceptRanges"], apart := false, laid := [("unicode/utf8.acceptRanges", laid_unicode_utf8_acceptRanges), ("stet/tag.others", laid_stet_tag_others), ("stet/tag.verbatims", laid_stet_tag_verbatims), ("stet/tag.shortComments", laid_stet_tag_shortComments), ("unicode/utf8.first", laid_unicode_utf8_first)], narrowed := true }
def TagRawsUptoSaid : Prop := tagRawsUptoRow.holds Tryd.pinned (OpenSpec.upto tagRawsSpec)

/-- 'stetlaw06.TagKinds', WHERE WHAT IT READS IS OF BULK AT MOST 1048576: true; the input reads as it did. -/
def tagKindsUptoRow : OpenClaim := { program := "ytdnnjakggopdoaadoor", sum := "0338cdcd2eb1d8f846c1db61c0d023cccca69a4123073c03be5bb8f6b85e46e1", func := "stet/stetlaw06.TagKinds", spec := "tagKinds", inPlace := ["internal/bytealg.IndexByteString", "internal/bytealg.IndexString", "internal/abi.NoEscape", "internal/bytealg.MakeNoZero"], unfollowed := true, recurses := true, named := ["stet/tag.shortComments", "stet/tag.others", "internal/bytealg.MaxLen", "stet/tag.verbatims", "unicode/utf8.first", "unicode/utf8.acceptRanges"], apart := false, laid := [("unicode/utf8.acceptRanges", laid_unicode_utf8_acceptRanges), ("stet/tag.others", laid_stet_tag_others), ("stet/tag.verbatims", laid_stet_tag_verbatims), ("stet/tag.shortComments", laid_stet_tag_shortComments), ("unicode/utf8.first", laid_unicode_utf8_first)], narrowed := true }
def TagKindsUptoSaid : Prop := tagKindsUptoRow.holds Tryd.pinned (OpenSpec.upto tagKindsSpec)

/-- 'stetlaw06.TagBehind', WHERE WHAT IT READS IS OF BULK AT MOST 1048576: true; the input reads as it did. -/
def tagBehindUptoRow : OpenClaim := { program := "ytdnnjakggopdoaadoor", sum := "0338cdcd2eb1d8f846c1db61c0d023cccca69a4123073c03be5bb8f6b85e46e1", func := "stet/stetlaw06.TagBehind", spec := "tagBehind", inPlace := ["internal/bytealg.IndexByteString", "internal/bytealg.IndexString", "internal/abi.NoEscape", "internal/bytealg.MakeNoZero"], unfollowed := true, recurses := true, named := ["stet/tag.shortComments", "stet/tag.others", "internal/bytealg.MaxLen", "stet/tag.verbatims", "unicode/utf8.first", "unicode/utf8.acceptRanges"], apart := false, laid := [("unicode/utf8.acceptRanges", laid_unicode_utf8_acceptRanges), ("stet/tag.others", laid_stet_tag_others), ("stet/tag.verbatims", laid_stet_tag_verbatims), ("stet/tag.shortComments", laid_stet_tag_shortComments), ("unicode/utf8.first", laid_unicode_utf8_first)], narrowed := true }
def TagBehindUptoSaid : Prop := tagBehindUptoRow.holds Tryd.pinned (OpenSpec.upto tagBehindSpec)

/-- 'stetlaw06.TagEnds', WHERE WHAT IT READS IS OF BULK AT MOST 1048576: true; the input reads as it did. -/
def tagEndsUptoRow : OpenClaim := { program := "ytdnnjakggopdoaadoor", sum := "0338cdcd2eb1d8f846c1db61c0d023cccca69a4123073c03be5bb8f6b85e46e1", func := "stet/stetlaw06.TagEnds", spec := "tagEnds", inPlace := ["internal/bytealg.IndexByteString", "internal/bytealg.IndexString", "internal/abi.NoEscape", "internal/bytealg.MakeNoZero"], unfollowed := true, recurses := true, named := ["stet/tag.shortComments", "stet/tag.others", "internal/bytealg.MaxLen", "stet/tag.verbatims", "unicode/utf8.first", "unicode/utf8.acceptRanges"], apart := false, laid := [("unicode/utf8.acceptRanges", laid_unicode_utf8_acceptRanges), ("stet/tag.others", laid_stet_tag_others), ("stet/tag.verbatims", laid_stet_tag_verbatims), ("stet/tag.shortComments", laid_stet_tag_shortComments), ("unicode/utf8.first", laid_unicode_utf8_first)], narrowed := true }
def TagEndsUptoSaid : Prop := tagEndsUptoRow.holds Tryd.pinned (OpenSpec.upto tagEndsSpec)

/-- 'stetlaw06.TagMade', WHERE WHAT IT READS IS OF BULK AT MOST 1048576: true; the input reads as it did. -/
def tagMadeUptoRow : OpenClaim := { program := "ytdnnjakggopdoaadoor", sum := "0338cdcd2eb1d8f846c1db61c0d023cccca69a4123073c03be5bb8f6b85e46e1", func := "stet/stetlaw06.TagMade", spec := "tagMade", inPlace := ["internal/bytealg.IndexByteString", "internal/bytealg.IndexString", "internal/abi.NoEscape", "internal/bytealg.MakeNoZero"], unfollowed := true, recurses := true, named := ["stet/tag.shortComments", "stet/tag.others", "internal/bytealg.MaxLen", "stet/tag.verbatims", "unicode/utf8.first", "unicode/utf8.acceptRanges"], apart := false, laid := [("unicode/utf8.acceptRanges", laid_unicode_utf8_acceptRanges), ("stet/tag.others", laid_stet_tag_others), ("stet/tag.verbatims", laid_stet_tag_verbatims), ("stet/tag.shortComments", laid_stet_tag_shortComments), ("unicode/utf8.first", laid_unicode_utf8_first)], narrowed := true }
def TagMadeUptoSaid : Prop := tagMadeUptoRow.holds Tryd.pinned (OpenSpec.upto tagMadeSpec)

end Rows
end Go.Proofs.YtdnnjakggopdoaaDoor
