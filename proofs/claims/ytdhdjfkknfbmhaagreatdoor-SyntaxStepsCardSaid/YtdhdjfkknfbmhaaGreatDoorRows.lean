/-
  NARROWER THAN 'FOR EVERY INPUT', by the rows' own cells (each row's printed sentence says how): SyntaxTokens: laid · SyntaxBehind: laid · SyntaxBinds: laid · SyntaxSteps: loops, laid · SyntaxWritten: loops, laid · SyntaxCut: laid.
  DERIVED. THE GIVEN ROWS OF THIS SEAT. 6 by the template 'for every input the law returns true; each argument reads behind the call as it read before'; 0 by the template 'total and deterministic' (their statements: YtdhdjfkknfbmhaaGreatDoorTotals.lean).
  GIVEN WITH THE SEED: the statements are not yours to turn. If you find one false, say at which input.
  Laid BY PROGRAM, IN A SANDBOX (cutbox-rows.mjs): the forced cells as the released guide's own fill.sh prints them over the translation 2a6288a95d14107d… (all of the seat's roots in one cut). By AI agents, Wed Nov 11 2026. No macro, syntax, notation, axiom, sorry.
-/
import Derived.Test.YtdhdjfkknfbmhaaGreatDoorChecked
import GoSem.PinnedTables
import GoSem.Claim
import GoSem.ClaimJoined
import GoSem.ClaimMapViews
import Derived.JoinedTies
import Derived.KernelRfl
namespace Go.Proofs.YtdhdjfkknfbmhaaGreatDoor
/- THE CELL 'sum', in the pinned program and in every row, IS THE sha256 OF THE DUMP (.gsa) THAT YtdhdjfkknfbmhaaGreatDoorProg.lean LOADS. Nothing in Lean hashes anything: it is a label: what it is worth is what the hold of that sum in a sandbox is worth. -/
noncomputable def Tryz.pinned : Pinned := { name := "ytdhdjfkknfbmhaagreatdoor", sum := "2a6288a95d14107df8e41900c2813c718945478da35bb3ca953824beebe77642", checked := Tryz.checked }
namespace Rows
def none {H : Type} : Left H := { results := [], args := [] }

/- WHAT THE LISTED PACKAGE-LEVEL VARIABLES READ AS WHEN THE CALL BEGINS. Each datum BY PROGRAM (the guide's laid-datum.mjs) off the statement by which the dump's own 'gosem.cut.vars' lays the variable. In a bare row this is a premise. The card (YtdhdjfkknfbmhaaGreatDoorCards.lean) ties it to the program's text. -/
def laid_math_bits_deBruijn32tab {H : Type} : DataW H := .agg [.lit (.int .u8 0), .lit (.int .u8 1), .lit (.int .u8 28), .lit (.int .u8 2), .lit (.int .u8 29), .lit (.int .u8 14), .lit (.int .u8 24), .lit (.int .u8 3), .lit (.int .u8 30), .lit (.int .u8 22), .lit (.int .u8 20), .lit (.int .u8 15), .lit (.int .u8 25), .lit (.int .u8 17), .lit (.int .u8 4), .lit (.int .u8 8), .lit (.int .u8 31), .lit (.int .u8 27), .lit (.int .u8 13), .lit (.int .u8 23), .lit (.int .u8 21), .lit (.int .u8 19), .lit (.int .u8 16), .lit (.int .u8 7), .lit (.int .u8 26), .lit (.int .u8 12), .lit (.int .u8 18), .lit (.int .u8 6), .lit (.int .u8 11), .lit (.int .u8 5), .lit (.int .u8 10), .lit (.int .u8 9)]
def laid_math_bits_deBruijn64tab {H : Type} : DataW H := .agg [.lit (.int .u8 0), .lit (.int .u8 1), .lit (.int .u8 56), .lit (.int .u8 2), .lit (.int .u8 57), .lit (.int .u8 49), .lit (.int .u8 28), .lit (.int .u8 3), .lit (.int .u8 61), .lit (.int .u8 58), .lit (.int .u8 42), .lit (.int .u8 50), .lit (.int .u8 38), .lit (.int .u8 29), .lit (.int .u8 17), .lit (.int .u8 4), .lit (.int .u8 62), .lit (.int .u8 47), .lit (.int .u8 59), .lit (.int .u8 36), .lit (.int .u8 45), .lit (.int .u8 43), .lit (.int .u8 51), .lit (.int .u8 22), .lit (.int .u8 53), .lit (.int .u8 39), .lit (.int .u8 33), .lit (.int .u8 30), .lit (.int .u8 24), .lit (.int .u8 18), .lit (.int .u8 12), .lit (.int .u8 5), .lit (.int .u8 63), .lit (.int .u8 55), .lit (.int .u8 48), .lit (.int .u8 27), .lit (.int .u8 60), .lit (.int .u8 41), .lit (.int .u8 37), .lit (.int .u8 16), .lit (.int .u8 46), .lit (.int .u8 35), .lit (.int .u8 44), .lit (.int .u8 21), .lit (.int .u8 52), .lit (.int .u8 32), .lit (.int .u8 23), .lit (.int .u8 11), .lit (.int .u8 54), .lit (.int .u8 26), .lit (.int .u8 40), .lit (.int .u8 15), .lit (.int .u8 34), .lit (.int .u8 20), .lit (.int .u8 31), .lit (.int .u8 10), .lit (.int .u8 25), .lit (.int .u8 14), .lit (.int .u8 19), .lit (.int .u8 9), .lit (.int .u8 13), .lit (.int .u8 8), .lit (.int .u8 7), .lit (.int .u8 6)]
def laid_internal_strconv_uint64pow10 {H : Type} : DataW H := .agg [.lit (.int .u64 1), .lit (.int .u64 10), .lit (.int .u64 100), .lit (.int .u64 1000), .lit (.int .u64 10000), .lit (.int .u64 100000), .lit (.int .u64 1000000), .lit (.int .u64 10000000), .lit (.int .u64 100000000), .lit (.int .u64 1000000000), .lit (.int .u64 10000000000), .lit (.int .u64 100000000000), .lit (.int .u64 1000000000000), .lit (.int .u64 10000000000000), .lit (.int .u64 100000000000000), .lit (.int .u64 1000000000000000), .lit (.int .u64 10000000000000000), .lit (.int .u64 100000000000000000), .lit (.int .u64 1000000000000000000), .lit (.int .u64 10000000000000000000)]
def laid_unicode_utf8_acceptRanges {H : Type} : DataW H := .agg [.agg [.lit (.int .u8 128), .lit (.int .u8 191)], .agg [.lit (.int .u8 160), .lit (.int .u8 191)], .agg [.lit (.int .u8 128), .lit (.int .u8 159)], .agg [.lit (.int .u8 144), .lit (.int .u8 191)], .agg [.lit (.int .u8 128), .lit (.int .u8 143)], .agg [.lit (.int .u8 0), .lit (.int .u8 0)], .agg [.lit (.int .u8 0), .lit (.int .u8 0)], .agg [.lit (.int .u8 0), .lit (.int .u8 0)], .agg [.lit (.int .u8 0), .lit (.int .u8 0)], .agg [.lit (.int .u8 0), .lit (.int .u8 0)], .agg [.lit (.int .u8 0), .lit (.int .u8 0)], .agg [.lit (.int .u8 0), .lit (.int .u8 0)], .agg [.lit (.int .u8 0), .lit (.int .u8 0)], .agg [.lit (.int .u8 0), .lit (.int .u8 0)], .agg [.lit (.int .u8 0), .lit (.int .u8 0)], .agg [.lit (.int .u8 0), .lit (.int .u8 0)]]
def laid_strconv_ErrRange {H : Type} : DataW H := .iface "*errors.errorString" (.ptr (.agg [.lit (.string [118, 97, 108, 117, 101, 32, 111, 117, 116, 32, 111, 102, 32, 114, 97, 110, 103, 101])]))
def laid_strconv_ErrSyntax {H : Type} : DataW H := .iface "*errors.errorString" (.ptr (.agg [.lit (.string [105, 110, 118, 97, 108, 105, 100, 32, 115, 121, 110, 116, 97, 120])]))
def laid_stopwatch_lexis_classes {H : Type} : DataW H := .agg [.lit (.string [32, 9, 10, 13]), .lit (.string [97, 98, 99, 100, 101, 102, 103, 104, 105, 106, 107, 108, 109, 110, 111, 112, 113, 114, 115, 116, 117, 118, 119, 120, 121, 122, 65, 66, 67, 68, 69, 70, 71, 72, 73, 74, 75, 76, 77, 78, 79, 80, 81, 82, 83, 84, 85, 86, 87, 88, 89, 90]), .lit (.string [48, 49, 50, 51, 52, 53, 54, 55, 56, 57])]
def laid_stopwatch_lexis_signs {H : Type} : DataW H := .agg [.lit (.string [46, 46]), .lit (.string [60, 61]), .lit (.string [62, 61]), .lit (.string [123]), .lit (.string [125]), .lit (.string [40]), .lit (.string [41]), .lit (.string [91]), .lit (.string [93]), .lit (.string [59]), .lit (.string [44]), .lit (.string [61]), .lit (.string [60]), .lit (.string [62])]
def laid_stopwatch_lexis_escapes {H : Type} : DataW H := .agg [.agg [.lit (.string [92, 34]), .lit (.int .u8 34)], .agg [.lit (.string [92, 92]), .lit (.int .u8 92)], .agg [.lit (.string [92, 110]), .lit (.int .u8 10)]]
def laid_stopwatch_syntax_criteria {H : Type} : DataW H := .agg [.lit (.int .i64 1), .lit (.int .i64 2), .lit (.int .i64 3), .lit (.int .i64 4), .lit (.int .i64 5)]
/-- One of Go's own tables, pinned by name: the form's constant. -/
def laid_unicode_utf8_first : DataW Unit := Go.Pinned.utf8First

/-- 'stopwatchlaw06.SyntaxTokens': WHATEVER THE INPUT: true; the input reads as it did. -/
def syntaxTokensSpec : ChangeSpec := { name := "syntaxTokens", fn := fun _ => fun
  | [d] => { results := [.lit (.bool true)], args := [d] }
  | _ => none }
def syntaxTokensRow : OpenClaim := { program := "ytdhdjfkknfbmhaagreatdoor", sum := "2a6288a95d14107df8e41900c2813c718945478da35bb3ca953824beebe77642", func := "stopwatch/stopwatchlaw06.SyntaxTokens", spec := "syntaxTokens", inPlace := ["internal/bytealg.IndexByteString", "internal/bytealg.IndexString", "internal/bytealg.CountString", "internal/abi.NoEscape", "internal/bytealg.MakeNoZero"], unfollowed := true, recurses := true, named := ["stopwatch/lexis.classes", "unicode/utf8.first", "unicode/utf8.acceptRanges", "internal/bytealg.MaxLen", "stopwatch/lexis.escapes", "stopwatch/lexis.signs", "strconv.ErrSyntax", "strconv.ErrRange", "internal/strconv.uint64pow10", "math/bits.deBruijn32tab", "math/bits.deBruijn64tab", "stopwatch/syntax.criteria"], apart := false, laid := [("math/bits.deBruijn32tab", laid_math_bits_deBruijn32tab), ("math/bits.deBruijn64tab", laid_math_bits_deBruijn64tab), ("internal/strconv.uint64pow10", laid_internal_strconv_uint64pow10), ("unicode/utf8.acceptRanges", laid_unicode_utf8_acceptRanges), ("strconv.ErrRange", laid_strconv_ErrRange), ("strconv.ErrSyntax", laid_strconv_ErrSyntax), ("stopwatch/lexis.classes", laid_stopwatch_lexis_classes), ("stopwatch/lexis.signs", laid_stopwatch_lexis_signs), ("stopwatch/lexis.escapes", laid_stopwatch_lexis_escapes), ("stopwatch/syntax.criteria", laid_stopwatch_syntax_criteria), ("unicode/utf8.first", laid_unicode_utf8_first)] }
def SyntaxTokensSaid : Prop := syntaxTokensRow.holds Tryz.pinned (OpenSpec.ofChange syntaxTokensSpec)

/-- ITS FALSE NEIGHBOUR: 'it returns false'. Refute it at one input. -/
def syntaxTokensWrong : ChangeSpec := { name := "syntaxTokens", fn := fun _ => fun
  | [d] => { results := [.lit (.bool false)], args := [d] }
  | _ => none }
def SyntaxTokensWrongFalsely : Prop := syntaxTokensRow.holds Tryz.pinned (OpenSpec.ofChange syntaxTokensWrong)

/-- 'stopwatchlaw06.SyntaxBehind': WHATEVER THE INPUT: true; the input reads as it did. -/
def syntaxBehindSpec : ChangeSpec := { name := "syntaxBehind", fn := fun _ => fun
  | [d1, d2] => { results := [.lit (.bool true)], args := [d1, d2] }
  | _ => none }
def syntaxBehindRow : OpenClaim := { program := "ytdhdjfkknfbmhaagreatdoor", sum := "2a6288a95d14107df8e41900c2813c718945478da35bb3ca953824beebe77642", func := "stopwatch/stopwatchlaw06.SyntaxBehind", spec := "syntaxBehind", inPlace := ["internal/bytealg.IndexByteString", "internal/bytealg.IndexString", "internal/bytealg.CountString", "internal/abi.NoEscape", "internal/bytealg.MakeNoZero"], unfollowed := true, recurses := true, named := ["stopwatch/lexis.classes", "unicode/utf8.first", "unicode/utf8.acceptRanges", "internal/bytealg.MaxLen", "stopwatch/lexis.escapes", "stopwatch/lexis.signs", "strconv.ErrSyntax", "strconv.ErrRange", "internal/strconv.uint64pow10", "math/bits.deBruijn32tab", "math/bits.deBruijn64tab", "stopwatch/syntax.criteria"], apart := false, laid := [("math/bits.deBruijn32tab", laid_math_bits_deBruijn32tab), ("math/bits.deBruijn64tab", laid_math_bits_deBruijn64tab), ("internal/strconv.uint64pow10", laid_internal_strconv_uint64pow10), ("unicode/utf8.acceptRanges", laid_unicode_utf8_acceptRanges), ("strconv.ErrRange", laid_strconv_ErrRange), ("strconv.ErrSyntax", laid_strconv_ErrSyntax), ("stopwatch/lexis.classes", laid_stopwatch_lexis_classes), ("stopwatch/lexis.signs", laid_stopwatch_lexis_signs), ("stopwatch/lexis.escapes", laid_stopwatch_lexis_escapes), ("stopwatch/syntax.criteria", laid_stopwatch_syntax_criteria), ("unicode/utf8.first", laid_unicode_utf8_first)] }
def SyntaxBehindSaid : Prop := syntaxBehindRow.holds Tryz.pinned (OpenSpec.ofChange syntaxBehindSpec)

/-- ITS FALSE NEIGHBOUR: 'it returns false'. Refute it at one input. -/
def syntaxBehindWrong : ChangeSpec := { name := "syntaxBehind", fn := fun _ => fun
  | [d1, d2] => { results := [.lit (.bool false)], args := [d1, d2] }
  | _ => none }
def SyntaxBehindWrongFalsely : Prop := syntaxBehindRow.holds Tryz.pinned (OpenSpec.ofChange syntaxBehindWrong)

/-- 'stopwatchlaw06.SyntaxBinds': WHATEVER THE INPUT: true; the input reads as it did. -/
def syntaxBindsSpec : ChangeSpec := { name := "syntaxBinds", fn := fun _ => fun
  | [d1, d2, d3] => { results := [.lit (.bool true)], args := [d1, d2, d3] }
  | _ => none }
def syntaxBindsRow : OpenClaim := { program := "ytdhdjfkknfbmhaagreatdoor", sum := "2a6288a95d14107df8e41900c2813c718945478da35bb3ca953824beebe77642", func := "stopwatch/stopwatchlaw06.SyntaxBinds", spec := "syntaxBinds", inPlace := ["internal/bytealg.IndexByteString", "internal/bytealg.IndexString", "internal/bytealg.CountString", "internal/abi.NoEscape", "internal/bytealg.MakeNoZero"], unfollowed := true, recurses := true, named := ["stopwatch/lexis.classes", "unicode/utf8.first", "unicode/utf8.acceptRanges", "internal/bytealg.MaxLen", "stopwatch/lexis.escapes", "stopwatch/lexis.signs", "strconv.ErrSyntax", "strconv.ErrRange", "internal/strconv.uint64pow10", "math/bits.deBruijn32tab", "math/bits.deBruijn64tab", "stopwatch/syntax.criteria"], apart := false, laid := [("math/bits.deBruijn32tab", laid_math_bits_deBruijn32tab), ("math/bits.deBruijn64tab", laid_math_bits_deBruijn64tab), ("internal/strconv.uint64pow10", laid_internal_strconv_uint64pow10), ("unicode/utf8.acceptRanges", laid_unicode_utf8_acceptRanges), ("strconv.ErrRange", laid_strconv_ErrRange), ("strconv.ErrSyntax", laid_strconv_ErrSyntax), ("stopwatch/lexis.classes", laid_stopwatch_lexis_classes), ("stopwatch/lexis.signs", laid_stopwatch_lexis_signs), ("stopwatch/lexis.escapes", laid_stopwatch_lexis_escapes), ("stopwatch/syntax.criteria", laid_stopwatch_syntax_criteria), ("unicode/utf8.first", laid_unicode_utf8_first)] }
def SyntaxBindsSaid : Prop := syntaxBindsRow.holds Tryz.pinned (OpenSpec.ofChange syntaxBindsSpec)

/-- ITS FALSE NEIGHBOUR: 'it returns false'. Refute it at one input. -/
def syntaxBindsWrong : ChangeSpec := { name := "syntaxBinds", fn := fun _ => fun
  | [d1, d2, d3] => { results := [.lit (.bool false)], args := [d1, d2, d3] }
  | _ => none }
def SyntaxBindsWrongFalsely : Prop := syntaxBindsRow.holds Tryz.pinned (OpenSpec.ofChange syntaxBindsWrong)

/-- 'stopwatchlaw06.SyntaxSteps': WHATEVER THE INPUT: true; the input reads as it did. -/
def syntaxStepsSpec : ChangeSpec := { name := "syntaxSteps", fn := fun _ => fun
  | [d] => { results := [.lit (.bool true)], args := [d] }
  | _ => none }
def syntaxStepsRow : OpenClaim := { program := "ytdhdjfkknfbmhaagreatdoor", sum := "2a6288a95d14107df8e41900c2813c718945478da35bb3ca953824beebe77642", func := "stopwatch/stopwatchlaw06.SyntaxSteps", spec := "syntaxSteps", inPlace := ["internal/bytealg.IndexByteString", "internal/bytealg.IndexString", "internal/bytealg.CountString", "internal/abi.NoEscape", "internal/bytealg.MakeNoZero"], unfollowed := true, recurses := true, named := ["stopwatch/lexis.classes", "unicode/utf8.first", "unicode/utf8.acceptRanges", "internal/bytealg.MaxLen", "stopwatch/lexis.escapes", "stopwatch/lexis.signs", "strconv.ErrSyntax", "strconv.ErrRange", "internal/strconv.uint64pow10", "math/bits.deBruijn32tab", "math/bits.deBruijn64tab", "stopwatch/syntax.criteria"], loops := true, apart := false, laid := [("math/bits.deBruijn32tab", laid_math_bits_deBruijn32tab), ("math/bits.deBruijn64tab", laid_math_bits_deBruijn64tab), ("internal/strconv.uint64pow10", laid_internal_strconv_uint64pow10), ("unicode/utf8.acceptRanges", laid_unicode_utf8_acceptRanges), ("strconv.ErrRange", laid_strconv_ErrRange), ("strconv.ErrSyntax", laid_strconv_ErrSyntax), ("stopwatch/lexis.classes", laid_stopwatch_lexis_classes), ("stopwatch/lexis.signs", laid_stopwatch_lexis_signs), ("stopwatch/lexis.escapes", laid_stopwatch_lexis_escapes), ("stopwatch/syntax.criteria", laid_stopwatch_syntax_criteria), ("unicode/utf8.first", laid_unicode_utf8_first)] }
def SyntaxStepsSaid : Prop := syntaxStepsRow.holds Tryz.pinned (OpenSpec.ofChange syntaxStepsSpec)

/-- ITS FALSE NEIGHBOUR: 'it returns false'. Refute it at one input. -/
def syntaxStepsWrong : ChangeSpec := { name := "syntaxSteps", fn := fun _ => fun
  | [d] => { results := [.lit (.bool false)], args := [d] }
  | _ => none }
def SyntaxStepsWrongFalsely : Prop := syntaxStepsRow.holds Tryz.pinned (OpenSpec.ofChange syntaxStepsWrong)

/-- 'stopwatchlaw06.SyntaxWritten': WHATEVER THE INPUT: true; the input reads as it did. -/
def syntaxWrittenSpec : ChangeSpec := { name := "syntaxWritten", fn := fun _ => fun
  | [d] => { results := [.lit (.bool true)], args := [d] }
  | _ => none }
def syntaxWrittenRow : OpenClaim := { program := "ytdhdjfkknfbmhaagreatdoor", sum := "2a6288a95d14107df8e41900c2813c718945478da35bb3ca953824beebe77642", func := "stopwatch/stopwatchlaw06.SyntaxWritten", spec := "syntaxWritten", inPlace := ["internal/bytealg.IndexByteString", "internal/bytealg.IndexString", "internal/bytealg.CountString", "internal/abi.NoEscape", "internal/bytealg.MakeNoZero"], unfollowed := true, recurses := true, named := ["stopwatch/lexis.classes", "unicode/utf8.first", "unicode/utf8.acceptRanges", "internal/bytealg.MaxLen", "stopwatch/lexis.escapes", "stopwatch/lexis.signs", "strconv.ErrSyntax", "strconv.ErrRange", "internal/strconv.uint64pow10", "math/bits.deBruijn32tab", "math/bits.deBruijn64tab", "stopwatch/syntax.criteria"], loops := true, apart := false, laid := [("math/bits.deBruijn32tab", laid_math_bits_deBruijn32tab), ("math/bits.deBruijn64tab", laid_math_bits_deBruijn64tab), ("internal/strconv.uint64pow10", laid_internal_strconv_uint64pow10), ("unicode/utf8.acceptRanges", laid_unicode_utf8_acceptRanges), ("strconv.ErrRange", laid_strconv_ErrRange), ("strconv.ErrSyntax", laid_strconv_ErrSyntax), ("stopwatch/lexis.classes", laid_stopwatch_lexis_classes), ("stopwatch/lexis.signs", laid_stopwatch_lexis_signs), ("stopwatch/lexis.escapes", laid_stopwatch_lexis_escapes), ("stopwatch/syntax.criteria", laid_stopwatch_syntax_criteria), ("unicode/utf8.first", laid_unicode_utf8_first)] }
def SyntaxWrittenSaid : Prop := syntaxWrittenRow.holds Tryz.pinned (OpenSpec.ofChange syntaxWrittenSpec)

/-- ITS FALSE NEIGHBOUR: 'it returns false'. Refute it at one input. -/
def syntaxWrittenWrong : ChangeSpec := { name := "syntaxWritten", fn := fun _ => fun
  | [d] => { results := [.lit (.bool false)], args := [d] }
  | _ => none }
def SyntaxWrittenWrongFalsely : Prop := syntaxWrittenRow.holds Tryz.pinned (OpenSpec.ofChange syntaxWrittenWrong)

/-- 'stopwatchlaw06.SyntaxCut': WHATEVER THE INPUT: true; the input reads as it did. -/
def syntaxCutSpec : ChangeSpec := { name := "syntaxCut", fn := fun _ => fun
  | [d1, d2] => { results := [.lit (.bool true)], args := [d1, d2] }
  | _ => none }
def syntaxCutRow : OpenClaim := { program := "ytdhdjfkknfbmhaagreatdoor", sum := "2a6288a95d14107df8e41900c2813c718945478da35bb3ca953824beebe77642", func := "stopwatch/stopwatchlaw06.SyntaxCut", spec := "syntaxCut", inPlace := ["internal/bytealg.IndexByteString", "internal/bytealg.IndexString", "internal/bytealg.CountString", "internal/abi.NoEscape", "internal/bytealg.MakeNoZero"], unfollowed := true, recurses := true, named := ["stopwatch/lexis.classes", "unicode/utf8.first", "unicode/utf8.acceptRanges", "internal/bytealg.MaxLen", "stopwatch/lexis.escapes", "stopwatch/lexis.signs", "strconv.ErrSyntax", "strconv.ErrRange", "internal/strconv.uint64pow10", "math/bits.deBruijn32tab", "math/bits.deBruijn64tab", "stopwatch/syntax.criteria"], apart := false, laid := [("math/bits.deBruijn32tab", laid_math_bits_deBruijn32tab), ("math/bits.deBruijn64tab", laid_math_bits_deBruijn64tab), ("internal/strconv.uint64pow10", laid_internal_strconv_uint64pow10), ("unicode/utf8.acceptRanges", laid_unicode_utf8_acceptRanges), ("strconv.ErrRange", laid_strconv_ErrRange), ("strconv.ErrSyntax", laid_strconv_ErrSyntax), ("stopwatch/lexis.classes", laid_stopwatch_lexis_classes), ("stopwatch/lexis.signs", laid_stopwatch_lexis_signs), ("stopwatch/lexis.escapes", laid_stopwatch_lexis_escapes), ("stopwatch/syntax.criteria", laid_stopwatch_syntax_criteria), ("unicode/utf8.first", laid_unicode_utf8_first)] }
def SyntaxCutSaid : Prop := syntaxCutRow.holds Tryz.pinned (OpenSpec.ofChange syntaxCutSpec)

/-- ITS FALSE NEIGHBOUR: 'it returns false'. Refute it at one input. -/
def syntaxCutWrong : ChangeSpec := { name := "syntaxCut", fn := fun _ => fun
  | [d1, d2] => { results := [.lit (.bool false)], args := [d1, d2] }
  | _ => none }
def SyntaxCutWrongFalsely : Prop := syntaxCutRow.holds Tryz.pinned (OpenSpec.ofChange syntaxCutWrong)

/- THE SECOND FORM. 'bulk': how many values and letters a reading holds, each counted each time it is reached (what is shared counts as often as it is met; a slice's spare places count too). A statement '..UptoSaid' is the law's where the arguments, and the package variables that the reading takes, are together of bulk at most 1048576: NARROWER than '..Said'. Prove '..Said' where nothing that the law and all that it calls make is longer than what came in: it says more and counts as full. Else prove '..UptoSaid'. A law counts once. -/
mutual
def uptoBulk {H : Type} : DataW H → Nat
  | .lit (.string bytes) => bytes.length + 1
  | .lit _ => 1
  | .nil => 1
  | .ptr d => uptoBulk d + 1
  | .slice elems spare => uptoBulkAll elems + uptoBulkAll spare + 1
  | .agg parts => uptoBulkAll parts + 1
  | .iface _ d => uptoBulk d + 1
  | .map entries => uptoBulkEntries entries + 1
  | .held _ => 1
def uptoBulkAll {H : Type} : List (DataW H) → Nat
  | [] => 0
  | d :: r => uptoBulk d + uptoBulkAll r
def uptoBulkEntries {H : Type} : List (Lit × DataW H) → Nat
  | [] => 0
  | x :: r => uptoBulkEntry x + uptoBulkEntries r
def uptoBulkEntry {H : Type} : Lit × DataW H → Nat
  | (.string bytes, d) => bytes.length + uptoBulk d + 1
  | (_, d) => uptoBulk d + 1
 end
def uptoSmall : (H : Type) → List (DataW H) → Bool := fun _ ds => decide (uptoBulkAll ds ≤ 1048576)
def OpenSpec.upto (s : _root_.Go.ChangeSpec) : _root_.Go.OpenSpec := { _root_.Go.OpenSpec.ofChange s with cond := some uptoSmall }

/-- 'stopwatchlaw06.SyntaxTokens', WHERE WHAT IT READS IS OF BULK AT MOST 1048576: true; the input reads as it did. -/
def syntaxTokensUptoRow : OpenClaim := { program := "ytdhdjfkknfbmhaagreatdoor", sum := "2a6288a95d14107df8e41900c2813c718945478da35bb3ca953824beebe77642", func := "stopwatch/stopwatchlaw06.SyntaxTokens", spec := "syntaxTokens", inPlace := ["internal/bytealg.IndexByteString", "internal/bytealg.IndexString", "internal/bytealg.CountString", "internal/abi.NoEscape", "internal/bytealg.MakeNoZero"], unfollowed := true, recurses := true, named := ["stopwatch/lexis.classes", "unicode/utf8.first", "unicode/utf8.acceptRanges", "internal/bytealg.MaxLen", "stopwatch/lexis.escapes", "stopwatch/lexis.signs", "strconv.ErrSyntax", "strconv.ErrRange", "internal/strconv.uint64pow10", "math/bits.deBruijn32tab", "math/bits.deBruijn64tab", "stopwatch/syntax.criteria"], apart := false, laid := [("math/bits.deBruijn32tab", laid_math_bits_deBruijn32tab), ("math/bits.deBruijn64tab", laid_math_bits_deBruijn64tab), ("internal/strconv.uint64pow10", laid_internal_strconv_uint64pow10), ("unicode/utf8.acceptRanges", laid_unicode_utf8_acceptRanges), ("strconv.ErrRange", laid_strconv_ErrRange), ("strconv.ErrSyntax", laid_strconv_ErrSyntax), ("stopwatch/lexis.classes", laid_stopwatch_lexis_classes), ("stopwatch/lexis.signs", laid_stopwatch_lexis_signs), ("stopwatch/lexis.escapes", laid_stopwatch_lexis_escapes), ("stopwatch/syntax.criteria", laid_stopwatch_syntax_criteria), ("unicode/utf8.first", laid_unicode_utf8_first)], narrowed := true }
def SyntaxTokensUptoSaid : Prop := syntaxTokensUptoRow.holds Tryz.pinned (OpenSpec.upto syntaxTokensSpec)

/-- 'stopwatchlaw06.SyntaxBehind', WHERE WHAT IT READS IS OF BULK AT MOST 1048576: true; the input reads as it did. -/
def syntaxBehindUptoRow : OpenClaim := { program := "ytdhdjfkknfbmhaagreatdoor", sum := "2a6288a95d14107df8e41900c2813c718945478da35bb3ca953824beebe77642", func := "stopwatch/stopwatchlaw06.SyntaxBehind", spec := "syntaxBehind", inPlace := ["internal/bytealg.IndexByteString", "internal/bytealg.IndexString", "internal/bytealg.CountString", "internal/abi.NoEscape", "internal/bytealg.MakeNoZero"], unfollowed := true, recurses := true, named := ["stopwatch/lexis.classes", "unicode/utf8.first", "unicode/utf8.acceptRanges", "internal/bytealg.MaxLen", "stopwatch/lexis.escapes", "stopwatch/lexis.signs", "strconv.ErrSyntax", "strconv.ErrRange", "internal/strconv.uint64pow10", "math/bits.deBruijn32tab", "math/bits.deBruijn64tab", "stopwatch/syntax.criteria"], apart := false, laid := [("math/bits.deBruijn32tab", laid_math_bits_deBruijn32tab), ("math/bits.deBruijn64tab", laid_math_bits_deBruijn64tab), ("internal/strconv.uint64pow10", laid_internal_strconv_uint64pow10), ("unicode/utf8.acceptRanges", laid_unicode_utf8_acceptRanges), ("strconv.ErrRange", laid_strconv_ErrRange), ("strconv.ErrSyntax", laid_strconv_ErrSyntax), ("stopwatch/lexis.classes", laid_stopwatch_lexis_classes), ("stopwatch/lexis.signs", laid_stopwatch_lexis_signs), ("stopwatch/lexis.escapes", laid_stopwatch_lexis_escapes), ("stopwatch/syntax.criteria", laid_stopwatch_syntax_criteria), ("unicode/utf8.first", laid_unicode_utf8_first)], narrowed := true }
def SyntaxBehindUptoSaid : Prop := syntaxBehindUptoRow.holds Tryz.pinned (OpenSpec.upto syntaxBehindSpec)

/-- 'stopwatchlaw06.SyntaxBinds', WHERE WHAT IT READS IS OF BULK AT MOST 1048576: true; the input reads as it did. -/
def syntaxBindsUptoRow : OpenClaim := { program := "ytdhdjfkknfbmhaagreatdoor", sum := "2a6288a95d14107df8e41900c2813c718945478da35bb3ca953824beebe77642", func := "stopwatch/stopwatchlaw06.SyntaxBinds", spec := "syntaxBinds", inPlace := ["internal/bytealg.IndexByteString", "internal/bytealg.IndexString", "internal/bytealg.CountString", "internal/abi.NoEscape", "internal/bytealg.MakeNoZero"], unfollowed := true, recurses := true, named := ["stopwatch/lexis.classes", "unicode/utf8.first", "unicode/utf8.acceptRanges", "internal/bytealg.MaxLen", "stopwatch/lexis.escapes", "stopwatch/lexis.signs", "strconv.ErrSyntax", "strconv.ErrRange", "internal/strconv.uint64pow10", "math/bits.deBruijn32tab", "math/bits.deBruijn64tab", "stopwatch/syntax.criteria"], apart := false, laid := [("math/bits.deBruijn32tab", laid_math_bits_deBruijn32tab), ("math/bits.deBruijn64tab", laid_math_bits_deBruijn64tab), ("internal/strconv.uint64pow10", laid_internal_strconv_uint64pow10), ("unicode/utf8.acceptRanges", laid_unicode_utf8_acceptRanges), ("strconv.ErrRange", laid_strconv_ErrRange), ("strconv.ErrSyntax", laid_strconv_ErrSyntax), ("stopwatch/lexis.classes", laid_stopwatch_lexis_classes), ("stopwatch/lexis.signs", laid_stopwatch_lexis_signs), ("stopwatch/lexis.escapes", laid_stopwatch_lexis_escapes), ("stopwatch/syntax.criteria", laid_stopwatch_syntax_criteria), ("unicode/utf8.first", laid_unicode_utf8_first)], narrowed := true }
def SyntaxBindsUptoSaid : Prop := syntaxBindsUptoRow.holds Tryz.pinned (OpenSpec.upto syntaxBindsSpec)

/-- 'stopwatchlaw06.SyntaxSteps', WHERE WHAT IT READS IS OF BULK AT MOST 1048576: true; the input reads as it did. -/
def syntaxStepsUptoRow : OpenClaim := { program := "ytdhdjfkknfbmhaagreatdoor", sum := "2a6288a95d14107df8e41900c2813c718945478da35bb3ca953824beebe77642", func := "stopwatch/stopwatchlaw06.SyntaxSteps", spec := "syntaxSteps", inPlace := ["internal/bytealg.IndexByteString", "internal/bytealg.IndexString", "internal/bytealg.CountString", "internal/abi.NoEscape", "internal/bytealg.MakeNoZero"], unfollowed := true, recurses := true, named := ["stopwatch/lexis.classes", "unicode/utf8.first", "unicode/utf8.acceptRanges", "internal/bytealg.MaxLen", "stopwatch/lexis.escapes", "stopwatch/lexis.signs", "strconv.ErrSyntax", "strconv.ErrRange", "internal/strconv.uint64pow10", "math/bits.deBruijn32tab", "math/bits.deBruijn64tab", "stopwatch/syntax.criteria"], loops := true, apart := false, laid := [("math/bits.deBruijn32tab", laid_math_bits_deBruijn32tab), ("math/bits.deBruijn64tab", laid_math_bits_deBruijn64tab), ("internal/strconv.uint64pow10", laid_internal_strconv_uint64pow10), ("unicode/utf8.acceptRanges", laid_unicode_utf8_acceptRanges), ("strconv.ErrRange", laid_strconv_ErrRange), ("strconv.ErrSyntax", laid_strconv_ErrSyntax), ("stopwatch/lexis.classes", laid_stopwatch_lexis_classes), ("stopwatch/lexis.signs", laid_stopwatch_lexis_signs), ("stopwatch/lexis.escapes", laid_stopwatch_lexis_escapes), ("stopwatch/syntax.criteria", laid_stopwatch_syntax_criteria), ("unicode/utf8.first", laid_unicode_utf8_first)], narrowed := true }
def SyntaxStepsUptoSaid : Prop := syntaxStepsUptoRow.holds Tryz.pinned (OpenSpec.upto syntaxStepsSpec)

/-- 'stopwatchlaw06.SyntaxWritten', WHERE WHAT IT READS IS OF BULK AT MOST 1048576: true; the input reads as it did. -/
def syntaxWrittenUptoRow : OpenClaim := { program := "ytdhdjfkknfbmhaagreatdoor", sum := "2a6288a95d14107df8e41900c2813c718945478da35bb3ca953824beebe77642", func := "stopwatch/stopwatchlaw06.SyntaxWritten", spec := "syntaxWritten", inPlace := ["internal/bytealg.IndexByteString", "internal/bytealg.IndexString", "internal/bytealg.CountString", "internal/abi.NoEscape", "internal/bytealg.MakeNoZero"], unfollowed := true, recurses := true, named := ["stopwatch/lexis.classes", "unicode/utf8.first", "unicode/utf8.acceptRanges", "internal/bytealg.MaxLen", "stopwatch/lexis.escapes", "stopwatch/lexis.signs", "strconv.ErrSyntax", "strconv.ErrRange", "internal/strconv.uint64pow10", "math/bits.deBruijn32tab", "math/bits.deBruijn64tab", "stopwatch/syntax.criteria"], loops := true, apart := false, laid := [("math/bits.deBruijn32tab", laid_math_bits_deBruijn32tab), ("math/bits.deBruijn64tab", laid_math_bits_deBruijn64tab), ("internal/strconv.uint64pow10", laid_internal_strconv_uint64pow10), ("unicode/utf8.acceptRanges", laid_unicode_utf8_acceptRanges), ("strconv.ErrRange", laid_strconv_ErrRange), ("strconv.ErrSyntax", laid_strconv_ErrSyntax), ("stopwatch/lexis.classes", laid_stopwatch_lexis_classes), ("stopwatch/lexis.signs", laid_stopwatch_lexis_signs), ("stopwatch/lexis.escapes", laid_stopwatch_lexis_escapes), ("stopwatch/syntax.criteria", laid_stopwatch_syntax_criteria), ("unicode/utf8.first", laid_unicode_utf8_first)], narrowed := true }
def SyntaxWrittenUptoSaid : Prop := syntaxWrittenUptoRow.holds Tryz.pinned (OpenSpec.upto syntaxWrittenSpec)

/-- 'stopwatchlaw06.SyntaxCut', WHERE WHAT IT READS IS OF BULK AT MOST 1048576: true; the input reads as it did. -/
def syntaxCutUptoRow : OpenClaim := { program := "ytdhdjfkknfbmhaagreatdoor", sum := "2a6288a95d14107df8e41900c2813c718945478da35bb3ca953824beebe77642", func := "stopwatch/stopwatchlaw06.SyntaxCut", spec := "syntaxCut", inPlace := ["internal/bytealg.IndexByteString", "internal/bytealg.IndexString", "internal/bytealg.CountString", "internal/abi.NoEscape", "internal/bytealg.MakeNoZero"], unfollowed := true, recurses := true, named := ["stopwatch/lexis.classes", "unicode/utf8.first", "unicode/utf8.acceptRanges", "internal/bytealg.MaxLen", "stopwatch/lexis.escapes", "stopwatch/lexis.signs", "strconv.ErrSyntax", "strconv.ErrRange", "internal/strconv.uint64pow10", "math/bits.deBruijn32tab", "math/bits.deBruijn64tab", "stopwatch/syntax.criteria"], apart := false, laid := [("math/bits.deBruijn32tab", laid_math_bits_deBruijn32tab), ("math/bits.deBruijn64tab", laid_math_bits_deBruijn64tab), ("internal/strconv.uint64pow10", laid_internal_strconv_uint64pow10), ("unicode/utf8.acceptRanges", laid_unicode_utf8_acceptRanges), ("strconv.ErrRange", laid_strconv_ErrRange), ("strconv.ErrSyntax", laid_strconv_ErrSyntax), ("stopwatch/lexis.classes", laid_stopwatch_lexis_classes), ("stopwatch/lexis.signs", laid_stopwatch_lexis_signs), ("stopwatch/lexis.escapes", laid_stopwatch_lexis_escapes), ("stopwatch/syntax.criteria", laid_stopwatch_syntax_criteria), ("unicode/utf8.first", laid_unicode_utf8_first)], narrowed := true }
def SyntaxCutUptoSaid : Prop := syntaxCutUptoRow.holds Tryz.pinned (OpenSpec.upto syntaxCutSpec)

end Rows
end Go.Proofs.YtdhdjfkknfbmhaaGreatDoor
