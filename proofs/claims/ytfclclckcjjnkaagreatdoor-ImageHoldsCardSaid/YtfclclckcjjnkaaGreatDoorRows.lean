/-
  NARROWER THAN 'FOR EVERY INPUT', by the rows' own cells (each row's printed sentence says how): ImageEncodes: laid · ImageSealed: laid · ImageEach: laid · ImageHolds: laid · AsmPrints: laid · AsmParses: laid · AsmBent: laid · AsmLines: laid · AsmHolds: laid.
  DERIVED. THE GIVEN ROWS OF THIS SEAT. 9 by the template 'for every input the law returns true; each argument reads behind the call as it read before'; 0 by the template 'total and deterministic' (their statements: YtfclclckcjjnkaaGreatDoorTotals.lean).
  GIVEN WITH THE SEED: the statements are not yours to turn. If you find one false, say at which input.
  Laid BY PROGRAM, IN A SANDBOX (cutbox-rows.mjs): the forced cells as the released guide's own fill.sh prints them over the translation 4307f5ebf1099c4b… (all of the seat's roots in one cut). By AI agents, Wed Nov 11 2026. No macro, syntax, notation, axiom, sorry.
-/
import Derived.Test.YtfclclckcjjnkaaGreatDoorChecked
import GoSem.PinnedTables
import GoSem.Claim
import GoSem.ClaimJoined
import GoSem.ClaimMapViews
import Derived.JoinedTies
import Derived.KernelRfl
namespace Go.Proofs.YtfclclckcjjnkaaGreatDoor
/- THE CELL 'sum', in the pinned program and in every row, IS THE sha256 OF THE DUMP (.gsa) THAT YtfclclckcjjnkaaGreatDoorProg.lean LOADS. Nothing in Lean hashes anything: it is a label: what it is worth is what the hold of that sum in a sandbox is worth. -/
noncomputable def Tryz.pinned : Pinned := { name := "ytfclclckcjjnkaagreatdoor", sum := "4307f5ebf1099c4b52bc747d9c356ca78ea3153f2c75b374893a11616e582217", checked := Tryz.checked }
namespace Rows
def none {H : Type} : Left H := { results := [], args := [] }

/- WHAT THE LISTED PACKAGE-LEVEL VARIABLES READ AS WHEN THE CALL BEGINS. Each datum BY PROGRAM (the guide's laid-datum.mjs) off the statement by which the dump's own 'gosem.cut.vars' lays the variable. In a bare row this is a premise. The card (YtfclclckcjjnkaaGreatDoorCards.lean) ties it to the program's text. -/
def laid_linesman_octet_widths {H : Type} : DataW H := .agg [.lit (.int .i64 1), .lit (.int .i64 2), .lit (.int .i64 4), .lit (.int .i64 8)]
def laid_linesman_image_beginning {H : Type} : DataW H := .agg [.lit (.int .u8 108), .lit (.int .u8 105), .lit (.int .u8 110), .lit (.int .u8 101)]
def laid_math_bits_deBruijn32tab {H : Type} : DataW H := .agg [.lit (.int .u8 0), .lit (.int .u8 1), .lit (.int .u8 28), .lit (.int .u8 2), .lit (.int .u8 29), .lit (.int .u8 14), .lit (.int .u8 24), .lit (.int .u8 3), .lit (.int .u8 30), .lit (.int .u8 22), .lit (.int .u8 20), .lit (.int .u8 15), .lit (.int .u8 25), .lit (.int .u8 17), .lit (.int .u8 4), .lit (.int .u8 8), .lit (.int .u8 31), .lit (.int .u8 27), .lit (.int .u8 13), .lit (.int .u8 23), .lit (.int .u8 21), .lit (.int .u8 19), .lit (.int .u8 16), .lit (.int .u8 7), .lit (.int .u8 26), .lit (.int .u8 12), .lit (.int .u8 18), .lit (.int .u8 6), .lit (.int .u8 11), .lit (.int .u8 5), .lit (.int .u8 10), .lit (.int .u8 9)]
def laid_math_bits_deBruijn64tab {H : Type} : DataW H := .agg [.lit (.int .u8 0), .lit (.int .u8 1), .lit (.int .u8 56), .lit (.int .u8 2), .lit (.int .u8 57), .lit (.int .u8 49), .lit (.int .u8 28), .lit (.int .u8 3), .lit (.int .u8 61), .lit (.int .u8 58), .lit (.int .u8 42), .lit (.int .u8 50), .lit (.int .u8 38), .lit (.int .u8 29), .lit (.int .u8 17), .lit (.int .u8 4), .lit (.int .u8 62), .lit (.int .u8 47), .lit (.int .u8 59), .lit (.int .u8 36), .lit (.int .u8 45), .lit (.int .u8 43), .lit (.int .u8 51), .lit (.int .u8 22), .lit (.int .u8 53), .lit (.int .u8 39), .lit (.int .u8 33), .lit (.int .u8 30), .lit (.int .u8 24), .lit (.int .u8 18), .lit (.int .u8 12), .lit (.int .u8 5), .lit (.int .u8 63), .lit (.int .u8 55), .lit (.int .u8 48), .lit (.int .u8 27), .lit (.int .u8 60), .lit (.int .u8 41), .lit (.int .u8 37), .lit (.int .u8 16), .lit (.int .u8 46), .lit (.int .u8 35), .lit (.int .u8 44), .lit (.int .u8 21), .lit (.int .u8 52), .lit (.int .u8 32), .lit (.int .u8 23), .lit (.int .u8 11), .lit (.int .u8 54), .lit (.int .u8 26), .lit (.int .u8 40), .lit (.int .u8 15), .lit (.int .u8 34), .lit (.int .u8 20), .lit (.int .u8 31), .lit (.int .u8 10), .lit (.int .u8 25), .lit (.int .u8 14), .lit (.int .u8 19), .lit (.int .u8 9), .lit (.int .u8 13), .lit (.int .u8 8), .lit (.int .u8 7), .lit (.int .u8 6)]
def laid_internal_strconv_uint64pow10 {H : Type} : DataW H := .agg [.lit (.int .u64 1), .lit (.int .u64 10), .lit (.int .u64 100), .lit (.int .u64 1000), .lit (.int .u64 10000), .lit (.int .u64 100000), .lit (.int .u64 1000000), .lit (.int .u64 10000000), .lit (.int .u64 100000000), .lit (.int .u64 1000000000), .lit (.int .u64 10000000000), .lit (.int .u64 100000000000), .lit (.int .u64 1000000000000), .lit (.int .u64 10000000000000), .lit (.int .u64 100000000000000), .lit (.int .u64 1000000000000000), .lit (.int .u64 10000000000000000), .lit (.int .u64 100000000000000000), .lit (.int .u64 1000000000000000000), .lit (.int .u64 10000000000000000000)]
def laid_unicode_utf8_acceptRanges {H : Type} : DataW H := .agg [.agg [.lit (.int .u8 128), .lit (.int .u8 191)], .agg [.lit (.int .u8 160), .lit (.int .u8 191)], .agg [.lit (.int .u8 128), .lit (.int .u8 159)], .agg [.lit (.int .u8 144), .lit (.int .u8 191)], .agg [.lit (.int .u8 128), .lit (.int .u8 143)], .agg [.lit (.int .u8 0), .lit (.int .u8 0)], .agg [.lit (.int .u8 0), .lit (.int .u8 0)], .agg [.lit (.int .u8 0), .lit (.int .u8 0)], .agg [.lit (.int .u8 0), .lit (.int .u8 0)], .agg [.lit (.int .u8 0), .lit (.int .u8 0)], .agg [.lit (.int .u8 0), .lit (.int .u8 0)], .agg [.lit (.int .u8 0), .lit (.int .u8 0)], .agg [.lit (.int .u8 0), .lit (.int .u8 0)], .agg [.lit (.int .u8 0), .lit (.int .u8 0)], .agg [.lit (.int .u8 0), .lit (.int .u8 0)], .agg [.lit (.int .u8 0), .lit (.int .u8 0)]]
def laid_strconv_ErrRange {H : Type} : DataW H := .iface "*errors.errorString" (.ptr (.agg [.lit (.string [118, 97, 108, 117, 101, 32, 111, 117, 116, 32, 111, 102, 32, 114, 97, 110, 103, 101])]))
def laid_strconv_ErrSyntax {H : Type} : DataW H := .iface "*errors.errorString" (.ptr (.agg [.lit (.string [105, 110, 118, 97, 108, 105, 100, 32, 115, 121, 110, 116, 97, 120])]))
def laid_linesman_arith_names {H : Type} : DataW H := .agg [.lit (.string [97, 100, 100]), .lit (.string [115, 117, 98]), .lit (.string [109, 117, 108]), .lit (.string [100, 105, 118]), .lit (.string [109, 111, 100]), .lit (.string [97, 110, 100]), .lit (.string [111, 114]), .lit (.string [120, 111, 114]), .lit (.string [115, 104, 108]), .lit (.string [115, 104, 114]), .lit (.string [108, 101, 115, 115]), .lit (.string [101, 113, 117, 97, 108])]
def laid_linesman_instr_names {H : Type} : DataW H := .agg [.lit (.string []), .lit (.string [99, 111, 110, 115, 116]), .lit (.string [109, 111, 118, 101]), .lit (.string []), .lit (.string [106, 117, 109, 112]), .lit (.string [105, 102]), .lit (.string [108, 111, 97, 100]), .lit (.string [115, 116, 111, 114, 101]), .lit (.string [99, 97, 108, 108]), .lit (.string [114, 101, 116, 117, 114, 110]), .lit (.string [103, 111]), .lit (.string [108, 111, 99, 107]), .lit (.string [117, 110, 108, 111, 99, 107]), .lit (.string [114, 108, 111, 99, 107]), .lit (.string [114, 117, 110, 108, 111, 99, 107]), .lit (.string [119, 108, 111, 99, 107]), .lit (.string [119, 117, 110, 108, 111, 99, 107]), .lit (.string [99, 111, 117, 110, 116]), .lit (.string [119, 97, 105, 116]), .lit (.string [121, 105, 101, 108, 100])]
/-- One of Go's own tables, pinned by name: the form's constant. -/
def laid_unicode_utf8_first : DataW Unit := Go.Pinned.utf8First

/-- 'linesmanlaw10.ImageEncodes': WHATEVER THE INPUT: true; the input reads as it did. -/
def imageEncodesSpec : ChangeSpec := { name := "imageEncodes", fn := fun _ => fun
  | [d] => { results := [.lit (.bool true)], args := [d] }
  | _ => none }
def imageEncodesRow : OpenClaim := { program := "ytfclclckcjjnkaagreatdoor", sum := "4307f5ebf1099c4b52bc747d9c356ca78ea3153f2c75b374893a11616e582217", func := "linesman/linesmanlaw10.ImageEncodes", spec := "imageEncodes", unfollowed := true, recurses := true, named := ["linesman/image.beginning", "linesman/octet.widths"], apart := false, laid := [("linesman/octet.widths", laid_linesman_octet_widths), ("linesman/image.beginning", laid_linesman_image_beginning)] }
def ImageEncodesSaid : Prop := imageEncodesRow.holds Tryz.pinned (OpenSpec.ofChange imageEncodesSpec)

/-- ITS FALSE NEIGHBOUR: 'it returns false'. Refute it at one input. -/
def imageEncodesWrong : ChangeSpec := { name := "imageEncodes", fn := fun _ => fun
  | [d] => { results := [.lit (.bool false)], args := [d] }
  | _ => none }
def ImageEncodesWrongFalsely : Prop := imageEncodesRow.holds Tryz.pinned (OpenSpec.ofChange imageEncodesWrong)

/-- 'linesmanlaw10.ImageSealed': WHATEVER THE INPUT: true; the input reads as it did. -/
def imageSealedSpec : ChangeSpec := { name := "imageSealed", fn := fun _ => fun
  | [d1, d2] => { results := [.lit (.bool true)], args := [d1, d2] }
  | _ => none }
def imageSealedRow : OpenClaim := { program := "ytfclclckcjjnkaagreatdoor", sum := "4307f5ebf1099c4b52bc747d9c356ca78ea3153f2c75b374893a11616e582217", func := "linesman/linesmanlaw10.ImageSealed", spec := "imageSealed", unfollowed := true, recurses := true, named := ["linesman/image.beginning", "linesman/octet.widths"], apart := false, laid := [("linesman/octet.widths", laid_linesman_octet_widths), ("linesman/image.beginning", laid_linesman_image_beginning)] }
def ImageSealedSaid : Prop := imageSealedRow.holds Tryz.pinned (OpenSpec.ofChange imageSealedSpec)

/-- ITS FALSE NEIGHBOUR: 'it returns false'. Refute it at one input. -/
def imageSealedWrong : ChangeSpec := { name := "imageSealed", fn := fun _ => fun
  | [d1, d2] => { results := [.lit (.bool false)], args := [d1, d2] }
  | _ => none }
def ImageSealedWrongFalsely : Prop := imageSealedRow.holds Tryz.pinned (OpenSpec.ofChange imageSealedWrong)

/-- 'linesmanlaw10.ImageEach': WHATEVER THE INPUT: true; the input reads as it did. -/
def imageEachSpec : ChangeSpec := { name := "imageEach", fn := fun _ => fun
  | [d1, d2, d3] => { results := [.lit (.bool true)], args := [d1, d2, d3] }
  | _ => none }
def imageEachRow : OpenClaim := { program := "ytfclclckcjjnkaagreatdoor", sum := "4307f5ebf1099c4b52bc747d9c356ca78ea3153f2c75b374893a11616e582217", func := "linesman/linesmanlaw10.ImageEach", spec := "imageEach", unfollowed := true, recurses := true, named := ["linesman/image.beginning", "linesman/octet.widths"], apart := false, laid := [("linesman/octet.widths", laid_linesman_octet_widths), ("linesman/image.beginning", laid_linesman_image_beginning)] }
def ImageEachSaid : Prop := imageEachRow.holds Tryz.pinned (OpenSpec.ofChange imageEachSpec)

/-- ITS FALSE NEIGHBOUR: 'it returns false'. Refute it at one input. -/
def imageEachWrong : ChangeSpec := { name := "imageEach", fn := fun _ => fun
  | [d1, d2, d3] => { results := [.lit (.bool false)], args := [d1, d2, d3] }
  | _ => none }
def ImageEachWrongFalsely : Prop := imageEachRow.holds Tryz.pinned (OpenSpec.ofChange imageEachWrong)

/-- 'linesmanlaw10.ImageHolds': WHATEVER THE INPUT: true; the input reads as it did. -/
def imageHoldsSpec : ChangeSpec := { name := "imageHolds", fn := fun _ => fun
  | [d1, d2] => { results := [.lit (.bool true)], args := [d1, d2] }
  | _ => none }
def imageHoldsRow : OpenClaim := { program := "ytfclclckcjjnkaagreatdoor", sum := "4307f5ebf1099c4b52bc747d9c356ca78ea3153f2c75b374893a11616e582217", func := "linesman/linesmanlaw10.ImageHolds", spec := "imageHolds", unfollowed := true, recurses := true, named := ["linesman/image.beginning", "linesman/octet.widths"], apart := false, laid := [("linesman/octet.widths", laid_linesman_octet_widths), ("linesman/image.beginning", laid_linesman_image_beginning)] }
def ImageHoldsSaid : Prop := imageHoldsRow.holds Tryz.pinned (OpenSpec.ofChange imageHoldsSpec)

/-- ITS FALSE NEIGHBOUR: 'it returns false'. Refute it at one input. -/
def imageHoldsWrong : ChangeSpec := { name := "imageHolds", fn := fun _ => fun
  | [d1, d2] => { results := [.lit (.bool false)], args := [d1, d2] }
  | _ => none }
def ImageHoldsWrongFalsely : Prop := imageHoldsRow.holds Tryz.pinned (OpenSpec.ofChange imageHoldsWrong)

/-- 'linesmanlaw11.AsmPrints': WHATEVER THE INPUT: true; the input reads as it did. -/
def asmPrintsSpec : ChangeSpec := { name := "asmPrints", fn := fun _ => fun
  | [d] => { results := [.lit (.bool true)], args := [d] }
  | _ => none }
def asmPrintsRow : OpenClaim := { program := "ytfclclckcjjnkaagreatdoor", sum := "4307f5ebf1099c4b52bc747d9c356ca78ea3153f2c75b374893a11616e582217", func := "linesman/linesmanlaw11.AsmPrints", spec := "asmPrints", inPlace := ["internal/abi.NoEscape", "internal/bytealg.MakeNoZero", "internal/bytealg.IndexByteString", "internal/bytealg.IndexString", "internal/bytealg.IndexByte", "internal/bytealg.Index"], unfollowed := true, recurses := true, named := ["internal/strconv.uint64pow10", "math/bits.deBruijn32tab", "math/bits.deBruijn64tab", "linesman/instr.names", "linesman/arith.names", "internal/bytealg.MaxLen", "strconv.ErrSyntax", "strconv.ErrRange", "unicode/utf8.first", "unicode/utf8.acceptRanges"], apart := false, laid := [("math/bits.deBruijn32tab", laid_math_bits_deBruijn32tab), ("math/bits.deBruijn64tab", laid_math_bits_deBruijn64tab), ("internal/strconv.uint64pow10", laid_internal_strconv_uint64pow10), ("unicode/utf8.acceptRanges", laid_unicode_utf8_acceptRanges), ("strconv.ErrRange", laid_strconv_ErrRange), ("strconv.ErrSyntax", laid_strconv_ErrSyntax), ("linesman/arith.names", laid_linesman_arith_names), ("linesman/instr.names", laid_linesman_instr_names), ("unicode/utf8.first", laid_unicode_utf8_first)] }
def AsmPrintsSaid : Prop := asmPrintsRow.holds Tryz.pinned (OpenSpec.ofChange asmPrintsSpec)

/-- ITS FALSE NEIGHBOUR: 'it returns false'. Refute it at one input. -/
def asmPrintsWrong : ChangeSpec := { name := "asmPrints", fn := fun _ => fun
  | [d] => { results := [.lit (.bool false)], args := [d] }
  | _ => none }
def AsmPrintsWrongFalsely : Prop := asmPrintsRow.holds Tryz.pinned (OpenSpec.ofChange asmPrintsWrong)

/-- 'linesmanlaw11.AsmParses': WHATEVER THE INPUT: true; the input reads as it did. -/
def asmParsesSpec : ChangeSpec := { name := "asmParses", fn := fun _ => fun
  | [d] => { results := [.lit (.bool true)], args := [d] }
  | _ => none }
def asmParsesRow : OpenClaim := { program := "ytfclclckcjjnkaagreatdoor", sum := "4307f5ebf1099c4b52bc747d9c356ca78ea3153f2c75b374893a11616e582217", func := "linesman/linesmanlaw11.AsmParses", spec := "asmParses", inPlace := ["internal/abi.NoEscape", "internal/bytealg.MakeNoZero", "internal/bytealg.IndexByteString", "internal/bytealg.IndexString", "internal/bytealg.IndexByte", "internal/bytealg.Index"], unfollowed := true, recurses := true, named := ["internal/strconv.uint64pow10", "math/bits.deBruijn32tab", "math/bits.deBruijn64tab", "linesman/instr.names", "linesman/arith.names", "internal/bytealg.MaxLen", "strconv.ErrSyntax", "strconv.ErrRange", "unicode/utf8.first", "unicode/utf8.acceptRanges"], apart := false, laid := [("math/bits.deBruijn32tab", laid_math_bits_deBruijn32tab), ("math/bits.deBruijn64tab", laid_math_bits_deBruijn64tab), ("internal/strconv.uint64pow10", laid_internal_strconv_uint64pow10), ("unicode/utf8.acceptRanges", laid_unicode_utf8_acceptRanges), ("strconv.ErrRange", laid_strconv_ErrRange), ("strconv.ErrSyntax", laid_strconv_ErrSyntax), ("linesman/arith.names", laid_linesman_arith_names), ("linesman/instr.names", laid_linesman_instr_names), ("unicode/utf8.first", laid_unicode_utf8_first)] }
def AsmParsesSaid : Prop := asmParsesRow.holds Tryz.pinned (OpenSpec.ofChange asmParsesSpec)

/-- ITS FALSE NEIGHBOUR: 'it returns false'. Refute it at one input. -/
def asmParsesWrong : ChangeSpec := { name := "asmParses", fn := fun _ => fun
  | [d] => { results := [.lit (.bool false)], args := [d] }
  | _ => none }
def AsmParsesWrongFalsely : Prop := asmParsesRow.holds Tryz.pinned (OpenSpec.ofChange asmParsesWrong)

/-- 'linesmanlaw11.AsmBent': WHATEVER THE INPUT: true; the input reads as it did. -/
def asmBentSpec : ChangeSpec := { name := "asmBent", fn := fun _ => fun
  | [d1, d2, d3] => { results := [.lit (.bool true)], args := [d1, d2, d3] }
  | _ => none }
def asmBentRow : OpenClaim := { program := "ytfclclckcjjnkaagreatdoor", sum := "4307f5ebf1099c4b52bc747d9c356ca78ea3153f2c75b374893a11616e582217", func := "linesman/linesmanlaw11.AsmBent", spec := "asmBent", inPlace := ["internal/abi.NoEscape", "internal/bytealg.MakeNoZero", "internal/bytealg.IndexByteString", "internal/bytealg.IndexString", "internal/bytealg.IndexByte", "internal/bytealg.Index"], unfollowed := true, recurses := true, named := ["internal/strconv.uint64pow10", "math/bits.deBruijn32tab", "math/bits.deBruijn64tab", "linesman/instr.names", "linesman/arith.names", "internal/bytealg.MaxLen", "strconv.ErrSyntax", "strconv.ErrRange", "unicode/utf8.first", "unicode/utf8.acceptRanges"], apart := false, laid := [("math/bits.deBruijn32tab", laid_math_bits_deBruijn32tab), ("math/bits.deBruijn64tab", laid_math_bits_deBruijn64tab), ("internal/strconv.uint64pow10", laid_internal_strconv_uint64pow10), ("unicode/utf8.acceptRanges", laid_unicode_utf8_acceptRanges), ("strconv.ErrRange", laid_strconv_ErrRange), ("strconv.ErrSyntax", laid_strconv_ErrSyntax), ("linesman/arith.names", laid_linesman_arith_names), ("linesman/instr.names", laid_linesman_instr_names), ("unicode/utf8.first", laid_unicode_utf8_first)] }
def AsmBentSaid : Prop := asmBentRow.holds Tryz.pinned (OpenSpec.ofChange asmBentSpec)

/-- ITS FALSE NEIGHBOUR: 'it returns false'. Refute it at one input. -/
def asmBentWrong : ChangeSpec := { name := "asmBent", fn := fun _ => fun
  | [d1, d2, d3] => { results := [.lit (.bool false)], args := [d1, d2, d3] }
  | _ => none }
def AsmBentWrongFalsely : Prop := asmBentRow.holds Tryz.pinned (OpenSpec.ofChange asmBentWrong)

/-- 'linesmanlaw11.AsmLines': WHATEVER THE INPUT: true; the input reads as it did. -/
def asmLinesSpec : ChangeSpec := { name := "asmLines", fn := fun _ => fun
  | [d1, d2, d3] => { results := [.lit (.bool true)], args := [d1, d2, d3] }
  | _ => none }
def asmLinesRow : OpenClaim := { program := "ytfclclckcjjnkaagreatdoor", sum := "4307f5ebf1099c4b52bc747d9c356ca78ea3153f2c75b374893a11616e582217", func := "linesman/linesmanlaw11.AsmLines", spec := "asmLines", inPlace := ["internal/abi.NoEscape", "internal/bytealg.MakeNoZero", "internal/bytealg.IndexByteString", "internal/bytealg.IndexString", "internal/bytealg.IndexByte", "internal/bytealg.Index"], unfollowed := true, recurses := true, named := ["internal/strconv.uint64pow10", "math/bits.deBruijn32tab", "math/bits.deBruijn64tab", "linesman/instr.names", "linesman/arith.names", "internal/bytealg.MaxLen", "strconv.ErrSyntax", "strconv.ErrRange", "unicode/utf8.first", "unicode/utf8.acceptRanges"], apart := false, laid := [("math/bits.deBruijn32tab", laid_math_bits_deBruijn32tab), ("math/bits.deBruijn64tab", laid_math_bits_deBruijn64tab), ("internal/strconv.uint64pow10", laid_internal_strconv_uint64pow10), ("unicode/utf8.acceptRanges", laid_unicode_utf8_acceptRanges), ("strconv.ErrRange", laid_strconv_ErrRange), ("strconv.ErrSyntax", laid_strconv_ErrSyntax), ("linesman/arith.names", laid_linesman_arith_names), ("linesman/instr.names", laid_linesman_instr_names), ("unicode/utf8.first", laid_unicode_utf8_first)] }
def AsmLinesSaid : Prop := asmLinesRow.holds Tryz.pinned (OpenSpec.ofChange asmLinesSpec)

/-- ITS FALSE NEIGHBOUR: 'it returns false'. Refute it at one input. -/
def asmLinesWrong : ChangeSpec := { name := "asmLines", fn := fun _ => fun
  | [d1, d2, d3] => { results := [.lit (.bool false)], args := [d1, d2, d3] }
  | _ => none }
def AsmLinesWrongFalsely : Prop := asmLinesRow.holds Tryz.pinned (OpenSpec.ofChange asmLinesWrong)

/-- 'linesmanlaw11.AsmHolds': WHATEVER THE INPUT: true; the input reads as it did. -/
def asmHoldsSpec : ChangeSpec := { name := "asmHolds", fn := fun _ => fun
  | [d1, d2] => { results := [.lit (.bool true)], args := [d1, d2] }
  | _ => none }
def asmHoldsRow : OpenClaim := { program := "ytfclclckcjjnkaagreatdoor", sum := "4307f5ebf1099c4b52bc747d9c356ca78ea3153f2c75b374893a11616e582217", func := "linesman/linesmanlaw11.AsmHolds", spec := "asmHolds", inPlace := ["internal/abi.NoEscape", "internal/bytealg.MakeNoZero", "internal/bytealg.IndexByteString", "internal/bytealg.IndexString", "internal/bytealg.IndexByte", "internal/bytealg.Index"], unfollowed := true, recurses := true, named := ["internal/strconv.uint64pow10", "math/bits.deBruijn32tab", "math/bits.deBruijn64tab", "linesman/instr.names", "linesman/arith.names", "internal/bytealg.MaxLen", "strconv.ErrSyntax", "strconv.ErrRange", "unicode/utf8.first", "unicode/utf8.acceptRanges"], apart := false, laid := [("math/bits.deBruijn32tab", laid_math_bits_deBruijn32tab), ("math/bits.deBruijn64tab", laid_math_bits_deBruijn64tab), ("internal/strconv.uint64pow10", laid_internal_strconv_uint64pow10), ("unicode/utf8.acceptRanges", laid_unicode_utf8_acceptRanges), ("strconv.ErrRange", laid_strconv_ErrRange), ("strconv.ErrSyntax", laid_strconv_ErrSyntax), ("linesman/arith.names", laid_linesman_arith_names), ("linesman/instr.names", laid_linesman_instr_names), ("unicode/utf8.first", laid_unicode_utf8_first)] }
def AsmHoldsSaid : Prop := asmHoldsRow.holds Tryz.pinned (OpenSpec.ofChange asmHoldsSpec)

/-- ITS FALSE NEIGHBOUR: 'it returns false'. Refute it at one input. -/
def asmHoldsWrong : ChangeSpec := { name := "asmHolds", fn := fun _ => fun
  | [d1, d2] => { results := [.lit (.bool false)], args := [d1, d2] }
  | _ => none }
def AsmHoldsWrongFalsely : Prop := asmHoldsRow.holds Tryz.pinned (OpenSpec.ofChange asmHoldsWrong)

/- THE SECOND FORM. 'bulk': how many values and letters a reading holds, each counted each time it is reached (what is shared counts as often as it is met; a slice's spare places count too). A statement '..UptoSaid' is the law's where the arguments, and the package variables that the reading takes, are together of bulk at most 1048576: NARROWER than '..Said'. Prove '..Said' where nothing that the law and all that it calls make is longer than what came in: it says more and counts as full. Else prove '..UptoSaid'. A law counts once. -/
mutual
def uptoBulk {H : Type} : DataW H → Nat
  | .lit (.string bytes) => bytes.length + 1
  | .lit _ => 1
  | .nil => 1
  | .ptr d => uptoBulk d + 1
  | .slice elems spare => uptoBulkAll elems + uptoBulkAll spare + 1
  | .agg parts => uptoBulkAll parts + 1
  | .iface _ d => uptoBulk d + 1
  | .map entries => uptoBulkEntries entries + 1
  | .held _ => 1
def uptoBulkAll {H : Type} : List (DataW H) → Nat
  | [] => 0
  | d :: r => uptoBulk d + uptoBulkAll r
def uptoBulkEntries {H : Type} : List (Lit × DataW H) → Nat
  | [] => 0
  | x :: r => uptoBulkEntry x + uptoBulkEntries r
def uptoBulkEntry {H : Type} : Lit × DataW H → Nat
  | (.string bytes, d) => bytes.length + uptoBulk d + 1
  | (_, d) => uptoBulk d + 1
 end
def uptoSmall : (H : Type) → List (DataW H) → Bool := fun _ ds => decide (uptoBulkAll ds ≤ 1048576)
def OpenSpec.upto (s : _root_.Go.ChangeSpec) : _root_.Go.OpenSpec := { _root_.Go.OpenSpec.ofChange s with cond := some uptoSmall }

/-- 'linesmanlaw10.ImageEncodes', WHERE WHAT IT READS IS OF BULK AT MOST 1048576: true; the input reads as it did. -/
def imageEncodesUptoRow : OpenClaim := { program := "ytfclclckcjjnkaagreatdoor", sum := "4307f5ebf1099c4b52bc747d9c356ca78ea3153f2c75b374893a11616e582217", func := "linesman/linesmanlaw10.ImageEncodes", spec := "imageEncodes", unfollowed := true, recurses := true, named := ["linesman/image.beginning", "linesman/octet.widths"], apart := false, laid := [("linesman/octet.widths", laid_linesman_octet_widths), ("linesman/image.beginning", laid_linesman_image_beginning)], narrowed := true }
def ImageEncodesUptoSaid : Prop := imageEncodesUptoRow.holds Tryz.pinned (OpenSpec.upto imageEncodesSpec)

/-- 'linesmanlaw10.ImageSealed', WHERE WHAT IT READS IS OF BULK AT MOST 1048576: true; the input reads as it did. -/
def imageSealedUptoRow : OpenClaim := { program := "ytfclclckcjjnkaagreatdoor", sum := "4307f5ebf1099c4b52bc747d9c356ca78ea3153f2c75b374893a11616e582217", func := "linesman/linesmanlaw10.ImageSealed", spec := "imageSealed", unfollowed := true, recurses := true, named := ["linesman/image.beginning", "linesman/octet.widths"], apart := false, laid := [("linesman/octet.widths", laid_linesman_octet_widths), ("linesman/image.beginning", laid_linesman_image_beginning)], narrowed := true }
def ImageSealedUptoSaid : Prop := imageSealedUptoRow.holds Tryz.pinned (OpenSpec.upto imageSealedSpec)

/-- 'linesmanlaw10.ImageEach', WHERE WHAT IT READS IS OF BULK AT MOST 1048576: true; the input reads as it did. -/
def imageEachUptoRow : OpenClaim := { program := "ytfclclckcjjnkaagreatdoor", sum := "4307f5ebf1099c4b52bc747d9c356ca78ea3153f2c75b374893a11616e582217", func := "linesman/linesmanlaw10.ImageEach", spec := "imageEach", unfollowed := true, recurses := true, named := ["linesman/image.beginning", "linesman/octet.widths"], apart := false, laid := [("linesman/octet.widths", laid_linesman_octet_widths), ("linesman/image.beginning", laid_linesman_image_beginning)], narrowed := true }
def ImageEachUptoSaid : Prop := imageEachUptoRow.holds Tryz.pinned (OpenSpec.upto imageEachSpec)

/-- 'linesmanlaw10.ImageHolds', WHERE WHAT IT READS IS OF BULK AT MOST 1048576: true; the input reads as it did. -/
def imageHoldsUptoRow : OpenClaim := { program := "ytfclclckcjjnkaagreatdoor", sum := "4307f5ebf1099c4b52bc747d9c356ca78ea3153f2c75b374893a11616e582217", func := "linesman/linesmanlaw10.ImageHolds", spec := "imageHolds", unfollowed := true, recurses := true, named := ["linesman/image.beginning", "linesman/octet.widths"], apart := false, laid := [("linesman/octet.widths", laid_linesman_octet_widths), ("linesman/image.beginning", laid_linesman_image_beginning)], narrowed := true }
def ImageHoldsUptoSaid : Prop := imageHoldsUptoRow.holds Tryz.pinned (OpenSpec.upto imageHoldsSpec)

/-- 'linesmanlaw11.AsmPrints', WHERE WHAT IT READS IS OF BULK AT MOST 1048576: true; the input reads as it did. -/
def asmPrintsUptoRow : OpenClaim := { program := "ytfclclckcjjnkaagreatdoor", sum := "4307f5ebf1099c4b52bc747d9c356ca78ea3153f2c75b374893a11616e582217", func := "linesman/linesmanlaw11.AsmPrints", spec := "asmPrints", inPlace := ["internal/abi.NoEscape", "internal/bytealg.MakeNoZero", "internal/bytealg.IndexByteString", "internal/bytealg.IndexString", "internal/bytealg.IndexByte", "internal/bytealg.Index"], unfollowed := true, recurses := true, named := ["internal/strconv.uint64pow10", "math/bits.deBruijn32tab", "math/bits.deBruijn64tab", "linesman/instr.names", "linesman/arith.names", "internal/bytealg.MaxLen", "strconv.ErrSyntax", "strconv.ErrRange", "unicode/utf8.first", "unicode/utf8.acceptRanges"], apart := false, laid := [("math/bits.deBruijn32tab", laid_math_bits_deBruijn32tab), ("math/bits.deBruijn64tab", laid_math_bits_deBruijn64tab), ("internal/strconv.uint64pow10", laid_internal_strconv_uint64pow10), ("unicode/utf8.acceptRanges", laid_unicode_utf8_acceptRanges), ("strconv.ErrRange", laid_strconv_ErrRange), ("strconv.ErrSyntax", laid_strconv_ErrSyntax), ("linesman/arith.names", laid_linesman_arith_names), ("linesman/instr.names", laid_linesman_instr_names), ("unicode/utf8.first", laid_unicode_utf8_first)], narrowed := true }
def AsmPrintsUptoSaid : Prop := asmPrintsUptoRow.holds Tryz.pinned (OpenSpec.upto asmPrintsSpec)

/-- 'linesmanlaw11.AsmParses', WHERE WHAT IT READS IS OF BULK AT MOST 1048576: true; the input reads as it did. -/
def asmParsesUptoRow : OpenClaim := { program := "ytfclclckcjjnkaagreatdoor", sum := "4307f5ebf1099c4b52bc747d9c356ca78ea3153f2c75b374893a11616e582217", func := "linesman/linesmanlaw11.AsmParses", spec := "asmParses", inPlace := ["internal/abi.NoEscape", "internal/bytealg.MakeNoZero", "internal/bytealg.IndexByteString", "internal/bytealg.IndexString", "internal/bytealg.IndexByte", "internal/bytealg.Index"], unfollowed := true, recurses := true, named := ["internal/strconv.uint64pow10", "math/bits.deBruijn32tab", "math/bits.deBruijn64tab", "linesman/instr.names", "linesman/arith.names", "internal/bytealg.MaxLen", "strconv.ErrSyntax", "strconv.ErrRange", "unicode/utf8.first", "unicode/utf8.acceptRanges"], apart := false, laid := [("math/bits.deBruijn32tab", laid_math_bits_deBruijn32tab), ("math/bits.deBruijn64tab", laid_math_bits_deBruijn64tab), ("internal/strconv.uint64pow10", laid_internal_strconv_uint64pow10), ("unicode/utf8.acceptRanges", laid_unicode_utf8_acceptRanges), ("strconv.ErrRange", laid_strconv_ErrRange), ("strconv.ErrSyntax", laid_strconv_ErrSyntax), ("linesman/arith.names", laid_linesman_arith_names), ("linesman/instr.names", laid_linesman_instr_names), ("unicode/utf8.first", laid_unicode_utf8_first)], narrowed := true }
def AsmParsesUptoSaid : Prop := asmParsesUptoRow.holds Tryz.pinned (OpenSpec.upto asmParsesSpec)

/-- 'linesmanlaw11.AsmBent', WHERE WHAT IT READS IS OF BULK AT MOST 1048576: true; the input reads as it did. -/
def asmBentUptoRow : OpenClaim := { program := "ytfclclckcjjnkaagreatdoor", sum := "4307f5ebf1099c4b52bc747d9c356ca78ea3153f2c75b374893a11616e582217", func := "linesman/linesmanlaw11.AsmBent", spec := "asmBent", inPlace := ["internal/abi.NoEscape", "internal/bytealg.MakeNoZero", "internal/bytealg.IndexByteString", "internal/bytealg.IndexString", "internal/bytealg.IndexByte", "internal/bytealg.Index"], unfollowed := true, recurses := true, named := ["internal/strconv.uint64pow10", "math/bits.deBruijn32tab", "math/bits.deBruijn64tab", "linesman/instr.names", "linesman/arith.names", "internal/bytealg.MaxLen", "strconv.ErrSyntax", "strconv.ErrRange", "unicode/utf8.first", "unicode/utf8.acceptRanges"], apart := false, laid := [("math/bits.deBruijn32tab", laid_math_bits_deBruijn32tab), ("math/bits.deBruijn64tab", laid_math_bits_deBruijn64tab), ("internal/strconv.uint64pow10", laid_internal_strconv_uint64pow10), ("unicode/utf8.acceptRanges", laid_unicode_utf8_acceptRanges), ("strconv.ErrRange", laid_strconv_ErrRange), ("strconv.ErrSyntax", laid_strconv_ErrSyntax), ("linesman/arith.names", laid_linesman_arith_names), ("linesman/instr.names", laid_linesman_instr_names), ("unicode/utf8.first", laid_unicode_utf8_first)], narrowed := true }
def AsmBentUptoSaid : Prop := asmBentUptoRow.holds Tryz.pinned (OpenSpec.upto asmBentSpec)

/-- 'linesmanlaw11.AsmLines', WHERE WHAT IT READS IS OF BULK AT MOST 1048576: true; the input reads as it did. -/
def asmLinesUptoRow : OpenClaim := { program := "ytfclclckcjjnkaagreatdoor", sum := "4307f5ebf1099c4b52bc747d9c356ca78ea3153f2c75b374893a11616e582217", func := "linesman/linesmanlaw11.AsmLines", spec := "asmLines", inPlace := ["internal/abi.NoEscape", "internal/bytealg.MakeNoZero", "internal/bytealg.IndexByteString", "internal/bytealg.IndexString", "internal/bytealg.IndexByte", "internal/bytealg.Index"], unfollowed := true, recurses := true, named := ["internal/strconv.uint64pow10", "math/bits.deBruijn32tab", "math/bits.deBruijn64tab", "linesman/instr.names", "linesman/arith.names", "internal/bytealg.MaxLen", "strconv.ErrSyntax", "strconv.ErrRange", "unicode/utf8.first", "unicode/utf8.acceptRanges"], apart := false, laid := [("math/bits.deBruijn32tab", laid_math_bits_deBruijn32tab), ("math/bits.deBruijn64tab", laid_math_bits_deBruijn64tab), ("internal/strconv.uint64pow10", laid_internal_strconv_uint64pow10), ("unicode/utf8.acceptRanges", laid_unicode_utf8_acceptRanges), ("strconv.ErrRange", laid_strconv_ErrRange), ("strconv.ErrSyntax", laid_strconv_ErrSyntax), ("linesman/arith.names", laid_linesman_arith_names), ("linesman/instr.names", laid_linesman_instr_names), ("unicode/utf8.first", laid_unicode_utf8_first)], narrowed := true }
def AsmLinesUptoSaid : Prop := asmLinesUptoRow.holds Tryz.pinned (OpenSpec.upto asmLinesSpec)

/-- 'linesmanlaw11.AsmHolds', WHERE WHAT IT READS IS OF BULK AT MOST 1048576: true; the input reads as it did. -/
def asmHoldsUptoRow : OpenClaim := { program := "ytfclclckcjjnkaagreatdoor", sum := "4307f5ebf1099c4b52bc747d9c356ca78ea3153f2c75b374893a11616e582217", func := "linesman/linesmanlaw11.AsmHolds", spec := "asmHolds", inPlace := ["internal/abi.NoEscape", "internal/bytealg.MakeNoZero", "internal/bytealg.IndexByteString", "internal/bytealg.IndexString", "internal/bytealg.IndexByte", "internal/bytealg.Index"], unfollowed := true, recurses := true, named := ["internal/strconv.uint64pow10", "math/bits.deBruijn32tab", "math/bits.deBruijn64tab", "linesman/instr.names", "linesman/arith.names", "internal/bytealg.MaxLen", "strconv.ErrSyntax", "strconv.ErrRange", "unicode/utf8.first", "unicode/utf8.acceptRanges"], apart := false, laid := [("math/bits.deBruijn32tab", laid_math_bits_deBruijn32tab), ("math/bits.deBruijn64tab", laid_math_bits_deBruijn64tab), ("internal/strconv.uint64pow10", laid_internal_strconv_uint64pow10), ("unicode/utf8.acceptRanges", laid_unicode_utf8_acceptRanges), ("strconv.ErrRange", laid_strconv_ErrRange), ("strconv.ErrSyntax", laid_strconv_ErrSyntax), ("linesman/arith.names", laid_linesman_arith_names), ("linesman/instr.names", laid_linesman_instr_names), ("unicode/utf8.first", laid_unicode_utf8_first)], narrowed := true }
def AsmHoldsUptoSaid : Prop := asmHoldsUptoRow.holds Tryz.pinned (OpenSpec.upto asmHoldsSpec)

end Rows
end Go.Proofs.YtfclclckcjjnkaaGreatDoor
