/-
  NARROWER THAN 'FOR EVERY INPUT', by the rows' own cells (each row's printed sentence says how): EventTells: laid · EventBytes: laid · EventLeads: laid · EventEach: laid · EventHolds: laid.
  DERIVED. THE GIVEN ROWS OF THIS SEAT. 5 by the template 'for every input the law returns true; each argument reads behind the call as it read before'; 0 by the template 'total and deterministic' (their statements: YtbinmgpfkjmijaaGreatDoorTotals.lean).
  GIVEN WITH THE SEED: the statements are not yours to turn. If you find one false, say at which input.
  Laid BY PROGRAM, IN A SANDBOX (cutbox-rows.mjs): the forced cells as the released guide's own fill.sh prints them over the translation fe747fb15aa9cee0… (all of the seat's roots in one cut). By AI agents, Wed Nov 11 2026. No macro, syntax, notation, axiom, sorry.
-/
import Derived.Test.YtbinmgpfkjmijaaGreatDoorChecked
import GoSem.Claim
import GoSem.ClaimJoined
import GoSem.ClaimMapViews
import Derived.JoinedTies
import Derived.KernelRfl
namespace Go.Proofs.YtbinmgpfkjmijaaGreatDoor
/- THE CELL 'sum', in the pinned program and in every row, IS THE sha256 OF THE DUMP (.gsa) THAT YtbinmgpfkjmijaaGreatDoorProg.lean LOADS. Nothing in Lean hashes anything: it is a label: what it is worth is what the hold of that sum in a sandbox is worth. -/
noncomputable def Tryz.pinned : Pinned := { name := "ytbinmgpfkjmijaagreatdoor", sum := "fe747fb15aa9cee00988688c042017c48f021f17c1c6cac1d3b16958393b2504", checked := Tryz.checked }
namespace Rows
def none {H : Type} : Left H := { results := [], args := [] }

/- WHAT THE LISTED PACKAGE-LEVEL VARIABLES READ AS WHEN THE CALL BEGINS. Each datum BY PROGRAM (the guide's laid-datum.mjs) off the statement by which the dump's own 'gosem.cut.vars' lays the variable. In a bare row this is a premise. The card (YtbinmgpfkjmijaaGreatDoorCards.lean) ties it to the program's text. -/
def laid_math_bits_deBruijn32tab {H : Type} : DataW H := .agg [.lit (.int .u8 0), .lit (.int .u8 1), .lit (.int .u8 28), .lit (.int .u8 2), .lit (.int .u8 29), .lit (.int .u8 14), .lit (.int .u8 24), .lit (.int .u8 3), .lit (.int .u8 30), .lit (.int .u8 22), .lit (.int .u8 20), .lit (.int .u8 15), .lit (.int .u8 25), .lit (.int .u8 17), .lit (.int .u8 4), .lit (.int .u8 8), .lit (.int .u8 31), .lit (.int .u8 27), .lit (.int .u8 13), .lit (.int .u8 23), .lit (.int .u8 21), .lit (.int .u8 19), .lit (.int .u8 16), .lit (.int .u8 7), .lit (.int .u8 26), .lit (.int .u8 12), .lit (.int .u8 18), .lit (.int .u8 6), .lit (.int .u8 11), .lit (.int .u8 5), .lit (.int .u8 10), .lit (.int .u8 9)]
def laid_math_bits_deBruijn64tab {H : Type} : DataW H := .agg [.lit (.int .u8 0), .lit (.int .u8 1), .lit (.int .u8 56), .lit (.int .u8 2), .lit (.int .u8 57), .lit (.int .u8 49), .lit (.int .u8 28), .lit (.int .u8 3), .lit (.int .u8 61), .lit (.int .u8 58), .lit (.int .u8 42), .lit (.int .u8 50), .lit (.int .u8 38), .lit (.int .u8 29), .lit (.int .u8 17), .lit (.int .u8 4), .lit (.int .u8 62), .lit (.int .u8 47), .lit (.int .u8 59), .lit (.int .u8 36), .lit (.int .u8 45), .lit (.int .u8 43), .lit (.int .u8 51), .lit (.int .u8 22), .lit (.int .u8 53), .lit (.int .u8 39), .lit (.int .u8 33), .lit (.int .u8 30), .lit (.int .u8 24), .lit (.int .u8 18), .lit (.int .u8 12), .lit (.int .u8 5), .lit (.int .u8 63), .lit (.int .u8 55), .lit (.int .u8 48), .lit (.int .u8 27), .lit (.int .u8 60), .lit (.int .u8 41), .lit (.int .u8 37), .lit (.int .u8 16), .lit (.int .u8 46), .lit (.int .u8 35), .lit (.int .u8 44), .lit (.int .u8 21), .lit (.int .u8 52), .lit (.int .u8 32), .lit (.int .u8 23), .lit (.int .u8 11), .lit (.int .u8 54), .lit (.int .u8 26), .lit (.int .u8 40), .lit (.int .u8 15), .lit (.int .u8 34), .lit (.int .u8 20), .lit (.int .u8 31), .lit (.int .u8 10), .lit (.int .u8 25), .lit (.int .u8 14), .lit (.int .u8 19), .lit (.int .u8 9), .lit (.int .u8 13), .lit (.int .u8 8), .lit (.int .u8 7), .lit (.int .u8 6)]
def laid_internal_strconv_uint64pow10 {H : Type} : DataW H := .agg [.lit (.int .u64 1), .lit (.int .u64 10), .lit (.int .u64 100), .lit (.int .u64 1000), .lit (.int .u64 10000), .lit (.int .u64 100000), .lit (.int .u64 1000000), .lit (.int .u64 10000000), .lit (.int .u64 100000000), .lit (.int .u64 1000000000), .lit (.int .u64 10000000000), .lit (.int .u64 100000000000), .lit (.int .u64 1000000000000), .lit (.int .u64 10000000000000), .lit (.int .u64 100000000000000), .lit (.int .u64 1000000000000000), .lit (.int .u64 10000000000000000), .lit (.int .u64 100000000000000000), .lit (.int .u64 1000000000000000000), .lit (.int .u64 10000000000000000000)]
def laid_linesman_octet_widths {H : Type} : DataW H := .agg [.lit (.int .i64 1), .lit (.int .i64 2), .lit (.int .i64 4), .lit (.int .i64 8)]
def laid_linesman_event_kinds {H : Type} : DataW H := .agg [.lit (.string []), .lit (.string [115, 116, 101, 112]), .lit (.string [108, 111, 97, 100]), .lit (.string [115, 116, 111, 114, 101]), .lit (.string [103, 111]), .lit (.string [108, 111, 99, 107]), .lit (.string [117, 110, 108, 111, 99, 107]), .lit (.string [114, 108, 111, 99, 107]), .lit (.string [114, 117, 110, 108, 111, 99, 107]), .lit (.string [119, 108, 111, 99, 107]), .lit (.string [119, 117, 110, 108, 111, 99, 107]), .lit (.string [99, 111, 117, 110, 116]), .lit (.string [119, 97, 105, 116]), .lit (.string [101, 110, 100]), .lit (.string [116, 114, 97, 112])]
def laid_linesman_event_traps {H : Type} : DataW H := .agg [.lit (.string []), .lit (.string [117, 110, 108, 111, 99, 107]), .lit (.string [99, 111, 117, 110, 116]), .lit (.string [105, 110, 100, 101, 120]), .lit (.string [122, 101, 114, 111]), .lit (.string [109, 97, 110, 121]), .lit (.string [115, 116, 97, 99, 107])]

/-- 'linesmanlaw16.EventTells': WHATEVER THE INPUT: true; the input reads as it did. -/
def eventTellsSpec : ChangeSpec := { name := "eventTells", fn := fun _ => fun
  | [d] => { results := [.lit (.bool true)], args := [d] }
  | _ => none }
def eventTellsRow : OpenClaim := { program := "ytbinmgpfkjmijaagreatdoor", sum := "fe747fb15aa9cee00988688c042017c48f021f17c1c6cac1d3b16958393b2504", func := "linesman/linesmanlaw16.EventTells", spec := "eventTells", inPlace := ["internal/abi.NoEscape", "internal/bytealg.MakeNoZero"], unfollowed := true, recurses := true, named := ["linesman/event.kinds", "internal/strconv.uint64pow10", "math/bits.deBruijn32tab", "math/bits.deBruijn64tab", "linesman/event.traps", "linesman/octet.widths"], plainKeys := false, apart := false, laid := [("math/bits.deBruijn32tab", laid_math_bits_deBruijn32tab), ("math/bits.deBruijn64tab", laid_math_bits_deBruijn64tab), ("internal/strconv.uint64pow10", laid_internal_strconv_uint64pow10), ("linesman/octet.widths", laid_linesman_octet_widths), ("linesman/event.kinds", laid_linesman_event_kinds), ("linesman/event.traps", laid_linesman_event_traps)] }
def EventTellsSaid : Prop := eventTellsRow.holds Tryz.pinned (OpenSpec.ofChange eventTellsSpec)

/-- ITS FALSE NEIGHBOUR: 'it returns false'. Refute it at one input. -/
def eventTellsWrong : ChangeSpec := { name := "eventTells", fn := fun _ => fun
  | [d] => { results := [.lit (.bool false)], args := [d] }
  | _ => none }
def EventTellsWrongFalsely : Prop := eventTellsRow.holds Tryz.pinned (OpenSpec.ofChange eventTellsWrong)

/-- 'linesmanlaw16.EventBytes': WHATEVER THE INPUT: true; the input reads as it did. -/
def eventBytesSpec : ChangeSpec := { name := "eventBytes", fn := fun _ => fun
  | [d1, d2] => { results := [.lit (.bool true)], args := [d1, d2] }
  | _ => none }
def eventBytesRow : OpenClaim := { program := "ytbinmgpfkjmijaagreatdoor", sum := "fe747fb15aa9cee00988688c042017c48f021f17c1c6cac1d3b16958393b2504", func := "linesman/linesmanlaw16.EventBytes", spec := "eventBytes", inPlace := ["internal/abi.NoEscape", "internal/bytealg.MakeNoZero"], unfollowed := true, recurses := true, named := ["linesman/event.kinds", "internal/strconv.uint64pow10", "math/bits.deBruijn32tab", "math/bits.deBruijn64tab", "linesman/event.traps", "linesman/octet.widths"], plainKeys := false, apart := false, laid := [("math/bits.deBruijn32tab", laid_math_bits_deBruijn32tab), ("math/bits.deBruijn64tab", laid_math_bits_deBruijn64tab), ("internal/strconv.uint64pow10", laid_internal_strconv_uint64pow10), ("linesman/octet.widths", laid_linesman_octet_widths), ("linesman/event.kinds", laid_linesman_event_kinds), ("linesman/event.traps", laid_linesman_event_traps)] }
def EventBytesSaid : Prop := eventBytesRow.holds Tryz.pinned (OpenSpec.ofChange eventBytesSpec)

/-- ITS FALSE NEIGHBOUR: 'it returns false'. Refute it at one input. -/
def eventBytesWrong : ChangeSpec := { name := "eventBytes", fn := fun _ => fun
  | [d1, d2] => { results := [.lit (.bool false)], args := [d1, d2] }
  | _ => none }
def EventBytesWrongFalsely : Prop := eventBytesRow.holds Tryz.pinned (OpenSpec.ofChange eventBytesWrong)

/-- 'linesmanlaw16.EventLeads': WHATEVER THE INPUT: true; the input reads as it did. -/
def eventLeadsSpec : ChangeSpec := { name := "eventLeads", fn := fun _ => fun
  | [d1, d2] => { results := [.lit (.bool true)], args := [d1, d2] }
  | _ => none }
def eventLeadsRow : OpenClaim := { program := "ytbinmgpfkjmijaagreatdoor", sum := "fe747fb15aa9cee00988688c042017c48f021f17c1c6cac1d3b16958393b2504", func := "linesman/linesmanlaw16.EventLeads", spec := "eventLeads", inPlace := ["internal/abi.NoEscape", "internal/bytealg.MakeNoZero"], unfollowed := true, recurses := true, named := ["linesman/event.kinds", "internal/strconv.uint64pow10", "math/bits.deBruijn32tab", "math/bits.deBruijn64tab", "linesman/event.traps", "linesman/octet.widths"], plainKeys := false, apart := false, laid := [("math/bits.deBruijn32tab", laid_math_bits_deBruijn32tab), ("math/bits.deBruijn64tab", laid_math_bits_deBruijn64tab), ("internal/strconv.uint64pow10", laid_internal_strconv_uint64pow10), ("linesman/octet.widths", laid_linesman_octet_widths), ("linesman/event.kinds", laid_linesman_event_kinds), ("linesman/event.traps", laid_linesman_event_traps)] }
def EventLeadsSaid : Prop := eventLeadsRow.holds Tryz.pinned (OpenSpec.ofChange eventLeadsSpec)

/-- ITS FALSE NEIGHBOUR: 'it returns false'. Refute it at one input. -/
def eventLeadsWrong : ChangeSpec := { name := "eventLeads", fn := fun _ => fun
  | [d1, d2] => { results := [.lit (.bool false)], args := [d1, d2] }
  | _ => none }
def EventLeadsWrongFalsely : Prop := eventLeadsRow.holds Tryz.pinned (OpenSpec.ofChange eventLeadsWrong)

/-- 'linesmanlaw16.EventEach': WHATEVER THE INPUT: true; the input reads as it did. -/
def eventEachSpec : ChangeSpec := { name := "eventEach", fn := fun _ => fun
  | [d1, d2] => { results := [.lit (.bool true)], args := [d1, d2] }
  | _ => none }
def eventEachRow : OpenClaim := { program := "ytbinmgpfkjmijaagreatdoor", sum := "fe747fb15aa9cee00988688c042017c48f021f17c1c6cac1d3b16958393b2504", func := "linesman/linesmanlaw16.EventEach", spec := "eventEach", inPlace := ["internal/abi.NoEscape", "internal/bytealg.MakeNoZero"], unfollowed := true, recurses := true, named := ["linesman/event.kinds", "internal/strconv.uint64pow10", "math/bits.deBruijn32tab", "math/bits.deBruijn64tab", "linesman/event.traps", "linesman/octet.widths"], plainKeys := false, apart := false, laid := [("math/bits.deBruijn32tab", laid_math_bits_deBruijn32tab), ("math/bits.deBruijn64tab", laid_math_bits_deBruijn64tab), ("internal/strconv.uint64pow10", laid_internal_strconv_uint64pow10), ("linesman/octet.widths", laid_linesman_octet_widths), ("linesman/event.kinds", laid_linesman_event_kinds), ("linesman/event.traps", laid_linesman_event_traps)] }
def EventEachSaid : Prop := eventEachRow.holds Tryz.pinned (OpenSpec.ofChange eventEachSpec)

/-- ITS FALSE NEIGHBOUR: 'it returns false'. Refute it at one input. -/
def eventEachWrong : ChangeSpec := { name := "eventEach", fn := fun _ => fun
  | [d1, d2] => { results := [.lit (.bool false)], args := [d1, d2] }
  | _ => none }
def EventEachWrongFalsely : Prop := eventEachRow.holds Tryz.pinned (OpenSpec.ofChange eventEachWrong)

/-- 'linesmanlaw16.EventHolds': WHATEVER THE INPUT: true; the input reads as it did. -/
def eventHoldsSpec : ChangeSpec := { name := "eventHolds", fn := fun _ => fun
  | [d1, d2] => { results := [.lit (.bool true)], args := [d1, d2] }
  | _ => none }
def eventHoldsRow : OpenClaim := { program := "ytbinmgpfkjmijaagreatdoor", sum := "fe747fb15aa9cee00988688c042017c48f021f17c1c6cac1d3b16958393b2504", func := "linesman/linesmanlaw16.EventHolds", spec := "eventHolds", inPlace := ["internal/abi.NoEscape", "internal/bytealg.MakeNoZero"], unfollowed := true, recurses := true, named := ["internal/strconv.uint64pow10", "math/bits.deBruijn32tab", "math/bits.deBruijn64tab", "linesman/event.traps", "linesman/octet.widths", "linesman/event.kinds"], plainKeys := false, apart := false, laid := [("math/bits.deBruijn32tab", laid_math_bits_deBruijn32tab), ("math/bits.deBruijn64tab", laid_math_bits_deBruijn64tab), ("internal/strconv.uint64pow10", laid_internal_strconv_uint64pow10), ("linesman/octet.widths", laid_linesman_octet_widths), ("linesman/event.kinds", laid_linesman_event_kinds), ("linesman/event.traps", laid_linesman_event_traps)] }
def EventHoldsSaid : Prop := eventHoldsRow.holds Tryz.pinned (OpenSpec.ofChange eventHoldsSpec)

/-- ITS FALSE NEIGHBOUR: 'it returns false'. Refute it at one input. -/
def eventHoldsWrong : ChangeSpec := { name := "eventHolds", fn := fun _ => fun
  | [d1, d2] => { results := [.lit (.bool false)], args := [d1, d2] }
  | _ => none }
def EventHoldsWrongFalsely : Prop := eventHoldsRow.holds Tryz.pinned (OpenSpec.ofChange eventHoldsWrong)

/- THE SECOND FORM. 'bulk': how many values and letters a reading holds, each counted each time it is reached (what is shared counts as often as it is met; a slice's spare places count too). A statement '..UptoSaid' is the law's where the arguments, and the package variables that the reading takes, are together of bulk at most 1048576: NARROWER than '..Said'. Prove '..Said' where nothing that the law and all that it calls make is longer than what came in: it says more and counts as full. Else prove '..UptoSaid'. A law counts once. -/
mutual
def uptoBulk {H : Type} : DataW H → Nat
  | .lit (.string bytes) => bytes.length + 1
  | .lit _ => 1
  | .nil => 1
  | .ptr d => uptoBulk d + 1
  | .slice elems spare => uptoBulkAll elems + uptoBulkAll spare + 1
  | .agg parts => uptoBulkAll parts + 1
  | .iface _ d => uptoBulk d + 1
  | .map entries => uptoBulkEntries entries + 1
  | .held _ => 1
def uptoBulkAll {H : Type} : List (DataW H) → Nat
  | [] => 0
  | d :: r => uptoBulk d + uptoBulkAll r
def uptoBulkEntries {H : Type} : List (Lit × DataW H) → Nat
  | [] => 0
  | x :: r => uptoBulkEntry x + uptoBulkEntries r
def uptoBulkEntry {H : Type} : Lit × DataW H → Nat
  | (.string bytes, d) => bytes.length + uptoBulk d + 1
  | (_, d) => uptoBulk d + 1
 end
def uptoSmall : (H : Type) → List (DataW H) → Bool := fun _ ds => decide (uptoBulkAll ds ≤ 1048576)
def OpenSpec.upto (s : _root_.Go.ChangeSpec) : _root_.Go.OpenSpec := { _root_.Go.OpenSpec.ofChange s with cond := some uptoSmall }

/-- 'linesmanlaw16.EventTells', WHERE WHAT IT READS IS OF BULK AT MOST 1048576: true; the input reads as it did. -/
def eventTellsUptoRow : OpenClaim := { program := "ytbinmgpfkjmijaagreatdoor", sum := "fe747fb15aa9cee00988688c042017c48f021f17c1c6cac1d3b16958393b2504", func := "linesman/linesmanlaw16.EventTells", spec := "eventTells", inPlace := ["internal/abi.NoEscape", "internal/bytealg.MakeNoZero"], unfollowed := true, recurses := true, named := ["linesman/event.kinds", "internal/strconv.uint64pow10", "math/bits.deBruijn32tab", "math/bits.deBruijn64tab", "linesman/event.traps", "linesman/octet.widths"], plainKeys := false, apart := false, laid := [("math/bits.deBruijn32tab", laid_math_bits_deBruijn32tab), ("math/bits.deBruijn64tab", laid_math_bits_deBruijn64tab), ("internal/strconv.uint64pow10", laid_internal_strconv_uint64pow10), ("linesman/octet.widths", laid_linesman_octet_widths), ("linesman/event.kinds", laid_linesman_event_kinds), ("linesman/event.traps", laid_linesman_event_traps)], narrowed := true }
def EventTellsUptoSaid : Prop := eventTellsUptoRow.holds Tryz.pinned (OpenSpec.upto eventTellsSpec)

/-- 'linesmanlaw16.EventBytes', WHERE WHAT IT READS IS OF BULK AT MOST 1048576: true; the input reads as it did. -/
def eventBytesUptoRow : OpenClaim := { program := "ytbinmgpfkjmijaagreatdoor", sum := "fe747fb15aa9cee00988688c042017c48f021f17c1c6cac1d3b16958393b2504", func := "linesman/linesmanlaw16.EventBytes", spec := "eventBytes", inPlace := ["internal/abi.NoEscape", "internal/bytealg.MakeNoZero"], unfollowed := true, recurses := true, named := ["linesman/event.kinds", "internal/strconv.uint64pow10", "math/bits.deBruijn32tab", "math/bits.deBruijn64tab", "linesman/event.traps", "linesman/octet.widths"], plainKeys := false, apart := false, laid := [("math/bits.deBruijn32tab", laid_math_bits_deBruijn32tab), ("math/bits.deBruijn64tab", laid_math_bits_deBruijn64tab), ("internal/strconv.uint64pow10", laid_internal_strconv_uint64pow10), ("linesman/octet.widths", laid_linesman_octet_widths), ("linesman/event.kinds", laid_linesman_event_kinds), ("linesman/event.traps", laid_linesman_event_traps)], narrowed := true }
def EventBytesUptoSaid : Prop := eventBytesUptoRow.holds Tryz.pinned (OpenSpec.upto eventBytesSpec)

/-- 'linesmanlaw16.EventLeads', WHERE WHAT IT READS IS OF BULK AT MOST 1048576: true; the input reads as it did. -/
def eventLeadsUptoRow : OpenClaim := { program := "ytbinmgpfkjmijaagreatdoor", sum := "fe747fb15aa9cee00988688c042017c48f021f17c1c6cac1d3b16958393b2504", func := "linesman/linesmanlaw16.EventLeads", spec := "eventLeads", inPlace := ["internal/abi.NoEscape", "internal/bytealg.MakeNoZero"], unfollowed := true, recurses := true, named := ["linesman/event.kinds", "internal/strconv.uint64pow10", "math/bits.deBruijn32tab", "math/bits.deBruijn64tab", "linesman/event.traps", "linesman/octet.widths"], plainKeys := false, apart := false, laid := [("math/bits.deBruijn32tab", laid_math_bits_deBruijn32tab), ("math/bits.deBruijn64tab", laid_math_bits_deBruijn64tab), ("internal/strconv.uint64pow10", laid_internal_strconv_uint64pow10), ("linesman/octet.widths", laid_linesman_octet_widths), ("linesman/event.kinds", laid_linesman_event_kinds), ("linesman/event.traps", laid_linesman_event_traps)], narrowed := true }
def EventLeadsUptoSaid : Prop := eventLeadsUptoRow.holds Tryz.pinned (OpenSpec.upto eventLeadsSpec)

/-- 'linesmanlaw16.EventEach', WHERE WHAT IT READS IS OF BULK AT MOST 1048576: true; the input reads as it did. -/
def eventEachUptoRow : OpenClaim := { program := "ytbinmgpfkjmijaagreatdoor", sum := "fe747fb15aa9cee00988688c042017c48f021f17c1c6cac1d3b16958393b2504", func := "linesman/linesmanlaw16.EventEach", spec := "eventEach", inPlace := ["internal/abi.NoEscape", "internal/bytealg.MakeNoZero"], unfollowed := true, recurses := true, named := ["linesman/event.kinds", "internal/strconv.uint64pow10", "math/bits.deBruijn32tab", "math/bits.deBruijn64tab", "linesman/event.traps", "linesman/octet.widths"], plainKeys := false, apart := false, laid := [("math/bits.deBruijn32tab", laid_math_bits_deBruijn32tab), ("math/bits.deBruijn64tab", laid_math_bits_deBruijn64tab), ("internal/strconv.uint64pow10", laid_internal_strconv_uint64pow10), ("linesman/octet.widths", laid_linesman_octet_widths), ("linesman/event.kinds", laid_linesman_event_kinds), ("linesman/event.traps", laid_linesman_event_traps)], narrowed := true }
def EventEachUptoSaid : Prop := eventEachUptoRow.holds Tryz.pinned (OpenSpec.upto eventEachSpec)

/-- 'linesmanlaw16.EventHolds', WHERE WHAT IT READS IS OF BULK AT MOST 1048576: true; the input reads as it did. -/
def eventHoldsUptoRow : OpenClaim := { program := "ytbinmgpfkjmijaagreatdoor", sum := "fe747fb15aa9cee00988688c042017c48f021f17c1c6cac1d3b16958393b2504", func := "linesman/linesmanlaw16.EventHolds", spec := "eventHolds", inPlace := ["internal/abi.NoEscape", "internal/bytealg.MakeNoZero"], unfollowed := true, recurses := true, named := ["internal/strconv.uint64pow10", "math/bits.deBruijn32tab", "math/bits.deBruijn64tab", "linesman/event.traps", "linesman/octet.widths", "linesman/event.kinds"], plainKeys := false, apart := false, laid := [("math/bits.deBruijn32tab", laid_math_bits_deBruijn32tab), ("math/bits.deBruijn64tab", laid_math_bits_deBruijn64tab), ("internal/strconv.uint64pow10", laid_internal_strconv_uint64pow10), ("linesman/octet.widths", laid_linesman_octet_widths), ("linesman/event.kinds", laid_linesman_event_kinds), ("linesman/event.traps", laid_linesman_event_traps)], narrowed := true }
def EventHoldsUptoSaid : Prop := eventHoldsUptoRow.holds Tryz.pinned (OpenSpec.upto eventHoldsSpec)

end Rows
end Go.Proofs.YtbinmgpfkjmijaaGreatDoor
