/-
  NARROWER THAN 'FOR EVERY INPUT', by the rows' own cells (each row's printed sentence says how): CashJoins: laid · TermOps: laid · TermSizes: laid · TermChecks: laid · TermTells: laid · TermJoins: laid · TermDeeper: laid · TermInside: laid.
  DERIVED. THE GIVEN ROWS OF THIS SEAT. 8 by the template 'for every input the law returns true; each argument reads behind the call as it read before'; 0 by the template 'total and deterministic' (their statements: YtadjhofomabbmaaDoorTotals.lean).
  GIVEN WITH THE SEED: the statements are not yours to turn. If you find one false, say at which input.
  Laid BY PROGRAM, IN A SANDBOX (cutbox-rows.mjs): the forced cells as the released guide's own fill.sh prints them over the translation ed505f07672b0756… (all of the seat's roots in one cut). By AI agents, Wed Nov 11 2026. No macro, syntax, notation, axiom, sorry.
-/
import Derived.Test.YtadjhofomabbmaaDoorChecked
import GoSem.PinnedTables
import GoSem.Claim
import GoSem.ClaimJoined
import GoSem.ClaimMapViews
import Derived.JoinedTies
import Derived.KernelRfl
namespace Go.Proofs.YtadjhofomabbmaaDoor
/- THE CELL 'sum', in the pinned program and in every row, IS THE sha256 OF THE DUMP (.gsa) THAT YtadjhofomabbmaaDoorProg.lean LOADS. Nothing in Lean hashes anything: it is a label: what it is worth is what the hold of that sum in a sandbox is worth. -/
noncomputable def Tryd.pinned : Pinned := { name := "ytadjhofomabbmaadoor", sum := "ed505f07672b0756cf6a19344a66b7f85af68cc3c11911968dd322de53348d74", checked := Tryd.checked }
namespace Rows
def none {H : Type} : Left H := { results := [], args := [] }

/- WHAT THE LISTED PACKAGE-LEVEL VARIABLES READ AS WHEN THE CALL BEGINS. Each datum BY PROGRAM (the guide's laid-datum.mjs) off the statement by which the dump's own 'gosem.cut.vars' lays the variable. In a bare row this is a premise. The card (YtadjhofomabbmaaDoorCards.lean) ties it to the program's text. -/
def laid_math_bits_deBruijn32tab {H : Type} : DataW H := .agg [.lit (.int .u8 0), .lit (.int .u8 1), .lit (.int .u8 28), .lit (.int .u8 2), .lit (.int .u8 29), .lit (.int .u8 14), .lit (.int .u8 24), .lit (.int .u8 3), .lit (.int .u8 30), .lit (.int .u8 22), .lit (.int .u8 20), .lit (.int .u8 15), .lit (.int .u8 25), .lit (.int .u8 17), .lit (.int .u8 4), .lit (.int .u8 8), .lit (.int .u8 31), .lit (.int .u8 27), .lit (.int .u8 13), .lit (.int .u8 23), .lit (.int .u8 21), .lit (.int .u8 19), .lit (.int .u8 16), .lit (.int .u8 7), .lit (.int .u8 26), .lit (.int .u8 12), .lit (.int .u8 18), .lit (.int .u8 6), .lit (.int .u8 11), .lit (.int .u8 5), .lit (.int .u8 10), .lit (.int .u8 9)]
def laid_math_bits_deBruijn64tab {H : Type} : DataW H := .agg [.lit (.int .u8 0), .lit (.int .u8 1), .lit (.int .u8 56), .lit (.int .u8 2), .lit (.int .u8 57), .lit (.int .u8 49), .lit (.int .u8 28), .lit (.int .u8 3), .lit (.int .u8 61), .lit (.int .u8 58), .lit (.int .u8 42), .lit (.int .u8 50), .lit (.int .u8 38), .lit (.int .u8 29), .lit (.int .u8 17), .lit (.int .u8 4), .lit (.int .u8 62), .lit (.int .u8 47), .lit (.int .u8 59), .lit (.int .u8 36), .lit (.int .u8 45), .lit (.int .u8 43), .lit (.int .u8 51), .lit (.int .u8 22), .lit (.int .u8 53), .lit (.int .u8 39), .lit (.int .u8 33), .lit (.int .u8 30), .lit (.int .u8 24), .lit (.int .u8 18), .lit (.int .u8 12), .lit (.int .u8 5), .lit (.int .u8 63), .lit (.int .u8 55), .lit (.int .u8 48), .lit (.int .u8 27), .lit (.int .u8 60), .lit (.int .u8 41), .lit (.int .u8 37), .lit (.int .u8 16), .lit (.int .u8 46), .lit (.int .u8 35), .lit (.int .u8 44), .lit (.int .u8 21), .lit (.int .u8 52), .lit (.int .u8 32), .lit (.int .u8 23), .lit (.int .u8 11), .lit (.int .u8 54), .lit (.int .u8 26), .lit (.int .u8 40), .lit (.int .u8 15), .lit (.int .u8 34), .lit (.int .u8 20), .lit (.int .u8 31), .lit (.int .u8 10), .lit (.int .u8 25), .lit (.int .u8 14), .lit (.int .u8 19), .lit (.int .u8 9), .lit (.int .u8 13), .lit (.int .u8 8), .lit (.int .u8 7), .lit (.int .u8 6)]
def laid_internal_strconv_uint64pow10 {H : Type} : DataW H := .agg [.lit (.int .u64 1), .lit (.int .u64 10), .lit (.int .u64 100), .lit (.int .u64 1000), .lit (.int .u64 10000), .lit (.int .u64 100000), .lit (.int .u64 1000000), .lit (.int .u64 10000000), .lit (.int .u64 100000000), .lit (.int .u64 1000000000), .lit (.int .u64 10000000000), .lit (.int .u64 100000000000), .lit (.int .u64 1000000000000), .lit (.int .u64 10000000000000), .lit (.int .u64 100000000000000), .lit (.int .u64 1000000000000000), .lit (.int .u64 10000000000000000), .lit (.int .u64 100000000000000000), .lit (.int .u64 1000000000000000000), .lit (.int .u64 10000000000000000000)]
def laid_unicode_utf8_acceptRanges {H : Type} : DataW H := .agg [.agg [.lit (.int .u8 128), .lit (.int .u8 191)], .agg [.lit (.int .u8 160), .lit (.int .u8 191)], .agg [.lit (.int .u8 128), .lit (.int .u8 159)], .agg [.lit (.int .u8 144), .lit (.int .u8 191)], .agg [.lit (.int .u8 128), .lit (.int .u8 143)], .agg [.lit (.int .u8 0), .lit (.int .u8 0)], .agg [.lit (.int .u8 0), .lit (.int .u8 0)], .agg [.lit (.int .u8 0), .lit (.int .u8 0)], .agg [.lit (.int .u8 0), .lit (.int .u8 0)], .agg [.lit (.int .u8 0), .lit (.int .u8 0)], .agg [.lit (.int .u8 0), .lit (.int .u8 0)], .agg [.lit (.int .u8 0), .lit (.int .u8 0)], .agg [.lit (.int .u8 0), .lit (.int .u8 0)], .agg [.lit (.int .u8 0), .lit (.int .u8 0)], .agg [.lit (.int .u8 0), .lit (.int .u8 0)], .agg [.lit (.int .u8 0), .lit (.int .u8 0)]]
def laid_strconv_ErrRange {H : Type} : DataW H := .iface "*errors.errorString" (.ptr (.agg [.lit (.string [118, 97, 108, 117, 101, 32, 111, 117, 116, 32, 111, 102, 32, 114, 97, 110, 103, 101])]))
def laid_strconv_ErrSyntax {H : Type} : DataW H := .iface "*errors.errorString" (.ptr (.agg [.lit (.string [105, 110, 118, 97, 108, 105, 100, 32, 115, 121, 110, 116, 97, 120])]))
def laid_chattel_cash_currencies {H : Type} : DataW H := .agg [.agg [.lit (.string [69, 85, 82]), .lit (.int .i64 2)], .agg [.lit (.string [85, 83, 68]), .lit (.int .i64 2)], .agg [.lit (.string [71, 66, 80]), .lit (.int .i64 2)], .agg [.lit (.string [74, 80, 89]), .lit (.int .i64 0)], .agg [.lit (.string [67, 72, 70]), .lit (.int .i64 2)], .agg [.lit (.string [83, 69, 75]), .lit (.int .i64 2)], .agg [.lit (.string [75, 87, 68]), .lit (.int .i64 3)], .agg [.lit (.string [88, 65, 85]), .lit (.int .i64 6)]]
/-- One of Go's own tables, pinned by name: the form's constant. -/
def laid_unicode_utf8_first : DataW Unit := Go.Pinned.utf8First
def laid_chattel_term_kinds {H : Type} : DataW H := .agg [.agg [.lit (.int .i64 0), .agg [.lit (.int .i64 0), .lit (.int .i64 0), .lit (.int .i64 0), .lit (.int .i64 0)], .agg [.lit (.int .i64 0), .lit (.int .i64 0)], .lit (.bool false)], .agg [.lit (.int .i64 1), .agg [.lit (.int .i64 0), .lit (.int .i64 0), .lit (.int .i64 0), .lit (.int .i64 0)], .agg [.lit (.int .i64 0), .lit (.int .i64 0)], .lit (.bool true)], .agg [.lit (.int .i64 1), .agg [.lit (.int .i64 0), .lit (.int .i64 0), .lit (.int .i64 0), .lit (.int .i64 0)], .agg [.lit (.int .i64 63), .lit (.int .i64 0)], .lit (.bool false)], .agg [.lit (.int .i64 1), .agg [.lit (.int .i64 1), .lit (.int .i64 0), .lit (.int .i64 0), .lit (.int .i64 0)], .agg [.lit (.int .i64 0), .lit (.int .i64 0)], .lit (.bool false)], .agg [.lit (.int .i64 1), .agg [.lit (.int .i64 1), .lit (.int .i64 1), .lit (.int .i64 0), .lit (.int .i64 0)], .agg [.lit (.int .i64 0), .lit (.int .i64 0)], .lit (.bool false)], .agg [.lit (.int .i64 1), .agg [.lit (.int .i64 1), .lit (.int .i64 1), .lit (.int .i64 0), .lit (.int .i64 0)], .agg [.lit (.int .i64 0), .lit (.int .i64 0)], .lit (.bool false)], .agg [.lit (.int .i64 1), .agg [.lit (.int .i64 1), .lit (.int .i64 1), .lit (.int .i64 0), .lit (.int .i64 0)], .agg [.lit (.int .i64 0), .lit (.int .i64 0)], .lit (.bool false)], .agg [.lit (.int .i64 1), .agg [.lit (.int .i64 1), .lit (.int .i64 1), .lit (.int .i64 0), .lit (.int .i64 0)], .agg [.lit (.int .i64 0), .lit (.int .i64 0)], .lit (.bool false)], .agg [.lit (.int .i64 1), .agg [.lit (.int .i64 1), .lit (.int .i64 1), .lit (.int .i64 0), .lit (.int .i64 0)], .agg [.lit (.int .i64 0), .lit (.int .i64 0)], .lit (.bool false)], .agg [.lit (.int .i64 2), .agg [.lit (.int .i64 0), .lit (.int .i64 0), .lit (.int .i64 0), .lit (.int .i64 0)], .agg [.lit (.int .i64 0), .lit (.int .i64 0)], .lit (.bool false)], .agg [.lit (.int .i64 2), .agg [.lit (.int .i64 0), .lit (.int .i64 0), .lit (.int .i64 0), .lit (.int .i64 0)], .agg [.lit (.int .i64 7), .lit (.int .i64 0)], .lit (.bool false)], .agg [.lit (.int .i64 2), .agg [.lit (.int .i64 2), .lit (.int .i64 0), .lit (.int .i64 0), .lit (.int .i64 0)], .agg [.lit (.int .i64 0), .lit (.int .i64 0)], .lit (.bool false)], .agg [.lit (.int .i64 2), .agg [.lit (.int .i64 2), .lit (.int .i64 2), .lit (.int .i64 0), .lit (.int .i64 0)], .agg [.lit (.int .i64 0), .lit (.int .i64 0)], .lit (.bool false)], .agg [.lit (.int .i64 2), .agg [.lit (.int .i64 1), .lit (.int .i64 2), .lit (.int .i64 0), .lit (.int .i64 0)], .agg [.lit (.int .i64 0), .lit (.int .i64 0)], .lit (.bool false)], .agg [.lit (.int .i64 2), .agg [.lit (.int .i64 2), .lit (.int .i64 0), .lit (.int .i64 0), .lit (.int .i64 0)], .agg [.lit (.int .i64 73048), .lit (.int .i64 0)], .lit (.bool false)], .agg [.lit (.int .i64 2), .agg [.lit (.int .i64 1), .lit (.int .i64 1), .lit (.int .i64 2), .lit (.int .i64 2)], .agg [.lit (.int .i64 0), .lit (.int .i64 0)], .lit (.bool false)], .agg [.lit (.int .i64 2), .agg [.lit (.int .i64 2), .lit (.int .i64 2), .lit (.int .i64 0), .lit (.int .i64 0)], .agg [.lit (.int .i64 63), .lit (.int .i64 0)], .lit (.bool false)], .agg [.lit (.int .i64 2), .agg [.lit (.int .i64 2), .lit (.int .i64 0), .lit (.int .i64 0), .lit (.int .i64 0)], .agg [.lit (.int .i64 63), .lit (.int .i64 73048)], .lit (.bool false)]]

/-- 'chattellaw03.CashJoins': WHATEVER THE INPUT: true; the input reads as it did. -/
def cashJoinsSpec : ChangeSpec := { name := "cashJoins", fn := fun _ => fun
  | [d1, d2] => { results := [.lit (.bool true)], args := [d1, d2] }
  | _ => none }
def cashJoinsRow : OpenClaim := { program := "ytadjhofomabbmaadoor", sum := "ed505f07672b0756cf6a19344a66b7f85af68cc3c11911968dd322de53348d74", func := "chattel/chattellaw03.CashJoins", spec := "cashJoins", inPlace := ["internal/abi.NoEscape", "internal/bytealg.MakeNoZero", "internal/bytealg.IndexByteString", "internal/bytealg.IndexString", "math/bits.Add64"], unfollowed := true, recurses := true, named := ["chattel/cash.currencies", "internal/strconv.uint64pow10", "math/bits.deBruijn32tab", "math/bits.deBruijn64tab", "internal/bytealg.MaxLen", "unicode/utf8.first", "unicode/utf8.acceptRanges", "strconv.ErrSyntax", "strconv.ErrRange"], apart := false, laid := [("math/bits.deBruijn32tab", laid_math_bits_deBruijn32tab), ("math/bits.deBruijn64tab", laid_math_bits_deBruijn64tab), ("internal/strconv.uint64pow10", laid_internal_strconv_uint64pow10), ("unicode/utf8.acceptRanges", laid_unicode_utf8_acceptRanges), ("strconv.ErrRange", laid_strconv_ErrRange), ("strconv.ErrSyntax", laid_strconv_ErrSyntax), ("chattel/cash.currencies", laid_chattel_cash_currencies), ("unicode/utf8.first", laid_unicode_utf8_first)] }
def CashJoinsSaid : Prop := cashJoinsRow.holds Tryd.pinned (OpenSpec.ofChange cashJoinsSpec)

/-- ITS FALSE NEIGHBOUR: 'it returns false'. Refute it at one input. -/
def cashJoinsWrong : ChangeSpec := { name := "cashJoins", fn := fun _ => fun
  | [d1, d2] => { results := [.lit (.bool false)], args := [d1, d2] }
  | _ => none }
def CashJoinsWrongFalsely : Prop := cashJoinsRow.holds Tryd.pinned (OpenSpec.ofChange cashJoinsWrong)

/-- 'chattellaw05.TermOps': WHATEVER THE INPUT: true; the input reads as it did. -/
def termOpsSpec : ChangeSpec := { name := "termOps", fn := fun _ => fun
  | [d] => { results := [.lit (.bool true)], args := [d] }
  | _ => none }
def termOpsRow : OpenClaim := { program := "ytadjhofomabbmaadoor", sum := "ed505f07672b0756cf6a19344a66b7f85af68cc3c11911968dd322de53348d74", func := "chattel/chattellaw05.TermOps", spec := "termOps", unfollowed := true, recurses := true, named := ["chattel/term.kinds"], apart := false, laid := [("chattel/term.kinds", laid_chattel_term_kinds)] }
def TermOpsSaid : Prop := termOpsRow.holds Tryd.pinned (OpenSpec.ofChange termOpsSpec)

/-- ITS FALSE NEIGHBOUR: 'it returns false'. Refute it at one input. -/
def termOpsWrong : ChangeSpec := { name := "termOps", fn := fun _ => fun
  | [d] => { results := [.lit (.bool false)], args := [d] }
  | _ => none }
def TermOpsWrongFalsely : Prop := termOpsRow.holds Tryd.pinned (OpenSpec.ofChange termOpsWrong)

/-- 'chattellaw05.TermSizes': WHATEVER THE INPUT: true; the input reads as it did. -/
def termSizesSpec : ChangeSpec := { name := "termSizes", fn := fun _ => fun
  | [d1, d2] => { results := [.lit (.bool true)], args := [d1, d2] }
  | _ => none }
def termSizesRow : OpenClaim := { program := "ytadjhofomabbmaadoor", sum := "ed505f07672b0756cf6a19344a66b7f85af68cc3c11911968dd322de53348d74", func := "chattel/chattellaw05.TermSizes", spec := "termSizes", unfollowed := true, recurses := true, named := ["chattel/term.kinds"], apart := false, laid := [("chattel/term.kinds", laid_chattel_term_kinds)] }
def TermSizesSaid : Prop := termSizesRow.holds Tryd.pinned (OpenSpec.ofChange termSizesSpec)

/-- ITS FALSE NEIGHBOUR: 'it returns false'. Refute it at one input. -/
def termSizesWrong : ChangeSpec := { name := "termSizes", fn := fun _ => fun
  | [d1, d2] => { results := [.lit (.bool false)], args := [d1, d2] }
  | _ => none }
def TermSizesWrongFalsely : Prop := termSizesRow.holds Tryd.pinned (OpenSpec.ofChange termSizesWrong)

/-- 'chattellaw05.TermChecks': WHATEVER THE INPUT: true; the input reads as it did. -/
def termChecksSpec : ChangeSpec := { name := "termChecks", fn := fun _ => fun
  | [d] => { results := [.lit (.bool true)], args := [d] }
  | _ => none }
def termChecksRow : OpenClaim := { program := "ytadjhofomabbmaadoor", sum := "ed505f07672b0756cf6a19344a66b7f85af68cc3c11911968dd322de53348d74", func := "chattel/chattellaw05.TermChecks", spec := "termChecks", unfollowed := true, recurses := true, named := ["chattel/term.kinds"], apart := false, laid := [("chattel/term.kinds", laid_chattel_term_kinds)] }
def TermChecksSaid : Prop := termChecksRow.holds Tryd.pinned (OpenSpec.ofChange termChecksSpec)

/-- ITS FALSE NEIGHBOUR: 'it returns false'. Refute it at one input. -/
def termChecksWrong : ChangeSpec := { name := "termChecks", fn := fun _ => fun
  | [d] => { results := [.lit (.bool false)], args := [d] }
  | _ => none }
def TermChecksWrongFalsely : Prop := termChecksRow.holds Tryd.pinned (OpenSpec.ofChange termChecksWrong)

/-- 'chattellaw05.TermTells': WHATEVER THE INPUT: true; the input reads as it did. -/
def termTellsSpec : ChangeSpec := { name := "termTells", fn := fun _ => fun
  | [d] => { results := [.lit (.bool true)], args := [d] }
  | _ => none }
def termTellsRow : OpenClaim := { program := "ytadjhofomabbmaadoor", sum := "ed505f07672b0756cf6a19344a66b7f85af68cc3c11911968dd322de53348d74", func := "chattel/chattellaw05.TermTells", spec := "termTells", unfollowed := true, recurses := true, named := ["chattel/term.kinds"], apart := false, laid := [("chattel/term.kinds", laid_chattel_term_kinds)] }
def TermTellsSaid : Prop := termTellsRow.holds Tryd.pinned (OpenSpec.ofChange termTellsSpec)

/-- ITS FALSE NEIGHBOUR: 'it returns false'. Refute it at one input. -/
def termTellsWrong : ChangeSpec := { name := "termTells", fn := fun _ => fun
  | [d] => { results := [.lit (.bool false)], args := [d] }
  | _ => none }
def TermTellsWrongFalsely : Prop := termTellsRow.holds Tryd.pinned (OpenSpec.ofChange termTellsWrong)

/-- 'chattellaw05.TermJoins': WHATEVER THE INPUT: true; the input reads as it did. -/
def termJoinsSpec : ChangeSpec := { name := "termJoins", fn := fun _ => fun
  | [d1, d2] => { results := [.lit (.bool true)], args := [d1, d2] }
  | _ => none }
def termJoinsRow : OpenClaim := { program := "ytadjhofomabbmaadoor", sum := "ed505f07672b0756cf6a19344a66b7f85af68cc3c11911968dd322de53348d74", func := "chattel/chattellaw05.TermJoins", spec := "termJoins", unfollowed := true, recurses := true, named := ["chattel/term.kinds"], apart := false, laid := [("chattel/term.kinds", laid_chattel_term_kinds)] }
def TermJoinsSaid : Prop := termJoinsRow.holds Tryd.pinned (OpenSpec.ofChange termJoinsSpec)

/-- ITS FALSE NEIGHBOUR: 'it returns false'. Refute it at one input. -/
def termJoinsWrong : ChangeSpec := { name := "termJoins", fn := fun _ => fun
  | [d1, d2] => { results := [.lit (.bool false)], args := [d1, d2] }
  | _ => none }
def TermJoinsWrongFalsely : Prop := termJoinsRow.holds Tryd.pinned (OpenSpec.ofChange termJoinsWrong)

/-- 'chattellaw05.TermDeeper': WHATEVER THE INPUT: true; the input reads as it did. -/
def termDeeperSpec : ChangeSpec := { name := "termDeeper", fn := fun _ => fun
  | [d1, d2] => { results := [.lit (.bool true)], args := [d1, d2] }
  | _ => none }
def termDeeperRow : OpenClaim := { program := "ytadjhofomabbmaadoor", sum := "ed505f07672b0756cf6a19344a66b7f85af68cc3c11911968dd322de53348d74", func := "chattel/chattellaw05.TermDeeper", spec := "termDeeper", unfollowed := true, recurses := true, named := ["chattel/term.kinds"], apart := false, laid := [("chattel/term.kinds", laid_chattel_term_kinds)] }
def TermDeeperSaid : Prop := termDeeperRow.holds Tryd.pinned (OpenSpec.ofChange termDeeperSpec)

/-- ITS FALSE NEIGHBOUR: 'it returns false'. Refute it at one input. -/
def termDeeperWrong : ChangeSpec := { name := "termDeeper", fn := fun _ => fun
  | [d1, d2] => { results := [.lit (.bool false)], args := [d1, d2] }
  | _ => none }
def TermDeeperWrongFalsely : Prop := termDeeperRow.holds Tryd.pinned (OpenSpec.ofChange termDeeperWrong)

/-- 'chattellaw05.TermInside': WHATEVER THE INPUT: true; the input reads as it did. -/
def termInsideSpec : ChangeSpec := { name := "termInside", fn := fun _ => fun
  | [d] => { results := [.lit (.bool true)], args := [d] }
  | _ => none }
def termInsideRow : OpenClaim := { program := "ytadjhofomabbmaadoor", sum := "ed505f07672b0756cf6a19344a66b7f85af68cc3c11911968dd322de53348d74", func := "chattel/chattellaw05.TermInside", spec := "termInside", unfollowed := true, recurses := true, named := ["chattel/term.kinds"], apart := false, laid := [("chattel/term.kinds", laid_chattel_term_kinds)] }
def TermInsideSaid : Prop := termInsideRow.holds Tryd.pinned (OpenSpec.ofChange termInsideSpec)

/-- ITS FALSE NEIGHBOUR: 'it returns false'. Refute it at one input. -/
def termInsideWrong : ChangeSpec := { name := "termInside", fn := fun _ => fun
  | [d] => { results := [.lit (.bool false)], args := [d] }
  | _ => none }
def TermInsideWrongFalsely : Prop := termInsideRow.holds Tryd.pinned (OpenSpec.ofChange termInsideWrong)

/- THE SECOND FORM. 'bulk': how many values and letters a reading holds, each counted each time it is reached (what is shared counts as often as it is met; a slice's spare places count too). A statement '..UptoSaid' is the law's where the arguments, and the package variables that the reading takes, are together of bulk at most 1048576: NARROWER than '..Said'. Prove '..Said' where nothing that the law and all that it calls make is longer than what came in: it says more and counts as full. Else prove '..UptoSaid'. A law counts once. -/
mutual
def uptoBulk {H : Type} : DataW H → Nat
  | .lit (.string bytes) => bytes.length + 1
  | .lit _ => 1
  | .nil => 1
  | .ptr d => uptoBulk d + 1
  | .slice elems spare => uptoBulkAll elems + uptoBulkAll spare + 1
  | .agg parts => uptoBulkAll parts + 1
  | .iface _ d => uptoBulk d + 1
  | .map entries => uptoBulkEntries entries + 1
  | .held _ => 1
def uptoBulkAll {H : Type} : List (DataW H) → Nat
  | [] => 0
  | d :: r => uptoBulk d + uptoBulkAll r
def uptoBulkEntries {H : Type} : List (Lit × DataW H) → Nat
  | [] => 0
  | x :: r => uptoBulkEntry x + uptoBulkEntries r
def uptoBulkEntry {H : Type} : Lit × DataW H → Nat
  | (.string bytes, d) => bytes.length + uptoBulk d + 1
  | (_, d) => uptoBulk d + 1
 end
def uptoSmall : (H : Type) → List (DataW H) → Bool := fun _ ds => decide (uptoBulkAll ds ≤ 1048576)
def OpenSpec.upto (s : _root_.Go.ChangeSpec) : _root_.Go.OpenSpec := { _root_.Go.OpenSpec.ofChange s with cond := some uptoSmall }

/-- 'chattellaw03.CashJoins', WHERE WHAT IT READS IS OF BULK AT MOST 1048576: true; the input reads as it did. -/
def cashJoinsUptoRow : OpenClaim := { program := "ytadjhofomabbmaadoor", sum := "ed505f07672b0756cf6a19344a66b7f85af68cc3c11911968dd322de53348d74", func := "chattel/chattellaw03.CashJoins", spec := "cashJoins", inPlace := ["internal/abi.NoEscape", "internal/bytealg.MakeNoZero", "internal/bytealg.IndexByteString", "internal/bytealg.IndexString", "math/bits.Add64"], unfollowed := true, recurses := true, named := ["chattel/cash.currencies", "internal/strconv.uint64pow10", "math/bits.deBruijn32tab", "math/bits.deBruijn64tab", "internal/bytealg.MaxLen", "unicode/utf8.first", "unicode/utf8.acceptRanges", "strconv.ErrSyntax", "strconv.ErrRange"], apart := false, laid := [("math/bits.deBruijn32tab", laid_math_bits_deBruijn32tab), ("math/bits.deBruijn64tab", laid_math_bits_deBruijn64tab), ("internal/strconv.uint64pow10", laid_internal_strconv_uint64pow10), ("unicode/utf8.acceptRanges", laid_unicode_utf8_acceptRanges), ("strconv.ErrRange", laid_strconv_ErrRange), ("strconv.ErrSyntax", laid_strconv_ErrSyntax), ("chattel/cash.currencies", laid_chattel_cash_currencies), ("unicode/utf8.first", laid_unicode_utf8_first)], narrowed := true }
def CashJoinsUptoSaid : Prop := cashJoinsUptoRow.holds Tryd.pinned (OpenSpec.upto cashJoinsSpec)

/-- 'chattellaw05.TermOps', WHERE WHAT IT READS IS OF BULK AT MOST 1048576: true; the input reads as it did. -/
def termOpsUptoRow : OpenClaim := { program := "ytadjhofomabbmaadoor", sum := "ed505f07672b0756cf6a19344a66b7f85af68cc3c11911968dd322de53348d74", func := "chattel/chattellaw05.TermOps", spec := "termOps", unfollowed := true, recurses := true, named := ["chattel/term.kinds"], apart := false, laid := [("chattel/term.kinds", laid_chattel_term_kinds)], narrowed := true }
def TermOpsUptoSaid : Prop := termOpsUptoRow.holds Tryd.pinned (OpenSpec.upto termOpsSpec)

/-- 'chattellaw05.TermSizes', WHERE WHAT IT READS IS OF BULK AT MOST 1048576: true; the input reads as it did. -/
def termSizesUptoRow : OpenClaim := { program := "ytadjhofomabbmaadoor", sum := "ed505f07672b0756cf6a19344a66b7f85af68cc3c11911968dd322de53348d74", func := "chattel/chattellaw05.TermSizes", spec := "termSizes", unfollowed := true, recurses := true, named := ["chattel/term.kinds"], apart := false, laid := [("chattel/term.kinds", laid_chattel_term_kinds)], narrowed := true }
def TermSizesUptoSaid : Prop := termSizesUptoRow.holds Tryd.pinned (OpenSpec.upto termSizesSpec)

/-- 'chattellaw05.TermChecks', WHERE WHAT IT READS IS OF BULK AT MOST 1048576: true; the input reads as it did. -/
def termChecksUptoRow : OpenClaim := { program := "ytadjhofomabbmaadoor", sum := "ed505f07672b0756cf6a19344a66b7f85af68cc3c11911968dd322de53348d74", func := "chattel/chattellaw05.TermChecks", spec := "termChecks", unfollowed := true, recurses := true, named := ["chattel/term.kinds"], apart := false, laid := [("chattel/term.kinds", laid_chattel_term_kinds)], narrowed := true }
def TermChecksUptoSaid : Prop := termChecksUptoRow.holds Tryd.pinned (OpenSpec.upto termChecksSpec)

/-- 'chattellaw05.TermTells', WHERE WHAT IT READS IS OF BULK AT MOST 1048576: true; the input reads as it did. -/
def termTellsUptoRow : OpenClaim := { program := "ytadjhofomabbmaadoor", sum := "ed505f07672b0756cf6a19344a66b7f85af68cc3c11911968dd322de53348d74", func := "chattel/chattellaw05.TermTells", spec := "termTells", unfollowed := true, recurses := true, named := ["chattel/term.kinds"], apart := false, laid := [("chattel/term.kinds", laid_chattel_term_kinds)], narrowed := true }
def TermTellsUptoSaid : Prop := termTellsUptoRow.holds Tryd.pinned (OpenSpec.upto termTellsSpec)

/-- 'chattellaw05.TermJoins', WHERE WHAT IT READS IS OF BULK AT MOST 1048576: true; the input reads as it did. -/
def termJoinsUptoRow : OpenClaim := { program := "ytadjhofomabbmaadoor", sum := "ed505f07672b0756cf6a19344a66b7f85af68cc3c11911968dd322de53348d74", func := "chattel/chattellaw05.TermJoins", spec := "termJoins", unfollowed := true, recurses := true, named := ["chattel/term.kinds"], apart := false, laid := [("chattel/term.kinds", laid_chattel_term_kinds)], narrowed := true }
def TermJoinsUptoSaid : Prop := termJoinsUptoRow.holds Tryd.pinned (OpenSpec.upto termJoinsSpec)

/-- 'chattellaw05.TermDeeper', WHERE WHAT IT READS IS OF BULK AT MOST 1048576: true; the input reads as it did. -/
def termDeeperUptoRow : OpenClaim := { program := "ytadjhofomabbmaadoor", sum := "ed505f07672b0756cf6a19344a66b7f85af68cc3c11911968dd322de53348d74", func := "chattel/chattellaw05.TermDeeper", spec := "termDeeper", unfollowed := true, recurses := true, named := ["chattel/term.kinds"], apart := false, laid := [("chattel/term.kinds", laid_chattel_term_kinds)], narrowed := true }
def TermDeeperUptoSaid : Prop := termDeeperUptoRow.holds Tryd.pinned (OpenSpec.upto termDeeperSpec)

/-- 'chattellaw05.TermInside', WHERE WHAT IT READS IS OF BULK AT MOST 1048576: true; the input reads as it did. -/
def termInsideUptoRow : OpenClaim := { program := "ytadjhofomabbmaadoor", sum := "ed505f07672b0756cf6a19344a66b7f85af68cc3c11911968dd322de53348d74", func := "chattel/chattellaw05.TermInside", spec := "termInside", unfollowed := true, recurses := true, named := ["chattel/term.kinds"], apart := false, laid := [("chattel/term.kinds", laid_chattel_term_kinds)], narrowed := true }
def TermInsideUptoSaid : Prop := termInsideUptoRow.holds Tryd.pinned (OpenSpec.upto termInsideSpec)

end Rows
end Go.Proofs.YtadjhofomabbmaaDoor
