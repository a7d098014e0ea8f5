/-
  No cell of these rows narrows 'for every input' (looked for: loops, veiled, ifaces, maps, wideKeys, modest, calm, conditions, laid).
  DERIVED. THE GIVEN ROWS OF THIS SEAT. 6 by the template 'for every input the law returns true; each argument reads behind the call as it read before'; 0 by the template 'total and deterministic' (their statements: YtjddmgmblohpaaaTotals.lean).
  GIVEN WITH THE SEED: the statements are not yours to turn. If you find one false, say at which input.
  Laid BY PROGRAM, IN A SANDBOX (cutbox-rows.mjs): the forced cells as the released guide's own fill.sh prints them over the translation 23011a149ec94b1b… (all of the seat's roots in one cut). By AI agents, Wed Nov 11 2026. No macro, syntax, notation, axiom, sorry.
-/
import Derived.Test.YtjddmgmblohpaaaChecked
import GoSem.Claim
import GoSem.ClaimJoined
import GoSem.ClaimMapViews
import Derived.JoinedTies
import Derived.KernelRfl
namespace Go.Proofs.Ytjddmgmblohpaaa
/- THE CELL 'sum', in the pinned program and in every row, IS THE sha256 OF THE DUMP (.gsa) THAT YtjddmgmblohpaaaProg.lean LOADS. Nothing in Lean hashes anything: it is a label: what it is worth is what the hold of that sum in a sandbox is worth. -/
noncomputable def Try.pinned : Pinned := { name := "ytjddmgmblohpaaa", sum := "23011a149ec94b1b3e1134864c1670ad9f45e186e02b6c4d29cb43ca8395a99d", checked := Try.checked }
namespace Rows
def none {H : Type} : Left H := { results := [], args := [] }

/-- 'chattellaw13.PeriodsStay': WHATEVER THE INPUT: true; the input reads as it did. -/
def periodsStaySpec : ChangeSpec := { name := "periodsStay", fn := fun _ => fun
  | [d1, d2, d3] => { results := [.lit (.bool true)], args := [d1, d2, d3] }
  | _ => none }
def periodsStayRow : OpenClaim := { program := "ytjddmgmblohpaaa", sum := "23011a149ec94b1b3e1134864c1670ad9f45e186e02b6c4d29cb43ca8395a99d", func := "chattel/chattellaw13.PeriodsStay", spec := "periodsStay", apart := false }
def PeriodsStaySaid : Prop := periodsStayRow.holds Try.pinned (OpenSpec.ofChange periodsStaySpec)

/-- ITS FALSE NEIGHBOUR: 'it returns false'. Refute it at one input. -/
def periodsStayWrong : ChangeSpec := { name := "periodsStay", fn := fun _ => fun
  | [d1, d2, d3] => { results := [.lit (.bool false)], args := [d1, d2, d3] }
  | _ => none }
def PeriodsStayWrongFalsely : Prop := periodsStayRow.holds Try.pinned (OpenSpec.ofChange periodsStayWrong)

/-- 'chattellaw13.PeriodsPart': WHATEVER THE INPUT: true; the input reads as it did. -/
def periodsPartSpec : ChangeSpec := { name := "periodsPart", fn := fun _ => fun
  | [d1, d2, d3] => { results := [.lit (.bool true)], args := [d1, d2, d3] }
  | _ => none }
def periodsPartRow : OpenClaim := { program := "ytjddmgmblohpaaa", sum := "23011a149ec94b1b3e1134864c1670ad9f45e186e02b6c4d29cb43ca8395a99d", func := "chattel/chattellaw13.PeriodsPart", spec := "periodsPart", apart := false }
def PeriodsPartSaid : Prop := periodsPartRow.holds Try.pinned (OpenSpec.ofChange periodsPartSpec)

/-- ITS FALSE NEIGHBOUR: 'it returns false'. Refute it at one input. -/
def periodsPartWrong : ChangeSpec := { name := "periodsPart", fn := fun _ => fun
  | [d1, d2, d3] => { results := [.lit (.bool false)], args := [d1, d2, d3] }
  | _ => none }
def PeriodsPartWrongFalsely : Prop := periodsPartRow.holds Try.pinned (OpenSpec.ofChange periodsPartWrong)

/-- 'chattellaw13.PeriodsGo': WHATEVER THE INPUT: true; the input reads as it did. -/
def periodsGoSpec : ChangeSpec := { name := "periodsGo", fn := fun _ => fun
  | [d1, d2, d3] => { results := [.lit (.bool true)], args := [d1, d2, d3] }
  | _ => none }
def periodsGoRow : OpenClaim := { program := "ytjddmgmblohpaaa", sum := "23011a149ec94b1b3e1134864c1670ad9f45e186e02b6c4d29cb43ca8395a99d", func := "chattel/chattellaw13.PeriodsGo", spec := "periodsGo", unfollowed := true, recurses := true, apart := false }
def PeriodsGoSaid : Prop := periodsGoRow.holds Try.pinned (OpenSpec.ofChange periodsGoSpec)

/-- ITS FALSE NEIGHBOUR: 'it returns false'. Refute it at one input. -/
def periodsGoWrong : ChangeSpec := { name := "periodsGo", fn := fun _ => fun
  | [d1, d2, d3] => { results := [.lit (.bool false)], args := [d1, d2, d3] }
  | _ => none }
def PeriodsGoWrongFalsely : Prop := periodsGoRow.holds Try.pinned (OpenSpec.ofChange periodsGoWrong)

/-- 'chattellaw13.PeriodsNil': WHATEVER THE INPUT: true; the input reads as it did. -/
def periodsNilSpec : ChangeSpec := { name := "periodsNil", fn := fun _ => fun
  | [d1, d2] => { results := [.lit (.bool true)], args := [d1, d2] }
  | _ => none }
def periodsNilRow : OpenClaim := { program := "ytjddmgmblohpaaa", sum := "23011a149ec94b1b3e1134864c1670ad9f45e186e02b6c4d29cb43ca8395a99d", func := "chattel/chattellaw13.PeriodsNil", spec := "periodsNil", unfollowed := true, recurses := true, apart := false }
def PeriodsNilSaid : Prop := periodsNilRow.holds Try.pinned (OpenSpec.ofChange periodsNilSpec)

/-- ITS FALSE NEIGHBOUR: 'it returns false'. Refute it at one input. -/
def periodsNilWrong : ChangeSpec := { name := "periodsNil", fn := fun _ => fun
  | [d1, d2] => { results := [.lit (.bool false)], args := [d1, d2] }
  | _ => none }
def PeriodsNilWrongFalsely : Prop := periodsNilRow.holds Try.pinned (OpenSpec.ofChange periodsNilWrong)

/-- 'chattellaw13.PeriodsRise': WHATEVER THE INPUT: true; the input reads as it did. -/
def periodsRiseSpec : ChangeSpec := { name := "periodsRise", fn := fun _ => fun
  | [d1, d2, d3] => { results := [.lit (.bool true)], args := [d1, d2, d3] }
  | _ => none }
def periodsRiseRow : OpenClaim := { program := "ytjddmgmblohpaaa", sum := "23011a149ec94b1b3e1134864c1670ad9f45e186e02b6c4d29cb43ca8395a99d", func := "chattel/chattellaw13.PeriodsRise", spec := "periodsRise", apart := false }
def PeriodsRiseSaid : Prop := periodsRiseRow.holds Try.pinned (OpenSpec.ofChange periodsRiseSpec)

/-- ITS FALSE NEIGHBOUR: 'it returns false'. Refute it at one input. -/
def periodsRiseWrong : ChangeSpec := { name := "periodsRise", fn := fun _ => fun
  | [d1, d2, d3] => { results := [.lit (.bool false)], args := [d1, d2, d3] }
  | _ => none }
def PeriodsRiseWrongFalsely : Prop := periodsRiseRow.holds Try.pinned (OpenSpec.ofChange periodsRiseWrong)

/-- 'chattellaw13.PeriodsWhole': WHATEVER THE INPUT: true; the input reads as it did. -/
def periodsWholeSpec : ChangeSpec := { name := "periodsWhole", fn := fun _ => fun
  | [d] => { results := [.lit (.bool true)], args := [d] }
  | _ => none }
def periodsWholeRow : OpenClaim := { program := "ytjddmgmblohpaaa", sum := "23011a149ec94b1b3e1134864c1670ad9f45e186e02b6c4d29cb43ca8395a99d", func := "chattel/chattellaw13.PeriodsWhole", spec := "periodsWhole", apart := false }
def PeriodsWholeSaid : Prop := periodsWholeRow.holds Try.pinned (OpenSpec.ofChange periodsWholeSpec)

/-- ITS FALSE NEIGHBOUR: 'it returns false'. Refute it at one input. -/
def periodsWholeWrong : ChangeSpec := { name := "periodsWhole", fn := fun _ => fun
  | [d] => { results := [.lit (.bool false)], args := [d] }
  | _ => none }
def PeriodsWholeWrongFalsely : Prop := periodsWholeRow.holds Try.pinned (OpenSpec.ofChange periodsWholeWrong)

/- THE SECOND FORM. 'bulk': how many values and letters a reading holds, each counted each time it is reached (what is shared counts as often as it is met; a slice's spare places count too). A statement '..UptoSaid' is the law's where the arguments, and the package variables that the reading takes, are together of bulk at most 1048576: NARROWER than '..Said'. Prove '..Said' where nothing that the law and all that it calls make is longer than what came in: it says more and counts as full. Else prove '..UptoSaid'. A law counts once. -/
mutual
def uptoBulk {H : Type} : DataW H → Nat
  | .lit (.string bytes) => bytes.length + 1
  | .lit _ => 1
  | .nil => 1
  | .ptr d => uptoBulk d + 1
  | .slice elems spare => uptoBulkAll elems + uptoBulkAll spare + 1
  | .agg parts => uptoBulkAll parts + 1
  | .iface _ d => uptoBulk d + 1
  | .map entries => uptoBulkEntries entries + 1
  | .held _ => 1
def uptoBulkAll {H : Type} : List (DataW H) → Nat
  | [] => 0
  | d :: r => uptoBulk d + uptoBulkAll r
def uptoBulkEntries {H : Type} : List (Lit × DataW H) → Nat
  | [] => 0
  | x :: r => uptoBulkEntry x + uptoBulkEntries r
def uptoBulkEntry {H : Type} : Lit × DataW H → Nat
  | (.string bytes, d) => bytes.length + uptoBulk d + 1
  | (_, d) => uptoBulk d + 1
 end
def uptoSmall : (H : Type) → List (DataW H) → Bool := fun _ ds => decide (uptoBulkAll ds ≤ 1048576)
def OpenSpec.upto (s : _root_.Go.ChangeSpec) : _root_.Go.OpenSpec := { _root_.Go.OpenSpec.ofChange s with cond := some uptoSmall }

/-- 'chattellaw13.PeriodsStay', WHERE WHAT IT READS IS OF BULK AT MOST 1048576: true; the input reads as it did. -/
def periodsStayUptoRow : OpenClaim := { program := "ytjddmgmblohpaaa", sum := "23011a149ec94b1b3e1134864c1670ad9f45e186e02b6c4d29cb43ca8395a99d", func := "chattel/chattellaw13.PeriodsStay", spec := "periodsStay", apart := false, narrowed := true }
def PeriodsStayUptoSaid : Prop := periodsStayUptoRow.holds Try.pinned (OpenSpec.upto periodsStaySpec)

/-- 'chattellaw13.PeriodsPart', WHERE WHAT IT READS IS OF BULK AT MOST 1048576: true; the input reads as it did. -/
def periodsPartUptoRow : OpenClaim := { program := "ytjddmgmblohpaaa", sum := "23011a149ec94b1b3e1134864c1670ad9f45e186e02b6c4d29cb43ca8395a99d", func := "chattel/chattellaw13.PeriodsPart", spec := "periodsPart", apart := false, narrowed := true }
def PeriodsPartUptoSaid : Prop := periodsPartUptoRow.holds Try.pinned (OpenSpec.upto periodsPartSpec)

/-- 'chattellaw13.PeriodsGo', WHERE WHAT IT READS IS OF BULK AT MOST 1048576: true; the input reads as it did. -/
def periodsGoUptoRow : OpenClaim := { program := "ytjddmgmblohpaaa", sum := "23011a149ec94b1b3e1134864c1670ad9f45e186e02b6c4d29cb43ca8395a99d", func := "chattel/chattellaw13.PeriodsGo", spec := "periodsGo", unfollowed := true, recurses := true, apart := false, narrowed := true }
def PeriodsGoUptoSaid : Prop := periodsGoUptoRow.holds Try.pinned (OpenSpec.upto periodsGoSpec)

/-- 'chattellaw13.PeriodsNil', WHERE WHAT IT READS IS OF BULK AT MOST 1048576: true; the input reads as it did. -/
def periodsNilUptoRow : OpenClaim := { program := "ytjddmgmblohpaaa", sum := "23011a149ec94b1b3e1134864c1670ad9f45e186e02b6c4d29cb43ca8395a99d", func := "chattel/chattellaw13.PeriodsNil", spec := "periodsNil", unfollowed := true, recurses := true, apart := false, narrowed := true }
def PeriodsNilUptoSaid : Prop := periodsNilUptoRow.holds Try.pinned (OpenSpec.upto periodsNilSpec)

/-- 'chattellaw13.PeriodsRise', WHERE WHAT IT READS IS OF BULK AT MOST 1048576: true; the input reads as it did. -/
def periodsRiseUptoRow : OpenClaim := { program := "ytjddmgmblohpaaa", sum := "23011a149ec94b1b3e1134864c1670ad9f45e186e02b6c4d29cb43ca8395a99d", func := "chattel/chattellaw13.PeriodsRise", spec := "periodsRise", apart := false, narrowed := true }
def PeriodsRiseUptoSaid : Prop := periodsRiseUptoRow.holds Try.pinned (OpenSpec.upto periodsRiseSpec)

/-- 'chattellaw13.PeriodsWhole', WHERE WHAT IT READS IS OF BULK AT MOST 1048576: true; the input reads as it did. -/
def periodsWholeUptoRow : OpenClaim := { program := "ytjddmgmblohpaaa", sum := "23011a149ec94b1b3e1134864c1670ad9f45e186e02b6c4d29cb43ca8395a99d", func := "chattel/chattellaw13.PeriodsWhole", spec := "periodsWhole", apart := false, narrowed := true }
def PeriodsWholeUptoSaid : Prop := periodsWholeUptoRow.holds Try.pinned (OpenSpec.upto periodsWholeSpec)

end Rows
end Go.Proofs.Ytjddmgmblohpaaa
