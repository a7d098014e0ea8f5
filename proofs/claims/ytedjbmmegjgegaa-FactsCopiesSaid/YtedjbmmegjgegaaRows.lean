/-
  No cell of these rows narrows 'for every input' (looked for: loops, veiled, ifaces, maps, wideKeys, modest, calm, conditions, laid).
  DERIVED. THE GIVEN ROWS OF THIS SEAT. 6 by the template 'for every input the law returns true; each argument reads behind the call as it read before'; 0 by the template 'total and deterministic' (their statements: YtedjbmmegjgegaaTotals.lean).
  GIVEN WITH THE SEED: the statements are not yours to turn. If you find one false, say at which input.
  Laid BY PROGRAM, IN A SANDBOX (cutbox-rows.mjs): the forced cells as the released guide's own fill.sh prints them over the translation 0ac779e1063572cc… (all of the seat's roots in one cut). By AI agents, Wed Nov 11 2026. No macro, syntax, notation, axiom, sorry.
-/
import Derived.Test.YtedjbmmegjgegaaChecked
import GoSem.Claim
import GoSem.ClaimJoined
import GoSem.ClaimMapViews
import Derived.JoinedTies
import Derived.KernelRfl
namespace Go.Proofs.Ytedjbmmegjgegaa
/- THE CELL 'sum', in the pinned program and in every row, IS THE sha256 OF THE DUMP (.gsa) THAT YtedjbmmegjgegaaProg.lean LOADS. Nothing in Lean hashes anything: it is a label: what it is worth is what the hold of that sum in a sandbox is worth. -/
noncomputable def Try.pinned : Pinned := { name := "ytedjbmmegjgegaa", sum := "0ac779e1063572cc12841a2b4a00874e69d772bc9ce92e960ad193a782b955f1", checked := Try.checked }
namespace Rows
def none {H : Type} : Left H := { results := [], args := [] }

/-- 'chattellaw07.FactsTell': WHATEVER THE INPUT: true; the input reads as it did. -/
def factsTellSpec : ChangeSpec := { name := "factsTell", fn := fun _ => fun
  | [d] => { results := [.lit (.bool true)], args := [d] }
  | _ => none }
def factsTellRow : OpenClaim := { program := "ytedjbmmegjgegaa", sum := "0ac779e1063572cc12841a2b4a00874e69d772bc9ce92e960ad193a782b955f1", func := "chattel/chattellaw07.FactsTell", spec := "factsTell", unfollowed := true, recurses := true, plainKeys := false, apart := false }
def FactsTellSaid : Prop := factsTellRow.holds Try.pinned (OpenSpec.ofChange factsTellSpec)

/-- ITS FALSE NEIGHBOUR: 'it returns false'. Refute it at one input. -/
def factsTellWrong : ChangeSpec := { name := "factsTell", fn := fun _ => fun
  | [d] => { results := [.lit (.bool false)], args := [d] }
  | _ => none }
def FactsTellWrongFalsely : Prop := factsTellRow.holds Try.pinned (OpenSpec.ofChange factsTellWrong)

/-- 'chattellaw07.FactsKnow': WHATEVER THE INPUT: true; the input reads as it did. -/
def factsKnowSpec : ChangeSpec := { name := "factsKnow", fn := fun _ => fun
  | [d1, d2] => { results := [.lit (.bool true)], args := [d1, d2] }
  | _ => none }
def factsKnowRow : OpenClaim := { program := "ytedjbmmegjgegaa", sum := "0ac779e1063572cc12841a2b4a00874e69d772bc9ce92e960ad193a782b955f1", func := "chattel/chattellaw07.FactsKnow", spec := "factsKnow", unfollowed := true, recurses := true, plainKeys := false, apart := false }
def FactsKnowSaid : Prop := factsKnowRow.holds Try.pinned (OpenSpec.ofChange factsKnowSpec)

/-- ITS FALSE NEIGHBOUR: 'it returns false'. Refute it at one input. -/
def factsKnowWrong : ChangeSpec := { name := "factsKnow", fn := fun _ => fun
  | [d1, d2] => { results := [.lit (.bool false)], args := [d1, d2] }
  | _ => none }
def FactsKnowWrongFalsely : Prop := factsKnowRow.holds Try.pinned (OpenSpec.ofChange factsKnowWrong)

/-- 'chattellaw07.FactsOrder': WHATEVER THE INPUT: true; the input reads as it did. -/
def factsOrderSpec : ChangeSpec := { name := "factsOrder", fn := fun _ => fun
  | [d1, d2] => { results := [.lit (.bool true)], args := [d1, d2] }
  | _ => none }
def factsOrderRow : OpenClaim := { program := "ytedjbmmegjgegaa", sum := "0ac779e1063572cc12841a2b4a00874e69d772bc9ce92e960ad193a782b955f1", func := "chattel/chattellaw07.FactsOrder", spec := "factsOrder", unfollowed := true, recurses := true, plainKeys := false, apart := false }
def FactsOrderSaid : Prop := factsOrderRow.holds Try.pinned (OpenSpec.ofChange factsOrderSpec)

/-- ITS FALSE NEIGHBOUR: 'it returns false'. Refute it at one input. -/
def factsOrderWrong : ChangeSpec := { name := "factsOrder", fn := fun _ => fun
  | [d1, d2] => { results := [.lit (.bool false)], args := [d1, d2] }
  | _ => none }
def FactsOrderWrongFalsely : Prop := factsOrderRow.holds Try.pinned (OpenSpec.ofChange factsOrderWrong)

/-- 'chattellaw07.FactsCopies': WHATEVER THE INPUT: true; the input reads as it did. -/
def factsCopiesSpec : ChangeSpec := { name := "factsCopies", fn := fun _ => fun
  | [d1, d2] => { results := [.lit (.bool true)], args := [d1, d2] }
  | _ => none }
def factsCopiesRow : OpenClaim := { program := "ytedjbmmegjgegaa", sum := "0ac779e1063572cc12841a2b4a00874e69d772bc9ce92e960ad193a782b955f1", func := "chattel/chattellaw07.FactsCopies", spec := "factsCopies", inPlace := ["maps.clone"], unfollowed := true, recurses := true, plainKeys := false, apart := false }
def FactsCopiesSaid : Prop := factsCopiesRow.holds Try.pinned (OpenSpec.ofChange factsCopiesSpec)

/-- ITS FALSE NEIGHBOUR: 'it returns false'. Refute it at one input. -/
def factsCopiesWrong : ChangeSpec := { name := "factsCopies", fn := fun _ => fun
  | [d1, d2] => { results := [.lit (.bool false)], args := [d1, d2] }
  | _ => none }
def FactsCopiesWrongFalsely : Prop := factsCopiesRow.holds Try.pinned (OpenSpec.ofChange factsCopiesWrong)

/-- 'chattellaw07.FactsNil': WHATEVER THE INPUT: true; the input reads as it did. -/
def factsNilSpec : ChangeSpec := { name := "factsNil", fn := fun _ => fun
  | [d] => { results := [.lit (.bool true)], args := [d] }
  | _ => none }
def factsNilRow : OpenClaim := { program := "ytedjbmmegjgegaa", sum := "0ac779e1063572cc12841a2b4a00874e69d772bc9ce92e960ad193a782b955f1", func := "chattel/chattellaw07.FactsNil", spec := "factsNil", inPlace := ["maps.clone"], unfollowed := true, recurses := true, plainKeys := false, apart := false }
def FactsNilSaid : Prop := factsNilRow.holds Try.pinned (OpenSpec.ofChange factsNilSpec)

/-- ITS FALSE NEIGHBOUR: 'it returns false'. Refute it at one input. -/
def factsNilWrong : ChangeSpec := { name := "factsNil", fn := fun _ => fun
  | [d] => { results := [.lit (.bool false)], args := [d] }
  | _ => none }
def FactsNilWrongFalsely : Prop := factsNilRow.holds Try.pinned (OpenSpec.ofChange factsNilWrong)

/-- 'chattellaw07.FactsFirst': WHATEVER THE INPUT: true; the input reads as it did. -/
def factsFirstSpec : ChangeSpec := { name := "factsFirst", fn := fun _ => fun
  | [d1, d2, d3] => { results := [.lit (.bool true)], args := [d1, d2, d3] }
  | _ => none }
def factsFirstRow : OpenClaim := { program := "ytedjbmmegjgegaa", sum := "0ac779e1063572cc12841a2b4a00874e69d772bc9ce92e960ad193a782b955f1", func := "chattel/chattellaw07.FactsFirst", spec := "factsFirst", unfollowed := true, recurses := true, plainKeys := false, apart := false }
def FactsFirstSaid : Prop := factsFirstRow.holds Try.pinned (OpenSpec.ofChange factsFirstSpec)

/-- ITS FALSE NEIGHBOUR: 'it returns false'. Refute it at one input. -/
def factsFirstWrong : ChangeSpec := { name := "factsFirst", fn := fun _ => fun
  | [d1, d2, d3] => { results := [.lit (.bool false)], args := [d1, d2, d3] }
  | _ => none }
def FactsFirstWrongFalsely : Prop := factsFirstRow.holds Try.pinned (OpenSpec.ofChange factsFirstWrong)

/- THE SECOND FORM. 'bulk': how many values and letters a reading holds, each counted each time it is reached (what is shared counts as often as it is met; a slice's spare places count too). A statement '..UptoSaid' is the law's where the arguments, and the package variables that the reading takes, are together of bulk at most 1048576: NARROWER than '..Said'. Prove '..Said' where nothing that the law and all that it calls make is longer than what came in: it says more and counts as full. Else prove '..UptoSaid'. A law counts once. -/
mutual
def uptoBulk {H : Type} : DataW H → Nat
  | .lit (.string bytes) => bytes.length + 1
  | .lit _ => 1
  | .nil => 1
  | .ptr d => uptoBulk d + 1
  | .slice elems spare => uptoBulkAll elems + uptoBulkAll spare + 1
  | .agg parts => uptoBulkAll parts + 1
  | .iface _ d => uptoBulk d + 1
  | .map entries => uptoBulkEntries entries + 1
  | .held _ => 1
def uptoBulkAll {H : Type} : List (DataW H) → Nat
  | [] => 0
  | d :: r => uptoBulk d + uptoBulkAll r
def uptoBulkEntries {H : Type} : List (Lit × DataW H) → Nat
  | [] => 0
  | x :: r => uptoBulkEntry x + uptoBulkEntries r
def uptoBulkEntry {H : Type} : Lit × DataW H → Nat
  | (.string bytes, d) => bytes.length + uptoBulk d + 1
  | (_, d) => uptoBulk d + 1
 end
def uptoSmall : (H : Type) → List (DataW H) → Bool := fun _ ds => decide (uptoBulkAll ds ≤ 1048576)
def OpenSpec.upto (s : _root_.Go.ChangeSpec) : _root_.Go.OpenSpec := { _root_.Go.OpenSpec.ofChange s with cond := some uptoSmall }

/-- 'chattellaw07.FactsTell', WHERE WHAT IT READS IS OF BULK AT MOST 1048576: true; the input reads as it did. -/
def factsTellUptoRow : OpenClaim := { program := "ytedjbmmegjgegaa", sum := "0ac779e1063572cc12841a2b4a00874e69d772bc9ce92e960ad193a782b955f1", func := "chattel/chattellaw07.FactsTell", spec := "factsTell", unfollowed := true, recurses := true, plainKeys := false, apart := false, narrowed := true }
def FactsTellUptoSaid : Prop := factsTellUptoRow.holds Try.pinned (OpenSpec.upto factsTellSpec)

/-- 'chattellaw07.FactsKnow', WHERE WHAT IT READS IS OF BULK AT MOST 1048576: true; the input reads as it did. -/
def factsKnowUptoRow : OpenClaim := { program := "ytedjbmmegjgegaa", sum := "0ac779e1063572cc12841a2b4a00874e69d772bc9ce92e960ad193a782b955f1", func := "chattel/chattellaw07.FactsKnow", spec := "factsKnow", unfollowed := true, recurses := true, plainKeys := false, apart := false, narrowed := true }
def FactsKnowUptoSaid : Prop := factsKnowUptoRow.holds Try.pinned (OpenSpec.upto factsKnowSpec)

/-- 'chattellaw07.FactsOrder', WHERE WHAT IT READS IS OF BULK AT MOST 1048576: true; the input reads as it did. -/
def factsOrderUptoRow : OpenClaim := { program := "ytedjbmmegjgegaa", sum := "0ac779e1063572cc12841a2b4a00874e69d772bc9ce92e960ad193a782b955f1", func := "chattel/chattellaw07.FactsOrder", spec := "factsOrder", unfollowed := true, recurses := true, plainKeys := false, apart := false, narrowed := true }
def FactsOrderUptoSaid : Prop := factsOrderUptoRow.holds Try.pinned (OpenSpec.upto factsOrderSpec)

/-- 'chattellaw07.FactsCopies', WHERE WHAT IT READS IS OF BULK AT MOST 1048576: true; the input reads as it did. -/
def factsCopiesUptoRow : OpenClaim := { program := "ytedjbmmegjgegaa", sum := "0ac779e1063572cc12841a2b4a00874e69d772bc9ce92e960ad193a782b955f1", func := "chattel/chattellaw07.FactsCopies", spec := "factsCopies", inPlace := ["maps.clone"], unfollowed := true, recurses := true, plainKeys := false, apart := false, narrowed := true }
def FactsCopiesUptoSaid : Prop := factsCopiesUptoRow.holds Try.pinned (OpenSpec.upto factsCopiesSpec)

/-- 'chattellaw07.FactsNil', WHERE WHAT IT READS IS OF BULK AT MOST 1048576: true; the input reads as it did. -/
def factsNilUptoRow : OpenClaim := { program := "ytedjbmmegjgegaa", sum := "0ac779e1063572cc12841a2b4a00874e69d772bc9ce92e960ad193a782b955f1", func := "chattel/chattellaw07.FactsNil", spec := "factsNil", inPlace := ["maps.clone"], unfollowed := true, recurses := true, plainKeys := false, apart := false, narrowed := true }
def FactsNilUptoSaid : Prop := factsNilUptoRow.holds Try.pinned (OpenSpec.upto factsNilSpec)

/-- 'chattellaw07.FactsFirst', WHERE WHAT IT READS IS OF BULK AT MOST 1048576: true; the input reads as it did. -/
def factsFirstUptoRow : OpenClaim := { program := "ytedjbmmegjgegaa", sum := "0ac779e1063572cc12841a2b4a00874e69d772bc9ce92e960ad193a782b955f1", func := "chattel/chattellaw07.FactsFirst", spec := "factsFirst", unfollowed := true, recurses := true, plainKeys := false, apart := false, narrowed := true }
def FactsFirstUptoSaid : Prop := factsFirstUptoRow.holds Try.pinned (OpenSpec.upto factsFirstSpec)

end Rows
end Go.Proofs.Ytedjbmmegjgegaa
