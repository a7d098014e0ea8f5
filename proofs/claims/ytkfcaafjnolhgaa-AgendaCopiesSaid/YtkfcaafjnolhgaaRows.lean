/-
  No cell of these rows narrows 'for every input' (looked for: loops, veiled, ifaces, maps, wideKeys, modest, calm, conditions, laid).
  DERIVED. THE GIVEN ROWS OF THIS SEAT. 6 by the template 'for every input the law returns true; each argument reads behind the call as it read before'; 0 by the template 'total and deterministic' (their statements: YtkfcaafjnolhgaaTotals.lean).
  GIVEN WITH THE SEED: the statements are not yours to turn. If you find one false, say at which input.
  Laid BY PROGRAM, IN A SANDBOX (cutbox-rows.mjs): the forced cells as the released guide's own fill.sh prints them over the translation 779adcba0df8aa46… (all of the seat's roots in one cut). By AI agents, Wed Nov 11 2026. No macro, syntax, notation, axiom, sorry.
-/
import Derived.Test.YtkfcaafjnolhgaaChecked
import GoSem.Claim
import GoSem.ClaimJoined
import GoSem.ClaimMapViews
import Derived.JoinedTies
import Derived.KernelRfl
namespace Go.Proofs.Ytkfcaafjnolhgaa
/- THE CELL 'sum', in the pinned program and in every row, IS THE sha256 OF THE DUMP (.gsa) THAT YtkfcaafjnolhgaaProg.lean LOADS. Nothing in Lean hashes anything: it is a label: what it is worth is what the hold of that sum in a sandbox is worth. -/
noncomputable def Try.pinned : Pinned := { name := "ytkfcaafjnolhgaa", sum := "779adcba0df8aa4681a93ab90add87aac0a5a53e18b628761f6f6b9deee7606d", checked := Try.checked }
namespace Rows
def none {H : Type} : Left H := { results := [], args := [] }

/-- 'chattellaw11.AgendaRuns': WHATEVER THE INPUT: true; the input reads as it did. -/
def agendaRunsSpec : ChangeSpec := { name := "agendaRuns", fn := fun _ => fun
  | [d] => { results := [.lit (.bool true)], args := [d] }
  | _ => none }
def agendaRunsRow : OpenClaim := { program := "ytkfcaafjnolhgaa", sum := "779adcba0df8aa4681a93ab90add87aac0a5a53e18b628761f6f6b9deee7606d", func := "chattel/chattellaw11.AgendaRuns", spec := "agendaRuns", unfollowed := true, recurses := true, apart := false }
def AgendaRunsSaid : Prop := agendaRunsRow.holds Try.pinned (OpenSpec.ofChange agendaRunsSpec)

/-- ITS FALSE NEIGHBOUR: 'it returns false'. Refute it at one input. -/
def agendaRunsWrong : ChangeSpec := { name := "agendaRuns", fn := fun _ => fun
  | [d] => { results := [.lit (.bool false)], args := [d] }
  | _ => none }
def AgendaRunsWrongFalsely : Prop := agendaRunsRow.holds Try.pinned (OpenSpec.ofChange agendaRunsWrong)

/-- 'chattellaw11.AgendaOrder': WHATEVER THE INPUT: true; the input reads as it did. -/
def agendaOrderSpec : ChangeSpec := { name := "agendaOrder", fn := fun _ => fun
  | [d1, d2] => { results := [.lit (.bool true)], args := [d1, d2] }
  | _ => none }
def agendaOrderRow : OpenClaim := { program := "ytkfcaafjnolhgaa", sum := "779adcba0df8aa4681a93ab90add87aac0a5a53e18b628761f6f6b9deee7606d", func := "chattel/chattellaw11.AgendaOrder", spec := "agendaOrder", unfollowed := true, recurses := true, apart := false }
def AgendaOrderSaid : Prop := agendaOrderRow.holds Try.pinned (OpenSpec.ofChange agendaOrderSpec)

/-- ITS FALSE NEIGHBOUR: 'it returns false'. Refute it at one input. -/
def agendaOrderWrong : ChangeSpec := { name := "agendaOrder", fn := fun _ => fun
  | [d1, d2] => { results := [.lit (.bool false)], args := [d1, d2] }
  | _ => none }
def AgendaOrderWrongFalsely : Prop := agendaOrderRow.holds Try.pinned (OpenSpec.ofChange agendaOrderWrong)

/-- 'chattellaw11.AgendaThere': WHATEVER THE INPUT: true; the input reads as it did. -/
def agendaThereSpec : ChangeSpec := { name := "agendaThere", fn := fun _ => fun
  | [d] => { results := [.lit (.bool true)], args := [d] }
  | _ => none }
def agendaThereRow : OpenClaim := { program := "ytkfcaafjnolhgaa", sum := "779adcba0df8aa4681a93ab90add87aac0a5a53e18b628761f6f6b9deee7606d", func := "chattel/chattellaw11.AgendaThere", spec := "agendaThere", unfollowed := true, recurses := true, apart := false }
def AgendaThereSaid : Prop := agendaThereRow.holds Try.pinned (OpenSpec.ofChange agendaThereSpec)

/-- ITS FALSE NEIGHBOUR: 'it returns false'. Refute it at one input. -/
def agendaThereWrong : ChangeSpec := { name := "agendaThere", fn := fun _ => fun
  | [d] => { results := [.lit (.bool false)], args := [d] }
  | _ => none }
def AgendaThereWrongFalsely : Prop := agendaThereRow.holds Try.pinned (OpenSpec.ofChange agendaThereWrong)

/-- 'chattellaw11.AgendaCopies': WHATEVER THE INPUT: true; the input reads as it did. -/
def agendaCopiesSpec : ChangeSpec := { name := "agendaCopies", fn := fun _ => fun
  | [d1, d2] => { results := [.lit (.bool true)], args := [d1, d2] }
  | _ => none }
def agendaCopiesRow : OpenClaim := { program := "ytkfcaafjnolhgaa", sum := "779adcba0df8aa4681a93ab90add87aac0a5a53e18b628761f6f6b9deee7606d", func := "chattel/chattellaw11.AgendaCopies", spec := "agendaCopies", inPlace := ["maps.clone"], unfollowed := true, recurses := true, apart := false }
def AgendaCopiesSaid : Prop := agendaCopiesRow.holds Try.pinned (OpenSpec.ofChange agendaCopiesSpec)

/-- ITS FALSE NEIGHBOUR: 'it returns false'. Refute it at one input. -/
def agendaCopiesWrong : ChangeSpec := { name := "agendaCopies", fn := fun _ => fun
  | [d1, d2] => { results := [.lit (.bool false)], args := [d1, d2] }
  | _ => none }
def AgendaCopiesWrongFalsely : Prop := agendaCopiesRow.holds Try.pinned (OpenSpec.ofChange agendaCopiesWrong)

/-- 'chattellaw11.AgendaNil': WHATEVER THE INPUT: true; the input reads as it did. -/
def agendaNilSpec : ChangeSpec := { name := "agendaNil", fn := fun _ => fun
  | [d] => { results := [.lit (.bool true)], args := [d] }
  | _ => none }
def agendaNilRow : OpenClaim := { program := "ytkfcaafjnolhgaa", sum := "779adcba0df8aa4681a93ab90add87aac0a5a53e18b628761f6f6b9deee7606d", func := "chattel/chattellaw11.AgendaNil", spec := "agendaNil", inPlace := ["maps.clone"], unfollowed := true, recurses := true, apart := false }
def AgendaNilSaid : Prop := agendaNilRow.holds Try.pinned (OpenSpec.ofChange agendaNilSpec)

/-- ITS FALSE NEIGHBOUR: 'it returns false'. Refute it at one input. -/
def agendaNilWrong : ChangeSpec := { name := "agendaNil", fn := fun _ => fun
  | [d] => { results := [.lit (.bool false)], args := [d] }
  | _ => none }
def AgendaNilWrongFalsely : Prop := agendaNilRow.holds Try.pinned (OpenSpec.ofChange agendaNilWrong)

/-- 'chattellaw11.AgendaMoves': WHATEVER THE INPUT: true; the input reads as it did. -/
def agendaMovesSpec : ChangeSpec := { name := "agendaMoves", fn := fun _ => fun
  | [d1, d2, d3] => { results := [.lit (.bool true)], args := [d1, d2, d3] }
  | _ => none }
def agendaMovesRow : OpenClaim := { program := "ytkfcaafjnolhgaa", sum := "779adcba0df8aa4681a93ab90add87aac0a5a53e18b628761f6f6b9deee7606d", func := "chattel/chattellaw11.AgendaMoves", spec := "agendaMoves", unfollowed := true, recurses := true, apart := false }
def AgendaMovesSaid : Prop := agendaMovesRow.holds Try.pinned (OpenSpec.ofChange agendaMovesSpec)

/-- ITS FALSE NEIGHBOUR: 'it returns false'. Refute it at one input. -/
def agendaMovesWrong : ChangeSpec := { name := "agendaMoves", fn := fun _ => fun
  | [d1, d2, d3] => { results := [.lit (.bool false)], args := [d1, d2, d3] }
  | _ => none }
def AgendaMovesWrongFalsely : Prop := agendaMovesRow.holds Try.pinned (OpenSpec.ofChange agendaMovesWrong)

/- THE SECOND FORM. 'bulk': how many values and letters a reading holds, each counted each time it is reached (what is shared counts as often as it is met; a slice's spare places count too). A statement '..UptoSaid' is the law's where the arguments, and the package variables that the reading takes, are together of bulk at most 1048576: NARROWER than '..Said'. Prove '..Said' where nothing that the law and all that it calls make is longer than what came in: it says more and counts as full. Else prove '..UptoSaid'. A law counts once. -/
mutual
def uptoBulk {H : Type} : DataW H → Nat
  | .lit (.string bytes) => bytes.length + 1
  | .lit _ => 1
  | .nil => 1
  | .ptr d => uptoBulk d + 1
  | .slice elems spare => uptoBulkAll elems + uptoBulkAll spare + 1
  | .agg parts => uptoBulkAll parts + 1
  | .iface _ d => uptoBulk d + 1
  | .map entries => uptoBulkEntries entries + 1
  | .held _ => 1
def uptoBulkAll {H : Type} : List (DataW H) → Nat
  | [] => 0
  | d :: r => uptoBulk d + uptoBulkAll r
def uptoBulkEntries {H : Type} : List (Lit × DataW H) → Nat
  | [] => 0
  | x :: r => uptoBulkEntry x + uptoBulkEntries r
def uptoBulkEntry {H : Type} : Lit × DataW H → Nat
  | (.string bytes, d) => bytes.length + uptoBulk d + 1
  | (_, d) => uptoBulk d + 1
 end
def uptoSmall : (H : Type) → List (DataW H) → Bool := fun _ ds => decide (uptoBulkAll ds ≤ 1048576)
def OpenSpec.upto (s : _root_.Go.ChangeSpec) : _root_.Go.OpenSpec := { _root_.Go.OpenSpec.ofChange s with cond := some uptoSmall }

/-- 'chattellaw11.AgendaRuns', WHERE WHAT IT READS IS OF BULK AT MOST 1048576: true; the input reads as it did. -/
def agendaRunsUptoRow : OpenClaim := { program := "ytkfcaafjnolhgaa", sum := "779adcba0df8aa4681a93ab90add87aac0a5a53e18b628761f6f6b9deee7606d", func := "chattel/chattellaw11.AgendaRuns", spec := "agendaRuns", unfollowed := true, recurses := true, apart := false, narrowed := true }
def AgendaRunsUptoSaid : Prop := agendaRunsUptoRow.holds Try.pinned (OpenSpec.upto agendaRunsSpec)

/-- 'chattellaw11.AgendaOrder', WHERE WHAT IT READS IS OF BULK AT MOST 1048576: true; the input reads as it did. -/
def agendaOrderUptoRow : OpenClaim := { program := "ytkfcaafjnolhgaa", sum := "779adcba0df8aa4681a93ab90add87aac0a5a53e18b628761f6f6b9deee7606d", func := "chattel/chattellaw11.AgendaOrder", spec := "agendaOrder", unfollowed := true, recurses := true, apart := false, narrowed := true }
def AgendaOrderUptoSaid : Prop := agendaOrderUptoRow.holds Try.pinned (OpenSpec.upto agendaOrderSpec)

/-- 'chattellaw11.AgendaThere', WHERE WHAT IT READS IS OF BULK AT MOST 1048576: true; the input reads as it did. -/
def agendaThereUptoRow : OpenClaim := { program := "ytkfcaafjnolhgaa", sum := "779adcba0df8aa4681a93ab90add87aac0a5a53e18b628761f6f6b9deee7606d", func := "chattel/chattellaw11.AgendaThere", spec := "agendaThere", unfollowed := true, recurses := true, apart := false, narrowed := true }
def AgendaThereUptoSaid : Prop := agendaThereUptoRow.holds Try.pinned (OpenSpec.upto agendaThereSpec)

/-- 'chattellaw11.AgendaCopies', WHERE WHAT IT READS IS OF BULK AT MOST 1048576: true; the input reads as it did. -/
def agendaCopiesUptoRow : OpenClaim := { program := "ytkfcaafjnolhgaa", sum := "779adcba0df8aa4681a93ab90add87aac0a5a53e18b628761f6f6b9deee7606d", func := "chattel/chattellaw11.AgendaCopies", spec := "agendaCopies", inPlace := ["maps.clone"], unfollowed := true, recurses := true, apart := false, narrowed := true }
def AgendaCopiesUptoSaid : Prop := agendaCopiesUptoRow.holds Try.pinned (OpenSpec.upto agendaCopiesSpec)

/-- 'chattellaw11.AgendaNil', WHERE WHAT IT READS IS OF BULK AT MOST 1048576: true; the input reads as it did. -/
def agendaNilUptoRow : OpenClaim := { program := "ytkfcaafjnolhgaa", sum := "779adcba0df8aa4681a93ab90add87aac0a5a53e18b628761f6f6b9deee7606d", func := "chattel/chattellaw11.AgendaNil", spec := "agendaNil", inPlace := ["maps.clone"], unfollowed := true, recurses := true, apart := false, narrowed := true }
def AgendaNilUptoSaid : Prop := agendaNilUptoRow.holds Try.pinned (OpenSpec.upto agendaNilSpec)

/-- 'chattellaw11.AgendaMoves', WHERE WHAT IT READS IS OF BULK AT MOST 1048576: true; the input reads as it did. -/
def agendaMovesUptoRow : OpenClaim := { program := "ytkfcaafjnolhgaa", sum := "779adcba0df8aa4681a93ab90add87aac0a5a53e18b628761f6f6b9deee7606d", func := "chattel/chattellaw11.AgendaMoves", spec := "agendaMoves", unfollowed := true, recurses := true, apart := false, narrowed := true }
def AgendaMovesUptoSaid : Prop := agendaMovesUptoRow.holds Try.pinned (OpenSpec.upto agendaMovesSpec)

end Rows
end Go.Proofs.Ytkfcaafjnolhgaa
