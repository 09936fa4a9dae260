/-
  NARROWER THAN 'FOR EVERY INPUT', by the rows' own cells (each row's printed sentence says how): LogicChecks: loops · LogicTells: loops · LogicOrders: loops · LogicSubsts: loops · LogicResolves: loops.
  DERIVED. THE GIVEN ROWS OF THIS SEAT. 5 by the template 'for every input the law returns true; each argument reads behind the call as it read before'; 0 by the template 'total and deterministic' (their statements: YtpjokapkoeclpaaTotals.lean).
  GIVEN WITH THE SEED: the statements are not yours to turn. If you find one false, say at which input.
  Laid BY PROGRAM, IN A SANDBOX (cutbox-rows.mjs): the forced cells as the released guide's own fill.sh prints them over the translation b59a5e1728f72bef… (all of the seat's roots in one cut). By AI agents, Wed Nov 11 2026. No macro, syntax, notation, axiom, sorry.
-/
import Derived.Test.YtpjokapkoeclpaaChecked
import GoSem.Claim
import GoSem.ClaimJoined
import GoSem.ClaimMapViews
import Derived.JoinedTies
import Derived.KernelRfl
namespace Go.Proofs.Ytpjokapkoeclpaa
/- THE CELL 'sum', in the pinned program and in every row, IS THE sha256 OF THE DUMP (.gsa) THAT YtpjokapkoeclpaaProg.lean LOADS. Nothing in Lean hashes anything: it is a label: what it is worth is what the hold of that sum in a sandbox is worth. -/
noncomputable def Try.pinned : Pinned := { name := "ytpjokapkoeclpaa", sum := "b59a5e1728f72bef95570b1a3e976fdeedbc8a350fa5db145988550d091eb36b", checked := Try.checked }
namespace Rows
def none {H : Type} : Left H := { results := [], args := [] }

/-- 'quantalelaw01.LogicChecks': WHATEVER THE INPUT: true; the input reads as it did. -/
def logicChecksSpec : ChangeSpec := { name := "logicChecks", fn := fun _ => fun
  | [d1, d2, d3] => { results := [.lit (.bool true)], args := [d1, d2, d3] }
  | _ => none }
def logicChecksRow : OpenClaim := { program := "ytpjokapkoeclpaa", sum := "b59a5e1728f72bef95570b1a3e976fdeedbc8a350fa5db145988550d091eb36b", func := "quantale/quantalelaw01.LogicChecks", spec := "logicChecks", inPlace := ["slices.overlaps[quantale/api.Decl]"], unfollowed := true, recurses := true, loops := true, apart := false }
def LogicChecksSaid : Prop := logicChecksRow.holds Try.pinned (OpenSpec.ofChange logicChecksSpec)

/-- ITS FALSE NEIGHBOUR: 'it returns false'. Refute it at one input. -/
def logicChecksWrong : ChangeSpec := { name := "logicChecks", fn := fun _ => fun
  | [d1, d2, d3] => { results := [.lit (.bool false)], args := [d1, d2, d3] }
  | _ => none }
def LogicChecksWrongFalsely : Prop := logicChecksRow.holds Try.pinned (OpenSpec.ofChange logicChecksWrong)

/-- 'quantalelaw01.LogicTells': WHATEVER THE INPUT: true; the input reads as it did. -/
def logicTellsSpec : ChangeSpec := { name := "logicTells", fn := fun _ => fun
  | [d] => { results := [.lit (.bool true)], args := [d] }
  | _ => none }
def logicTellsRow : OpenClaim := { program := "ytpjokapkoeclpaa", sum := "b59a5e1728f72bef95570b1a3e976fdeedbc8a350fa5db145988550d091eb36b", func := "quantale/quantalelaw01.LogicTells", spec := "logicTells", inPlace := ["slices.overlaps[quantale/api.Decl]", "slices.overlaps[quantale/api.Node]"], unfollowed := true, recurses := true, loops := true, apart := false }
def LogicTellsSaid : Prop := logicTellsRow.holds Try.pinned (OpenSpec.ofChange logicTellsSpec)

/-- ITS FALSE NEIGHBOUR: 'it returns false'. Refute it at one input. -/
def logicTellsWrong : ChangeSpec := { name := "logicTells", fn := fun _ => fun
  | [d] => { results := [.lit (.bool false)], args := [d] }
  | _ => none }
def LogicTellsWrongFalsely : Prop := logicTellsRow.holds Try.pinned (OpenSpec.ofChange logicTellsWrong)

/-- 'quantalelaw01.LogicOrders': WHATEVER THE INPUT: true; the input reads as it did. -/
def logicOrdersSpec : ChangeSpec := { name := "logicOrders", fn := fun _ => fun
  | [d1, d2, d3] => { results := [.lit (.bool true)], args := [d1, d2, d3] }
  | _ => none }
def logicOrdersRow : OpenClaim := { program := "ytpjokapkoeclpaa", sum := "b59a5e1728f72bef95570b1a3e976fdeedbc8a350fa5db145988550d091eb36b", func := "quantale/quantalelaw01.LogicOrders", spec := "logicOrders", inPlace := ["slices.overlaps[quantale/api.Decl]"], unfollowed := true, recurses := true, loops := true, apart := false }
def LogicOrdersSaid : Prop := logicOrdersRow.holds Try.pinned (OpenSpec.ofChange logicOrdersSpec)

/-- ITS FALSE NEIGHBOUR: 'it returns false'. Refute it at one input. -/
def logicOrdersWrong : ChangeSpec := { name := "logicOrders", fn := fun _ => fun
  | [d1, d2, d3] => { results := [.lit (.bool false)], args := [d1, d2, d3] }
  | _ => none }
def LogicOrdersWrongFalsely : Prop := logicOrdersRow.holds Try.pinned (OpenSpec.ofChange logicOrdersWrong)

/-- 'quantalelaw01.LogicSubsts': WHATEVER THE INPUT: true; the input reads as it did. -/
def logicSubstsSpec : ChangeSpec := { name := "logicSubsts", fn := fun _ => fun
  | [d1, d2, d3] => { results := [.lit (.bool true)], args := [d1, d2, d3] }
  | _ => none }
def logicSubstsRow : OpenClaim := { program := "ytpjokapkoeclpaa", sum := "b59a5e1728f72bef95570b1a3e976fdeedbc8a350fa5db145988550d091eb36b", func := "quantale/quantalelaw01.LogicSubsts", spec := "logicSubsts", inPlace := ["slices.overlaps[quantale/api.Decl]"], unfollowed := true, recurses := true, loops := true, apart := false }
def LogicSubstsSaid : Prop := logicSubstsRow.holds Try.pinned (OpenSpec.ofChange logicSubstsSpec)

/-- ITS FALSE NEIGHBOUR: 'it returns false'. Refute it at one input. -/
def logicSubstsWrong : ChangeSpec := { name := "logicSubsts", fn := fun _ => fun
  | [d1, d2, d3] => { results := [.lit (.bool false)], args := [d1, d2, d3] }
  | _ => none }
def LogicSubstsWrongFalsely : Prop := logicSubstsRow.holds Try.pinned (OpenSpec.ofChange logicSubstsWrong)

/-- 'quantalelaw01.LogicResolves': WHATEVER THE INPUT: true; the input reads as it did. -/
def logicResolvesSpec : ChangeSpec := { name := "logicResolves", fn := fun _ => fun
  | [d1, d2, d3] => { results := [.lit (.bool true)], args := [d1, d2, d3] }
  | _ => none }
def logicResolvesRow : OpenClaim := { program := "ytpjokapkoeclpaa", sum := "b59a5e1728f72bef95570b1a3e976fdeedbc8a350fa5db145988550d091eb36b", func := "quantale/quantalelaw01.LogicResolves", spec := "logicResolves", inPlace := ["slices.overlaps[quantale/api.Decl]"], unfollowed := true, recurses := true, loops := true, apart := false }
def LogicResolvesSaid : Prop := logicResolvesRow.holds Try.pinned (OpenSpec.ofChange logicResolvesSpec)

/-- ITS FALSE NEIGHBOUR: 'it returns false'. Refute it at one input. -/
def logicResolvesWrong : ChangeSpec := { name := "logicResolves", fn := fun _ => fun
  | [d1, d2, d3] => { results := [.lit (.bool false)], args := [d1, d2, d3] }
  | _ => none }
def LogicResolvesWrongFalsely : Prop := logicResolvesRow.holds Try.pinned (OpenSpec.ofChange logicResolvesWrong)

/- THE SECOND FORM. 'bulk': how many values and letters a reading holds, each counted each time it is reached (what is shared counts as often as it is met; a slice's spare places count too). A statement '..UptoSaid' is the law's where the arguments, and the package variables that the reading takes, are together of bulk at most 1048576: NARROWER than '..Said'. Prove '..Said' where nothing that the law and all that it calls make is longer than what came in: it says more and counts as full. Else prove '..UptoSaid'. A law counts once. -/
mutual
def uptoBulk {H : Type} : DataW H → Nat
  | .lit (.string bytes) => bytes.length + 1
  | .lit _ => 1
  | .nil => 1
  | .ptr d => uptoBulk d + 1
  | .slice elems spare => uptoBulkAll elems + uptoBulkAll spare + 1
  | .agg parts => uptoBulkAll parts + 1
  | .iface _ d => uptoBulk d + 1
  | .map entries => uptoBulkEntries entries + 1
  | .held _ => 1
def uptoBulkAll {H : Type} : List (DataW H) → Nat
  | [] => 0
  | d :: r => uptoBulk d + uptoBulkAll r
def uptoBulkEntries {H : Type} : List (Lit × DataW H) → Nat
  | [] => 0
  | x :: r => uptoBulkEntry x + uptoBulkEntries r
def uptoBulkEntry {H : Type} : Lit × DataW H → Nat
  | (.string bytes, d) => bytes.length + uptoBulk d + 1
  | (_, d) => uptoBulk d + 1
 end
def uptoSmall : (H : Type) → List (DataW H) → Bool := fun _ ds => decide (uptoBulkAll ds ≤ 1048576)
def OpenSpec.upto (s : _root_.Go.ChangeSpec) : _root_.Go.OpenSpec := { _root_.Go.OpenSpec.ofChange s with cond := some uptoSmall }

/-- 'quantalelaw01.LogicChecks', WHERE WHAT IT READS IS OF BULK AT MOST 1048576: true; the input reads as it did. -/
def logicChecksUptoRow : OpenClaim := { program := "ytpjokapkoeclpaa", sum := "b59a5e1728f72bef95570b1a3e976fdeedbc8a350fa5db145988550d091eb36b", func := "quantale/quantalelaw01.LogicChecks", spec := "logicChecks", inPlace := ["slices.overlaps[quantale/api.Decl]"], unfollowed := true, recurses := true, loops := true, apart := false, narrowed := true }
def LogicChecksUptoSaid : Prop := logicChecksUptoRow.holds Try.pinned (OpenSpec.upto logicChecksSpec)

/-- 'quantalelaw01.LogicTells', WHERE WHAT IT READS IS OF BULK AT MOST 1048576: true; the input reads as it did. -/
def logicTellsUptoRow : OpenClaim := { program := "ytpjokapkoeclpaa", sum := "b59a5e1728f72bef95570b1a3e976fdeedbc8a350fa5db145988550d091eb36b", func := "quantale/quantalelaw01.LogicTells", spec := "logicTells", inPlace := ["slices.overlaps[quantale/api.Decl]", "slices.overlaps[quantale/api.Node]"], unfollowed := true, recurses := true, loops := true, apart := false, narrowed := true }
def LogicTellsUptoSaid : Prop := logicTellsUptoRow.holds Try.pinned (OpenSpec.upto logicTellsSpec)

/-- 'quantalelaw01.LogicOrders', WHERE WHAT IT READS IS OF BULK AT MOST 1048576: true; the input reads as it did. -/
def logicOrdersUptoRow : OpenClaim := { program := "ytpjokapkoeclpaa", sum := "b59a5e1728f72bef95570b1a3e976fdeedbc8a350fa5db145988550d091eb36b", func := "quantale/quantalelaw01.LogicOrders", spec := "logicOrders", inPlace := ["slices.overlaps[quantale/api.Decl]"], unfollowed := true, recurses := true, loops := true, apart := false, narrowed := true }
def LogicOrdersUptoSaid : Prop := logicOrdersUptoRow.holds Try.pinned (OpenSpec.upto logicOrdersSpec)

/-- 'quantalelaw01.LogicSubsts', WHERE WHAT IT READS IS OF BULK AT MOST 1048576: true; the input reads as it did. -/
def logicSubstsUptoRow : OpenClaim := { program := "ytpjokapkoeclpaa", sum := "b59a5e1728f72bef95570b1a3e976fdeedbc8a350fa5db145988550d091eb36b", func := "quantale/quantalelaw01.LogicSubsts", spec := "logicSubsts", inPlace := ["slices.overlaps[quantale/api.Decl]"], unfollowed := true, recurses := true, loops := true, apart := false, narrowed := true }
def LogicSubstsUptoSaid : Prop := logicSubstsUptoRow.holds Try.pinned (OpenSpec.upto logicSubstsSpec)

/-- 'quantalelaw01.LogicResolves', WHERE WHAT IT READS IS OF BULK AT MOST 1048576: true; the input reads as it did. -/
def logicResolvesUptoRow : OpenClaim := { program := "ytpjokapkoeclpaa", sum := "b59a5e1728f72bef95570b1a3e976fdeedbc8a350fa5db145988550d091eb36b", func := "quantale/quantalelaw01.LogicResolves", spec := "logicResolves", inPlace := ["slices.overlaps[quantale/api.Decl]"], unfollowed := true, recurses := true, loops := true, apart := false, narrowed := true }
def LogicResolvesUptoSaid : Prop := logicResolvesUptoRow.holds Try.pinned (OpenSpec.upto logicResolvesSpec)

end Rows
end Go.Proofs.Ytpjokapkoeclpaa
