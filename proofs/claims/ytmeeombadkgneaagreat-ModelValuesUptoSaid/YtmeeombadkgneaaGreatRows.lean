/-
  NARROWER THAN 'FOR EVERY INPUT', by the rows' own cells (each row's printed sentence says how): ModelValues: loops · ModelReplaces: loops.
  DERIVED. THE GIVEN ROWS OF THIS SEAT. 3 by the template 'for every input the law returns true; each argument reads behind the call as it read before'; 0 by the template 'total and deterministic' (their statements: YtmeeombadkgneaaGreatTotals.lean).
  GIVEN WITH THE SEED: the statements are not yours to turn. If you find one false, say at which input.
  Laid BY PROGRAM, IN A SANDBOX (cutbox-rows.mjs): the forced cells as the released guide's own fill.sh prints them over the translation 7a00c5a527e155a8… (all of the seat's roots in one cut). By AI agents, Wed Nov 11 2026. No macro, syntax, notation, axiom, sorry.
-/
import Derived.Test.YtmeeombadkgneaaGreatChecked
import GoSem.Claim
import GoSem.ClaimJoined
import GoSem.ClaimMapViews
import Derived.JoinedTies
import Derived.KernelRfl
namespace Go.Proofs.YtmeeombadkgneaaGreat
/- THE CELL 'sum', in the pinned program and in every row, IS THE sha256 OF THE DUMP (.gsa) THAT YtmeeombadkgneaaGreatProg.lean LOADS. Nothing in Lean hashes anything: it is a label: what it is worth is what the hold of that sum in a sandbox is worth. -/
noncomputable def Tryz.pinned : Pinned := { name := "ytmeeombadkgneaagreat", sum := "7a00c5a527e155a8d2cc3a18d7b15b5bd69d2175baeef2f0762b34b525fd0460", checked := Tryz.checked }
namespace Rows
def none {H : Type} : Left H := { results := [], args := [] }

/-- 'quantalelaw03.ModelSets': WHATEVER THE INPUT: true; the input reads as it did. -/
def modelSetsSpec : ChangeSpec := { name := "modelSets", fn := fun _ => fun
  | [d1, d2] => { results := [.lit (.bool true)], args := [d1, d2] }
  | _ => none }
def modelSetsRow : OpenClaim := { program := "ytmeeombadkgneaagreat", sum := "7a00c5a527e155a8d2cc3a18d7b15b5bd69d2175baeef2f0762b34b525fd0460", func := "quantale/quantalelaw03.ModelSets", spec := "modelSets", unfollowed := true, recurses := true, apart := false }
def ModelSetsSaid : Prop := modelSetsRow.holds Tryz.pinned (OpenSpec.ofChange modelSetsSpec)

/-- ITS FALSE NEIGHBOUR: 'it returns false'. Refute it at one input. -/
def modelSetsWrong : ChangeSpec := { name := "modelSets", fn := fun _ => fun
  | [d1, d2] => { results := [.lit (.bool false)], args := [d1, d2] }
  | _ => none }
def ModelSetsWrongFalsely : Prop := modelSetsRow.holds Tryz.pinned (OpenSpec.ofChange modelSetsWrong)

/-- 'quantalelaw03.ModelValues': WHATEVER THE INPUT: true; the input reads as it did. -/
def modelValuesSpec : ChangeSpec := { name := "modelValues", fn := fun _ => fun
  | [d1, d2] => { results := [.lit (.bool true)], args := [d1, d2] }
  | _ => none }
def modelValuesRow : OpenClaim := { program := "ytmeeombadkgneaagreat", sum := "7a00c5a527e155a8d2cc3a18d7b15b5bd69d2175baeef2f0762b34b525fd0460", func := "quantale/quantalelaw03.ModelValues", spec := "modelValues", unfollowed := true, recurses := true, loops := true, apart := false }
def ModelValuesSaid : Prop := modelValuesRow.holds Tryz.pinned (OpenSpec.ofChange modelValuesSpec)

/-- ITS FALSE NEIGHBOUR: 'it returns false'. Refute it at one input. -/
def modelValuesWrong : ChangeSpec := { name := "modelValues", fn := fun _ => fun
  | [d1, d2] => { results := [.lit (.bool false)], args := [d1, d2] }
  | _ => none }
def ModelValuesWrongFalsely : Prop := modelValuesRow.holds Tryz.pinned (OpenSpec.ofChange modelValuesWrong)

/-- 'quantalelaw03.ModelReplaces': WHATEVER THE INPUT: true; the input reads as it did. -/
def modelReplacesSpec : ChangeSpec := { name := "modelReplaces", fn := fun _ => fun
  | [d1, d2, d3, d4] => { results := [.lit (.bool true)], args := [d1, d2, d3, d4] }
  | _ => none }
def modelReplacesRow : OpenClaim := { program := "ytmeeombadkgneaagreat", sum := "7a00c5a527e155a8d2cc3a18d7b15b5bd69d2175baeef2f0762b34b525fd0460", func := "quantale/quantalelaw03.ModelReplaces", spec := "modelReplaces", unfollowed := true, recurses := true, loops := true, apart := false }
def ModelReplacesSaid : Prop := modelReplacesRow.holds Tryz.pinned (OpenSpec.ofChange modelReplacesSpec)

/-- ITS FALSE NEIGHBOUR: 'it returns false'. Refute it at one input. -/
def modelReplacesWrong : ChangeSpec := { name := "modelReplaces", fn := fun _ => fun
  | [d1, d2, d3, d4] => { results := [.lit (.bool false)], args := [d1, d2, d3, d4] }
  | _ => none }
def ModelReplacesWrongFalsely : Prop := modelReplacesRow.holds Tryz.pinned (OpenSpec.ofChange modelReplacesWrong)

/- THE SECOND FORM. 'bulk': how many values and letters a reading holds, each counted each time it is reached (what is shared counts as often as it is met; a slice's spare places count too). A statement '..UptoSaid' is the law's where the arguments, and the package variables that the reading takes, are together of bulk at most 1048576: NARROWER than '..Said'. Prove '..Said' where nothing that the law and all that it calls make is longer than what came in: it says more and counts as full. Else prove '..UptoSaid'. A law counts once. -/
mutual
def uptoBulk {H : Type} : DataW H → Nat
  | .lit (.string bytes) => bytes.length + 1
  | .lit _ => 1
  | .nil => 1
  | .ptr d => uptoBulk d + 1
  | .slice elems spare => uptoBulkAll elems + uptoBulkAll spare + 1
  | .agg parts => uptoBulkAll parts + 1
  | .iface _ d => uptoBulk d + 1
  | .map entries => uptoBulkEntries entries + 1
  | .held _ => 1
def uptoBulkAll {H : Type} : List (DataW H) → Nat
  | [] => 0
  | d :: r => uptoBulk d + uptoBulkAll r
def uptoBulkEntries {H : Type} : List (Lit × DataW H) → Nat
  | [] => 0
  | x :: r => uptoBulkEntry x + uptoBulkEntries r
def uptoBulkEntry {H : Type} : Lit × DataW H → Nat
  | (.string bytes, d) => bytes.length + uptoBulk d + 1
  | (_, d) => uptoBulk d + 1
 end
def uptoSmall : (H : Type) → List (DataW H) → Bool := fun _ ds => decide (uptoBulkAll ds ≤ 1048576)
def OpenSpec.upto (s : _root_.Go.ChangeSpec) : _root_.Go.OpenSpec := { _root_.Go.OpenSpec.ofChange s with cond := some uptoSmall }

/-- 'quantalelaw03.ModelSets', WHERE WHAT IT READS IS OF BULK AT MOST 1048576: true; the input reads as it did. -/
def modelSetsUptoRow : OpenClaim := { program := "ytmeeombadkgneaagreat", sum := "7a00c5a527e155a8d2cc3a18d7b15b5bd69d2175baeef2f0762b34b525fd0460", func := "quantale/quantalelaw03.ModelSets", spec := "modelSets", unfollowed := true, recurses := true, apart := false, narrowed := true }
def ModelSetsUptoSaid : Prop := modelSetsUptoRow.holds Tryz.pinned (OpenSpec.upto modelSetsSpec)

/-- 'quantalelaw03.ModelValues', WHERE WHAT IT READS IS OF BULK AT MOST 1048576: true; the input reads as it did. -/
def modelValuesUptoRow : OpenClaim := { program := "ytmeeombadkgneaagreat", sum := "7a00c5a527e155a8d2cc3a18d7b15b5bd69d2175baeef2f0762b34b525fd0460", func := "quantale/quantalelaw03.ModelValues", spec := "modelValues", unfollowed := true, recurses := true, loops := true, apart := false, narrowed := true }
def ModelValuesUptoSaid : Prop := modelValuesUptoRow.holds Tryz.pinned (OpenSpec.upto modelValuesSpec)

/-- 'quantalelaw03.ModelReplaces', WHERE WHAT IT READS IS OF BULK AT MOST 1048576: true; the input reads as it did. -/
def modelReplacesUptoRow : OpenClaim := { program := "ytmeeombadkgneaagreat", sum := "7a00c5a527e155a8d2cc3a18d7b15b5bd69d2175baeef2f0762b34b525fd0460", func := "quantale/quantalelaw03.ModelReplaces", spec := "modelReplaces", unfollowed := true, recurses := true, loops := true, apart := false, narrowed := true }
def ModelReplacesUptoSaid : Prop := modelReplacesUptoRow.holds Tryz.pinned (OpenSpec.upto modelReplacesSpec)

end Rows
end Go.Proofs.YtmeeombadkgneaaGreat
