/-
  What the phrases of the document's own parser do when it has met an error: nothing, and they hand back the zero node; conditions: the text is no longer than a string can be.
-/
import Derived.Test.YtgkjcimgghflmaaGreatDoorYRq0
namespace Go.Proofs.YtgkjcimgghflmaaGreatDoor
open Go.RowKit Go.Shelf
attribute [local go_sem] Oper.semAt_some
theorem info27s : (Tryz.prog.info? 27).map (·.size) = some 5 := by kernel_rfl
/-- The result of a function that hands back the node in its result's block. -/
theorem res27 {fn : Func} {q : Tmp} (h : fn.results = #[.cell q 27]) (tmps : Array Value) (w : World) (g : Nat) (v0 v1 v2 v3 v4 : Value) (hp : tmps.getD q undef = .pointer (some ⟨g, 0, none⟩)) (hg : w.heap[g]? = some (.cells #[v0, v1, v2, v3, v4] 27 (0, 0))) :
    (results fn tmps).run Tryz.prog w = .ok (.agg #[v0, v1, v2, v3, v4]) w :=
  results_cell_row h tmps w g 27 _ (0, 0) _ hp hg Tryz.underlying27 rfl info27s
/-- What is known of a block of five cells. -/
structure BoxF (w : World) (g : Nat) (v0 v1 v2 v3 v4 : Value) : Prop where
  z0 : w.cell? ⟨g, 0, none⟩ = some v0
  z1 : w.cell? ⟨g, 1, none⟩ = some v1
  z2 : w.cell? ⟨g, 2, none⟩ = some v2
  z3 : w.cell? ⟨g, 3, none⟩ = some v3
  z4 : w.cell? ⟨g, 4, none⟩ = some v4
  f0 : w.frozen? ⟨g, 0, none⟩ = false
  f1 : w.frozen? ⟨g, 1, none⟩ = false
  f2 : w.frozen? ⟨g, 2, none⟩ = false
  f3 : w.frozen? ⟨g, 3, none⟩ = false
  f4 : w.frozen? ⟨g, 4, none⟩ = false
theorem box_facts {w : World} {g : Nat} {v0 v1 v2 v3 v4 : Value} (h : w.heap[g]? = some (.cells #[v0, v1, v2, v3, v4] 27 (0, 0))) : BoxF w g v0 v1 v2 v3 v4 :=
  ⟨cell_row h rfl, cell_row h rfl, cell_row h rfl, cell_row h rfl, cell_row h rfl, frozen_of_row _ _ _ _ _ h, frozen_of_row _ _ _ _ _ h, frozen_of_row _ _ _ _ _ h, frozen_of_row _ _ _ _ _ h, frozen_of_row _ _ _ _ _ h⟩
end Go.Proofs.YtgkjcimgghflmaaGreatDoor
