/-
  The phrase not of the document's own parser answers as the grammar says, when those within do; conditions: the text is no longer than a string can be.
-/
import Derived.Test.YtgkjcimgghflmaaGreatDoorYRl3
namespace Go.Proofs.YtgkjcimgghflmaaGreatDoor
open Go.RowKit Go.Shelf
attribute [local go_sem] Oper.semAt_some
/-- The result's block, before anything is in it. -/
structure CarryX (p : Nat) (W : World) (x : Nat) (w : World) : Prop where
  fr : Fr p W w
  px : p < x
  xs : x = W.heap.size
  box : w.heap[x]? = some (.cells zero5 27 (0, 0))
end Go.Proofs.YtgkjcimgghflmaaGreatDoor
