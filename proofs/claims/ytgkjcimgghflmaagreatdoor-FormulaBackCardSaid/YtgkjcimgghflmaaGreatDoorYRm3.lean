/-
  What a word's arguments are read to by the document's own parser; conditions: the text is no longer than a string can be, and what is called within answers as it is asked to.
-/
import Derived.Test.YtgkjcimgghflmaaGreatDoorYRl5
import Derived.Test.YtgkjcimgghflmaaGreatDoorYPw0
namespace Go.Proofs.YtgkjcimgghflmaaGreatDoor
open Go.RowKit Go.Shelf
attribute [local go_sem] Oper.semAt_some
/-- In the midst of a list of phrases: the result's box, the node's box with the list that grows. -/
structure KD (p : Nat) (W : World) (nb : Nat) (op : Int) (nm : ByteArray) (v : Value) (xs : List NdA) (w : World) : Prop where
  cx : CarryX p W W.heap.size w
  gt : W.heap.size < nb
  box : w.heap[nb]? = some (.cells #[.int .i64 op, .int .i64 0, .string nm, .int .i64 0, v] 27 (0, 0))
  gr : Grows (nb + 1) w v xs
end Go.Proofs.YtgkjcimgghflmaaGreatDoor
