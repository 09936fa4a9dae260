/-
  What the document's own Vars returns; conditions: the tree lies in memory and has few nodes.
-/
import Derived.Lib.SmallJoins
import Derived.Test.YtgkjcimgghflmaaGreatDoorYRefSorted
import Derived.Test.YtgkjcimgghflmaaGreatDoorYCheck
import Derived.Test.YtgkjcimgghflmaaGreatDoorYComp
namespace Go.Proofs.YtgkjcimgghflmaaGreatDoor
open Go.RowKit Go.Shelf
attribute [local go_sem] Oper.semAt_some
theorem ownsRow_below {w w' : World} {base : Nat} {e : TypeId} {size : Nat} {v : Value} {n : Nat} {xs : List Value} (h : w.ownsRow base e size v n xs) (hb : Below w.heap.size w w') : w'.ownsRow base e size v n xs := by
  refine ⟨h.1, ?_⟩
  rcases h.2 with h | ⟨g, cap, cur, hv, h1, h2, h3⟩
  · exact .inl h
  · exact .inr ⟨g, cap, cur, hv, h1, (hb.block g (Array.getElem?_eq_some_iff.1 h2).1).trans h2, h3⟩
theorem ownsRow_alloc {w : World} {base : Nat} {e : TypeId} {size : Nat} {v : Value} {n : Nat} {xs : List Value} (h : w.ownsRow base e size v n xs) (O : Obj) : (w.alloc O).ownsRow base e size v n xs :=
  ownsRow_below h ((Below.refl _ _).alloc (Nat.le_refl _) _)
end Go.Proofs.YtgkjcimgghflmaaGreatDoor
namespace Go.Proofs.YtgkjcimgghflmaaGreatDoor
open Go.RowKit Go.Shelf
attribute [local go_sem] Oper.semAt_some
theorem toList_inj {a b : ByteArray} (h : a.toList = b.toList) : a = b := by
  rw [ByteArray.toList_eq, ByteArray.toList_eq] at h
  cases a; cases b
  simp only [ByteArray.mk.injEq]
  exact Array.toList_inj.1 h
end Go.Proofs.YtgkjcimgghflmaaGreatDoor
