/-
  What the document's own comparing of two nodes, the law's counting and logic's Equal return; conditions: none but that the trees lie in memory.
-/
import Derived.Test.YtmeeombadkgneaaZBase
namespace Go.Proofs.Ytmeeombadkgneaa
open Go.RowKit

theorem less_self : ∀ l : List UInt8, Op.bytesLess l l = false
  | [] => rfl
  | a :: l => by rw [Op.bytesLess, less_self l]; simp

theorem cmpI_ne {a b : Int} (h : a ≠ b) : cmpI a b ≠ 0 := by
  unfold cmpI
  split
  · decide
  · split
    · decide
    · omega
theorem cmpI_self (a : Int) : cmpI a a = 0 := by simp [cmpI]
theorem cmpI_of_eq {a b : Int} (h : a = b) : cmpI a b = 0 := by rw [h, cmpI_self]

/-- What is left of a number when the sizes of nodes are taken from it, as the code counts. -/
def leftOf (m : Int) (ns : List Nd) : Int := ns.foldl (fun s k => wrap64 (s - sizeW k)) m
theorem leftOf_snoc (m : Int) (ks : List Nd) (k : Nat) (hk : k < ks.length) : leftOf m (ks.take (k + 1)) = wrap64 (leftOf m (ks.take k) - sizeW ks[k]) := by
  rw [leftOf, leftOf, List.take_succ_eq_append_getElem hk, List.foldl_append]
  rfl

end Go.Proofs.Ytmeeombadkgneaa
