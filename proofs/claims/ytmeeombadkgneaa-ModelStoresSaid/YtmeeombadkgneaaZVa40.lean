/-
  What the law ModelSets returns: true; conditions: the model and the entry lie in memory.
-/
import Derived.Test.YtmeeombadkgneaaZVa36
namespace Go.Proofs.Ytmeeombadkgneaa
open Go.Proofs Go.RowKit Go.Shelf Go.Sort Go.Lib

attribute [local go_sem] Oper.semAt_some
/-- A value without lists. -/
def plV (so nu : Int) : VA := ⟨⟨so, nu, [], [], []⟩, none, 0, none, 0, none, 0⟩
theorem lies_plV (w : World) (so nu : Int) : LiesV w (plV so nu) := ⟨ints_zero w, ints_zero w, ints_zero w, by simp [plV], by simp [plV], by simp [plV]⟩
theorem vv_plV (so nu : Int) : vv (plV so nu) = pv so nu := rfl
/-- What one round of the law's second loop finds. -/
theorem yieldV (x y : VA) : (cmpV x.v y.v == 0) = sameB x.v y.v := same_eq _ _
end Go.Proofs.Ytmeeombadkgneaa
