/-
  What the document's has, at and truth return; conditions: the lists lie in memory, indices are ascending.
-/
import Derived.Test.YtmeeombadkgneaaZEv1
namespace Go.Proofs.Ytmeeombadkgneaa
open Go.Proofs Go.RowKit Go.Shelf Go.Sort Go.Lib

attribute [local go_sem] Oper.semAt_some
theorem atI_hit {ix xs : List Int} {n : Int} (ha : AscI ix) (hlen : xs.length = ix.length) {k : Nat} (hk : k < ix.length) (e : ix[k] = n) : atI ix xs n = xs[k]'(by omega) := by
  have hm : n ∈ ix := by rw [← e]; exact List.getElem_mem hk
  have hp : plI ix n = k := plI_split n (by omega)
    (fun t ht htk => by rw [← e]; exact List.pairwise_iff_getElem.1 ha t k ht hk htk)
    (fun t ht htk => by
      by_cases h : k = t
      · subst h; omega
      · have := List.pairwise_iff_getElem.1 ha k t hk ht (by omega); omega)
  unfold atI
  rw [if_pos hm, hp, List.getD_eq_getElem?_getD, List.getElem?_eq_getElem (by omega)]
  rfl
end Go.Proofs.Ytmeeombadkgneaa
