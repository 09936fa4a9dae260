/-
  What the document's insert returns of an ascending list and a number; conditions: the list lies in memory.
  What the document's combine returns of two sets at an intersection and a difference; conditions: the lists lie in memory.
  What the document's combine returns of two ascending sets at a union; conditions: the lists lie in memory.
  What the document's number and scaled return; conditions: the factors are within their bounds.
  What the document's lookup returns of a name and arguments; conditions: the model and the arguments lie in memory.
  What find gives of a model's table is what lookup gives of the model; and a small product is the document's; conditions: none.
-/
import Derived.Test.YtmeeombadkgneaaZEv12
import Derived.Test.YtmeeombadkgneaaZEv4
import Derived.Test.YtmeeombadkgneaaZEv9
namespace Go.Proofs.Ytmeeombadkgneaa
open Go.Proofs Go.RowKit Go.Shelf Go.Sort Go.Lib

attribute [local go_sem] Oper.semAt_some
theorem uniI_one_lt {n x : Int} (l : List Int) (h : n < x) : uniI [n] (x :: l) = n :: x :: l := by rw [uniI_lt _ _ h, uniI]
theorem uniI_one_gt {n x : Int} (l : List Int) (h : x < n) : uniI [n] (x :: l) = x :: uniI [n] l := uniI_gt _ _ h
theorem uniI_one_in : ∀ {l : List Int} {n : Int}, AscI l → n ∈ l → uniI [n] l = l
  | [], _, _, h => by simp at h
  | x :: l, n, ha, h => by
    have ha' := List.pairwise_cons.1 ha
    rcases List.mem_cons.1 h with rfl | h
    · rw [uniI_eq _ _ rfl, uniI]
    · rw [uniI_one_gt l (ha'.1 n h), uniI_one_in ha'.2 h]
end Go.Proofs.Ytmeeombadkgneaa
namespace Go.Proofs.Ytmeeombadkgneaa
open Go.Proofs Go.RowKit Go.Shelf Go.Sort Go.Lib

attribute [local go_sem] Oper.semAt_some
end Go.Proofs.Ytmeeombadkgneaa
namespace Go.Proofs.Ytmeeombadkgneaa
open Go.Proofs Go.RowKit Go.Shelf Go.Sort Go.Lib

attribute [local go_sem] Oper.semAt_some
theorem asc_one (n : Int) : AscI [n] := List.pairwise_singleton _ _
end Go.Proofs.Ytmeeombadkgneaa
namespace Go.Proofs.Ytmeeombadkgneaa
open Go.Proofs Go.RowKit Go.Shelf Go.Sort Go.Lib

attribute [local go_sem] Oper.semAt_some
/-- A product, or that it is too great. -/
def sclI (c n : Int) : Int := if bndB (c * n) = true then c * n else 0
theorem scl_test {c n : Int} (hc : 0 < c) : (n ≤ (1152921504606846976 : Int).tdiv c ∧ -((1152921504606846976 : Int).tdiv c) ≤ n) ↔ bndB (c * n) = true := by
  have hd : (1152921504606846976 : Int).tdiv c = 1152921504606846976 / c := Int.tdiv_eq_ediv_of_nonneg (by omega)
  rw [hd]
  have h1 : n ≤ 1152921504606846976 / c ↔ n * c ≤ 1152921504606846976 := Int.le_ediv_iff_mul_le hc
  have h2 : -n ≤ 1152921504606846976 / c ↔ -n * c ≤ 1152921504606846976 := Int.le_ediv_iff_mul_le hc
  have e : n * c = c * n := Int.mul_comm _ _
  have e2 : -n * c = -(c * n) := by rw [Int.neg_mul, Int.mul_comm]
  rw [e] at h1
  rw [e2] at h2
  unfold bndB
  rw [decide_eq_true_iff]
  constructor
  · rintro ⟨a, b⟩
    exact ⟨by have := h2.1 (by omega); omega, h1.1 a⟩
  · rintro ⟨a, b⟩
    exact ⟨h1.2 b, by have := h2.2 (by omega); omega⟩
end Go.Proofs.Ytmeeombadkgneaa
namespace Go.Proofs.Ytmeeombadkgneaa
open Go.Proofs Go.RowKit Go.Shelf Go.Sort Go.Lib

attribute [local go_sem] Oper.semAt_some
def LookR (l : List EA) (nm : ByteArray) (args : List VA) (so : Int) (v : VA) : Prop :=
  (∃ (k : Nat) (h : k < l.length), placeB l[k] (skA nm args none 0 so) = true ∧ v = l[k].val) ∨ ((∀ j (h : j < l.length), placeB l[j] (skA nm args none 0 so) = false) ∧ v = plV2 so)
end Go.Proofs.Ytmeeombadkgneaa
namespace Go.Proofs.Ytmeeombadkgneaa
open Go.Proofs Go.RowKit Go.Shelf Go.Sort Go.Lib

theorem asc_same {t : List EA} (ha : Asc t) {x y : EA} (hx : x ∈ t) (hy : y ∈ t) (hz : cmpE x y = 0) : x = y := by
  obtain ⟨i, hi, rfl⟩ := List.getElem_of_mem hx
  obtain ⟨j, hj, rfl⟩ := List.getElem_of_mem hy
  by_cases e : i = j
  · subst e; rfl
  · by_cases h : i < j
    · have := List.pairwise_iff_getElem.1 ha i j hi hj h
      omega
    · have h1 := List.pairwise_iff_getElem.1 ha j i hj hi (by omega)
      have h2 := laws_E.neg t[i] t[j]
      omega
theorem place_iff (x y : EA) : placeB x y = true ↔ cmpE x y = 0 := by rw [← place_eq, beq_iff_eq]
theorem find_lookup {l t : List EA} (hp : t.Perm l) (ha : Asc t) {nm : ByteArray} {args : List VA} {so : Int} {u v : VA} (hu : FindR t nm args so u) (hv : LookR l nm args so v) : u = v := by
  rcases hu with ⟨j, hj, hz, rfl⟩ | ⟨hno, rfl⟩
  · rcases hv with ⟨k, hk, hpl, rfl⟩ | ⟨hno, rfl⟩
    · have e : t[j] = l[k] := asc_same ha (List.getElem_mem hj) (hp.mem_iff.2 (List.getElem_mem hk)) (same_place ((place_iff _ _).2 hz) hpl)
      rw [e]
    · obtain ⟨k, hk, e⟩ := List.getElem_of_mem (hp.mem_iff.1 (List.getElem_mem hj))
      have h := hno k hk
      rw [e, (place_iff _ _).2 hz] at h
      cases h
  · rcases hv with ⟨k, hk, hpl, rfl⟩ | ⟨_, rfl⟩
    · exact absurd ((place_iff _ _).1 hpl) (hno _ (hp.mem_iff.2 (List.getElem_mem hk)))
    · rfl
theorem mul_scl {c n : Int} (h : bndB (c * n) = true) : mulI c n = c * n ∧ sclI c n = c * n := by
  obtain ⟨h1, h2⟩ := bnd_of h
  exact ⟨if_pos ⟨by omega, by omega⟩, if_pos h⟩
theorem mul_great {c n : Int} (h : bndB (c * n) = false) : bndB (mulI c n) = false := by
  unfold mulI
  split
  · exact h
  · decide
end Go.Proofs.Ytmeeombadkgneaa
