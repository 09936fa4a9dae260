/-
  The document's own Check, and that package logic's returns the same; conditions: the tree lies in memory and has few nodes.
-/
import Derived.Test.YtgkjcimgghflmaaGreatDoorYRefVars
import Derived.Test.YtgkjcimgghflmaaGreatDoorYUni
import Derived.Test.YtgkjcimgghflmaaGreatDoorYCheck
namespace Go.Proofs.YtgkjcimgghflmaaGreatDoor
open Go.RowKit Go.Shelf
attribute [local go_sem] Oper.semAt_some
/-- The number of nodes. -/
def cnt (t : Nd) : Nat := (nodesOf t).length
theorem flat_cnt (ks : List Nd) : (ks.flatMap nodesOf).length = (ks.map cnt).sum := by
  rw [List.length_flatMap]; rfl
theorem cnt_eq (t : Nd) : cnt t = 1 + (t.ks.map cnt).sum := by
  rw [cnt, nodesOf_eq, List.length_cons, flat_cnt]; omega
theorem le_sum_mem {l : List Nat} {n : Nat} (h : n ∈ l) : n ≤ l.sum := by
  induction l with
  | nil => cases h
  | cons x xs ih =>
    rw [List.sum_cons]
    rcases List.mem_cons.1 h with rfl | h
    · omega
    · have := ih h; omega
theorem cnt_kid {t : Nd} {k : Nd} (h : k ∈ t.ks) : cnt k + 1 ≤ cnt t := by
  rw [cnt_eq t]
  have : cnt k ≤ (t.ks.map cnt).sum := le_sum_mem (List.mem_map.2 ⟨k, h, rfl⟩)
  omega
theorem pre_cnt (t : Nd) : (preN 1 t).length = cnt t := by rw [cnt, nodesOf, List.length_map]
theorem wrap_small {x : Int} (h0 : -9223372036854775808 ≤ x) (h1 : x ≤ 9223372036854775807) : wrap64 x = x := by unfold wrap64; omega
/-- The number of levels. -/
def dep : Nd → Nat
  | .mk _ _ _ _ ks => ks.attach.foldl (fun s k => max s (dep k.1)) 0 + 1
termination_by t => SizeOf.sizeOf t
decreasing_by
  have := List.sizeOf_lt_of_mem k.2
  simp only [Nd.mk.sizeOf_spec]
  omega
def depL (s : Nat) (ks : List Nd) : Nat := ks.foldl (fun s k => max s (dep k)) s
theorem dep_eq (t : Nd) : dep t = depL 0 t.ks + 1 := by
  cases t
  rw [dep, depL]
  simp only [Nd.ks]
  rw [List.foldl_attach (f := fun s k => max s (dep k))]
theorem depL_le {ks : List Nd} {n : Nat} : ∀ s, depL s ks ≤ n ↔ s ≤ n ∧ ∀ k ∈ ks, dep k ≤ n := by
  induction ks with
  | nil => intro s; simp [depL]
  | cons x xs ih =>
    intro s
    have e : depL s (x :: xs) = depL (max s (dep x)) xs := rfl
    rw [e, ih]
    simp only [List.mem_cons, forall_eq_or_imp, Nat.max_le]
    constructor
    · rintro ⟨⟨h1, h2⟩, h3⟩; exact ⟨h1, h2, h3⟩
    · rintro ⟨h1, h2, h3⟩; exact ⟨⟨h1, h2⟩, h3⟩
theorem dep_cnt (t : Nd) : dep t ≤ cnt t := by
  induction t using Nd.ind with
  | h t ih =>
  rw [dep_eq]
  have : depL 0 t.ks ≤ cnt t - 1 := (depL_le 0).2 ⟨Nat.zero_le _, fun k hk => by
    obtain ⟨i, hi, rfl⟩ := List.getElem_of_mem hk
    have h1 := ih i hi
    have h2 := cnt_kid hk
    omega⟩
  have h3 := cnt_eq t
  omega
theorem levW_dep (t : Nd) (h : cnt t ≤ 1048576) : levW t = dep t := by
  induction t using Nd.ind with
  | h t ih =>
  have hd := dep_cnt t
  rw [levW_eq, dep_eq] at *
  have key : ∀ (l : List Nd), (∀ k ∈ l, levW k = dep k) → ∀ s : Nat, levL s l = (depL s l : Nat) := by
    intro l
    induction l with
    | nil => intro _ s; rfl
    | cons x xs ihx =>
      intro hl s
      have e1 : levL s (x :: xs) = levL (max (s : Int) (levW x)) xs := rfl
      have e2 : depL s (x :: xs) = depL (max s (dep x)) xs := rfl
      rw [e1, e2, hl x (by simp), ← ihx (fun k hk => hl k (by simp [hk])) (max s (dep x))]
      congr 1
      omega
  have := key t.ks (fun k hk => by
    have h2 := cnt_kid hk
    obtain ⟨i, hi, rfl⟩ := List.getElem_of_mem hk
    exact ih i hi (by omega)) 0
  rw [show ((0 : Nat) : Int) = 0 from rfl] at this
  rw [this, wrap_small (by omega) (by omega)]
  omega
end Go.Proofs.YtgkjcimgghflmaaGreatDoor
