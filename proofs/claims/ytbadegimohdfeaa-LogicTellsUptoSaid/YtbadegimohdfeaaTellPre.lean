/-
  What package logic's measures and the document's own have in common; conditions: the tree has few nodes.
-/
import Derived.Test.YtbadegimohdfeaaRefCheck
import Derived.Test.YtbadegimohdfeaaLev
import Derived.Test.YtbadegimohdfeaaParts
import Derived.Test.YtbadegimohdfeaaApps
import Derived.Test.YtbadegimohdfeaaRefConj
namespace Go.Proofs.Ytbadegimohdfeaa
open Go.RowKit Go.Shelf

theorem maxI_le (l : List (Int × Nd)) (n : Int) : maxI l ≤ n ↔ 0 ≤ n ∧ ∀ p ∈ l, p.1 ≤ n := by
  induction l using snoc_ind with
  | h0 => simp [maxI]
  | h1 l x ih =>
    rw [maxI_snoc]
    constructor
    · intro h
      have h1 := ih.1 (by omega)
      refine ⟨h1.1, fun p hp => ?_⟩
      rcases List.mem_append.1 hp with hp | hp
      · exact h1.2 p hp
      · simp at hp
        subst hp
        omega
    · rintro ⟨h0, h1⟩
      have h2 := ih.2 ⟨h0, fun p hp => h1 p (List.mem_append_left _ hp)⟩
      have h3 := h1 x (by simp)
      omega
theorem pre_depth (n : Int) (t : Nd) : ∀ lv : Int, 0 ≤ lv → lv + cnt t ≤ 4000000 → ((∀ p ∈ preN lv t, p.1 ≤ n) ↔ lv + dep t ≤ n + 1) := by
  induction t using Nd.ind with
  | h t ih =>
  intro lv h0 hb
  have hw : wrap64 (lv + 1) = lv + 1 := wrap_small (by omega) (by omega)
  have hns : ∀ (l : List Nd), (∀ k ∈ l, ((∀ p ∈ preN (lv + 1) k, p.1 ≤ n) ↔ lv + 1 + dep k ≤ n + 1)) → ((∀ p ∈ preNs (lv + 1) l, p.1 ≤ n) ↔ ∀ k ∈ l, lv + 1 + dep k ≤ n + 1) := by
    intro l
    induction l with
    | nil => intro _; simp [preNs]
    | cons x xs ihx =>
      intro hl
      rw [preNs]
      simp only [List.mem_append, List.mem_cons, forall_eq_or_imp]
      rw [← hl x (by simp), ← ihx (fun k hk => hl k (by simp [hk]))]
      constructor
      · intro h; exact ⟨fun p hp => h p (.inl hp), fun p hp => h p (.inr hp)⟩
      · rintro ⟨h1, h2⟩ p (hp | hp)
        · exact h1 p hp
        · exact h2 p hp
  have hk := hns t.ks (fun k hk => by
    have h2 := cnt_kid hk
    obtain ⟨i, hi, rfl⟩ := List.getElem_of_mem hk
    exact ih i hi (lv + 1) (by omega) (by omega))
  rw [preN_eq, hw]
  simp only [List.mem_cons, forall_eq_or_imp]
  rw [hk, dep_eq]
  constructor
  · rintro ⟨h1, h2⟩
    have : depL 0 t.ks ≤ (n - lv).toNat := (depL_le 0).2 ⟨Nat.zero_le _, fun k hk => by have := h2 k hk; omega⟩
    omega
  · intro h
    refine ⟨by omega, fun k hk => ?_⟩
    have := ((depL_le (ks := t.ks) (n := depL 0 t.ks) 0).1 (Nat.le_refl _)).2 k hk
    omega
theorem lev_eq (t : Nd) (h : cnt t ≤ 1048576) : maxI (preN 1 t) = levW t := by
  rw [levW_dep t h]
  have k1 : maxI (preN 1 t) ≤ (dep t : Int) := (maxI_le _ _).2 ⟨by omega, (pre_depth _ t 1 (by omega) (by omega)).2 (by omega)⟩
  have k2 := (pre_depth (maxI (preN 1 t)) t 1 (by omega) (by omega)).1 ((maxI_le _ _).1 (Int.le_refl _)).2
  omega
theorem cntW_nat (n : Nat) : n ≤ 1048576 → cntW n = n := by
  induction n with
  | zero => intro _; rfl
  | succ n ih =>
    intro h
    rw [cntW, ih (by omega), wrap_small (by omega) (by omega)]
    omega
theorem size_eq (t : Nd) (h : cnt t ≤ 1048576) : cntW (preN 1 t).length = sizeW t := by
  rw [pre_cnt, cntW_nat _ h, sizeW_cnt t h]
theorem parts_sub (t : Nd) : (partsL t).length ≤ cnt t ∧ ∀ y ∈ partsL t, cnt y ≤ cnt t := by
  induction t using Nd.ind with
  | h t ih =>
  by_cases h : t.op = 33
  · rw [partsL_and h]
    refine ⟨?_, fun y hy => ?_⟩
    · rw [List.length_flatMap, cnt_eq]
      have : ∀ l : List Nd, (∀ k ∈ l, (partsL k).length ≤ cnt k) → (l.map fun k => (partsL k).length).sum ≤ (l.map cnt).sum := by
        intro l
        induction l with
        | nil => intro _; simp
        | cons x xs ihx =>
          intro hk
          have h1 := hk x (by simp)
          have h2 := ihx (fun k hk' => hk k (by simp [hk']))
          simp only [List.map_cons, List.sum_cons]
          omega
      have := this t.ks (fun k hk => by
        obtain ⟨i, hi, rfl⟩ := List.getElem_of_mem hk
        exact (ih i hi).1)
      omega
    · obtain ⟨k, hk, hy⟩ := List.mem_flatMap.1 hy
      have h2 := cnt_kid hk
      obtain ⟨i, hi, rfl⟩ := List.getElem_of_mem hk
      have := (ih i hi).2 y hy
      omega
  · rw [partsL_one h]
    have := len_cnt t
    refine ⟨by simp; omega, fun y hy => ?_⟩
    simp at hy
    subst hy
    exact Nat.le_refl _
theorem parts_short {t : Nd} (h : cnt t ≤ 1048576) : ∀ y ∈ partsL t, Short y := fun y hy => short_cnt (Nat.le_trans ((parts_sub t).2 y hy) h)
theorem conjR_short {t : Nd} (h : cnt t ≤ 1048576) : ∀ y ∈ conjR t, Short y := fun y hy => parts_short h y (List.mem_filter.1 hy).1
theorem conjR_few {t : Nd} (h : cnt t ≤ 1048576) : (conjR t).length ≤ 1048576 := by
  have := conjR_len t
  unfold cnt at h
  omega
theorem Grows.lies {n0 : Nat} {w : World} {v : Value} {xs : List NdA} (h : Grows n0 w v xs) (hm : xs.length ≤ maxLen) : ∃ A cap, v = .slice A xs.length cap ∧ Lies w A cap (xs.map (·.1)) := by
  obtain ⟨A, cap, h1, h2⟩ := h.rob hm
  exact ⟨A, cap, h1, h2.lies⟩
theorem RetG.lies {w w' : World} {ks : List Nd} {e : Ending} (h : RetG w ks e w') (hm : ks.length ≤ maxLen) : ∃ A cap, e = .returned (.slice A ks.length cap) ∧ Lies w' A cap ks ∧ Below w.heap.size w w' := by
  obtain ⟨v, xs, rfl, hg, rfl, hb⟩ := h
  rw [List.length_map] at hm
  obtain ⟨A, cap, rfl, hl⟩ := hg.lies hm
  exact ⟨A, cap, by rw [List.length_map], hl, hb⟩
end Go.Proofs.Ytbadegimohdfeaa
