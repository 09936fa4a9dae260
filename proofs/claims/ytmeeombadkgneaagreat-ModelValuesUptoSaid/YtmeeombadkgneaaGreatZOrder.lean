/-
  The comparing of two nodes, as a function on trees, is a total order: antisymmetric and transitive; conditions: none.
-/
import Derived.Test.YtmeeombadkgneaaGreatZComp
namespace Go.Proofs.YtmeeombadkgneaaGreat
open Go.RowKit

def lexI (x y : Int) : Int := if x ≠ 0 then x else y
def Tri (x y z : Int) : Prop := x ≤ 0 → y ≤ 0 → z ≤ 0 ∧ (z < 0 ∨ x = 0 ∧ y = 0)
def R1 (x : Int) : Prop := -1 ≤ x ∧ x ≤ 1

theorem lexI_neg (x y : Int) : lexI (-x) (-y) = -lexI x y := by unfold lexI; split <;> split <;> omega
theorem lexI_r1 {x y : Int} (hx : R1 x) (hy : R1 y) : R1 (lexI x y) := by unfold lexI; split; exact hx; exact hy
theorem lexI_tri {x y z x' y' z' : Int} (h : Tri x y z) (h' : x = 0 → y = 0 → Tri x' y' z') : Tri (lexI x x') (lexI y y') (lexI z z') := by
  intro hx hy
  have g1 : x ≠ 0 → lexI x x' = x := fun h => if_pos h
  have g2 : x = 0 → lexI x x' = x' := fun h => if_neg (by simpa using h)
  have g3 : y ≠ 0 → lexI y y' = y := fun h => if_pos h
  have g4 : y = 0 → lexI y y' = y' := fun h => if_neg (by simpa using h)
  have g5 : z ≠ 0 → lexI z z' = z := fun h => if_pos h
  have g6 : z = 0 → lexI z z' = z' := fun h => if_neg (by simpa using h)
  by_cases e1 : x = 0
  · by_cases e2 : y = 0
    · rw [g2 e1] at hx ⊢
      rw [g4 e2] at hy ⊢
      by_cases e3 : z = 0
      · rw [g6 e3]
        exact h' e1 e2 hx hy
      · rw [g5 e3]
        have := (h (by omega) (by omega)).1
        exact ⟨this, .inl (by omega)⟩
    · rw [g3 e2] at hy ⊢
      have h1 := h (by omega) hy
      have h2 : z < 0 := by omega
      rw [g5 (by omega)]
      exact ⟨by omega, .inl h2⟩
  · rw [g1 e1] at hx ⊢
    have hy' : y ≤ 0 := by
      by_cases e2 : y = 0
      · omega
      · rw [g3 e2] at hy; exact hy
    have h1 := h hx hy'
    have h2 : z < 0 := by omega
    rw [g5 (by omega)]
    exact ⟨by omega, .inl h2⟩

theorem cmpI_neg (a b : Int) : cmpI b a = -cmpI a b := by unfold cmpI; split <;> split <;> (try split) <;> omega
theorem cmpI_r1 (a b : Int) : R1 (cmpI a b) := by unfold cmpI R1; split <;> (try split) <;> omega
theorem cmpI_tri (a b c : Int) : Tri (cmpI a b) (cmpI b c) (cmpI a c) := by
  unfold Tri cmpI
  split <;> split <;> split <;> (try split) <;> (try split) <;> (try split) <;> omega
theorem cmpI_zero {a b : Int} : cmpI a b = 0 ↔ a = b := ⟨fun h => by
  by_cases e : a = b
  · exact e
  · exact absurd h (cmpI_ne e), cmpI_of_eq⟩

def cmpB : List UInt8 → List UInt8 → Int
  | [], [] => 0
  | [], _ :: _ => -1
  | _ :: _, [] => 1
  | a :: x, b :: y => lexI (cmpI a.toNat b.toNat) (cmpB x y)

theorem cmpB_neg : ∀ x y, cmpB y x = -cmpB x y
  | [], [] => rfl
  | [], _ :: _ => rfl
  | _ :: _, [] => rfl
  | a :: x, b :: y => by rw [cmpB, cmpB, cmpB_neg x y, cmpI_neg, lexI_neg]
theorem cmpB_r1 : ∀ x y, R1 (cmpB x y)
  | [], [] => by unfold R1; decide
  | [], _ :: _ => by unfold R1 cmpB; decide
  | _ :: _, [] => by unfold R1 cmpB; decide
  | a :: x, b :: y => lexI_r1 (cmpI_r1 _ _) (cmpB_r1 x y)
theorem cmpB_tri : ∀ x y z, Tri (cmpB x y) (cmpB y z) (cmpB x z)
  | [], [], [] => by unfold Tri cmpB; decide
  | [], [], _ :: _ => by unfold Tri cmpB; decide
  | [], _ :: _, [] => by unfold Tri cmpB; decide
  | [], _ :: _, _ :: _ => fun _ _ => by simp [cmpB]
  | _ :: _, [], [] => by unfold Tri cmpB; decide
  | _ :: _, [], _ :: _ => fun h => by simp [cmpB] at h
  | _ :: _, _ :: _, [] => fun _ h => by simp [cmpB] at h
  | a :: x, b :: y, c :: z => lexI_tri (cmpI_tri _ _ _) (fun _ _ => cmpB_tri x y z)
theorem cmpB_self : ∀ x, cmpB x x = 0
  | [] => rfl
  | a :: x => by rw [cmpB, cmpI_self, cmpB_self x]; rfl

theorem less_cmpB : ∀ x y, Op.bytesLess x y = decide (cmpB x y < 0)
  | [], [] => rfl
  | [], _ :: _ => rfl
  | _ :: _, [] => rfl
  | a :: x, b :: y => by
    rw [Op.bytesLess, less_cmpB x y, cmpB]
    unfold lexI cmpI
    by_cases h1 : a < b
    · have : (a.toNat : Int) < b.toNat := by exact_mod_cast UInt8.lt_iff_toNat_lt.1 h1
      simp [h1, this]
    · by_cases h2 : b < a
      · have h3 : (b.toNat : Int) < a.toNat := by exact_mod_cast UInt8.lt_iff_toNat_lt.1 h2
        have h4 : ¬ (a.toNat : Int) < b.toNat := by omega
        have h5 : ¬ a = b := fun e => by subst e; omega
        simp [h1, h3, h4, h5]
      · have h3 : ¬ (a.toNat : Int) < b.toNat := fun h => h1 (UInt8.lt_iff_toNat_lt.2 (by exact_mod_cast h))
        have h4 : ¬ (b.toNat : Int) < a.toNat := fun h => h2 (UInt8.lt_iff_toNat_lt.2 (by exact_mod_cast h))
        have h5 : a = b := UInt8.toNat.inj (by omega)
        subst h5
        simp

theorem cmpB_zero : ∀ {x y : List UInt8}, cmpB x y = 0 → x = y
  | [], [], _ => rfl
  | [], _ :: _, h => by simp [cmpB] at h
  | _ :: _, [], h => by simp [cmpB] at h
  | a :: x, b :: y, h => by
    rw [cmpB, lexI] at h
    split at h
    · rename_i h'; exact absurd h h'
    · rename_i h'
      have h1 : (a.toNat : Int) = b.toNat := cmpI_zero.1 (Classical.not_not.1 h')
      have h2 : a = b := UInt8.toNat.inj (by omega)
      rw [h2, cmpB_zero h]

theorem cmpS_eq (a b : ByteArray) : cmpS a b = cmpB a.toList b.toList := by
  unfold cmpS
  rw [less_cmpB]
  have hr := cmpB_r1 a.toList b.toList
  unfold R1 at hr
  by_cases h : cmpB a.toList b.toList < 0
  · simp only [h, decide_true, if_true]; omega
  · by_cases e : a.toList = b.toList
    · have := cmpB_self b.toList
      simp [e, this]
    · have : cmpB a.toList b.toList ≠ 0 := fun h => e (cmpB_zero h)
      simp only [h, decide_false, Bool.false_eq_true, if_false]
      rw [if_neg (by simpa using e)]
      omega

theorem cmpN_lex (t u : Nd) : cmpN t u = lexI (cmpI t.op u.op) (lexI (cmpI t.so u.so) (lexI (cmpB t.nm.toList u.nm.toList) (lexI (cmpI t.nu u.nu) (lexI (cmpI t.ks.length u.ks.length) (cmpNs t.ks u.ks))))) := by
  have key : ∀ {p : Prop} [Decidable p] {x y : Int}, (p ↔ x ≠ 0) → (if p then x else y) = lexI x y := fun {p} _ {x y} h => by
    unfold lexI
    by_cases hp : p
    · rw [if_pos hp, if_pos (h.1 hp)]
    · rw [if_neg hp, if_neg (fun e => hp (h.2 e))]
  have kI : ∀ a b : Int, a ≠ b ↔ cmpI a b ≠ 0 := fun a b => by rw [ne_eq, ne_eq, cmpI_zero]
  rw [cmpN_eq, cmpS_eq, key (kI _ _), key (kI _ _), key (p := t.nm.toList ≠ u.nm.toList), key (kI _ _), key]
  · rw [ne_eq, ne_eq, cmpI_zero]; omega
  · exact ⟨fun h e => h (cmpB_zero e), fun h e => h (by rw [e, cmpB_self])⟩

theorem cmpNs_cons (x y : Nd) (xs ys : List Nd) : cmpNs (x :: xs) (y :: ys) = lexI (cmpN x y) (cmpNs xs ys) := by rw [cmpNs]; rfl

theorem cmp_all (t : Nd) : (∀ u, cmpN u t = -cmpN t u) ∧ (∀ u, R1 (cmpN t u)) ∧ cmpN t t = 0 ∧ ∀ u v, Tri (cmpN t u) (cmpN u v) (cmpN t v) := by
  induction t using Nd.ind with
  | h t ih =>
  have hl : ∀ l : List Nd, (∀ x ∈ l, (∀ u, cmpN u x = -cmpN x u) ∧ (∀ u, R1 (cmpN x u)) ∧ cmpN x x = 0 ∧ ∀ u v, Tri (cmpN x u) (cmpN u v) (cmpN x v)) →
      (∀ m, cmpNs m l = -cmpNs l m) ∧ (∀ m, R1 (cmpNs l m)) ∧ cmpNs l l = 0 ∧ ∀ m n, l.length = m.length → m.length = n.length → Tri (cmpNs l m) (cmpNs m n) (cmpNs l n) := by
    intro l
    induction l with
    | nil =>
      intro _
      refine ⟨fun m => ?_, fun m => ?_, by simp [cmpNs], fun m n h1 h2 => ?_⟩
      · cases m <;> simp [cmpNs]
      · cases m <;> simp [cmpNs, R1]
      · match m, n, h1, h2 with
        | [], [], _, _ => simp [cmpNs, Tri]
    | cons x xs ihl =>
      intro hx
      obtain ⟨i1, i2, i3, i4⟩ := ihl (fun y hy => hx y (List.mem_cons_of_mem _ hy))
      obtain ⟨x1, x2, x3, x4⟩ := hx x (List.mem_cons_self ..)
      refine ⟨fun m => ?_, fun m => ?_, ?_, fun m n h1 h2 => ?_⟩
      · cases m with
        | nil => simp [cmpNs]
        | cons y ys => rw [cmpNs_cons, cmpNs_cons, x1, i1, lexI_neg]
      · cases m with
        | nil => simp [cmpNs, R1]
        | cons y ys => rw [cmpNs_cons]; exact lexI_r1 (x2 _) (i2 _)
      · rw [cmpNs_cons, x3, i3]; rfl
      · match m, n, h1, h2 with
        | y :: ys, z :: zs, h1, h2 =>
          rw [cmpNs_cons, cmpNs_cons, cmpNs_cons]
          exact lexI_tri (x4 _ _) (fun _ _ => i4 ys zs (by simpa using h1) (by simpa using h2))
  obtain ⟨k1, k2, k3, k4⟩ := hl t.ks (fun x hx => by
    obtain ⟨i, hi, rfl⟩ := List.getElem_of_mem hx
    exact ih i hi)
  refine ⟨fun u => ?_, fun u => ?_, ?_, fun u v => ?_⟩
  · rw [cmpN_lex, cmpN_lex, cmpI_neg, cmpI_neg t.so, cmpB_neg, cmpI_neg t.nu, cmpI_neg t.ks.length, k1, lexI_neg, lexI_neg, lexI_neg, lexI_neg, lexI_neg]
  · rw [cmpN_lex]
    exact lexI_r1 (cmpI_r1 _ _) (lexI_r1 (cmpI_r1 _ _) (lexI_r1 (cmpB_r1 _ _) (lexI_r1 (cmpI_r1 _ _) (lexI_r1 (cmpI_r1 _ _) (k2 _)))))
  · rw [cmpN_lex, cmpI_self, cmpI_self, cmpB_self, cmpI_self, cmpI_self, k3]; rfl
  · rw [cmpN_lex, cmpN_lex, cmpN_lex]
    refine lexI_tri (cmpI_tri _ _ _) fun _ _ => lexI_tri (cmpI_tri _ _ _) fun _ _ => lexI_tri (cmpB_tri _ _ _) fun _ _ => lexI_tri (cmpI_tri _ _ _) fun _ _ => lexI_tri (cmpI_tri _ _ _) fun e1 e2 => k4 _ _ ?_ ?_
    · have := cmpI_zero.1 e1; omega
    · have := cmpI_zero.1 e2; omega
end Go.Proofs.YtmeeombadkgneaaGreat
