/-
  What the document's own show returns of an application or a word with arguments, and of every printable node: its text; conditions: the tree lies in memory and its text is short.
-/
import Derived.IntWalk
import Derived.Test.YtgkjcimgghflmaaGreatDoorYTxt
namespace Go.Proofs.YtgkjcimgghflmaaGreatDoor
open Go.RowKit Go.Shelf
attribute [local go_sem] Oper.semAt_some
theorem itoa_neg {n : Int} (h : n < 0) : Lib.itoa n = 45 :: Lib.decDigits n.natAbs := if_pos h
theorem itoa_pos {n : Int} (h : ¬ n < 0) : Lib.itoa n = Lib.decDigits n.toNat := if_neg h
end Go.Proofs.YtgkjcimgghflmaaGreatDoor
namespace Go.Proofs.YtgkjcimgghflmaaGreatDoor
open Go.RowKit Go.Shelf
attribute [local go_sem] Oper.semAt_some
theorem commas_append (a : List UInt8) : ∀ (l : List (List UInt8)), l ≠ [] → commas (l ++ [a]) = commas l ++ (44 :: 32 :: a)
  | [], h => absurd rfl h
  | [b], _ => rfl
  | b :: c :: l, _ => by
    have ih := commas_append a (c :: l) (by simp)
    show b ++ (44 :: 32 :: commas (c :: (l ++ [a]))) = _
    rw [show c :: (l ++ [a]) = (c :: l) ++ [a] from rfl, ih]
    simp [commas]
theorem commas_snoc (l : List (List UInt8)) (k : Nat) (hk : k < l.length) (h0 : k ≠ 0) : commas (l.take (k + 1)) = commas (l.take k) ++ (44 :: 32 :: l[k]) := by
  rw [List.take_succ_eq_append_getElem hk]
  exact commas_append _ _ (by intro h; rcases List.take_eq_nil_iff.1 h with h | h; exact h0 h; (rw [h] at hk; simp at hk))
theorem commas_le (l : List (List UInt8)) : ∀ k, k ≤ l.length → (commas (l.take k)).length ≤ (commas l).length := by
  intro k hk
  induction hn : l.length - k generalizing k with
  | zero => rw [List.take_of_length_le (by omega)]; exact Nat.le_refl _
  | succ n ih =>
    have h1 := ih (k + 1) (by omega) (by omega)
    refine Nat.le_trans ?_ h1
    by_cases h0 : k = 0
    · subst h0; simp [commas]
    · rw [commas_snoc l k (by omega) h0]; simp
def restOp (op : Int) : Prop := op = 3 ∨ op = 8 ∨ op = 10 ∨ op = 11 ∨ op = 12 ∨ op = 13 ∨ op = 14 ∨ op = 15 ∨ op = 16
theorem rest_sgn {op : Int} (h : restOp op) : sgn op = [] := by
  rcases h with e | e | e | e | e | e | e | e | e <;> (rw [e]; rfl)
theorem txt_rest {t : Nd} (h : restOp t.op) : txt t = hdT t ++ paren (commas (t.ks.map txt)) := by
  rw [txt_eq, txtW, rest_sgn h]
  unfold hdT
  rcases h with e | e | e | e | e | e | e | e | e <;> (rw [e]; simp)
theorem frm_iff {t : Nd} : frmB t = true ↔ fldOk t ∧ cntOk t.op t.ks.length := by
  unfold frmB; simp
theorem pr_frm {t : Nd} (h : prB t = true) : fldOk t ∧ cntOk t.op t.ks.length := by
  rw [prB_eq, Bool.and_eq_true] at h
  exact frm_iff.1 h.1
theorem pr_kid {t : Nd} (h : prB t = true) (i : Nat) (hi : i < t.ks.length) : prB t.ks[i] = true := by
  rw [prB_eq, Bool.and_eq_true] at h
  exact List.all_eq_true.1 h.2 _ (List.getElem_mem hi)
/-- What an operator with the right number of kids is. -/
theorem cnt_cases {op : Int} {n : Nat} (h : cntOk op n) :
    (sgn op ≠ [] ∧ n = 2) ∨ ((op = 1 ∨ op = 30 ∨ op = 31 ∨ op = 9) ∧ n = 0) ∨ (op = 2 ∧ n = 0) ∨ (op = 32 ∧ n = 1) ∨ (op = 6 ∧ n = 1) ∨ (op = 7 ∧ n = 1) ∨ restOp op := by
  unfold cntOk at h
  unfold restOp
  rcases h with ⟨h, h'⟩ | ⟨h, h'⟩ | ⟨h, h'⟩ | ⟨h, h'⟩ | ⟨h, h'⟩
  · rcases h with e | e | e | e | e <;> simp [e, h']
  · simp [h]
  · rcases h with e | e | e | e | e <;> simp [e, h']
  · rcases h with e | e | e | e | e | e | e | e | e | e | e | e | e | e | e <;> simp [e, h', sgn]
  · rcases h with e | e <;> simp [e]
theorem one_of {t : Nd} (h : t.ks.length = 1) : ∃ q, t.ks = [q] := by
  match hk : t.ks, h with
  | [q], _ => exact ⟨q, rfl⟩
theorem two_of {t : Nd} (h : t.ks.length = 2) : ∃ q r, t.ks = [q, r] := by
  match hk : t.ks, h with
  | [q, r], _ => exact ⟨q, r, rfl⟩
end Go.Proofs.YtgkjcimgghflmaaGreatDoor
