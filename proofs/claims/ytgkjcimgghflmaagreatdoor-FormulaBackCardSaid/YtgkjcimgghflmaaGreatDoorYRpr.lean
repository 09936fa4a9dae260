/-
  What the document's own printable returns of every node, and how long a printable node's text is; conditions: the tree lies in memory.
-/
import Derived.Test.YtgkjcimgghflmaaGreatDoorYShw2
namespace Go.Proofs.YtgkjcimgghflmaaGreatDoor
open Go.RowKit Go.Shelf
attribute [local go_sem] Oper.semAt_some
theorem pr_no {t : Nd} (h : ¬ (fldOk t ∧ cntOk t.op t.ks.length)) : prB t = false := by
  rw [← Bool.not_eq_true]
  exact fun h' => h (pr_frm h')
theorem pr_all {t : Nd} (h : fldOk t ∧ cntOk t.op t.ks.length) : prB t = t.ks.all prB := by
  rw [prB_eq, frm_iff.2 h, Bool.true_and]
end Go.Proofs.YtgkjcimgghflmaaGreatDoor
namespace Go.Proofs.YtgkjcimgghflmaaGreatDoor
open Go.RowKit Go.Shelf
theorem fld_named {t : Nd} (h : t.op = 1 ∨ t.op = 3) : fldOk t ↔ nameB t.nm = true ∧ t.nu = 0 ∧ 0 ≤ t.so ∧ t.so ≤ 5 := by
  unfold fldOk; rw [if_pos h]
theorem fld_other {t : Nd} (h1 : t.op ≠ 1) (h3 : t.op ≠ 3) : fldOk t ↔ t.nm.toList = [] ∧ t.so = 0 ∧ (if t.op = 2 ∨ t.op = 7 then -1000000000000 ≤ t.nu ∧ t.nu ≤ 1000000000000 else t.nu = 0) := by
  unfold fldOk; rw [if_neg (by omega)]
/-- A printable node's text has at most 64 bytes for each node. -/
theorem itoa_len {n : Int} (h0 : -1000000000000 ≤ n) (h1 : n ≤ 1000000000000) : (Lib.itoa n).length ≤ 20 := by
  by_cases h : n < 0
  · rw [itoa_neg h]
    have := dec_len (n := n.natAbs) (by omega)
    simp only [List.length_cons]; omega
  · rw [itoa_pos h]
    have := dec_len (n := n.toNat) (by omega)
    omega
theorem nameB_len {s : ByteArray} (h : nameB s = true) : s.size ≤ 24 := by
  by_cases h' : s.size ≤ 24
  · exact h'
  · rw [nameB_no fun hh => h' hh.1] at h; cases h
theorem sgn_len (op : Int) : (sgn op).length ≤ 3 := by
  unfold sgn
  repeat' split
  all_goals decide
theorem commas_len : ∀ (l : List (List UInt8)), (commas l).length ≤ (l.map List.length).sum + 2 * l.length
  | [] => by simp [commas]
  | [a] => by simp [commas]
  | a :: b :: l => by
    have := commas_len (b :: l)
    simp only [commas, List.map_cons, List.sum_cons, List.length_append, List.length_cons] at this ⊢
    omega
theorem hd_len {t : Nd} (hf : fldOk t) (hr : restOp t.op) : (hdT t).length ≤ 24 := by
  unfold hdT
  split
  · rename_i h
    have := nameB_len ((fld_named (.inr h)).1 hf).1
    rw [Array.length_toList]
    exact this
  · rcases hr with e | e | e | e | e | e | e | e | e <;> (rw [e]; decide)
theorem txt_len (t : Nd) : prB t = true → (txt t).length ≤ 64 * cnt t := by
  induction t using Nd.ind with
  | h t ih =>
  intro hp
  obtain ⟨hf, hc⟩ := pr_frm hp
  have hK : ∀ i (hi : i < t.ks.length), (txt t.ks[i]).length ≤ 64 * cnt t.ks[i] := fun i hi => ih i hi (pr_kid hp i hi)
  have hb : t.op = 2 ∨ t.op = 7 → -1000000000000 ≤ t.nu ∧ t.nu ≤ 1000000000000 := fun h => by
    unfold fldOk at hf
    rw [if_neg (by omega), if_pos h] at hf
    exact hf.2.2
  have hcn := cnt_eq t
  rcases cnt_cases hc with ⟨hs, h2⟩ | ⟨e, h0⟩ | ⟨e, h0⟩ | ⟨e, h1⟩ | ⟨e, h1⟩ | ⟨e, h1⟩ | hr
  · obtain ⟨q, r, hk⟩ := two_of h2
    have h0' := hK 0 (by omega)
    have h1' := hK 1 (by omega)
    simp only [hk, List.getElem_cons_zero, List.getElem_cons_succ, List.map_cons, List.map_nil, List.sum_cons, List.sum_nil] at h0' h1' hcn
    have := sgn_len t.op
    rw [txt_eq t, txtW, if_pos hs, hk]
    simp [paren]; omega
  · rw [txt_eq t, txtW]
    rcases e with e | e | e | e
    · have := nameB_len ((fld_named (.inl e)).1 hf).1
      rw [e]; simp [sgn]
      have h2 : t.nm.data.size = t.nm.size := rfl
      omega
    all_goals (rw [e]; simp [sgn, wrdS, wrd]; omega)
  · have := itoa_len (hb (.inl e)).1 (hb (.inl e)).2
    rw [txt_eq t, txtW, e]; simp [sgn, intT]
    split <;> (try simp [paren]) <;> omega
  · obtain ⟨q, hk⟩ := one_of h1
    have h0' := hK 0 (by omega)
    simp only [hk, List.getElem_cons_zero, List.map_cons, List.map_nil, List.sum_cons, List.sum_nil] at h0' hcn
    rw [txt_eq t, txtW, hk, e]; simp [sgn, paren]; omega
  · obtain ⟨q, hk⟩ := one_of h1
    have h0' := hK 0 (by omega)
    simp only [hk, List.getElem_cons_zero, List.map_cons, List.map_nil, List.sum_cons, List.sum_nil] at h0' hcn
    rw [txt_eq t, txtW, hk, e]; simp only [sgn, natKid, hk]
    simp [paren]
    split <;> simp <;> omega
  · obtain ⟨q, hk⟩ := one_of h1
    have h0' := hK 0 (by omega)
    have i1 := itoa_len (hb (.inr e)).1 (hb (.inr e)).2
    have i2 := itoa_len (n := -t.nu) (by have := hb (.inr e); omega) (by have := hb (.inr e); omega)
    simp only [hk, List.getElem_cons_zero, List.map_cons, List.map_nil, List.sum_cons, List.sum_nil] at h0' hcn
    rw [txt_eq t, txtW, hk, e]; simp only [sgn]
    simp [paren]
    split <;> simp <;> omega
  · rw [txt_rest hr]
    have h1 := commas_len (t.ks.map txt)
    have h2 := hd_len hf hr
    have h3 : ((t.ks.map txt).map List.length).sum ≤ 64 * (t.ks.map cnt).sum := by
      have : ∀ l : List Nd, (∀ x ∈ l, (txt x).length ≤ 64 * cnt x) → ((l.map txt).map List.length).sum ≤ 64 * (l.map cnt).sum := by
        intro l
        induction l with
        | nil => intro _; simp
        | cons a l ihl =>
          intro h
          have ha := h a (by simp)
          have hl := ihl fun x hx => h x (by simp [hx])
          simp only [List.map_cons, List.sum_cons]
          omega
      refine this _ fun x hx => ?_
      obtain ⟨i, hi, rfl⟩ := List.getElem_of_mem hx
      exact hK i hi
    have h8 : t.ks.length ≤ 8 := by
      unfold cntOk at hc
      unfold restOp at hr
      omega
    simp only [paren, List.length_append, List.length_cons, List.length_nil, List.length_map] at h1 ⊢
    omega
end Go.Proofs.YtgkjcimgghflmaaGreatDoor
