/-
  What the document's own Sorted returns, and the nodes of a tree without their levels; conditions: the tree lies in memory.
  What the document's own Levels and constant return; conditions: the tree lies in memory.
-/
import Derived.Test.YtmeeombadkgneaaZRefOwn
namespace Go.Proofs.Ytmeeombadkgneaa
open Go.RowKit Go.Shelf

attribute [local go_sem] Oper.semAt_some
/-- All nodes of a tree, without levels. -/
def nodesOf (t : Nd) : List Nd := (preN 1 t).map Prod.snd

theorem preN_snd (t : Nd) : ∀ lv lv', (preN lv t).map Prod.snd = (preN lv' t).map Prod.snd := by
  induction t using Nd.ind with
  | h t ih =>
  intro lv lv'
  have hs : ∀ (l : List Nd), (∀ i (hi : i < l.length), ∀ lv lv', (preN lv l[i]).map Prod.snd = (preN lv' l[i]).map Prod.snd) → ∀ lv lv', (preNs lv l).map Prod.snd = (preNs lv' l).map Prod.snd := by
    intro l
    induction l with
    | nil => intro _ lv lv'; rfl
    | cons x xs ihx =>
      intro h lv lv'
      have h0 : (preN lv x).map Prod.snd = (preN lv' x).map Prod.snd := h 0 (by simp) lv lv'
      have h1 := ihx (fun i hi => h (i + 1) (by simp; omega)) lv lv'
      rw [preNs, preNs, List.map_append, List.map_append, h0, h1]
  rw [preN_eq, preN_eq, List.map_cons, List.map_cons, hs t.ks ih (wrap64 (lv + 1)) (wrap64 (lv' + 1))]

theorem preNs_snd (l : List Nd) (lv : Int) : (preNs lv l).map Prod.snd = l.flatMap nodesOf := by
  induction l with
  | nil => rfl
  | cons x xs ih => rw [preNs, List.map_append, ih, List.flatMap_cons, preN_snd x lv 1, nodesOf]

theorem nodesOf_eq (t : Nd) : nodesOf t = t :: t.ks.flatMap nodesOf := by
  rw [nodesOf, preN_eq, List.map_cons, preNs_snd]

/-- Whether all nodes of a tree are as their Ops say. -/
def allN (t : Nd) : Bool := (nodesOf t).all okN
theorem allN_pre (t : Nd) : ((preN 1 t).all fun p => okN p.2) = allN t := by
  rw [allN, nodesOf, List.all_map]; rfl
theorem allN_eq (t : Nd) : allN t = (okN t && t.ks.all allN) := by
  rw [allN, nodesOf_eq, List.all_cons, List.all_flatMap]; rfl

theorem kidsB_wants {op : Int} {l : List Int} (ks : List Nd) (hw : op ∈ wantOps) (h : wantsL op = some l) : kidsB op ks = takesB ks l := by
  simp only [wantOps, List.mem_cons, List.not_mem_nil, or_false] at hw
  rcases hw with rfl | rfl | rfl | rfl | rfl | rfl | rfl | rfl | rfl | rfl | rfl | rfl | rfl | rfl | rfl | rfl | rfl | rfl | rfl | rfl | rfl | rfl | rfl | rfl | rfl
  all_goals
    cases h
    rfl
theorem kidsB_none {op : Int} (ks : List Nd) (hw : op ∉ wantOps) (h3 : op ≠ 3) (h42 : op ≠ 42) (h37 : op ≠ 37) (h8 : op ≠ 8) : kidsB op ks = false := by
  simp only [wantOps, List.mem_cons, List.not_mem_nil, or_false, not_or] at hw
  simp [kidsB, hw, h3, h42, h37, h8]
theorem wants_short {op : Int} {l : List Int} (h : wantsL op = some l) : l.length ≤ 10 := by
  unfold wantsL at h
  repeat' split at h
  all_goals first | (cases h; simp; done) | (cases h)

theorem allN_false_own {t : Nd} (h : fieldsB t.op t.so t.nm t.nu = false) : Hid (allN t = false) := by
  show _ = _
  rw [allN_eq, okN, h]; rfl
theorem allN_false_kid {t : Nd} {k : Nat} (hk : k < t.ks.length) (h : allN t.ks[k] = false) : Hid (allN t = false) := by
  show _ = _
  rw [allN_eq, Bool.and_eq_false_iff]
  exact .inr (by rw [← Bool.not_eq_true, List.all_eq_true]; exact fun e => by have := e _ (List.getElem_mem hk); rw [h] at this; cases this)
theorem allN_kids {t : Nd} (h : fieldsB t.op t.so t.nm t.nu = true) (hk : ∀ i (hi : i < t.ks.length), allN t.ks[i] = true) : Hid (allN t = kidsB t.op t.ks) := by
  show _ = _
  rw [allN_eq, okN, h, Bool.true_and, (show t.ks.all allN = true from by rw [List.all_eq_true]; intro x hx; obtain ⟨i, hi, rfl⟩ := List.getElem_of_mem hx; exact hk i hi), Bool.and_true]

theorem alike_plain {p q : Nd} (h : sortN p = sortN q) : alikeB p q = plainB (sortN p) := by
  unfold alikeB plainB
  by_cases h' : sortN p = 1 ∨ sortN p = 3 ∨ sortN p = 4 ∨ sortN p = 5
  · rw [decide_eq_true h', decide_eq_true ⟨h, h'⟩]
  · rw [decide_eq_false h', decide_eq_false (fun e => h' e.2)]
theorem alike_no {p q : Nd} (h : sortN p ≠ sortN q) : alikeB p q = false := decide_eq_false (fun e => h e.1)
theorem takesB_len {ks : List Nd} {l : List Int} (h : ks.length ≠ l.length) : takesB ks l = false := decide_eq_false (fun e => h (by rw [← e, List.length_map]))
theorem takesB_no {ks : List Nd} {l : List Int} {k : Nat} (h1 : k < ks.length) (h2 : k < l.length) (h : sortN ks[k] ≠ l[k]) : takesB ks l = false := decide_eq_false (fun e => h (by subst e; simp))
end Go.Proofs.Ytmeeombadkgneaa
namespace Go.Proofs.Ytmeeombadkgneaa
open Go.RowKit Go.Shelf

attribute [local go_sem] Oper.semAt_some
/-- The number of levels as the document counts it. -/
def levW : Nd → Int
  | .mk _ _ _ _ ks => wrap64 (ks.attach.foldl (fun s k => max s (levW k.1)) 0 + 1)
termination_by t => SizeOf.sizeOf t
decreasing_by
  have := List.sizeOf_lt_of_mem k.2
  simp only [Nd.mk.sizeOf_spec]
  omega

def levL (s : Int) (ks : List Nd) : Int := ks.foldl (fun s k => max s (levW k)) s
theorem levW_eq (t : Nd) : levW t = wrap64 (levL 0 t.ks + 1) := by
  cases t
  rw [levW, levL]
  simp only [Nd.ks]
  rw [List.foldl_attach (f := fun s k => max s (levW k))]
theorem levL_snoc (s : Int) (ks : List Nd) (k : Nat) (hk : k < ks.length) : levL s (ks.take (k + 1)) = max (levL s (ks.take k)) (levW ks[k]) := by
  rw [levL, levL, List.take_succ_eq_append_getElem hk, List.foldl_append]
  rfl

/-- Whether a name is that of an application without kids in a tree. -/
def conB (nm : ByteArray) (t : Nd) : Bool := (nodesOf t).any fun y => y.op == 3 && (y.nm.toList == nm.toList && decide (y.ks.length = 0))
theorem conB_eq (nm : ByteArray) (t : Nd) : conB nm t = ((t.op == 3 && (t.nm.toList == nm.toList && decide (t.ks.length = 0))) || t.ks.any (conB nm)) := by
  rw [conB, nodesOf_eq, List.any_cons, List.any_flatMap]; rfl

end Go.Proofs.Ytmeeombadkgneaa
