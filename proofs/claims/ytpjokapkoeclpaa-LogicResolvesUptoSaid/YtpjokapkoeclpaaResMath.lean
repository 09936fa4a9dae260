/-
  Resolving as plain mathematics: what package logic's way and the document's way give is the same; conditions: none.
-/
import Derived.Test.YtpjokapkoeclpaaSigs
namespace Go.Proofs.Ytpjokapkoeclpaa
open Go.RowKit Go.Shelf

def sigSo (sl : List SgA) (s : ByteArray) : Int := ((lookS sl s).getD zeroSg).1.so
def sigArgs (sl : List SgA) (s : ByteArray) : List Int := ((lookS sl s).getD zeroSg).1.args
def constB (sl : List SgA) (s : ByteArray) : Bool := (lookS sl s).isSome && decide (sigArgs sl s = [])
/-- Whether a node's own name stands for something. -/
def namedB (dl : List (ByteArray × Int)) (sl : List SgA) (t : Nd) : Bool :=
  if t.op = 1 then (lookD dl t.nm).isSome || constB sl t.nm else if t.op = 3 then (lookS sl t.nm).isSome else true
def allNamed (dl : List (ByteArray × Int)) (sl : List SgA) (t : Nd) : Bool := (nodesOf t).all (namedB dl sl)
/-- The Op and the Sort of a resolved node. -/
def topR (b : Bool) (dl : List (ByteArray × Int)) (sl : List SgA) (t : Nd) (ks : List Nd) : Int × Int :=
  if t.op = 1 then (match lookD dl t.nm with | some x => (1, x) | none => if b = true ∨ ks.length = 0 then (3, sigSo sl t.nm) else (1, 0))
  else if t.op = 3 then (3, sigSo sl t.nm)
  else if t.op = 37 then (if takesB ks [2, 2] = true then 36 else 37, t.so)
  else (t.op, t.so)
/-- A resolved node: as the document has it (b: every name that no declaration has is a sig's) or as package logic has it. -/
def resG (b : Bool) (dl : List (ByteArray × Int)) (sl : List SgA) : Nd → Nd
  | .mk op so nm nu l => .mk (topR b dl sl (.mk op so nm nu l) (l.attach.map fun k => resG b dl sl k.1)).1 (topR b dl sl (.mk op so nm nu l) (l.attach.map fun k => resG b dl sl k.1)).2 nm nu (l.attach.map fun k => resG b dl sl k.1)
termination_by t => SizeOf.sizeOf t
decreasing_by
  all_goals
    have := List.sizeOf_lt_of_mem k.2
    simp only [Nd.mk.sizeOf_spec]
    omega
theorem resG_eq (b : Bool) (dl : List (ByteArray × Int)) (sl : List SgA) (t : Nd) :
    resG b dl sl t = .mk (topR b dl sl t (t.ks.map (resG b dl sl))).1 (topR b dl sl t (t.ks.map (resG b dl sl))).2 t.nm t.nu (t.ks.map (resG b dl sl)) := by
  cases t
  rw [resG]
  simp only [Nd.nm, Nd.nu, Nd.ks]
  rw [List.attach_map_val (f := resG b dl sl)]
theorem resG_ks (b : Bool) (dl : List (ByteArray × Int)) (sl : List SgA) (t : Nd) : (resG b dl sl t).ks = t.ks.map (resG b dl sl) := by rw [resG_eq]; rfl
theorem resG_nm (b : Bool) (dl : List (ByteArray × Int)) (sl : List SgA) (t : Nd) : (resG b dl sl t).nm = t.nm := by rw [resG_eq]; rfl
theorem resG_op (b : Bool) (dl : List (ByteArray × Int)) (sl : List SgA) (t : Nd) : (resG b dl sl t).op = (topR b dl sl t (t.ks.map (resG b dl sl))).1 := by rw [resG_eq]; rfl

theorem preN_res (b : Bool) (dl : List (ByteArray × Int)) (sl : List SgA) (t : Nd) : ∀ lv, preN lv (resG b dl sl t) = (preN lv t).map fun p => (p.1, resG b dl sl p.2) := by
  induction t using Nd.ind with
  | h t ih =>
  intro lv
  rw [preN_eq, preN_eq, List.map_cons, resG_ks]
  congr 1
  have key : ∀ (l : List Nd), (∀ k ∈ l, ∀ lv, preN lv (resG b dl sl k) = (preN lv k).map fun p => (p.1, resG b dl sl p.2)) → ∀ lv, preNs lv (l.map (resG b dl sl)) = (preNs lv l).map fun p => (p.1, resG b dl sl p.2) := by
    intro l
    induction l with
    | nil => intro _ lv; rfl
    | cons x xs ihx =>
      intro hl lv
      rw [List.map_cons, preNs, preNs, List.map_append, hl x (by simp), ihx (fun k hk => hl k (by simp [hk]))]
  exact key t.ks (fun k hk => by obtain ⟨i, hi, rfl⟩ := List.getElem_of_mem hk; exact ih i hi) _
theorem nodes_res (b : Bool) (dl : List (ByteArray × Int)) (sl : List SgA) (t : Nd) : nodesOf (resG b dl sl t) = (nodesOf t).map (resG b dl sl) := by
  unfold nodesOf
  rw [preN_res, List.map_map, List.map_map]
  rfl
theorem cnt_res (b : Bool) (dl : List (ByteArray × Int)) (sl : List SgA) (t : Nd) : cnt (resG b dl sl t) = cnt t := by
  unfold cnt
  rw [nodes_res, List.length_map]
theorem lim_res (b : Bool) (dl : List (ByteArray × Int)) (sl : List SgA) (t : Nd) : limB (preN 1 (resG b dl sl t)) = limB (preN 1 t) := by
  unfold limB
  rw [preN_res, List.length_map]
  congr 1
  apply propext
  constructor
  · rintro ⟨h1, h2⟩
    exact ⟨h1, fun p hp => h2 (p.1, resG b dl sl p.2) (List.mem_map.2 ⟨p, hp, rfl⟩)⟩
  · rintro ⟨h1, h2⟩
    refine ⟨h1, fun p hp => ?_⟩
    obtain ⟨q, hq, rfl⟩ := List.mem_map.1 hp
    exact h2 q hq

/-- Whether an argument of this sort may stand where a sig says w. -/
def argOk (w s : Int) : Bool := decide (w = s ∨ (w = 0 ∧ s ≠ 2))
def fitSigB (ks : List Nd) (args : List Int) : Bool := decide (ks.length = args.length ∧ ∀ i (h1 : i < args.length) (h2 : i < ks.length), argOk args[i] (sortN ks[i]) = true)
def fitOp (sl : List SgA) (t : Nd) : Bool := !(t.op == 3) || fitSigB t.ks (sigArgs sl t.nm)
def fitB (sl : List SgA) (t : Nd) : Bool := (nodesOf t).all (fitOp sl)
def misOp (sl : List SgA) (t : Nd) : Bool := (t.op == 1 && decide (t.ks.length ≠ 0)) || (t.op == 3 && decide ((sigArgs sl t.nm).length ≠ t.ks.length))
def misB (sl : List SgA) (t : Nd) : Bool := (nodesOf t).any (misOp sl)

theorem all_eq {p : Nd → Bool} (t : Nd) : (nodesOf t).all p = (p t && t.ks.all fun k => (nodesOf k).all p) := by
  rw [nodesOf_eq, List.all_cons, List.all_flatMap]
theorem any_eq {p : Nd → Bool} (t : Nd) : (nodesOf t).any p = (p t || t.ks.any fun k => (nodesOf k).any p) := by
  rw [nodesOf_eq, List.any_cons, List.any_flatMap]
theorem mem_self (t : Nd) : t ∈ nodesOf t := by rw [nodesOf_eq]; simp
theorem mem_kid {t k y : Nd} (hk : k ∈ t.ks) (hy : y ∈ nodesOf k) : y ∈ nodesOf t := by
  rw [nodesOf_eq]
  exact List.mem_cons_of_mem _ (List.mem_flatMap.2 ⟨k, hk, hy⟩)

theorem res_same {dl : List (ByteArray × Int)} {sl : List SgA} (t : Nd) (h : misB sl t = false) : resG false dl sl t = resG true dl sl t := by
  induction t using Nd.ind with
  | h t ih =>
  have hks : t.ks.map (resG false dl sl) = t.ks.map (resG true dl sl) := by
    apply List.map_congr_left
    intro k hk
    obtain ⟨i, hi, rfl⟩ := List.getElem_of_mem hk
    refine ih i hi ?_
    rw [misB, List.any_eq_false] at h ⊢
    exact fun y hy => h y (mem_kid hk hy)
  rw [resG_eq, resG_eq, hks]
  have hm : misOp sl t = false := by
    rw [misB, List.any_eq_false] at h
    simpa using h t (mem_self t)
  have : topR false dl sl t (t.ks.map (resG true dl sl)) = topR true dl sl t (t.ks.map (resG true dl sl)) := by
    unfold topR
    by_cases h1 : t.op = 1
    · rw [if_pos h1, if_pos h1]
      have h0 : t.ks.length = 0 := by
        simp [misOp, h1] at hm
        simpa using hm
      cases lookD dl t.nm with
      | some x => rfl
      | none => simp [h0]
    · rw [if_neg h1, if_neg h1]
  rw [this]

theorem ok_var {t : Nd} (h1 : t.op = 1) (h : t.ks.length ≠ 0) : okN t = false := by
  have : kidsB t.op t.ks = false := by
    rw [h1, kidsB_wants (l := []) t.ks (by decide) (by rfl)]
    exact takesB_len (by simpa using h)
  rw [okN, this, Bool.and_false]

/-- What is miscounted is refused by package logic's way, too. -/
theorem mis_refused {dl : List (ByteArray × Int)} {sl : List SgA} {t : Nd} (h : misB sl t = true) : allN (resG false dl sl t) = false ∨ fitB sl (resG false dl sl t) = false := by
  rw [misB, List.any_eq_true] at h
  obtain ⟨y, hy, hm⟩ := h
  have hmem : resG false dl sl y ∈ nodesOf (resG false dl sl t) := by rw [nodes_res]; exact List.mem_map.2 ⟨y, hy, rfl⟩
  simp only [misOp, Bool.or_eq_true, Bool.and_eq_true, beq_iff_eq, decide_eq_true_eq] at hm
  rcases hm with ⟨h1, h2⟩ | ⟨h3, h4⟩
  · refine .inl ?_
    have hop : (resG false dl sl y).op = 1 := by
      rw [resG_op]
      unfold topR
      rw [if_pos h1]
      cases lookD dl y.nm with
      | some x => rfl
      | none =>
        have : ¬ ((false : Bool) = true ∨ (y.ks.map (resG false dl sl)).length = 0) := by simpa using h2
        simp only [if_neg this]
    have hb := ok_var hop (by rw [resG_ks, List.length_map]; exact h2)
    rw [allN, List.all_eq_false]
    exact ⟨_, hmem, by rw [hb]; simp⟩
  · refine .inr ?_
    have hop : (resG false dl sl y).op = 3 := by
      rw [resG_op]
      unfold topR
      rw [if_neg (by omega), if_pos h3]
    have hb : fitOp sl (resG false dl sl y) = false := by
      rw [fitOp, hop]
      have : fitSigB (resG false dl sl y).ks (sigArgs sl (resG false dl sl y).nm) = false := by
        refine decide_eq_false fun hh => h4 ?_
        have h5 := hh.1
        rw [resG_ks, resG_nm, List.length_map] at h5
        exact h5.symm
      rw [this]; rfl
    rw [fitB, List.all_eq_false]
    exact ⟨_, hmem, by rw [hb]; simp⟩

/-- Where nothing is miscounted, all applications of the result have as many kids as their sigs say. -/
theorem counted {dl : List (ByteArray × Int)} {sl : List SgA} {t : Nd} (hn : allNamed dl sl t = true) (hm : misB sl t = false) : ∀ y ∈ nodesOf (resG true dl sl t), y.op = 3 → y.ks.length = (sigArgs sl y.nm).length := by
  intro z hz h3
  rw [nodes_res] at hz
  obtain ⟨y, hy, rfl⟩ := List.mem_map.1 hz
  rw [resG_ks, resG_nm, List.length_map]
  rw [misB, List.any_eq_false] at hm
  have hm' : misOp sl y = false := by simpa using hm y hy
  rw [allNamed, List.all_eq_true] at hn
  have hn' := hn y hy
  simp only [misOp, Bool.or_eq_false_iff] at hm'
  rw [resG_op] at h3
  unfold topR at h3
  by_cases h1 : y.op = 1
  · rw [if_pos h1] at h3
    have h0 : y.ks.length = 0 := by simpa [h1] using hm'.1
    unfold namedB at hn'
    rw [if_pos h1] at hn'
    cases hd : lookD dl y.nm with
    | some x => rw [hd] at h3; simp at h3
    | none =>
      rw [hd] at hn'
      simp only [Option.isSome_none, Bool.false_or, constB, Bool.and_eq_true, decide_eq_true_eq] at hn'
      rw [h0, hn'.2]; rfl
  · rw [if_neg h1] at h3
    by_cases h3' : y.op = 3
    · have := hm'.2; simp [h3'] at this; exact this.symm
    · rw [if_neg h3'] at h3
      by_cases h37 : y.op = 37
      · rw [if_pos h37] at h3
        simp only at h3
        split at h3 <;> cases h3
      · rw [if_neg h37] at h3
        exact absurd h3 h3'

def zeroNd : Nd := .mk 0 0 ⟨#[]⟩ 0 []
open Classical in
/-- What package logic's Resolve returns. -/
noncomputable def resV (dl : List (ByteArray × Int)) (sl : List SgA) (t : Nd) : Nd × Int :=
  if limB (preN 1 t) = false then (zeroNd, 2)
  else if allNamed dl sl t = false then (zeroNd, 4)
  else if checkV (resG false dl sl t) 0 ≠ 0 ∨ fitB sl (resG false dl sl t) = false then (zeroNd, 3)
  else (resG false dl sl t, 0)
/-- What the document's Resolve returns. -/
noncomputable def refResV (dl : List (ByteArray × Int)) (sl : List SgA) (t : Nd) : Nd × Int :=
  if 4000 < sizeW t ∨ 100 < levW t then (zeroNd, 2)
  else if allNamed dl sl t = false then (zeroNd, 4)
  else if misB sl t = true then (zeroNd, 3)
  else if allN (resG true dl sl t) = false ∨ refUniB (resG true dl sl t) = false ∨ fitB sl (resG true dl sl t) = false then (zeroNd, 3)
  else (resG true dl sl t, 0)

theorem check0 {r : Nd} (hl : limB (preN 1 r) = true) : checkV r 0 ≠ 0 ↔ allN r = false ∨ refUniB r = false := by
  unfold checkV
  rw [if_neg (by omega), if_neg (by rw [hl]; simp), allN_pre, uni_eq]
  show (if allN r = false ∨ uniB (nodesOf r) = false then (3 : Int) else if (0 : Int) ≠ 0 ∧ sortN r ≠ 0 then 10 else 0) ≠ 0 ↔ _
  by_cases h : allN r = false ∨ uniB (nodesOf r) = false
  · rw [if_pos h]; simp [h]
  · rw [if_neg h, if_neg (by simp)]; simp [h]
theorem res_eq {dl : List (ByteArray × Int)} {sl : List SgA} {t : Nd} (h : cnt t ≤ 1048576) : resV dl sl t = refResV dl sl t := by
  unfold resV refResV
  rw [lim_eq t h]
  by_cases hl : 4000 < sizeW t ∨ 100 < levW t
  · rw [if_pos (decide_eq_false (fun e => e hl)), if_pos hl]
  rw [if_neg (by rw [decide_eq_true hl]; simp), if_neg hl]
  have hlim : limB (preN 1 t) = true := by rw [lim_eq t h]; exact decide_eq_true hl
  by_cases hn : allNamed dl sl t = false
  · rw [if_pos hn, if_pos hn]
  rw [if_neg hn, if_neg hn]
  cases hm : misB sl t
  case true =>
    rw [if_pos rfl]
    rcases mis_refused (dl := dl) hm with hh | hh
    · rw [if_pos (.inl ((check0 (by rw [lim_res]; exact hlim)).2 (.inl hh)))]
    · rw [if_pos (.inr hh)]
  case false =>
    rw [if_neg Bool.false_ne_true, res_same t hm]
    by_cases hc : allN (resG true dl sl t) = false ∨ refUniB (resG true dl sl t) = false ∨ fitB sl (resG true dl sl t) = false
    · rw [if_pos hc]
      refine if_pos ?_
      rcases hc with hc | hc | hc
      · exact .inl ((check0 (by rw [lim_res]; exact hlim)).2 (.inl hc))
      · exact .inl ((check0 (by rw [lim_res]; exact hlim)).2 (.inr hc))
      · exact .inr hc
    · rw [if_neg hc]
      refine if_neg ?_
      rintro (h1 | h1)
      · rcases (check0 (by rw [lim_res]; exact hlim)).1 h1 with h2 | h2
        · exact hc (.inl h2)
        · exact hc (.inr (.inl h2))
      · exact hc (.inr (.inr h1))
/-- What Resolve returns passes Check. -/
theorem res_checks {dl : List (ByteArray × Int)} {sl : List SgA} {t : Nd} (h : (resV dl sl t).2 = 0) : checkV (resV dl sl t).1 0 = 0 := by
  unfold resV at h ⊢
  split
  · rename_i h1; rw [if_pos h1] at h; cases h
  rename_i h1
  rw [if_neg h1] at h
  split
  · rename_i h2; rw [if_pos h2] at h; cases h
  rename_i h2
  rw [if_neg h2] at h
  split
  · rename_i h3; rw [if_pos h3] at h; cases h
  rename_i h3
  simpa using fun e => h3 (.inl e)
end Go.Proofs.Ytpjokapkoeclpaa
