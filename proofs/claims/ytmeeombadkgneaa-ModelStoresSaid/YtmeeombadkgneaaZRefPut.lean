/-
  What the document's own Vars returns; conditions: the tree lies in memory and has few variables.
  What the document's own Vars returns; conditions: the tree lies in memory and has few nodes.
  What the document's own Uniform returns; conditions: the tree lies in memory and has few nodes.
  The document's own Check, and that package logic's returns the same; conditions: the tree lies in memory and has few nodes.
-/
import Derived.Lib.SmallJoins
import Derived.Test.YtmeeombadkgneaaZRefSorted
import Derived.Test.YtmeeombadkgneaaZVarsOne
import Derived.Test.YtmeeombadkgneaaZOrder
import Derived.Test.YtmeeombadkgneaaZUni
import Derived.Test.YtmeeombadkgneaaZCheck
namespace Go.Proofs.Ytmeeombadkgneaa
open Go.RowKit Go.Shelf

attribute [local go_sem] Oper.semAt_some
/-- Whether a declaration stands ahead of another one. -/
def ahB (d e : ByteArray × Int) : Bool := Op.bytesLess d.1.toList e.1.toList || ((d.1.toList == e.1.toList) && decide (d.2 < e.2))
def flatD (l : List (ByteArray × Int)) : List Value := l.flatMap fun d => [.string d.1, .int .i64 d.2]
/-- A slice A of a list's length holds declarations. -/
def DeclsAt (w : World) (A : Option Addr) (dl : List (ByteArray × Int)) : Prop :=
  ∃ b, (0 < dl.length → A = some ⟨b, 0, none⟩) ∧ ∀ i (hi : i < dl.length), w.cell? ⟨b, i * 2, none⟩ = some (.string dl[i].1) ∧ w.cell? ⟨b, i * 2 + 1, none⟩ = some (.int .i64 dl[i].2)
theorem DeclsAt.later {w w' : World} {A : Option Addr} {dl : List (ByteArray × Int)} (h : DeclsAt w A dl) (hb : Below w.heap.size w w') : DeclsAt w' A dl := by
  obtain ⟨b, h1, h2⟩ := h
  exact ⟨b, h1, fun i hi => ⟨cellB hb (Nat.le_refl _) (h2 i hi).1, cellB hb (Nat.le_refl _) (h2 i hi).2⟩⟩


def eqD (x d : ByteArray × Int) : Bool := (x.1.toList == d.1.toList) && (x.2 == d.2)
/-- A round of the document's insertion. -/
def stD (d : ByteArray × Int) : List (ByteArray × Int) × Bool → ByteArray × Int → List (ByteArray × Int) × Bool
  | (o, true), x => (o ++ [x], true)
  | (o, false), x => if eqD x d = true then (o ++ [x], true) else if ahB d x = true then (o ++ [d] ++ [x], true) else (o ++ [x], false)
def foldD (d : ByteArray × Int) (l : List (ByteArray × Int)) : List (ByteArray × Int) × Bool := l.foldl (stD d) ([], false)
theorem foldD_snoc (d : ByteArray × Int) (l : List (ByteArray × Int)) {k : Nat} (h : k < l.length) : foldD d (l.take (k + 1)) = stD d (foldD d (l.take k)) l[k] := by
  rw [foldD, foldD, List.take_succ_eq_append_getElem h, List.foldl_append]
  rfl
def putD (l : List (ByteArray × Int)) (d : ByteArray × Int) : List (ByteArray × Int) := if (foldD d l).2 = true then (foldD d l).1 else (foldD d l).1 ++ [d]

theorem flatD_len (l : List (ByteArray × Int)) : (flatD l).length = l.length * 2 := by
  induction l with
  | nil => rfl
  | cons x xs ih => rw [flatD, List.flatMap_cons, List.length_append, ← flatD, ih]; simp; omega
theorem flatD_snoc (l : List (ByteArray × Int)) (d : ByteArray × Int) : flatD (l ++ [d]) = flatD l ++ [.string d.1, .int .i64 d.2] := by
  rw [flatD, List.flatMap_append]; rfl
theorem flatD_at (l : List (ByteArray × Int)) : ∀ i (h : i < l.length), (flatD l)[i * 2]? = some (.string l[i].1) ∧ (flatD l)[i * 2 + 1]? = some (.int .i64 l[i].2) := by
  induction l with
  | nil => intro i h; simp at h
  | cons x xs ih =>
    intro i h
    have e : flatD (x :: xs) = [.string x.1, .int .i64 x.2] ++ flatD xs := rfl
    match i, h with
    | 0, _ => exact ⟨rfl, rfl⟩
    | i + 1, h =>
      have h' : i < xs.length := by simpa using h
      obtain ⟨h1, h2⟩ := ih i h'
      rw [e]
      refine ⟨?_, ?_⟩
      · rw [List.getElem?_append_right (by simp; omega)]
        simpa [show (i + 1) * 2 - 2 = i * 2 by omega] using h1
      · rw [List.getElem?_append_right (by simp; omega)]
        simpa [show (i + 1) * 2 + 1 - 2 = i * 2 + 1 by omega] using h2

theorem ownsRow_below {w w' : World} {base : Nat} {e : TypeId} {size : Nat} {v : Value} {n : Nat} {xs : List Value} (h : w.ownsRow base e size v n xs) (hb : Below w.heap.size w w') : w'.ownsRow base e size v n xs := by
  refine ⟨h.1, ?_⟩
  rcases h.2 with h | ⟨g, cap, cur, hv, h1, h2, h3⟩
  · exact .inl h
  · exact .inr ⟨g, cap, cur, hv, h1, (hb.block g (Array.getElem?_eq_some_iff.1 h2).1).trans h2, h3⟩
theorem ownsRow_block {w : World} {base : Nat} {e : TypeId} {size : Nat} {v : Value} {n : Nat} {xs : List Value} (h : w.ownsRow base e size v n xs) : ∀ k, v.ownBlock = some k → base ≤ k := by
  intro k hk
  rcases h.2 with ⟨h, _⟩ | ⟨g, cap, cur, hv, h1, _⟩
  · subst h; cases hk
  · subst hv
    cases hk
    exact h1
theorem news2 {W : World} {bk : Nat} {a : ByteArray} {x : Int} (h0 : W.cell? ⟨bk, 0, none⟩ = some (.string a)) (h1 : W.cell? ⟨bk, 1, none⟩ = some (.int .i64 x)) :
    ∀ (j : Nat) (u : Value), ([.string a, .int .i64 x] : List Value)[j]? = some u → W.cell? ((⟨bk, 0, none⟩ : Addr).add j) = some u := by
  intro j u hj
  match j, hj with
  | 0, hj => simp at hj; subst hj; exact h0
  | 1, hj => simp at hj; subst hj; exact h1
theorem ownsRow_alloc {w : World} {base : Nat} {e : TypeId} {size : Nat} {v : Value} {n : Nat} {xs : List Value} (h : w.ownsRow base e size v n xs) (O : Obj) : (w.alloc O).ownsRow base e size v n xs :=
  ownsRow_below h ((Below.refl _ _).alloc (Nat.le_refl _) _)

theorem stD_t (d : ByteArray × Int) (o : List (ByteArray × Int)) (x : ByteArray × Int) : stD d (o, true) x = (o ++ [x], true) := rfl
theorem stD_e {d : ByteArray × Int} (o : List (ByteArray × Int)) {x : ByteArray × Int} (h : eqD x d = true) : stD d (o, false) x = (o ++ [x], true) := by rw [stD, if_pos h]
theorem stD_a {d : ByteArray × Int} (o : List (ByteArray × Int)) {x : ByteArray × Int} (h : eqD x d = false) (h' : ahB d x = true) : stD d (o, false) x = (o ++ [d] ++ [x], true) := by rw [stD, if_neg (by simp [h]), if_pos h']
theorem stD_n {d : ByteArray × Int} (o : List (ByteArray × Int)) {x : ByteArray × Int} (h : eqD x d = false) (h' : ahB d x = false) : stD d (o, false) x = (o ++ [x], false) := by rw [stD, if_neg (by simp [h]), if_neg (by simp [h'])]

/-- What a function that returns a list of declarations returns. -/
def RetD (w : World) (l : List (ByteArray × Int)) (e : Ending) (w' : World) : Prop := ∃ A cap, e = .returned (.slice A l.length cap) ∧ DeclsAt w' A l ∧ Below w.heap.size w w'
end Go.Proofs.Ytmeeombadkgneaa
namespace Go.Proofs.Ytmeeombadkgneaa
open Go.RowKit Go.Shelf

attribute [local go_sem] Oper.semAt_some
/-- A declaration put into a list in its place, once. -/
def insD (d : ByteArray × Int) : List (ByteArray × Int) → List (ByteArray × Int)
  | [] => [d]
  | x :: xs => if eqD x d = true then x :: xs else if ahB d x = true then d :: x :: xs else x :: insD d xs

theorem foldD_true (d : ByteArray × Int) (l : List (ByteArray × Int)) : ∀ o, l.foldl (stD d) (o, true) = (o ++ l, true) := by
  induction l with
  | nil => intro o; simp
  | cons x xs ih => intro o; rw [List.foldl_cons, stD_t, ih]; simp
theorem foldD_false (d : ByteArray × Int) (l : List (ByteArray × Int)) : ∀ o, (if (l.foldl (stD d) (o, false)).2 = true then (l.foldl (stD d) (o, false)).1 else (l.foldl (stD d) (o, false)).1 ++ [d]) = o ++ insD d l := by
  induction l with
  | nil => intro o; rfl
  | cons x xs ih =>
    intro o
    rw [List.foldl_cons, insD]
    by_cases h1 : eqD x d = true
    · rw [stD_e _ h1, foldD_true, if_pos h1]; simp
    · have h1' : eqD x d = false := by simpa using h1
      rw [if_neg h1]
      by_cases h2 : ahB d x = true
      · rw [stD_a _ h1' h2, foldD_true, if_pos h2]; simp
      · have h2' : ahB d x = false := by simpa using h2
        rw [stD_n _ h1' h2', ih, if_neg h2]; simp
theorem putD_ins (l : List (ByteArray × Int)) (d : ByteArray × Int) : putD l d = insD d l := by
  have := foldD_false d l []
  rw [List.nil_append] at this
  rw [← this, putD, foldD]

theorem toList_inj {a b : ByteArray} (h : a.toList = b.toList) : a = b := by
  rw [ByteArray.toList_eq, ByteArray.toList_eq] at h
  cases a; cases b
  simp only [ByteArray.mk.injEq]
  exact Array.toList_inj.1 h
theorem eqD_iff {x d : ByteArray × Int} : eqD x d = true ↔ x = d := by
  unfold eqD
  rw [Bool.and_eq_true, beq_iff_eq, beq_iff_eq]
  constructor
  · rintro ⟨h1, h2⟩; exact Prod.ext (toList_inj h1) h2
  · rintro rfl; exact ⟨rfl, rfl⟩

/-- The order of declarations. -/
def ltD (d e : ByteArray × Int) : Prop := cmpB d.1.toList e.1.toList < 0 ∨ (d.1 = e.1 ∧ d.2 < e.2)
theorem ahB_iff {d e : ByteArray × Int} : ahB d e = true ↔ ltD d e := by
  unfold ahB ltD
  rw [Bool.or_eq_true, Bool.and_eq_true, less_cmpB, decide_eq_true_iff, beq_iff_eq, decide_eq_true_iff]
  constructor
  · rintro (h | ⟨h1, h2⟩)
    · exact .inl h
    · exact .inr ⟨toList_inj h1, h2⟩
  · rintro (h | ⟨h1, h2⟩)
    · exact .inl h
    · exact .inr ⟨by rw [h1], h2⟩
theorem ltD_trans {a b c : ByteArray × Int} (h : ltD a b) (h' : ltD b c) : ltD a c := by
  unfold ltD at *
  have t := cmpB_tri a.1.toList b.1.toList c.1.toList
  unfold Tri at t
  rcases h with h | ⟨h1, h2⟩
  · rcases h' with h' | ⟨h1', h2'⟩
    · have := t (by omega) (by omega); exact .inl (by omega)
    · rw [h1'] at h; exact .inl h
  · rcases h' with h' | ⟨h1', h2'⟩
    · rw [h1]; exact .inl h'
    · exact .inr ⟨h1.trans h1', by omega⟩
theorem ltD_tri (a b : ByteArray × Int) (h : ¬ a = b) (h' : ¬ ltD a b) : ltD b a := by
  unfold ltD at *
  have n := cmpB_neg a.1.toList b.1.toList
  by_cases e : a.1 = b.1
  · have : a.2 ≠ b.2 := fun e2 => h (Prod.ext e e2)
    exact .inr ⟨e.symm, by have : ¬ a.2 < b.2 := fun q => h' (.inr ⟨e, q⟩); omega⟩
  · have h0 : cmpB a.1.toList b.1.toList ≠ 0 := fun q => e (toList_inj (cmpB_zero q))
    have h1 : ¬ cmpB a.1.toList b.1.toList < 0 := fun q => h' (.inl q)
    exact .inl (by omega)

theorem mem_insD {d y : ByteArray × Int} {l : List (ByteArray × Int)} : y ∈ insD d l ↔ y = d ∨ y ∈ l := by
  induction l with
  | nil => simp [insD]
  | cons x xs ih =>
    rw [insD]
    by_cases h1 : eqD x d = true
    · rw [if_pos h1]
      have := eqD_iff.1 h1
      subst this
      simp
    · rw [if_neg h1]
      by_cases h2 : ahB d x = true
      · rw [if_pos h2]; simp
      · rw [if_neg h2, List.mem_cons, ih, List.mem_cons]
        constructor
        · rintro (h | h | h)
          · exact .inr (.inl h)
          · exact .inl h
          · exact .inr (.inr h)
        · rintro (h | h | h)
          · exact .inr (.inl h)
          · exact .inl h
          · exact .inr (.inr h)
theorem len_insD (d : ByteArray × Int) (l : List (ByteArray × Int)) : (insD d l).length ≤ l.length + 1 := by
  induction l with
  | nil => simp [insD]
  | cons x xs ih =>
    rw [insD]
    by_cases h1 : eqD x d = true
    · rw [if_pos h1]; simp
    · rw [if_neg h1]
      by_cases h2 : ahB d x = true
      · rw [if_pos h2]; simp
      · rw [if_neg h2, List.length_cons, List.length_cons]; omega
theorem sorted_insD {d : ByteArray × Int} {l : List (ByteArray × Int)} (h : l.Pairwise ltD) : (insD d l).Pairwise ltD := by
  induction l with
  | nil => simp [insD]
  | cons x xs ih =>
    rw [insD]
    have h' := List.pairwise_cons.1 h
    by_cases h1 : eqD x d = true
    · rw [if_pos h1]; exact h
    · rw [if_neg h1]
      by_cases h2 : ahB d x = true
      · rw [if_pos h2]
        have h2 := ahB_iff.1 h2
        refine List.pairwise_cons.2 ⟨fun y hy => ?_, h⟩
        rcases List.mem_cons.1 hy with rfl | hy
        · exact h2
        · exact ltD_trans h2 (h'.1 y hy)
      · rw [if_neg h2]
        refine List.pairwise_cons.2 ⟨fun y hy => ?_, ih h'.2⟩
        rcases mem_insD.1 hy with rfl | hy
        · exact ltD_tri _ _ (fun e => h1 (eqD_iff.2 e.symm)) (fun e => h2 (ahB_iff.2 e))
        · exact h'.1 y hy

def gsD (l : List (ByteArray × Int)) (y : Nd) : List (ByteArray × Int) := if y.op = 1 then putD l (y.nm, y.so) else l
def gathL (l : List (ByteArray × Int)) (t : Nd) : List (ByteArray × Int) := (nodesOf t).foldl gsD l
theorem gathL_eq (l : List (ByteArray × Int)) (t : Nd) : gathL l t = t.ks.foldl gathL (gsD l t) := by
  rw [gathL, nodesOf_eq, List.foldl_cons, List.foldl_flatMap]
  rfl
theorem gsD_len (l : List (ByteArray × Int)) (y : Nd) : (gsD l y).length ≤ l.length + 1 := by
  unfold gsD
  split
  · rw [putD_ins]; exact len_insD _ _
  · omega
theorem fold_gsD_len (ys : List Nd) : ∀ l, (ys.foldl gsD l).length ≤ l.length + ys.length := by
  induction ys with
  | nil => intro l; simp
  | cons y ys ih => intro l; rw [List.foldl_cons, List.length_cons]; have := ih (gsD l y); have := gsD_len l y; omega
theorem gathL_len (l : List (ByteArray × Int)) (t : Nd) : (gathL l t).length ≤ l.length + (nodesOf t).length := fold_gsD_len _ _
theorem fold_gsD_mem (ys : List Nd) : ∀ l d, d ∈ ys.foldl gsD l ↔ d ∈ l ∨ ∃ y ∈ ys, y.op = 1 ∧ d = (y.nm, y.so) := by
  induction ys with
  | nil => intro l d; simp
  | cons y ys ih =>
    intro l d
    rw [List.foldl_cons, ih]
    have : d ∈ gsD l y ↔ d ∈ l ∨ (y.op = 1 ∧ d = (y.nm, y.so)) := by
      unfold gsD
      split
      · rename_i h; rw [putD_ins, mem_insD]; simp [h, or_comm]
      · rename_i h; simp [h]
    rw [this]
    simp [or_assoc]
theorem fold_gsD_sorted (ys : List Nd) : ∀ l, l.Pairwise ltD → (ys.foldl gsD l).Pairwise ltD := by
  induction ys with
  | nil => intro l h; exact h
  | cons y ys ih =>
    intro l h
    rw [List.foldl_cons]
    refine ih _ ?_
    unfold gsD
    split
    · rw [putD_ins]; exact sorted_insD h
    · exact h

/-- The nodes of the first kids are no more than those of the tree. -/
theorem kids_cnt (ks : List Nd) (k : Nat) (hk : k < ks.length) : ((ks.take k).flatMap nodesOf).length + (nodesOf ks[k]).length ≤ (ks.flatMap nodesOf).length := by
  have : ks = ks.take k ++ ks[k] :: ks.drop (k + 1) := by
    rw [← List.drop_eq_getElem_cons hk, List.take_append_drop]
  conv => rhs; rw [this]
  rw [List.flatMap_append, List.flatMap_cons, List.length_append, List.length_append]
  omega
theorem fold_gathL (ks : List Nd) (l : List (ByteArray × Int)) : ks.foldl gathL l = (ks.flatMap nodesOf).foldl gsD l := by
  rw [List.foldl_flatMap]; rfl
theorem fold_gathL_len (ks : List Nd) (l : List (ByteArray × Int)) : (ks.foldl gathL l).length ≤ l.length + (ks.flatMap nodesOf).length := by
  rw [fold_gathL]; exact fold_gsD_len _ _
theorem fold_gathL_snoc (ks : List Nd) (l : List (ByteArray × Int)) (k : Nat) (hk : k < ks.length) : (ks.take (k + 1)).foldl gathL l = gathL ((ks.take k).foldl gathL l) ks[k] := by
  rw [List.take_succ_eq_append_getElem hk, List.foldl_append]; rfl
end Go.Proofs.Ytmeeombadkgneaa
namespace Go.Proofs.Ytmeeombadkgneaa
open Go.RowKit Go.Shelf

attribute [local go_sem] Oper.semAt_some
/-- Whether no two neighbours of a list of declarations have one name. -/
def apartL (dl : List (ByteArray × Int)) : Prop := ∀ i (h : i + 1 < dl.length), dl[i].1.toList ≠ dl[i + 1].1.toList
/-- What the document's Uniform returns. -/
noncomputable def refUniB (t : Nd) : Bool := @decide (apartL (gathL [] t) ∧ ∀ d ∈ gathL [] t, conB d.1 t = false) (Classical.propDecidable _)
theorem refUniB_false {t : Nd} (h : ¬ (apartL (gathL [] t) ∧ ∀ d ∈ gathL [] t, conB d.1 t = false)) : refUniB t = false := @decide_eq_false _ (Classical.propDecidable _) h
theorem refUniB_true {t : Nd} (h : apartL (gathL [] t) ∧ ∀ d ∈ gathL [] t, conB d.1 t = false) : refUniB t = true := @decide_eq_true _ (Classical.propDecidable _) h

end Go.Proofs.Ytmeeombadkgneaa
namespace Go.Proofs.Ytmeeombadkgneaa
open Go.RowKit Go.Shelf

attribute [local go_sem] Oper.semAt_some
theorem kOf_inj {a b : ByteArray} : kOf a = kOf b ↔ a.toList = b.toList := by
  unfold kOf
  rw [ByteArray.toList_eq, ByteArray.toList_eq]
  constructor
  · intro h; injection h
  · intro h; rw [h]
theorem ltD_irrefl (d : ByteArray × Int) : ¬ ltD d d := by
  unfold ltD
  have := cmpB_self d.1.toList
  omega
theorem conB_iff {nm : ByteArray} {t : Nd} : conB nm t = true ↔ ∃ z ∈ nodesOf t, isCon z ∧ z.nm.toList = nm.toList := by
  unfold conB isCon
  rw [List.any_eq_true]
  constructor
  · rintro ⟨z, hz, h⟩
    rw [Bool.and_eq_true, Bool.and_eq_true, beq_iff_eq, beq_iff_eq, decide_eq_true_iff] at h
    exact ⟨z, hz, ⟨h.1, h.2.2⟩, h.2.1⟩
  · rintro ⟨z, hz, ⟨h1, h2⟩, h3⟩
    refine ⟨z, hz, ?_⟩
    rw [Bool.and_eq_true, Bool.and_eq_true, beq_iff_eq, beq_iff_eq, decide_eq_true_iff]
    exact ⟨h1, h3, h2⟩
theorem mem_gath {t : Nd} {d : ByteArray × Int} : d ∈ gathL [] t ↔ ∃ y ∈ nodesOf t, y.op = 1 ∧ d = (y.nm, y.so) := by
  unfold gathL
  rw [fold_gsD_mem]
  simp
theorem gath_sorted (t : Nd) : (gathL [] t).Pairwise ltD := fold_gsD_sorted _ _ List.Pairwise.nil
theorem near {dl : List (ByteArray × Int)} (hs : dl.Pairwise ltD) {i j : Nat} (hi : i < dl.length) (hj : j < dl.length) (h : i < j) (he : dl[i].1.toList = dl[j].1.toList) : ¬ apartL dl := by
  intro ha
  have hi1 : i + 1 < dl.length := by omega
  refine ha i hi1 ?_
  by_cases e : i + 1 = j
  · subst e; exact he
  · have h1 : ltD dl[i] dl[i + 1] := List.pairwise_iff_getElem.1 hs i (i + 1) hi hi1 (by omega)
    have h2 : ltD dl[i + 1] dl[j] := List.pairwise_iff_getElem.1 hs (i + 1) j hi1 hj (by omega)
    unfold ltD at h1 h2
    rw [← he] at h2
    have hn := cmpB_neg dl[i].1.toList dl[i + 1].1.toList
    rcases h1 with h1 | ⟨h1, _⟩
    · rcases h2 with h2 | ⟨h2, _⟩
      · omega
      · rw [he, h2]
    · rw [h1]
theorem uni_eq (t : Nd) : refUniB t = uniB (nodesOf t) := by
  by_cases h : UOk (nodesOf t)
  · rw [uniB_true h]
    refine refUniB_true ⟨fun i hi he => ?_, fun d hd => ?_⟩
    · obtain ⟨y, hy, hyv, ey⟩ := mem_gath.1 (List.getElem_mem (show i < (gathL [] t).length by omega))
      obtain ⟨z, hz, hzv, ez⟩ := mem_gath.1 (List.getElem_mem hi)
      have hl := List.pairwise_iff_getElem.1 (gath_sorted t) i (i + 1) (by omega) hi (by omega)
      rw [ey, ez] at he hl
      refine h y hy z hz ⟨kOf_inj.2 he, hyv, .inl ⟨hzv, fun hs => ?_⟩⟩
      have : (y.nm, y.so) = (z.nm, z.so) := Prod.ext (toList_inj he) hs
      rw [this] at hl
      exact ltD_irrefl _ hl
    · obtain ⟨y, hy, hyv, rfl⟩ := mem_gath.1 hd
      rw [← Bool.not_eq_true, conB_iff]
      rintro ⟨z, hz, hc, hn⟩
      exact h y hy z hz ⟨kOf_inj.2 hn.symm, hyv, .inr hc⟩
  · rw [uniB_false h]
    refine refUniB_false fun ⟨ha, hc⟩ => h fun y hy z hz hcf => ?_
    obtain ⟨hk, hyv, hzz⟩ := hcf
    have hk := kOf_inj.1 hk
    rcases hzz with ⟨hzv, hs⟩ | hzc
    · obtain ⟨i, hi, ei⟩ := List.getElem_of_mem (mem_gath.2 ⟨y, hy, hyv, rfl⟩)
      obtain ⟨j, hj, ej⟩ := List.getElem_of_mem (mem_gath.2 ⟨z, hz, hzv, rfl⟩)
      by_cases hlt : i < j
      · exact near (gath_sorted t) hi hj hlt (by rw [ei, ej]; exact hk) ha
      · by_cases hgt : j < i
        · exact near (gath_sorted t) hj hi hgt (by rw [ei, ej]; exact hk.symm) ha
        · have : i = j := by omega
          subst this
          rw [ei] at ej
          exact hs (Prod.mk.inj ej).2
    · have := hc (y.nm, y.so) (mem_gath.2 ⟨y, hy, hyv, rfl⟩)
      rw [(conB_iff (nm := y.nm) (t := t)).2 ⟨z, hz, hzc, hk.symm⟩] at this
      cases this

/-- The number of nodes. -/
def cnt (t : Nd) : Nat := (nodesOf t).length
theorem flat_cnt (ks : List Nd) : (ks.flatMap nodesOf).length = (ks.map cnt).sum := by
  rw [List.length_flatMap]; rfl
theorem cnt_eq (t : Nd) : cnt t = 1 + (t.ks.map cnt).sum := by
  rw [cnt, nodesOf_eq, List.length_cons, flat_cnt]; omega
theorem le_sum_mem {l : List Nat} {n : Nat} (h : n ∈ l) : n ≤ l.sum := by
  induction l with
  | nil => cases h
  | cons x xs ih =>
    rw [List.sum_cons]
    rcases List.mem_cons.1 h with rfl | h
    · omega
    · have := ih h; omega
theorem cnt_kid {t : Nd} {k : Nd} (h : k ∈ t.ks) : cnt k + 1 ≤ cnt t := by
  rw [cnt_eq t]
  have : cnt k ≤ (t.ks.map cnt).sum := le_sum_mem (List.mem_map.2 ⟨k, h, rfl⟩)
  omega
theorem pre_cnt (t : Nd) : (preN 1 t).length = cnt t := by rw [cnt, nodesOf, List.length_map]

theorem wrap_small {x : Int} (h0 : -9223372036854775808 ≤ x) (h1 : x ≤ 9223372036854775807) : wrap64 x = x := by unfold wrap64; omega

theorem sizeW_cnt (t : Nd) (h : cnt t ≤ 1048576) : sizeW t = cnt t := by
  induction t using Nd.ind with
  | h t ih =>
  rw [sizeW_eq, cnt_eq]
  rw [cnt_eq] at h
  have key : ∀ (l : List Nd), (∀ i (hi : i < l.length), cnt l[i] ≤ 1048576 → sizeW l[i] = cnt l[i]) → ∀ s : Nat, s + (l.map cnt).sum ≤ 1048577 → (l.map cnt).sum ≤ 1048576 → sizeL s l = (s : Int) + ((l.map cnt).sum : Nat) := by
    intro l
    induction l with
    | nil => intro _ s _ _; simp [sizeL]
    | cons x xs ihx =>
      intro hl s hs hs2
      rw [List.map_cons, List.sum_cons] at hs hs2 ⊢
      have hx : sizeW x = cnt x := hl 0 (by simp) (by show cnt x ≤ _; omega)
      have := ihx (fun i hi => hl (i + 1) (by simp; omega)) (s + cnt x) (by omega) (by omega)
      rw [sizeL, List.foldl_cons, hx, wrap_small (by omega) (by omega), show ((s : Int) + (cnt x : Int)) = ((s + cnt x : Nat) : Int) by omega]
      rw [sizeL] at this
      rw [this]
      omega
  have := key t.ks (fun i hi => ih i hi) 1 (by omega) (by omega)
  rw [show ((1 : Nat) : Int) = 1 from rfl] at this
  rw [this]
  omega

/-- The number of levels. -/
def dep : Nd → Nat
  | .mk _ _ _ _ ks => ks.attach.foldl (fun s k => max s (dep k.1)) 0 + 1
termination_by t => SizeOf.sizeOf t
decreasing_by
  have := List.sizeOf_lt_of_mem k.2
  simp only [Nd.mk.sizeOf_spec]
  omega
def depL (s : Nat) (ks : List Nd) : Nat := ks.foldl (fun s k => max s (dep k)) s
theorem dep_eq (t : Nd) : dep t = depL 0 t.ks + 1 := by
  cases t
  rw [dep, depL]
  simp only [Nd.ks]
  rw [List.foldl_attach (f := fun s k => max s (dep k))]
theorem depL_le {ks : List Nd} {n : Nat} : ∀ s, depL s ks ≤ n ↔ s ≤ n ∧ ∀ k ∈ ks, dep k ≤ n := by
  induction ks with
  | nil => intro s; simp [depL]
  | cons x xs ih =>
    intro s
    have e : depL s (x :: xs) = depL (max s (dep x)) xs := rfl
    rw [e, ih]
    simp only [List.mem_cons, forall_eq_or_imp, Nat.max_le]
    constructor
    · rintro ⟨⟨h1, h2⟩, h3⟩; exact ⟨h1, h2, h3⟩
    · rintro ⟨h1, h2, h3⟩; exact ⟨⟨h1, h2⟩, h3⟩
theorem dep_cnt (t : Nd) : dep t ≤ cnt t := by
  induction t using Nd.ind with
  | h t ih =>
  rw [dep_eq]
  have : depL 0 t.ks ≤ cnt t - 1 := (depL_le 0).2 ⟨Nat.zero_le _, fun k hk => by
    obtain ⟨i, hi, rfl⟩ := List.getElem_of_mem hk
    have h1 := ih i hi
    have h2 := cnt_kid hk
    omega⟩
  have h3 := cnt_eq t
  omega
theorem levW_dep (t : Nd) (h : cnt t ≤ 1048576) : levW t = dep t := by
  induction t using Nd.ind with
  | h t ih =>
  have hd := dep_cnt t
  rw [levW_eq, dep_eq] at *
  have key : ∀ (l : List Nd), (∀ k ∈ l, levW k = dep k) → ∀ s : Nat, levL s l = (depL s l : Nat) := by
    intro l
    induction l with
    | nil => intro _ s; rfl
    | cons x xs ihx =>
      intro hl s
      have e1 : levL s (x :: xs) = levL (max (s : Int) (levW x)) xs := rfl
      have e2 : depL s (x :: xs) = depL (max s (dep x)) xs := rfl
      rw [e1, e2, hl x (by simp), ← ihx (fun k hk => hl k (by simp [hk])) (max s (dep x))]
      congr 1
      omega
  have := key t.ks (fun k hk => by
    have h2 := cnt_kid hk
    obtain ⟨i, hi, rfl⟩ := List.getElem_of_mem hk
    exact ih i hi (by omega)) 0
  rw [show ((0 : Nat) : Int) = 0 from rfl] at this
  rw [this, wrap_small (by omega) (by omega)]
  omega
theorem pre_levels (t : Nd) : ∀ lv : Int, 0 ≤ lv → lv + cnt t ≤ 4000000 → ((∀ p ∈ preN lv t, p.1 ≤ 100) ↔ lv + dep t ≤ 101) := by
  induction t using Nd.ind with
  | h t ih =>
  intro lv h0 hb
  have hw : wrap64 (lv + 1) = lv + 1 := wrap_small (by omega) (by omega)
  have hns : ∀ (l : List Nd), (∀ k ∈ l, ((∀ p ∈ preN (lv + 1) k, p.1 ≤ 100) ↔ lv + 1 + dep k ≤ 101)) → ((∀ p ∈ preNs (lv + 1) l, p.1 ≤ 100) ↔ ∀ k ∈ l, lv + 1 + dep k ≤ 101) := by
    intro l
    induction l with
    | nil => intro _; simp [preNs]
    | cons x xs ihx =>
      intro hl
      rw [preNs]
      simp only [List.mem_append, List.mem_cons, forall_eq_or_imp]
      rw [← hl x (by simp), ← ihx (fun k hk => hl k (by simp [hk]))]
      constructor
      · intro h; exact ⟨fun p hp => h p (.inl hp), fun p hp => h p (.inr hp)⟩
      · rintro ⟨h1, h2⟩ p (hp | hp)
        · exact h1 p hp
        · exact h2 p hp
  have hk := hns t.ks (fun k hk => by
    have h2 := cnt_kid hk
    obtain ⟨i, hi, rfl⟩ := List.getElem_of_mem hk
    exact ih i hi (lv + 1) (by omega) (by omega))
  rw [preN_eq, hw]
  simp only [List.mem_cons, forall_eq_or_imp]
  rw [hk, dep_eq]
  constructor
  · rintro ⟨h1, h2⟩
    have : depL 0 t.ks ≤ (100 - lv).toNat := (depL_le 0).2 ⟨Nat.zero_le _, fun k hk => by have := h2 k hk; omega⟩
    omega
  · intro h
    refine ⟨by omega, fun k hk => ?_⟩
    have := ((depL_le (ks := t.ks) (n := depL 0 t.ks) 0).1 (Nat.le_refl _)).2 k hk
    omega
theorem lim_eq (t : Nd) (h : cnt t ≤ 1048576) : limB (preN 1 t) = decide (¬ (4000 < sizeW t ∨ 100 < levW t)) := by
  unfold limB
  rw [sizeW_cnt t h, levW_dep t h, pre_cnt]
  congr 1
  rw [pre_levels t 1 (by omega) (by omega)]
  apply propext
  omega
/-- What the document's Check returns. -/
noncomputable def refCheckV (t : Nd) (sort : Int) : Int :=
  if sort < 0 ∨ 5 < sort then 1
  else if 4000 < sizeW t ∨ 100 < levW t then 2
  else if allN t = false ∨ refUniB t = false then 3
  else if sort ≠ 0 ∧ sortN t ≠ sort then 10
  else 0
theorem check_eq (t : Nd) (sort : Int) (h : cnt t ≤ 1048576) : checkV t sort = refCheckV t sort := by
  unfold checkV refCheckV
  rw [lim_eq t h, uni_eq, allN_pre]
  simp only [decide_eq_false_iff_not, Classical.not_not]
  rfl

end Go.Proofs.Ytmeeombadkgneaa
