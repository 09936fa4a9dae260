/-
  What the function that Set searches with returns of an entry; conditions: both entries lie in memory.
  What slices.Clone returns of a table of none that is not nil: a table of none; conditions: none.
  A model is valid where its entries are and where no two of them, in any order, are of one place; conditions: none.
-/
import Derived.Test.YtmeeombadkgneaaGreatZVa20
namespace Go.Proofs.YtmeeombadkgneaaGreat
open Go.RowKit Go.Shelf

attribute [local go_sem] Oper.semAt_some
set_option maxRecDepth 100000 in
set_option maxHeartbeats 4000000 in
theorem seek_any (x y : EA) (b : Nat) (w : World) (hx : LiesE w x) (hy : LiesE w y) (hs : SevenE w b 0 y) :
    Calls Tryz.prog 33 #[ev x, .pointer (some ⟨b, 0, none⟩)] w fun e w' => e = .returned (.bool (decide (cmpE x y = 0))) ∧ Below w.heap.size w w' := by
  obtain ⟨W, hW⟩ : ∃ W, w.alloc (boxE x 29) = W := ⟨_, rfl⟩
  have X := sevenE_new w x 29
  have HB : Below w.heap.size w W := by rw [← hW]; exact (Below.refl _ _).alloc (Nat.le_refl _) _
  rw [hW] at X
  have HX := Lib.hid (hx.later HB)
  have HY := Lib.hid (hy.later HB)
  have S := hs.later HB
  obtain ⟨u0, u1, u2, u3, u4, u5, u6⟩ := hs
  simp only [Nat.zero_add] at u0 u1 u2 u3 u4 u5 u6
  have hlt : b < w.heap.size := World.block_lt_of_cell? _ _ u0
  have hne : ¬ b = w.heap.size := by omega
  have v0 : (w.alloc (boxE x 29)).cell? ⟨b, 0, none⟩ = some (.string y.nm) := by rw [hW]; exact S.c0
  have HW := Lib.hid hW
  have HB := Lib.hid HB
  obtain ⟨x0, x1, x2, x3, x4, x5, x6⟩ := X
  simp only [Nat.zero_add] at x0 x1 x2 x3 x4 x5 x6
  obtain ⟨y0, y1, y2, y3, y4, y5, y6⟩ := S
  simp only [Nat.zero_add] at y0 y1 y2 y3 y4 y5 y6
  clear hx hy hW
  go_enter Tryz.func33, Tryz.ntmps33
  go_wp2_with fail
  rw [HW.out]
  go_wp2_with fail
  refine (compareE_any x y _ HX.out HY.out).mono ?_
  rintro en w1 ⟨rfl, b1⟩
  go_wp2_with fail
  go_ret
  exact ⟨rfl, HB.out.trans (b1.mono HB.out.size)⟩
end Go.Proofs.YtmeeombadkgneaaGreat
namespace Go.Proofs.YtmeeombadkgneaaGreat
open Go.Proofs Go.RowKit Go.Shelf Go.Sort Go.Lib

attribute [local go_sem] Oper.semAt_some
set_option maxRecDepth 100000 in
set_option maxHeartbeats 4000000 in
theorem cloneE_zero (a : Addr) (w : World) (c : Nat) : Calls Tryz.prog 67 #[.slice (some a) 0 c] w fun e w' => (∃ A' c', e = .returned (.slice A' 0 c')) ∧ RowKit.Below w.heap.size w w' := by
  obtain ⟨i0, hi, hz0, hz1, hz2⟩ := info_parts info29
  have q67 : ∀ (w : World) (a : Option Addr) (n c n' c' : Nat), (binOp .eql 67 (.slice a n c) (.slice none n' c')).run Tryz.prog w = .ok (.bool a.isNone) w := fun w a n c n' c' => Lib.run_eql_slice_nil w _ _ a n c n' c' Tryz.underlying67
  go_enter Tryz.func67, Tryz.ntmps67
  go_wp2_with (at_builtin; refine wpList_append_own _ rfl _ _ 67 rfl w.heap.size 29 i0 _ 7 128 Tryz.underlying67 hi hz0 hz1 hz2 rfl (by decide) _ _ _ rfl (World.ownsRow_made w #[] 0 (Nat.le_refl _) (Nat.zero_le _) (by simp)) a 0 c [] rfl rfl (by intro j u hj; simp at hj) (by intro u hu; cases hu) (by unfold maxLen; omega) (by omega) (by simp) ?_)
  intro v' w1 hown hgrow hnil
  go_wp2
  go_ret
  rcases hown with ⟨_, h⟩
  refine ⟨?_, ((RowKit.Below.refl _ w).alloc (Nat.le_refl _) _).grown hgrow (by simp) (by intro k hk; simp [Value.ownBlock] at hk; omega)⟩
  rcases h with ⟨h, _⟩ | ⟨g, c2, cur, h, _⟩
  · exact ⟨none, 0, by rw [h]; rfl⟩
  · exact ⟨some ⟨g, 0, none⟩, c2, by rw [h]; rfl⟩
end Go.Proofs.YtmeeombadkgneaaGreat
namespace Go.Proofs.YtmeeombadkgneaaGreat
open Go.Proofs Go.RowKit Go.Shelf Go.Sort Go.Lib

/-- Entries of two places. -/
def Apart (x y : EA) : Prop := cmpE x y ≠ 0
theorem apart_symm {x y : EA} (h : Apart x y) : Apart y x := by
  unfold Apart at *
  rw [laws_E.neg x y]
  omega
theorem apart_place (x y : EA) : Apart x y ↔ placeB x y = false := by
  rw [← place_eq]
  unfold Apart
  simp
open Classical in
theorem validM_iff (l : List EA) : validM l = true ↔ l.length ≤ 2000 ∧ (∀ x ∈ l, validE x = true) ∧ l.Pairwise Apart := by
  refine Iff.trans (b := l.length ≤ 2000 ∧ ∀ j (h : j < l.length), goodAt l j h) (by unfold validM; exact decide_eq_true_iff) ?_
  constructor
  · rintro ⟨h1, h2⟩
    refine ⟨h1, fun x hx => ?_, List.pairwise_iff_getElem.2 fun i j hi hj hij => (apart_place _ _).2 ((h2 j hj).2 i hij)⟩
    obtain ⟨i, hi, rfl⟩ := List.getElem_of_mem hx
    exact (h2 i hi).1
  · rintro ⟨h1, h2, h3⟩
    exact ⟨h1, fun j hj => ⟨h2 _ (List.getElem_mem hj), fun i hi => (apart_place _ _).1 (List.pairwise_iff_getElem.1 h3 i j (by omega) hj hi)⟩⟩
/-- A table: each entry ahead of those behind it. -/
def Asc (t : List EA) : Prop := t.Pairwise fun x y => cmpE x y < 0
theorem asc_apart {t : List EA} (h : Asc t) : t.Pairwise Apart := List.Pairwise.imp (fun {a b} h => by unfold Apart; omega) h
theorem asc_of {t : List EA} (hs : ∀ i j (_ : i < j) (h : j < t.length), cmpE t[i] t[j] ≤ 0) (hn : ∀ j (h : j + 1 < t.length), cmpE t[j] t[j + 1] ≠ 0) : Asc t := by
  refine List.pairwise_iff_getElem.2 fun i j hi hj hij => ?_
  have h1 := hs i (i + 1) (by omega) (by omega)
  have h2 := hn i (by omega)
  by_cases e : j = i + 1
  · subst e; omega
  · have h3 := hs (i + 1) j (by omega) hj
    obtain ⟨a, b⟩ := laws_E.tri t[i] t[i + 1] t[j] h1 h3
    omega
theorem perm_valid {l t : List EA} (hp : t.Perm l) : validM t = validM l := by
  rw [Bool.eq_iff_iff, validM_iff, validM_iff, hp.length_eq, List.Perm.pairwise_iff (fun {x y} h => apart_symm h) hp]
  constructor
  · rintro ⟨a, b, c⟩; exact ⟨a, fun x hx => b x (hp.mem_iff.2 hx), c⟩
  · rintro ⟨a, b, c⟩; exact ⟨a, fun x hx => b x (hp.mem_iff.1 hx), c⟩
theorem table_no {t l : List EA} (hp : t.Perm l) (j : Nat) (h : j + 1 < t.length) (hz : cmpE t[j] t[j + 1] = 0) : validM l = false := by
  rw [← perm_valid hp, Bool.eq_false_iff, Ne, validM_iff]
  rintro ⟨_, _, h3⟩
  exact List.pairwise_iff_getElem.1 h3 j (j + 1) (by omega) h (by omega) hz
theorem table_yes {t l : List EA} (hp : t.Perm l) (h2 : l.length ≤ 2000) (hv : ∀ x ∈ l, validE x = true) (ht : Asc t) : validM l = true := by
  rw [validM_iff]
  exact ⟨h2, hv, (List.Perm.pairwise_iff (fun {x y} h => apart_symm h) hp).1 (asc_apart ht)⟩
/-- The entries of an array of entries that lie. -/
def tbl {w0 : World} (d : Array (El0 w0)) : List EA := d.toList.map (·.1)
theorem tbl_len {w0 : World} (d : Array (El0 w0)) : (tbl d).length = d.size := by simp [tbl]
theorem tbl_get {w0 : World} (d : Array (El0 w0)) (i : Nat) (h : i < (tbl d).length) : (tbl d)[i] = (d[i]!).1 := by
  have h2 : i < d.size := by rwa [tbl_len] at h
  rw [getElem!_pos d i h2]
  simp [tbl]
theorem tbl_elems {w : World} {A : Option Addr} {l : List EA} (h : LiesM w A l) : tbl (elems h) = l := by
  apply List.ext_getElem (by rw [tbl_len, elems_size])
  intro i h1 h2
  rw [tbl_get, elems_get h i h2]
theorem tbl_perm {w0 : World} {d d' : Array (El0 w0)} {n : Nat} (hn : n = d.size) (h : PermIn 0 n d d') : (tbl d').Perm (tbl d) := by
  subst hn
  have h3 := h.2.2
  rw [show d.size = d'.size from h.1.symm, Array.extract_size, h.1, Array.extract_size] at h3
  exact h3.map _
theorem tbl_sorted {w0 : World} {d : Array (El0 w0)} {n : Nat} (hn : n = d.size) (h : SortedIn (ltOf cfE) 0 n d) : ∀ i j (_ : i < j) (h : j < (tbl d).length), cmpE (tbl d)[i] (tbl d)[j] ≤ 0 := by
  intro i j hij hj
  rw [tbl_get, tbl_get]
  have h1 := h i j (Nat.zero_le _) hij (by rw [tbl_len] at hj; omega)
  rw [lt_iff] at h1
  have h2 := of_decide_eq_false h1
  have := laws_E.neg (d[i]!).1 (d[j]!).1
  omega
theorem lies_tbl {w0 w : World} {g : Nat} {d : Array (El0 w0)} (hb : Below w0.heap.size w0 w) (hH : HoldsK encEn 7 w g 0 d) (hs : d.size ≤ 2000) : LiesM w (some ⟨g, 0, none⟩) (tbl d) := by
  have key : ∀ i, i < d.size → ∀ r (hr : r < 7), w.cell? ⟨g, 0 + i * 7 + r, none⟩ = some ((encEn d[i]!)[r]'(by show r < 7; exact hr)) := fun i hi r hr => by
    have := (HoldsK.cell hH hi hr).1
    rw [this]
    rw [getElem!_pos (encEn d[i]!) r (by show r < 7; exact hr)]
  refine ⟨by rw [tbl_len]; unfold maxLen; omega, ⟨g, 0, fun _ => rfl, fun i hi => ?_⟩, fun i hi => ?_⟩
  · have hi2 : i < d.size := by rwa [tbl_len] at hi
    rw [tbl_get]
    exact ⟨key i hi2 0 (by omega), key i hi2 1 (by omega), key i hi2 2 (by omega), key i hi2 3 (by omega), key i hi2 4 (by omega), key i hi2 5 (by omega), key i hi2 6 (by omega)⟩
  · rw [tbl_get]
    exact (d[i]!).2.later hb
end Go.Proofs.YtmeeombadkgneaaGreat
