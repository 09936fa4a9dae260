/-
  What number, truth, set, standard and Default return, and the document's Default; conditions: none.
  What the document's own Valid returns of a model; conditions: the model lies in memory.
-/
import Derived.Test.YtmeeombadkgneaaZVa12
import Derived.Test.YtmeeombadkgneaaZSame
namespace Go.Proofs.Ytmeeombadkgneaa
open Go.RowKit Go.Shelf

attribute [local go_sem] Oper.semAt_some
/-- A value without lists. -/
abbrev pv (so nu : Int) : Value := .agg #[.int .i64 so, .int .i64 nu, .slice none 0 0, .slice none 0 0, .slice none 0 0]
/-- The five cells of a block, whatever its type. -/
structure BoxT (w : World) (g : Nat) (v0 v1 v2 v3 v4 : Value) : Prop where
  z0 : w.cell? ⟨g, 0, none⟩ = some v0
  z1 : w.cell? ⟨g, 1, none⟩ = some v1
  z2 : w.cell? ⟨g, 2, none⟩ = some v2
  z3 : w.cell? ⟨g, 3, none⟩ = some v3
  z4 : w.cell? ⟨g, 4, none⟩ = some v4
  f0 : w.frozen? ⟨g, 0, none⟩ = false
  f1 : w.frozen? ⟨g, 1, none⟩ = false
  f2 : w.frozen? ⟨g, 2, none⟩ = false
  f3 : w.frozen? ⟨g, 3, none⟩ = false
  f4 : w.frozen? ⟨g, 4, none⟩ = false
theorem boxT_facts {w : World} {g : Nat} {t : TypeId} {v0 v1 v2 v3 v4 : Value} (h : w.heap[g]? = some (.cells #[v0, v1, v2, v3, v4] t (0, 0))) : BoxT w g v0 v1 v2 v3 v4 :=
  ⟨cell_row h rfl, cell_row h rfl, cell_row h rfl, cell_row h rfl, cell_row h rfl, frozen_of_row _ _ _ _ _ h, frozen_of_row _ _ _ _ _ h, frozen_of_row _ _ _ _ _ h, frozen_of_row _ _ _ _ _ h, frozen_of_row _ _ _ _ _ h⟩
theorem setT_same {w : World} {b : Nat} {t : TypeId} {d0 d1 d2 d3 d4 : Value} (c0 c1 c2 c3 c4 : Value) (h : w.heap[b]? = some (.cells #[d0, d1, d2, d3, d4] t (0, 0))) : (set5 w b c0 c1 c2 c3 c4).heap[b]? = some (.cells #[c0, c1, c2, c3, c4] t (0, 0)) := by
  have h0 := heap_setCell_same w b 0 _ _ c0 h
  have h1 := heap_setCell_same _ b 1 _ _ c1 h0
  have h2 := heap_setCell_same _ b 2 _ _ c2 h1
  have h3 := heap_setCell_same _ b 3 _ _ c3 h2
  have h4 := heap_setCell_same _ b 4 _ _ c4 h3
  exact h4
set_option maxRecDepth 100000 in
set_option maxHeartbeats 4000000 in
theorem number_any (n : Int) (w : World) : Calls Try.prog 48 #[.int .i64 n] w fun e w' => e = .returned (pv 1 n) ∧ Gr w w' := by
  go_enter Try.func48, Try.ntmps48
  go_wp2_with fail
  exact bodyPost_ret (v := pv 1 n) (by simp [results, Try.results48, go_sem]) rfl ⟨rfl, Gr.alloc _ _⟩
set_option maxRecDepth 100000 in
set_option maxHeartbeats 4000000 in
theorem truth_yes (w : World) : Calls Try.prog 52 #[.bool true] w fun e w' => e = .returned (pv 2 1) ∧ Gr w w' := by
  go_enter Try.func52, Try.ntmps52
  go_wp2_with fail
  exact bodyPost_ret (v := pv 2 1) (by simp [results, Try.results52, go_sem]) rfl ⟨rfl, Gr.alloc _ _⟩
set_option maxRecDepth 100000 in
set_option maxHeartbeats 4000000 in
theorem truth_no (w : World) : Calls Try.prog 52 #[.bool false] w fun e w' => e = .returned (pv 2 0) ∧ Gr w w' := by
  go_enter Try.func52, Try.ntmps52
  go_wp2_with fail
  exact bodyPost_ret (v := pv 2 0) (by simp [results, Try.results52, go_sem]) rfl ⟨rfl, Gr.alloc _ _⟩
set_option maxRecDepth 100000 in
set_option maxHeartbeats 4000000 in
theorem set_any (A : Option Addr) (n c : Nat) (w : World) : Calls Try.prog 50 #[.slice A n c] w fun e w' => e = .returned (.agg #[.int .i64 4, .int .i64 0, .slice A n c, .slice none 0 0, .slice none 0 0]) ∧ Gr w w' := by
  go_enter Try.func50, Try.ntmps50
  go_wp2_with fail
  exact bodyPost_ret (v := .agg #[.int .i64 4, .int .i64 0, .slice A n c, .slice none 0 0, .slice none 0 0]) (by simp [results, Try.results50, go_sem]) rfl ⟨rfl, Gr.alloc _ _⟩
def zero5V : Array Value := #[.int .i64 0, .int .i64 0, .slice none 0 0, .slice none 0 0, .slice none 0 0]
set_option maxRecDepth 100000 in
set_option maxHeartbeats 4000000 in
theorem standard_any (s : Int) (w : World) : Calls Try.prog 77 #[.int .i64 s] w fun e w' => e = .returned (pv s 0) ∧ Below w.heap.size w w' := by
  have HB := Lib.hid (show Below w.heap.size w (w.alloc (.cells #[.int .i64 0, .int .i64 0, .slice none 0 0, .slice none 0 0, .slice none 0 0] 50)) from (Below.refl _ _).alloc (Nat.le_refl _) _)
  have HZ := Lib.hid (heap_alloc_new w (.cells #[.int .i64 0, .int .i64 0, .slice none 0 0, .slice none 0 0, .slice none 0 0] 50))
  by_cases h1 : s = 1
  · subst h1
    go_enter Try.func77, Try.ntmps77
    go_wp2_with fail
    refine (number_any 0 _).mono ?_
    rintro e w1 ⟨rfl, g1⟩
    have b1 := g1.below
    have B1 := Lib.hid (HB.out.trans (b1.mono HB.out.size))
    have hz := (b1.block _ (Array.getElem?_eq_some_iff.1 HZ.out).1).trans HZ.out
    have HF := Lib.hid (setT_same (.int .i64 1) (.int .i64 0) (.slice none 0 0) (.slice none 0 0) (.slice none 0 0) hz)
    have HBf := Lib.hid (Below.set5 B1.out (b := w.heap.size) (Nat.le_refl _) (.int .i64 1) (.int .i64 0) (.slice none 0 0) (.slice none 0 0) (.slice none 0 0))
    obtain ⟨z0, z1, z2, z3, z4, f0, f1, f2, f3, f4⟩ := boxT_facts hz
    clear g1 b1 hz HZ HB
    go_wp2_with fail
    obtain ⟨y0, y1, y2, y3, y4, _, _, _, _, _⟩ := boxT_facts HF.out
    exact bodyPost_ret (v := pv 1 0) (by simp [results, Try.results77, go_sem, y0, y1, y2, y3, y4]) rfl ⟨rfl, HBf.out⟩
  by_cases h2 : s = 2
  · subst h2
    go_enter Try.func77, Try.ntmps77
    go_wp2_with fail
    refine (truth_no _).mono ?_
    rintro e w1 ⟨rfl, g1⟩
    have b1 := g1.below
    have B1 := Lib.hid (HB.out.trans (b1.mono HB.out.size))
    have hz := (b1.block _ (Array.getElem?_eq_some_iff.1 HZ.out).1).trans HZ.out
    have HF := Lib.hid (setT_same (.int .i64 2) (.int .i64 0) (.slice none 0 0) (.slice none 0 0) (.slice none 0 0) hz)
    have HBf := Lib.hid (Below.set5 B1.out (b := w.heap.size) (Nat.le_refl _) (.int .i64 2) (.int .i64 0) (.slice none 0 0) (.slice none 0 0) (.slice none 0 0))
    obtain ⟨z0, z1, z2, z3, z4, f0, f1, f2, f3, f4⟩ := boxT_facts hz
    clear g1 b1 hz HZ HB
    go_wp2_with fail
    obtain ⟨y0, y1, y2, y3, y4, _, _, _, _, _⟩ := boxT_facts HF.out
    exact bodyPost_ret (v := pv 2 0) (by simp [results, Try.results77, go_sem, y0, y1, y2, y3, y4]) rfl ⟨rfl, HBf.out⟩
  by_cases h4 : s = 4
  · subst h4
    go_enter Try.func77, Try.ntmps77
    go_wp2_with fail
    refine (set_any none 0 0 _).mono ?_
    rintro e w1 ⟨rfl, g1⟩
    have b1 := g1.below
    have B1 := Lib.hid (HB.out.trans (b1.mono HB.out.size))
    have hz := (b1.block _ (Array.getElem?_eq_some_iff.1 HZ.out).1).trans HZ.out
    have HF := Lib.hid (setT_same (.int .i64 4) (.int .i64 0) (.slice none 0 0) (.slice none 0 0) (.slice none 0 0) hz)
    have HBf := Lib.hid (Below.set5 B1.out (b := w.heap.size) (Nat.le_refl _) (.int .i64 4) (.int .i64 0) (.slice none 0 0) (.slice none 0 0) (.slice none 0 0))
    obtain ⟨z0, z1, z2, z3, z4, f0, f1, f2, f3, f4⟩ := boxT_facts hz
    clear g1 b1 hz HZ HB
    go_wp2_with fail
    obtain ⟨y0, y1, y2, y3, y4, _, _, _, _, _⟩ := boxT_facts HF.out
    exact bodyPost_ret (v := pv 4 0) (by simp [results, Try.results77, go_sem, y0, y1, y2, y3, y4]) rfl ⟨rfl, HBf.out⟩
  have q1 : (s == 1) = false := by simpa using h1
  have q2 : (s == 2) = false := by simpa using h2
  have q4 : (s == 4) = false := by simpa using h4
  clear h1 h2 h4 HZ
  go_enter Try.func77, Try.ntmps77
  go_wp2_with fail
  exact bodyPost_ret (v := pv s 0) (by simp [results, Try.results77, go_sem]) rfl ⟨rfl, (Below.refl _ _).alloc (Nat.le_refl _) _⟩
/-- What Default returns. -/
def dfS (s : Int) : Int := if s < 1 ∨ 5 < s then 0 else s
def dfE (s : Int) : Int := if s < 1 ∨ 5 < s then 1 else 0
end Go.Proofs.Ytmeeombadkgneaa
namespace Go.Proofs.Ytmeeombadkgneaa
open Go.RowKit Go.Shelf

attribute [local go_sem] Oper.semAt_some
/-- A slice value holds a model in w. -/
structure LiesM (w : World) (A : Option Addr) (l : List EA) : Prop where
  len : l.length ≤ maxLen
  at_ : ∃ b o, (0 < l.length → A = some ⟨b, o, none⟩) ∧ ∀ i (h : i < l.length), SevenE w b (o + i * 7) l[i]
  each : ∀ i (h : i < l.length), LiesE w l[i]
theorem LiesM.later {w w' : World} {A : Option Addr} {l : List EA} (h : LiesM w A l) (hb : Below w.heap.size w w') : LiesM w' A l := by
  obtain ⟨b, o, h1, h2⟩ := h.at_
  exact ⟨h.len, ⟨b, o, h1, fun i hi => (h2 i hi).later hb⟩, fun i hi => (h.each i hi).later hb⟩
/-- An entry that is valid, and of another place than those ahead of it. -/
def goodAt (l : List EA) (j : Nat) (h : j < l.length) : Prop := validE l[j] = true ∧ ∀ i (hi : i < j), placeB (l[i]'(by omega)) l[j] = false
open Classical in
noncomputable def validM (l : List EA) : Bool := decide (l.length ≤ 2000 ∧ ∀ j (h : j < l.length), goodAt l j h)
open Classical in
theorem validM_yes {l : List EA} (h : l.length ≤ 2000) (h2 : ∀ j (h : j < l.length), goodAt l j h) : validM l = true := decide_eq_true ⟨h, h2⟩
open Classical in
theorem validM_no {l : List EA} {k : Nat} (hk : k < l.length) (h : ¬ goodAt l k hk) : validM l = false := decide_eq_false fun hh => h (hh.2 k hk)
open Classical in
theorem validM_long {l : List EA} (h : ¬ l.length ≤ 2000) : validM l = false := decide_eq_false fun hh => h hh.1
end Go.Proofs.Ytmeeombadkgneaa
