/-
  What number, truth, set, standard and Default return, and the document's Default; conditions: none.
  What the document's own Valid returns of a model; conditions: the model lies in memory.
-/
import Derived.Test.YtmeeombadkgneaaGreatZVa12
import Derived.Test.YtmeeombadkgneaaGreatZSame
namespace Go.Proofs.YtmeeombadkgneaaGreat
open Go.RowKit Go.Shelf

attribute [local go_sem] Oper.semAt_some
/-- A value without lists. -/
abbrev pv (so nu : Int) : Value := .agg #[.int .i64 so, .int .i64 nu, .slice none 0 0, .slice none 0 0, .slice none 0 0]
/-- The five cells of a block, whatever its type. -/
structure BoxT (w : World) (g : Nat) (v0 v1 v2 v3 v4 : Value) : Prop where
  z0 : w.cell? ⟨g, 0, none⟩ = some v0
  z1 : w.cell? ⟨g, 1, none⟩ = some v1
  z2 : w.cell? ⟨g, 2, none⟩ = some v2
  z3 : w.cell? ⟨g, 3, none⟩ = some v3
  z4 : w.cell? ⟨g, 4, none⟩ = some v4
  f0 : w.frozen? ⟨g, 0, none⟩ = false
  f1 : w.frozen? ⟨g, 1, none⟩ = false
  f2 : w.frozen? ⟨g, 2, none⟩ = false
  f3 : w.frozen? ⟨g, 3, none⟩ = false
  f4 : w.frozen? ⟨g, 4, none⟩ = false
theorem boxT_facts {w : World} {g : Nat} {t : TypeId} {v0 v1 v2 v3 v4 : Value} (h : w.heap[g]? = some (.cells #[v0, v1, v2, v3, v4] t (0, 0))) : BoxT w g v0 v1 v2 v3 v4 :=
  ⟨cell_row h rfl, cell_row h rfl, cell_row h rfl, cell_row h rfl, cell_row h rfl, frozen_of_row _ _ _ _ _ h, frozen_of_row _ _ _ _ _ h, frozen_of_row _ _ _ _ _ h, frozen_of_row _ _ _ _ _ h, frozen_of_row _ _ _ _ _ h⟩
theorem setT_same {w : World} {b : Nat} {t : TypeId} {d0 d1 d2 d3 d4 : Value} (c0 c1 c2 c3 c4 : Value) (h : w.heap[b]? = some (.cells #[d0, d1, d2, d3, d4] t (0, 0))) : (set5 w b c0 c1 c2 c3 c4).heap[b]? = some (.cells #[c0, c1, c2, c3, c4] t (0, 0)) := by
  have h0 := heap_setCell_same w b 0 _ _ c0 h
  have h1 := heap_setCell_same _ b 1 _ _ c1 h0
  have h2 := heap_setCell_same _ b 2 _ _ c2 h1
  have h3 := heap_setCell_same _ b 3 _ _ c3 h2
  have h4 := heap_setCell_same _ b 4 _ _ c4 h3
  exact h4
set_option maxRecDepth 100000 in
set_option maxHeartbeats 4000000 in
theorem number_any (n : Int) (w : World) : Calls Tryz.prog 64 #[.int .i64 n] w fun e w' => e = .returned (pv 1 n) ∧ Gr w w' := by
  go_enter Tryz.func64, Tryz.ntmps64
  go_wp2_with fail
  exact bodyPost_ret (v := pv 1 n) (by simp [results, Tryz.results64, go_sem]) rfl ⟨rfl, Gr.alloc _ _⟩
set_option maxRecDepth 100000 in
set_option maxHeartbeats 4000000 in
theorem truth_yes (w : World) : Calls Tryz.prog 65 #[.bool true] w fun e w' => e = .returned (pv 2 1) ∧ Gr w w' := by
  go_enter Tryz.func65, Tryz.ntmps65
  go_wp2_with fail
  exact bodyPost_ret (v := pv 2 1) (by simp [results, Tryz.results65, go_sem]) rfl ⟨rfl, Gr.alloc _ _⟩
set_option maxRecDepth 100000 in
set_option maxHeartbeats 4000000 in
theorem truth_no (w : World) : Calls Tryz.prog 65 #[.bool false] w fun e w' => e = .returned (pv 2 0) ∧ Gr w w' := by
  go_enter Tryz.func65, Tryz.ntmps65
  go_wp2_with fail
  exact bodyPost_ret (v := pv 2 0) (by simp [results, Tryz.results65, go_sem]) rfl ⟨rfl, Gr.alloc _ _⟩
set_option maxRecDepth 100000 in
set_option maxHeartbeats 4000000 in
theorem set_any (A : Option Addr) (n c : Nat) (w : World) : Calls Tryz.prog 66 #[.slice A n c] w fun e w' => e = .returned (.agg #[.int .i64 4, .int .i64 0, .slice A n c, .slice none 0 0, .slice none 0 0]) ∧ Gr w w' := by
  go_enter Tryz.func66, Tryz.ntmps66
  go_wp2_with fail
  exact bodyPost_ret (v := .agg #[.int .i64 4, .int .i64 0, .slice A n c, .slice none 0 0, .slice none 0 0]) (by simp [results, Tryz.results66, go_sem]) rfl ⟨rfl, Gr.alloc _ _⟩
def zero5V : Array Value := #[.int .i64 0, .int .i64 0, .slice none 0 0, .slice none 0 0, .slice none 0 0]
set_option maxRecDepth 100000 in
set_option maxHeartbeats 4000000 in
theorem standard_any (s : Int) (w : World) : Calls Tryz.prog 39 #[.int .i64 s] w fun e w' => e = .returned (pv s 0) ∧ Below w.heap.size w w' := by
  have HB := Lib.hid (show Below w.heap.size w (w.alloc (.cells #[.int .i64 0, .int .i64 0, .slice none 0 0, .slice none 0 0, .slice none 0 0] 63)) from (Below.refl _ _).alloc (Nat.le_refl _) _)
  have HZ := Lib.hid (heap_alloc_new w (.cells #[.int .i64 0, .int .i64 0, .slice none 0 0, .slice none 0 0, .slice none 0 0] 63))
  by_cases h1 : s = 1
  · subst h1
    go_enter Tryz.func39, Tryz.ntmps39
    go_wp2_with fail
    refine (number_any 0 _).mono ?_
    rintro e w1 ⟨rfl, g1⟩
    have b1 := g1.below
    have B1 := Lib.hid (HB.out.trans (b1.mono HB.out.size))
    have hz := (b1.block _ (Array.getElem?_eq_some_iff.1 HZ.out).1).trans HZ.out
    have HF := Lib.hid (setT_same (.int .i64 1) (.int .i64 0) (.slice none 0 0) (.slice none 0 0) (.slice none 0 0) hz)
    have HBf := Lib.hid (Below.set5 B1.out (b := w.heap.size) (Nat.le_refl _) (.int .i64 1) (.int .i64 0) (.slice none 0 0) (.slice none 0 0) (.slice none 0 0))
    obtain ⟨z0, z1, z2, z3, z4, f0, f1, f2, f3, f4⟩ := boxT_facts hz
    clear g1 b1 hz HZ HB
    go_wp2_with fail
    obtain ⟨y0, y1, y2, y3, y4, _, _, _, _, _⟩ := boxT_facts HF.out
    exact bodyPost_ret (v := pv 1 0) (by simp [results, Tryz.results39, go_sem, y0, y1, y2, y3, y4]) rfl ⟨rfl, HBf.out⟩
  by_cases h2 : s = 2
  · subst h2
    go_enter Tryz.func39, Tryz.ntmps39
    go_wp2_with fail
    refine (truth_no _).mono ?_
    rintro e w1 ⟨rfl, g1⟩
    have b1 := g1.below
    have B1 := Lib.hid (HB.out.trans (b1.mono HB.out.size))
    have hz := (b1.block _ (Array.getElem?_eq_some_iff.1 HZ.out).1).trans HZ.out
    have HF := Lib.hid (setT_same (.int .i64 2) (.int .i64 0) (.slice none 0 0) (.slice none 0 0) (.slice none 0 0) hz)
    have HBf := Lib.hid (Below.set5 B1.out (b := w.heap.size) (Nat.le_refl _) (.int .i64 2) (.int .i64 0) (.slice none 0 0) (.slice none 0 0) (.slice none 0 0))
    obtain ⟨z0, z1, z2, z3, z4, f0, f1, f2, f3, f4⟩ := boxT_facts hz
    clear g1 b1 hz HZ HB
    go_wp2_with fail
    obtain ⟨y0, y1, y2, y3, y4, _, _, _, _, _⟩ := boxT_facts HF.out
    exact bodyPost_ret (v := pv 2 0) (by simp [results, Tryz.results39, go_sem, y0, y1, y2, y3, y4]) rfl ⟨rfl, HBf.out⟩
  by_cases h4 : s = 4
  · subst h4
    go_enter Tryz.func39, Tryz.ntmps39
    go_wp2_with fail
    refine (set_any none 0 0 _).mono ?_
    rintro e w1 ⟨rfl, g1⟩
    have b1 := g1.below
    have B1 := Lib.hid (HB.out.trans (b1.mono HB.out.size))
    have hz := (b1.block _ (Array.getElem?_eq_some_iff.1 HZ.out).1).trans HZ.out
    have HF := Lib.hid (setT_same (.int .i64 4) (.int .i64 0) (.slice none 0 0) (.slice none 0 0) (.slice none 0 0) hz)
    have HBf := Lib.hid (Below.set5 B1.out (b := w.heap.size) (Nat.le_refl _) (.int .i64 4) (.int .i64 0) (.slice none 0 0) (.slice none 0 0) (.slice none 0 0))
    obtain ⟨z0, z1, z2, z3, z4, f0, f1, f2, f3, f4⟩ := boxT_facts hz
    clear g1 b1 hz HZ HB
    go_wp2_with fail
    obtain ⟨y0, y1, y2, y3, y4, _, _, _, _, _⟩ := boxT_facts HF.out
    exact bodyPost_ret (v := pv 4 0) (by simp [results, Tryz.results39, go_sem, y0, y1, y2, y3, y4]) rfl ⟨rfl, HBf.out⟩
  have q1 : (s == 1) = false := by simpa using h1
  have q2 : (s == 2) = false := by simpa using h2
  have q4 : (s == 4) = false := by simpa using h4
  clear h1 h2 h4 HZ
  go_enter Tryz.func39, Tryz.ntmps39
  go_wp2_with fail
  exact bodyPost_ret (v := pv s 0) (by simp [results, Tryz.results39, go_sem]) rfl ⟨rfl, (Below.refl _ _).alloc (Nat.le_refl _) _⟩
/-- What Default returns. -/
def dfS (s : Int) : Int := if s < 1 ∨ 5 < s then 0 else s
def dfE (s : Int) : Int := if s < 1 ∨ 5 < s then 1 else 0
set_option maxRecDepth 100000 in
set_option maxHeartbeats 4000000 in
theorem default_any (s : Int) (w : World) : Calls Tryz.prog 11 #[.int .i64 s] w fun e w' => e = .returned (.tuple #[pv (dfS s) 0, .int .i64 (dfE s)]) ∧ Below w.heap.size w w' := by
  have HB := Lib.hid (show Below w.heap.size w (w.alloc (.cells #[.int .i64 0, .int .i64 0, .slice none 0 0, .slice none 0 0, .slice none 0 0] 27)) from (Below.refl _ _).alloc (Nat.le_refl _) _)
  have HZ := Lib.hid (heap_alloc_new w (.cells #[.int .i64 0, .int .i64 0, .slice none 0 0, .slice none 0 0, .slice none 0 0] 27))
  by_cases h1 : s < 1
  · have d1 : decide (s < 1) = true := decide_eq_true h1
    have e1 : dfS s = 0 := if_pos (.inl h1)
    have e2 : dfE s = 1 := if_pos (.inl h1)
    rw [e1, e2]
    clear h1 HZ e1 e2
    go_enter Tryz.func11, Tryz.ntmps11
    go_wp2_with fail
    exact bodyPost_ret (v := .tuple #[pv 0 0, .int .i64 1]) (by simp [results, Tryz.results11, go_sem]) rfl ⟨rfl, HB.out⟩
  have d1 : decide (s < 1) = false := decide_eq_false h1
  by_cases h2 : 5 < s
  · have d2 : decide (5 < s) = true := decide_eq_true h2
    have e1 : dfS s = 0 := if_pos (.inr h2)
    have e2 : dfE s = 1 := if_pos (.inr h2)
    rw [e1, e2]
    clear h1 h2 HZ e1 e2
    go_enter Tryz.func11, Tryz.ntmps11
    go_wp2_with fail
    exact bodyPost_ret (v := .tuple #[pv 0 0, .int .i64 1]) (by simp [results, Tryz.results11, go_sem]) rfl ⟨rfl, HB.out⟩
  have d2 : decide (5 < s) = false := decide_eq_false h2
  have e1 : dfS s = s := if_neg (by omega)
  have e2 : dfE s = 0 := if_neg (by omega)
  rw [e1, e2]
  clear h1 h2 e1 e2
  go_enter Tryz.func11, Tryz.ntmps11
  go_wp2_with fail
  refine (standard_any s _).mono ?_
  rintro e w1 ⟨rfl, b1⟩
  have B1 := Lib.hid (HB.out.trans (b1.mono HB.out.size))
  have hz := (b1.block _ (Array.getElem?_eq_some_iff.1 HZ.out).1).trans HZ.out
  have HF := Lib.hid (setT_same (.int .i64 s) (.int .i64 0) (.slice none 0 0) (.slice none 0 0) (.slice none 0 0) hz)
  have HBf := Lib.hid (Below.set5 B1.out (b := w.heap.size) (Nat.le_refl _) (.int .i64 s) (.int .i64 0) (.slice none 0 0) (.slice none 0 0) (.slice none 0 0))
  obtain ⟨z0, z1, z2, z3, z4, f0, f1, f2, f3, f4⟩ := boxT_facts hz
  clear b1 hz HZ HB
  go_wp2_with fail
  obtain ⟨y0, y1, y2, y3, y4, _, _, _, _, _⟩ := boxT_facts HF.out
  exact bodyPost_ret (v := .tuple #[pv s 0, .int .i64 0]) (by simp [results, Tryz.results11, go_sem, y0, y1, y2, y3, y4]) rfl ⟨rfl, HBf.out⟩
set_option maxRecDepth 100000 in
set_option maxHeartbeats 4000000 in
theorem refDefault_any (s : Int) (w : World) : Calls Tryz.prog 12 #[.int .i64 s] w fun e w' => e = .returned (.tuple #[pv (dfS s) 0, .int .i64 (dfE s)]) ∧ Below w.heap.size w w' := by
  have HB := Lib.hid (show Below w.heap.size w (w.alloc (.cells #[.int .i64 0, .int .i64 0, .slice none 0 0, .slice none 0 0, .slice none 0 0] 27)) from (Below.refl _ _).alloc (Nat.le_refl _) _)
  have HZ := Lib.hid (heap_alloc_new w (.cells #[.int .i64 0, .int .i64 0, .slice none 0 0, .slice none 0 0, .slice none 0 0] 27))
  by_cases h1 : s < 1
  · have d1 : decide (s < 1) = true := decide_eq_true h1
    have e1 : dfS s = 0 := if_pos (.inl h1)
    have e2 : dfE s = 1 := if_pos (.inl h1)
    rw [e1, e2]
    clear h1 HZ e1 e2
    go_enter Tryz.func12, Tryz.ntmps12
    go_wp2_with fail
    exact bodyPost_ret (v := .tuple #[pv 0 0, .int .i64 1]) (by simp [results, Tryz.results12, go_sem]) rfl ⟨rfl, HB.out⟩
  have d1 : decide (s < 1) = false := decide_eq_false h1
  by_cases h2 : 5 < s
  · have d2 : decide (5 < s) = true := decide_eq_true h2
    have e1 : dfS s = 0 := if_pos (.inr h2)
    have e2 : dfE s = 1 := if_pos (.inr h2)
    rw [e1, e2]
    clear h1 h2 HZ e1 e2
    go_enter Tryz.func12, Tryz.ntmps12
    go_wp2_with fail
    exact bodyPost_ret (v := .tuple #[pv 0 0, .int .i64 1]) (by simp [results, Tryz.results12, go_sem]) rfl ⟨rfl, HB.out⟩
  have d2 : decide (5 < s) = false := decide_eq_false h2
  have e1 : dfS s = s := if_neg (by omega)
  have e2 : dfE s = 0 := if_neg (by omega)
  rw [e1, e2]
  clear h1 h2 e1 e2
  go_enter Tryz.func12, Tryz.ntmps12
  go_wp2_with fail
  exact bodyPost_ret (v := .tuple #[pv s 0, .int .i64 0]) (by simp [results, Tryz.results12, go_sem]) rfl ⟨rfl, (Below.refl _ _).alloc (Nat.le_refl _) _⟩
end Go.Proofs.YtmeeombadkgneaaGreat
namespace Go.Proofs.YtmeeombadkgneaaGreat
open Go.RowKit Go.Shelf

attribute [local go_sem] Oper.semAt_some
/-- A slice value holds a model in w. -/
structure LiesM (w : World) (A : Option Addr) (l : List EA) : Prop where
  len : l.length ≤ maxLen
  at_ : ∃ b o, (0 < l.length → A = some ⟨b, o, none⟩) ∧ ∀ i (h : i < l.length), SevenE w b (o + i * 7) l[i]
  each : ∀ i (h : i < l.length), LiesE w l[i]
theorem LiesM.later {w w' : World} {A : Option Addr} {l : List EA} (h : LiesM w A l) (hb : Below w.heap.size w w') : LiesM w' A l := by
  obtain ⟨b, o, h1, h2⟩ := h.at_
  exact ⟨h.len, ⟨b, o, h1, fun i hi => (h2 i hi).later hb⟩, fun i hi => (h.each i hi).later hb⟩
/-- An entry that is valid, and of another place than those ahead of it. -/
def goodAt (l : List EA) (j : Nat) (h : j < l.length) : Prop := validE l[j] = true ∧ ∀ i (hi : i < j), placeB (l[i]'(by omega)) l[j] = false
open Classical in
noncomputable def validM (l : List EA) : Bool := decide (l.length ≤ 2000 ∧ ∀ j (h : j < l.length), goodAt l j h)
open Classical in
theorem validM_yes {l : List EA} (h : l.length ≤ 2000) (h2 : ∀ j (h : j < l.length), goodAt l j h) : validM l = true := decide_eq_true ⟨h, h2⟩
open Classical in
theorem validM_no {l : List EA} {k : Nat} (hk : k < l.length) (h : ¬ goodAt l k hk) : validM l = false := decide_eq_false fun hh => h (hh.2 k hk)
open Classical in
theorem validM_long {l : List EA} (h : ¬ l.length ≤ 2000) : validM l = false := decide_eq_false fun hh => h hh.1
set_option maxRecDepth 100000 in
set_option maxHeartbeats 8000000 in
theorem refValidM_any (l : List EA) (A : Option Addr) (cap : Nat) (w : World) (hL : LiesM w A l) : Calls Tryz.prog 16 #[.slice A l.length cap] w fun e w' => e = .returned (.bool (validM l)) ∧ Below w.heap.size w w' := by
  have hn := hL.len
  unfold maxLen at hn
  have HL := Lib.hid hL
  clear hL
  by_cases h2 : l.length ≤ 2000
  case neg =>
    have d2 : decide (2000 < (l.length : Int)) = true := decide_eq_true (by omega)
    have Hr := Lib.hid (validM_long h2)
    clear h2
    go_enter Tryz.func16, Tryz.ntmps16
    go_wp2_with fail
    go_ret
    exact ⟨by rw [Hr.out]; rfl, Below.refl _ _⟩
  have d2 : decide (2000 < (l.length : Int)) = false := decide_eq_false (by omega)
  have H2 := Lib.hid h2
  clear h2
  go_enter Tryz.func16, Tryz.ntmps16
  go_wp2_with fail
  clear d2
  go_loopw [11] (fun i wr => ∃ k : Nat, k ≤ l.length ∧ i = .int .i64 k ∧ Hid (∀ j (h : j < l.length), j < k → goodAt l j h) ∧ Hid (Below w.heap.size w wr)) (fun i _ => l.length - (intOf i).toNat)
  case atStart => exact ⟨0, Nat.zero_le _, rfl, fun j hj hjk => absurd hjk (by omega), Below.refl _ _⟩
  case round =>
    obtain ⟨k, hk, rfl, hj, hB⟩ := hrel
    by_cases hlt : k < l.length
    · obtain ⟨b, o, ha, hc⟩ := (HL.out.later hB.out).at_
      have ha := ha (by omega)
      obtain ⟨c0, c1, c2, c3, c4, c5, c6⟩ := hc k hlt
      have L1 := Lib.hid ((HL.out.each k hlt).later hB.out)
      have HA := Lib.hid (HL.out.later hB.out)
      have hgood := Lib.hid (fun (e1 : validE l[k] = true) (e2 : ∀ i (hi : i < k), placeB (l[i]'(by omega)) l[k] = false) => (show Hid (∀ j (h : j < l.length), j < k + 1 → goodAt l j h) from fun j h h2 => by
        by_cases e' : j = k
        · subst e'; exact ⟨e1, e2⟩
        · exact hj.out j h (by omega)))
      have hbad1 := Lib.hid (fun (e1 : validE l[k] = false) => validM_no hlt (fun h => by have := h.1; rw [e1] at this; cases this))
      have hbad2 := Lib.hid (fun (i : Nat) (hi : i < k) (e1 : placeB (l[i]'(by omega)) l[k] = true) => validM_no hlt (fun h => by have := h.2 i hi; rw [e1] at this; cases this))
      have hveq := Lib.hid (validE_eq l[k])
      generalize hx : l[k] = x at *
      have S1 := Lib.hid (sevenE_new wr x 29)
      have G1 := Lib.hid ((Below.refl wr.heap.size wr).alloc (Nat.le_refl _) (boxE x 29))
      clear hj hc hx
      rw [ha] at *
      cases hv : validE x
      case false =>
        have Hr := Lib.hid (hbad1.out hv)
        have Hv := Lib.hid (hveq.out.trans hv)
        clear hgood hbad1 hbad2 hv hveq
        go_wp2_with fail
        refine (refValidE_any x _ (L1.out.later G1.out)).mono ?_
        rintro e w2 ⟨rfl, b2⟩
        rw [Hv.out]
        have B2 := Lib.hid (hB.out.trans ((G1.out.trans (b2.mono G1.out.size)).mono hB.out.size))
        clear b2 c0 c1 c2 c3 c4 c5 c6
        go_wp2_with fail
        go_ret
        exact ⟨by rw [Hr.out]; rfl, B2.out⟩
      case true =>
        have Hv := Lib.hid (hveq.out.trans hv)
        have hgood := Lib.hid (hgood.out hv)
        clear hbad1 hv hveq
        go_wp2_with fail
        refine (refValidE_any x _ (L1.out.later G1.out)).mono ?_
        rintro e w2 ⟨rfl, b2⟩
        rw [Hv.out]
        have B2 := Lib.hid (G1.out.trans (b2.mono G1.out.size))
        have S2 := Lib.hid (S1.out.later b2)
        clear b2 c0 c1 c2 c3 c4 c5 c6 S1 G1
        have hlw : wr.heap.size < w2.heap.size := World.block_lt_of_cell? _ _ S2.out.c0
        generalize wr = wo at *
        go_wp2_with fail
        go_loopw [5] (fun i wi => ∃ m : Nat, m ≤ k ∧ i = .int .i64 m ∧ Hid (∀ i (hi : i < k), i < m → placeB (l[i]'(by omega)) x = false) ∧ Hid (Below w2.heap.size w2 wi)) (fun i _ => k - (intOf i).toNat)
        case atStart => exact ⟨0, Nat.zero_le _, rfl, fun i _ h => absurd h (by omega), Below.refl _ _⟩
        case round =>
          obtain ⟨m, hm, rfl, hjm, hB3⟩ := hrel
          by_cases hmk : m < k
          · have hmk' : decide ((m : Int) < (k : Int)) = true := decide_eq_true (by omega)
            have hb3 : Below wo.heap.size wo wr := B2.out.trans (hB3.out.mono (by omega))
            obtain ⟨b', o', ha', hc'⟩ := (HA.out.later hb3).at_
            have ha' := Option.some.inj (ha' (by omega))
            cases ha'
            obtain ⟨c0, c1, c2, c3, c4, c5, c6⟩ := hc' m (by omega)
            obtain ⟨s0, s1, s2, s3, s4, s5, s6⟩ := S2.out.later hB3.out
            simp only [Nat.zero_add] at s0 s1 s2 s3 s4 s5 s6
            have hdr : Below wr.heap.size wr wr.drew := ⟨rfl, rfl, rfl, Nat.le_refl _, fun _ _ => rfl⟩
            have LY := Lib.hid (((HA.out.later hb3).each m (by omega)).later hdr)
            have LX := Lib.hid ((L1.out.later hb3).later hdr)
            have HBd := Lib.hid (hB3.out.drew)
            have hok := Lib.hid (fun (e1 : placeB (l[m]'(by omega)) x = false) => (show Hid (∀ i (hi : i < k), i < m + 1 → placeB (l[i]'(by omega)) x = false) from fun i hi h => by
              by_cases e' : i = m
              · subst e'; exact e1
              · exact hjm.out i hi (by omega)))
            have hbad := Lib.hid (hbad2.out m hmk)
            generalize (l[m]'(by omega)) = y at *
            clear hjm hc' hdr hb3 HA hbad2
            cases hp : placeB y x
            case true =>
              have Hr := Lib.hid (hbad.out hp)
              have Hp := Lib.hid hp
              clear hp hok hbad
              go_wp2_with fail
              go_region_with ((go_at_call 38; ((with_reducible refine (place_any y x _ LY.out LX.out).mono ?_); rintro e w4 ⟨rfl, b4⟩; rw [Hp.out]; have B4 := Lib.hid (HBd.out.trans (b4.mono HBd.out.size)); clear b4)))
              all_goals
                clear c0 c1 c2 c3 c4 c5 c6 s0 s1 s2 s3 s4 s5 s6
                go_wp2_with fail
                go_ret
                exact ⟨by rw [Hr.out]; rfl, hB.out.trans ((B2.out.trans (B4.out.mono (by omega))).mono hB.out.size)⟩
            case false =>
              have Hn := hok.out hp
              have Hp := Lib.hid hp
              clear hp hok hbad
              go_wp2_with fail
              go_region_with ((go_at_call 38; ((with_reducible refine (place_any y x _ LY.out LX.out).mono ?_); rintro e w4 ⟨rfl, b4⟩; rw [Hp.out]; have B4 := Lib.hid (HBd.out.trans (b4.mono HBd.out.size)); clear b4)))
              all_goals
                clear c0 c1 c2 c3 c4 c5 c6 s0 s1 s2 s3 s4 s5 s6
                go_wp2_with fail
                go_roundw
                case rel => exact ⟨m + 1, by omega, by go_num, Hn, B4.out⟩
                case measure => simp [intOf]; omega
          · have hmk' : decide ((m : Int) < (k : Int)) = false := decide_eq_false (by omega)
            have Hn := hgood.out fun i hi => hjm.out i hi (by omega)
            have B3 := Lib.hid (hB.out.trans ((B2.out.trans (hB3.out.mono (by omega))).mono hB.out.size))
            clear hjm HA hbad2 hgood
            go_wp2_with fail
            go_roundw
            case rel => exact ⟨k + 1, by omega, by go_num, Hn, B3.out⟩
            case measure => simp [intOf]; omega
    · have Hr := Lib.hid (validM_yes H2.out fun j h => hj.out j h (by omega))
      clear hj HL
      go_wp2_with fail
      go_ret
      exact ⟨by rw [Hr.out]; rfl, hB.out⟩
end Go.Proofs.YtmeeombadkgneaaGreat
