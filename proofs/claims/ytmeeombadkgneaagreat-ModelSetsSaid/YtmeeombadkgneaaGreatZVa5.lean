/-
  What Same and ValidVal return, package model's and the document's Same; conditions: the values' lists lie in memory.
-/
import Derived.Test.YtmeeombadkgneaaGreatZVa4
namespace Go.Proofs.YtmeeombadkgneaaGreat
open Go.RowKit Go.Shelf

attribute [local go_sem] Oper.semAt_some
set_option maxRecDepth 100000 in
set_option maxHeartbeats 4000000 in
theorem sameV_any (x y : VA) (w : World) (hx : LiesV w x) (hy : LiesV w y) : Calls Tryz.prog 41 #[vv x, vv y] w fun e w' => e = .returned (.bool (cmpV x.v y.v == 0)) ∧ Below w.heap.size w w' := by
  have HB : Below w.heap.size w ((w.alloc (boxV x 63)).alloc (boxV y 63)) := ((Below.refl _ _).alloc (Nat.le_refl _) _).alloc (by simp) _
  have X : FiveV ((w.alloc (boxV x 63)).alloc (boxV y 63)) w.heap.size 0 x := (fiveV_new w x 63).later ((Below.refl _ _).alloc (Nat.le_refl _) _)
  have Y : FiveV ((w.alloc (boxV x 63)).alloc (boxV y 63)) (w.heap.size + 1) 0 y := by have := fiveV_new (w.alloc (boxV x 63)) y 63; simpa only [World.size_alloc] using this
  obtain ⟨W, hW⟩ : ∃ W, (w.alloc (boxV x 63)).alloc (boxV y 63) = W := ⟨_, rfl⟩
  rw [hW] at HB X Y
  have HW := Lib.hid hW
  have HX := Lib.hid hx
  have HY := Lib.hid hy
  have HB := Lib.hid HB
  obtain ⟨x0, x1, x2, x3, x4⟩ := X
  obtain ⟨y0, y1, y2, y3, y4⟩ := Y
  simp only [Nat.zero_add] at x0 x1 x2 x3 x4 y0 y1 y2 y3 y4
  clear hx hy hW
  go_enter Tryz.func41, Tryz.ntmps41
  go_wp2_with fail
  rw [HW.out]
  refine (compareV_any x y _ (HX.out.later HB.out) (HY.out.later HB.out)).mono ?_
  rintro e w1 ⟨rfl, b1⟩
  have B1 := Lib.hid (HB.out.trans (b1.mono HB.out.size))
  clear b1 x0 x1 x2 x3 x4 y0 y1 y2 y3 y4
  go_wp2_with fail
  go_ret
  exact ⟨rfl, B1.out⟩
set_option maxRecDepth 100000 in
set_option maxHeartbeats 4000000 in
theorem mSame_any (x y : VA) (w : World) (hx : LiesV w x) (hy : LiesV w y) : Calls Tryz.prog 14 #[vv x, vv y] w fun e w' => e = .returned (.bool (cmpV x.v y.v == 0)) ∧ Below w.heap.size w w' := by
  have HB : Below w.heap.size w ((w.alloc (boxV x 27)).alloc (boxV y 27)) := ((Below.refl _ _).alloc (Nat.le_refl _) _).alloc (by simp) _
  have X : FiveV ((w.alloc (boxV x 27)).alloc (boxV y 27)) w.heap.size 0 x := (fiveV_new w x 27).later ((Below.refl _ _).alloc (Nat.le_refl _) _)
  have Y : FiveV ((w.alloc (boxV x 27)).alloc (boxV y 27)) (w.heap.size + 1) 0 y := by have := fiveV_new (w.alloc (boxV x 27)) y 27; simpa only [World.size_alloc] using this
  obtain ⟨W, hW⟩ : ∃ W, (w.alloc (boxV x 27)).alloc (boxV y 27) = W := ⟨_, rfl⟩
  rw [hW] at HB X Y
  have HW := Lib.hid hW
  have HX := Lib.hid hx
  have HY := Lib.hid hy
  have HB := Lib.hid HB
  obtain ⟨x0, x1, x2, x3, x4⟩ := X
  obtain ⟨y0, y1, y2, y3, y4⟩ := Y
  simp only [Nat.zero_add] at x0 x1 x2 x3 x4 y0 y1 y2 y3 y4
  clear hx hy hW
  go_enter Tryz.func14, Tryz.ntmps14
  go_wp2_with fail
  rw [HW.out]
  refine (sameV_any x y _ (HX.out.later HB.out) (HY.out.later HB.out)).mono ?_
  rintro e w1 ⟨rfl, b1⟩
  have B1 := Lib.hid (HB.out.trans (b1.mono HB.out.size))
  clear b1 x0 x1 x2 x3 x4 y0 y1 y2 y3 y4
  go_wp2_with fail
  go_ret
  exact ⟨rfl, B1.out⟩
set_option maxRecDepth 100000 in
set_option maxHeartbeats 4000000 in
theorem mValid_any (x : VA) (w : World) (hx : LiesV w x) : Calls Tryz.prog 17 #[vv x] w fun e w' => e = .returned (.bool (validV x.v)) ∧ Below w.heap.size w w' := by
  have HB := Lib.hid (show Below w.heap.size w (w.alloc (boxV x 27)) from (Below.refl _ _).alloc (Nat.le_refl _) _)
  obtain ⟨x0, x1, x2, x3, x4⟩ := fiveV_new w x 27
  simp only [Nat.zero_add] at x0 x1 x2 x3 x4
  have HX := Lib.hid hx
  clear hx
  go_enter Tryz.func17, Tryz.ntmps17
  go_wp2_with fail
  refine (valid_any x _ (HX.out.later HB.out)).mono ?_
  rintro e w1 ⟨rfl, b1⟩
  have B1 := Lib.hid (HB.out.trans (b1.mono HB.out.size))
  clear b1 x0 x1 x2 x3 x4
  go_wp2_with fail
  go_ret
  exact ⟨rfl, B1.out⟩
/-- Are two values the same? -/
def sameB (v u : Vl) : Bool := decide (v.so = u.so) && (decide (v.nu = u.nu) && (numB v.st u.st && (numB v.ix u.ix && numB v.xs u.xs)))
theorem sameB_iff (v u : Vl) : sameB v u = true ↔ v = u := by
  cases v; cases u
  simp [sameB, numB]
theorem same_eq (v u : Vl) : (cmpV v u == 0) = sameB v u := by
  cases h : sameB v u with
  | true => rw [(sameB_iff v u).1 h]; simpa using (cmpV_zero u u).2 rfl
  | false =>
    rw [beq_eq_false_iff_ne]
    intro e
    rw [(sameB_iff v u).2 ((cmpV_zero v u).1 e)] at h
    cases h
set_option maxRecDepth 100000 in
set_option maxHeartbeats 4000000 in
theorem refSame_any (x y : VA) (w : World) (hx : LiesV w x) (hy : LiesV w y) : Calls Tryz.prog 13 #[vv x, vv y] w fun e w' => e = .returned (.bool (sameB x.v y.v)) ∧ Below w.heap.size w w' := by
  have hv := Lib.hid (show sameB x.v y.v = (decide (x.v.so = y.v.so) && (decide (x.v.nu = y.v.nu) && (numB x.v.st y.v.st && (numB x.v.ix y.v.ix && numB x.v.xs y.v.xs)))) from rfl)
  have HB : Below w.heap.size w ((w.alloc (boxV x 27)).alloc (boxV y 27)) := ((Below.refl _ _).alloc (Nat.le_refl _) _).alloc (by simp) _
  have X : FiveV ((w.alloc (boxV x 27)).alloc (boxV y 27)) w.heap.size 0 x := (fiveV_new w x 27).later ((Below.refl _ _).alloc (Nat.le_refl _) _)
  have Y : FiveV ((w.alloc (boxV x 27)).alloc (boxV y 27)) (w.heap.size + 1) 0 y := by have := fiveV_new (w.alloc (boxV x 27)) y 27; simpa only [World.size_alloc] using this
  obtain ⟨W, hW⟩ : ∃ W, (w.alloc (boxV x 27)).alloc (boxV y 27) = W := ⟨_, rfl⟩
  rw [hW] at HB X Y
  have HW := Lib.hid hW
  have HX := Lib.hid hx
  have HY := Lib.hid hy
  have HB := Lib.hid HB
  obtain ⟨x0, x1, x2, x3, x4⟩ := X
  obtain ⟨y0, y1, y2, y3, y4⟩ := Y
  simp only [Nat.zero_add] at x0 x1 x2 x3 x4 y0 y1 y2 y3 y4
  clear hx hy hW
  by_cases h0 : x.v.so = y.v.so
  case neg =>
    have d0 : (x.v.so == y.v.so) = false := by simp [h0]
    have Hr := Lib.hid (show sameB x.v y.v = false by rw [hv.out, decide_eq_false h0]; rfl)
    clear h0 hv
    go_enter Tryz.func13, Tryz.ntmps13
    go_wp2_with fail
    go_ret
    exact ⟨by rw [Hr.out]; rfl, by rw [HW.out]; exact HB.out⟩
  have d0 : (x.v.so == y.v.so) = true := by simp [h0]
  by_cases h1 : x.v.nu = y.v.nu
  case neg =>
    have d1 : (x.v.nu == y.v.nu) = false := by simp [h1]
    have Hr := Lib.hid (show sameB x.v y.v = false by rw [hv.out, decide_eq_true h0, decide_eq_false h1]; rfl)
    clear h0 h1 hv
    go_enter Tryz.func13, Tryz.ntmps13
    go_wp2_with fail
    go_ret
    exact ⟨by rw [Hr.out]; rfl, by rw [HW.out]; exact HB.out⟩
  have d1 : (x.v.nu == y.v.nu) = true := by simp [h1]
  have hv := Lib.hid (show sameB x.v y.v = (numB x.v.st y.v.st && (numB x.v.ix y.v.ix && numB x.v.xs y.v.xs)) by rw [hv.out, decide_eq_true h0, decide_eq_true h1]; rfl)
  have KX := Lib.hid (fun (W' : World) (h : Below W.heap.size W W') => (show FiveV W w.heap.size 0 x from ⟨x0, x1, x2, x3, x4⟩).later h)
  have KY := Lib.hid (fun (W' : World) (h : Below W.heap.size W W') => (show FiveV W (w.heap.size + 1) 0 y from ⟨y0, y1, y2, y3, y4⟩).later h)
  clear h0 h1
  go_enter Tryz.func13, Tryz.ntmps13
  go_wp2_with fail
  rw [HW.out]
  refine (numbers_any x.v.st y.v.st x.a1 y.a1 x.c1 y.c1 _ (HX.out.later HB.out).st (HY.out.later HB.out).st HX.out.l1 HY.out.l1).mono ?_
  rintro e w1 ⟨rfl, b1⟩
  have B1 := Lib.hid b1
  clear b1 d0 d1 x0 x1 x2 x3 x4 y0 y1 y2 y3 y4
  obtain ⟨x0, x1, x2, x3, x4⟩ := KX.out _ B1.out
  obtain ⟨y0, y1, y2, y3, y4⟩ := KY.out _ B1.out
  simp only [Nat.zero_add] at x0 x1 x2 x3 x4 y0 y1 y2 y3 y4
  cases hc : numB x.v.st y.v.st
  case false =>
    have Hr := Lib.hid (show sameB x.v y.v = false by rw [hv.out, hc]; rfl)
    clear hc hv
    go_wp2_with fail
    go_ret
    exact ⟨by rw [Hr.out]; rfl, HB.out.trans (B1.out.mono HB.out.size)⟩
  have hv := Lib.hid (show sameB x.v y.v = (numB x.v.ix y.v.ix && numB x.v.xs y.v.xs) by rw [hv.out, hc]; rfl)
  clear hc
  go_wp2_with fail
  refine (numbers_any x.v.ix y.v.ix x.a2 y.a2 x.c2 y.c2 _ (HX.out.later (HB.out.trans (B1.out.mono HB.out.size))).ix (HY.out.later (HB.out.trans (B1.out.mono HB.out.size))).ix HX.out.l2 HY.out.l2).mono ?_
  rintro e w2 ⟨rfl, b2⟩
  have B2 := Lib.hid (B1.out.trans (b2.mono B1.out.size))
  clear b2 x0 x1 x2 x3 x4 y0 y1 y2 y3 y4
  obtain ⟨x0, x1, x2, x3, x4⟩ := KX.out _ B2.out
  obtain ⟨y0, y1, y2, y3, y4⟩ := KY.out _ B2.out
  simp only [Nat.zero_add] at x0 x1 x2 x3 x4 y0 y1 y2 y3 y4
  cases hc : numB x.v.ix y.v.ix
  case false =>
    have Hr := Lib.hid (show sameB x.v y.v = false by rw [hv.out, hc]; rfl)
    clear hc hv
    go_wp2_with fail
    go_ret
    exact ⟨by rw [Hr.out]; rfl, HB.out.trans (B2.out.mono HB.out.size)⟩
  have hv := Lib.hid (show sameB x.v y.v = numB x.v.xs y.v.xs by rw [hv.out, hc]; rfl)
  clear hc
  go_wp2_with fail
  refine (numbers_any x.v.xs y.v.xs x.a3 y.a3 x.c3 y.c3 _ (HX.out.later (HB.out.trans (B2.out.mono HB.out.size))).xs (HY.out.later (HB.out.trans (B2.out.mono HB.out.size))).xs HX.out.l3 HY.out.l3).mono ?_
  rintro e w3 ⟨rfl, b3⟩
  have B3 := Lib.hid (B2.out.trans (b3.mono B2.out.size))
  clear b3 x0 x1 x2 x3 x4 y0 y1 y2 y3 y4
  cases hc : numB x.v.xs y.v.xs
  case false =>
    have Hr := Lib.hid (hv.out.trans hc)
    clear hc hv
    go_wp2_with fail
    go_ret
    exact ⟨by rw [Hr.out]; rfl, HB.out.trans (B3.out.mono HB.out.size)⟩
  have Hr := Lib.hid (hv.out.trans hc)
  clear hc hv
  go_wp2_with fail
  go_ret
  exact ⟨by rw [Hr.out]; rfl, HB.out.trans (B3.out.mono HB.out.size)⟩
end Go.Proofs.YtmeeombadkgneaaGreat
