/-
  What the comparisons of values return, package model's and the document's; conditions: the values' lists lie in memory.
  What Same and ValidVal return, package model's and the document's Same; conditions: the values' lists lie in memory.
  What the document's own ValidVal returns of a value; conditions: the value's lists lie in memory.
-/
import Derived.Test.YtmeeombadkgneaaGreatZVa2
import Derived.Test.YtmeeombadkgneaaGreatZVarsOne
namespace Go.Proofs.YtmeeombadkgneaaGreat
open Go.RowKit Go.Shelf

attribute [local go_sem] Oper.semAt_some
/-- The order of two values by their fields. -/
def cmpV (v u : Vl) : Int :=
  if orV (cmpI v.so u.so) (cmpI v.nu u.nu) = 0 then (if cmpL v.st u.st = 0 then (if cmpL v.ix u.ix = 0 then cmpL v.xs u.xs else cmpL v.ix u.ix) else cmpL v.st u.st) else orV (cmpI v.so u.so) (cmpI v.nu u.nu)
theorem cmpV_zero (v u : Vl) : cmpV v u = 0 ↔ v = u := by
  unfold cmpV
  by_cases h : orV (cmpI v.so u.so) (cmpI v.nu u.nu) = 0
  · rw [if_pos h]
    have h2 : v.so = u.so ∧ v.nu = u.nu := by
      unfold orV at h
      split at h
      · rename_i h1; exact absurd h h1
      · rename_i h1
        exact ⟨cmpI_zero.1 (by simpa using h1), cmpI_zero.1 h⟩
    by_cases h3 : cmpL v.st u.st = 0
    · rw [if_pos h3]
      by_cases h4 : cmpL v.ix u.ix = 0
      · rw [if_pos h4, cmpL_zero]
        rw [cmpL_zero] at h3 h4
        cases v; cases u
        simp_all
      · rw [if_neg h4]
        refine ⟨fun e => absurd e h4, fun e => ?_⟩
        subst e
        exact (cmpL_zero _ _).2 rfl
    · rw [if_neg h3]
      refine ⟨fun e => absurd e h3, fun e => ?_⟩
      subst e
      exact (cmpL_zero _ _).2 rfl
  · rw [if_neg h]
    refine ⟨fun e => absurd e h, fun e => ?_⟩
    subst e
    exfalso
    apply h
    unfold orV
    rw [cmpI_zero.2 rfl, cmpI_zero.2 rfl]
    simp
set_option maxRecDepth 100000 in
set_option maxHeartbeats 4000000 in
theorem compareV_any (x y : VA) (w : World) (hx : LiesV w x) (hy : LiesV w y) : Calls Tryz.prog 61 #[vv x, vv y] w fun e w' => e = .returned (.int .i64 (cmpV x.v y.v)) ∧ Below w.heap.size w w' := by
  have HB : Below w.heap.size w ((w.alloc (boxV x 63)).alloc (boxV y 63)) := ((Below.refl _ _).alloc (Nat.le_refl _) _).alloc (by simp) _
  have X : FiveV ((w.alloc (boxV x 63)).alloc (boxV y 63)) w.heap.size 0 x := (fiveV_new w x 63).later ((Below.refl _ _).alloc (Nat.le_refl _) _)
  have Y : FiveV ((w.alloc (boxV x 63)).alloc (boxV y 63)) (w.heap.size + 1) 0 y := by have := fiveV_new (w.alloc (boxV x 63)) y 63; simpa only [World.size_alloc] using this
  have hv := Lib.hid (show cmpV x.v y.v = if orV (cmpI x.v.so y.v.so) (cmpI x.v.nu y.v.nu) = 0 then (if cmpL x.v.st y.v.st = 0 then (if cmpL x.v.ix y.v.ix = 0 then cmpL x.v.xs y.v.xs else cmpL x.v.ix y.v.ix) else cmpL x.v.st y.v.st) else orV (cmpI x.v.so y.v.so) (cmpI x.v.nu y.v.nu) from rfl)
  have HX := Lib.hid hx
  have HY := Lib.hid hy
  have e0 := X.c0
  have e1 := X.c1
  have e2 := Y.c0
  have e3 := Y.c1
  clear hx hy
  simp only [Nat.zero_add] at e0 e1 e2 e3
  go_enter Tryz.func61, Tryz.ntmps61
  go_wp2_with fail
  generalize (w.alloc (boxV x 63)).alloc (boxV y 63) = W at *
  go_still_tail 10, (by kernel_rfl)
  still_call ((cmpInt_any _ _ _).mono fun _ _ h => ⟨h.1, h.2.symm⟩)
  repeat still_step
  still_call ((cmp64_any _ _ _).mono fun _ _ h => ⟨h.1, h.2.symm⟩)
  refine wpStill_nil ?_
  change wpList _ _ _ _ _ W.drew
  clear e0 e1 e2 e3
  have hd : Below W.heap.size W W.drew := ⟨rfl, rfl, rfl, Nat.le_refl _, fun _ _ => rfl⟩
  have HBd := Lib.hid (HB.drew)
  have KX := Lib.hid (fun (W' : World) (h : Below W.drew.heap.size W.drew W') => (X.later hd).later h)
  have KY := Lib.hid (fun (W' : World) (h : Below W.drew.heap.size W.drew W') => (Y.later hd).later h)
  clear hd HB X Y
  generalize W.drew = W2 at *
  go_wp2_with fail
  refine (or_any (cmpI x.v.so y.v.so) (cmpI x.v.nu y.v.nu) _ _ _ (by simp [go_sem]) (by simp [go_sem])).mono ?_
  rintro e w1 ⟨rfl, hw⟩
  have B1 : Below W2.heap.size W2 w1 := by rw [← hw]; exact (Below.refl _ _).alloc (Nat.le_refl _) _
  clear hw
  obtain ⟨x0, x1, x2, x3, x4⟩ := KX.out _ B1
  obtain ⟨y0, y1, y2, y3, y4⟩ := KY.out _ B1
  simp only [Nat.zero_add] at x0 x1 x2 x3 x4 y0 y1 y2 y3 y4
  have HB1 := Lib.hid (HBd.out.trans (B1.mono HBd.out.size))
  clear B1 KX KY HBd
  by_cases h0 : orV (cmpI x.v.so y.v.so) (cmpI x.v.nu y.v.nu) = 0
  case neg =>
    have h0' : (orV (cmpI x.v.so y.v.so) (cmpI x.v.nu y.v.nu) != 0) = true := by simp [h0]
    have Hr := Lib.hid (show cmpV x.v y.v = orV (cmpI x.v.so y.v.so) (cmpI x.v.nu y.v.nu) by rw [hv.out, if_neg h0])
    clear h0 hv
    go_wp2_with fail
    go_ret
    exact ⟨by rw [Hr.out]; rfl, HB1.out⟩
  have h0' : (orV (cmpI x.v.so y.v.so) (cmpI x.v.nu y.v.nu) != 0) = false := by simp [h0]
  have hv := Lib.hid (hv.out.trans (if_pos h0))
  clear h0
  go_wp2_with fail
  refine (slCmp_any x.v.st y.v.st x.a1 y.a1 x.c1 y.c1 _ (HX.out.later HB1.out).st (HY.out.later HB1.out).st HX.out.l1 HY.out.l1).mono ?_
  rintro e w2 ⟨rfl, rfl⟩
  clear h0'
  by_cases h1 : cmpL x.v.st y.v.st = 0
  case neg =>
    have h1' : (cmpL x.v.st y.v.st != 0) = true := by simp [h1]
    have Hr := Lib.hid (show cmpV x.v y.v = cmpL x.v.st y.v.st by rw [hv.out, if_neg h1])
    clear h1 hv
    go_wp2_with fail
    go_ret
    exact ⟨by rw [Hr.out]; rfl, HB1.out⟩
  have h1' : (cmpL x.v.st y.v.st != 0) = false := by simp [h1]
  have hv := Lib.hid (hv.out.trans (if_pos h1))
  clear h1
  go_wp2_with fail
  refine (slCmp_any x.v.ix y.v.ix x.a2 y.a2 x.c2 y.c2 _ (HX.out.later HB1.out).ix (HY.out.later HB1.out).ix HX.out.l2 HY.out.l2).mono ?_
  rintro e w2 ⟨rfl, rfl⟩
  clear h1'
  by_cases h2 : cmpL x.v.ix y.v.ix = 0
  case neg =>
    have h2' : (cmpL x.v.ix y.v.ix != 0) = true := by simp [h2]
    have Hr := Lib.hid (show cmpV x.v y.v = cmpL x.v.ix y.v.ix by rw [hv.out, if_neg h2])
    clear h2 hv
    go_wp2_with fail
    go_ret
    exact ⟨by rw [Hr.out]; rfl, HB1.out⟩
  have h2' : (cmpL x.v.ix y.v.ix != 0) = false := by simp [h2]
  have hv := Lib.hid (hv.out.trans (if_pos h2))
  clear h2
  go_wp2_with fail
  refine (slCmp_any x.v.xs y.v.xs x.a3 y.a3 x.c3 y.c3 _ (HX.out.later HB1.out).xs (HY.out.later HB1.out).xs HX.out.l3 HY.out.l3).mono ?_
  rintro e w2 ⟨rfl, rfl⟩
  clear h2'
  go_wp2_with fail
  go_ret
  exact ⟨by rw [hv.out]; rfl, HB1.out⟩
end Go.Proofs.YtmeeombadkgneaaGreat
namespace Go.Proofs.YtmeeombadkgneaaGreat
open Go.RowKit Go.Shelf

attribute [local go_sem] Oper.semAt_some
set_option maxRecDepth 100000 in
set_option maxHeartbeats 4000000 in
theorem sameV_any (x y : VA) (w : World) (hx : LiesV w x) (hy : LiesV w y) : Calls Tryz.prog 41 #[vv x, vv y] w fun e w' => e = .returned (.bool (cmpV x.v y.v == 0)) ∧ Below w.heap.size w w' := by
  have HB : Below w.heap.size w ((w.alloc (boxV x 63)).alloc (boxV y 63)) := ((Below.refl _ _).alloc (Nat.le_refl _) _).alloc (by simp) _
  have X : FiveV ((w.alloc (boxV x 63)).alloc (boxV y 63)) w.heap.size 0 x := (fiveV_new w x 63).later ((Below.refl _ _).alloc (Nat.le_refl _) _)
  have Y : FiveV ((w.alloc (boxV x 63)).alloc (boxV y 63)) (w.heap.size + 1) 0 y := by have := fiveV_new (w.alloc (boxV x 63)) y 63; simpa only [World.size_alloc] using this
  obtain ⟨W, hW⟩ : ∃ W, (w.alloc (boxV x 63)).alloc (boxV y 63) = W := ⟨_, rfl⟩
  rw [hW] at HB X Y
  have HW := Lib.hid hW
  have HX := Lib.hid hx
  have HY := Lib.hid hy
  have HB := Lib.hid HB
  obtain ⟨x0, x1, x2, x3, x4⟩ := X
  obtain ⟨y0, y1, y2, y3, y4⟩ := Y
  simp only [Nat.zero_add] at x0 x1 x2 x3 x4 y0 y1 y2 y3 y4
  clear hx hy hW
  go_enter Tryz.func41, Tryz.ntmps41
  go_wp2_with fail
  rw [HW.out]
  refine (compareV_any x y _ (HX.out.later HB.out) (HY.out.later HB.out)).mono ?_
  rintro e w1 ⟨rfl, b1⟩
  have B1 := Lib.hid (HB.out.trans (b1.mono HB.out.size))
  clear b1 x0 x1 x2 x3 x4 y0 y1 y2 y3 y4
  go_wp2_with fail
  go_ret
  exact ⟨rfl, B1.out⟩
set_option maxRecDepth 100000 in
set_option maxHeartbeats 4000000 in
theorem mSame_any (x y : VA) (w : World) (hx : LiesV w x) (hy : LiesV w y) : Calls Tryz.prog 14 #[vv x, vv y] w fun e w' => e = .returned (.bool (cmpV x.v y.v == 0)) ∧ Below w.heap.size w w' := by
  have HB : Below w.heap.size w ((w.alloc (boxV x 27)).alloc (boxV y 27)) := ((Below.refl _ _).alloc (Nat.le_refl _) _).alloc (by simp) _
  have X : FiveV ((w.alloc (boxV x 27)).alloc (boxV y 27)) w.heap.size 0 x := (fiveV_new w x 27).later ((Below.refl _ _).alloc (Nat.le_refl _) _)
  have Y : FiveV ((w.alloc (boxV x 27)).alloc (boxV y 27)) (w.heap.size + 1) 0 y := by have := fiveV_new (w.alloc (boxV x 27)) y 27; simpa only [World.size_alloc] using this
  obtain ⟨W, hW⟩ : ∃ W, (w.alloc (boxV x 27)).alloc (boxV y 27) = W := ⟨_, rfl⟩
  rw [hW] at HB X Y
  have HW := Lib.hid hW
  have HX := Lib.hid hx
  have HY := Lib.hid hy
  have HB := Lib.hid HB
  obtain ⟨x0, x1, x2, x3, x4⟩ := X
  obtain ⟨y0, y1, y2, y3, y4⟩ := Y
  simp only [Nat.zero_add] at x0 x1 x2 x3 x4 y0 y1 y2 y3 y4
  clear hx hy hW
  go_enter Tryz.func14, Tryz.ntmps14
  go_wp2_with fail
  rw [HW.out]
  refine (sameV_any x y _ (HX.out.later HB.out) (HY.out.later HB.out)).mono ?_
  rintro e w1 ⟨rfl, b1⟩
  have B1 := Lib.hid (HB.out.trans (b1.mono HB.out.size))
  clear b1 x0 x1 x2 x3 x4 y0 y1 y2 y3 y4
  go_wp2_with fail
  go_ret
  exact ⟨rfl, B1.out⟩
set_option maxRecDepth 100000 in
set_option maxHeartbeats 4000000 in
theorem mValid_any (x : VA) (w : World) (hx : LiesV w x) : Calls Tryz.prog 17 #[vv x] w fun e w' => e = .returned (.bool (validV x.v)) ∧ Below w.heap.size w w' := by
  have HB := Lib.hid (show Below w.heap.size w (w.alloc (boxV x 27)) from (Below.refl _ _).alloc (Nat.le_refl _) _)
  obtain ⟨x0, x1, x2, x3, x4⟩ := fiveV_new w x 27
  simp only [Nat.zero_add] at x0 x1 x2 x3 x4
  have HX := Lib.hid hx
  clear hx
  go_enter Tryz.func17, Tryz.ntmps17
  go_wp2_with fail
  refine (valid_any x _ (HX.out.later HB.out)).mono ?_
  rintro e w1 ⟨rfl, b1⟩
  have B1 := Lib.hid (HB.out.trans (b1.mono HB.out.size))
  clear b1 x0 x1 x2 x3 x4
  go_wp2_with fail
  go_ret
  exact ⟨rfl, B1.out⟩
/-- Are two values the same? -/
def sameB (v u : Vl) : Bool := decide (v.so = u.so) && (decide (v.nu = u.nu) && (numB v.st u.st && (numB v.ix u.ix && numB v.xs u.xs)))
theorem sameB_iff (v u : Vl) : sameB v u = true ↔ v = u := by
  cases v; cases u
  simp [sameB, numB]
theorem same_eq (v u : Vl) : (cmpV v u == 0) = sameB v u := by
  cases h : sameB v u with
  | true => rw [(sameB_iff v u).1 h]; simpa using (cmpV_zero u u).2 rfl
  | false =>
    rw [beq_eq_false_iff_ne]
    intro e
    rw [(sameB_iff v u).2 ((cmpV_zero v u).1 e)] at h
    cases h
set_option maxRecDepth 100000 in
set_option maxHeartbeats 4000000 in
theorem refSame_any (x y : VA) (w : World) (hx : LiesV w x) (hy : LiesV w y) : Calls Tryz.prog 13 #[vv x, vv y] w fun e w' => e = .returned (.bool (sameB x.v y.v)) ∧ Below w.heap.size w w' := by
  have hv := Lib.hid (show sameB x.v y.v = (decide (x.v.so = y.v.so) && (decide (x.v.nu = y.v.nu) && (numB x.v.st y.v.st && (numB x.v.ix y.v.ix && numB x.v.xs y.v.xs)))) from rfl)
  have HB : Below w.heap.size w ((w.alloc (boxV x 27)).alloc (boxV y 27)) := ((Below.refl _ _).alloc (Nat.le_refl _) _).alloc (by simp) _
  have X : FiveV ((w.alloc (boxV x 27)).alloc (boxV y 27)) w.heap.size 0 x := (fiveV_new w x 27).later ((Below.refl _ _).alloc (Nat.le_refl _) _)
  have Y : FiveV ((w.alloc (boxV x 27)).alloc (boxV y 27)) (w.heap.size + 1) 0 y := by have := fiveV_new (w.alloc (boxV x 27)) y 27; simpa only [World.size_alloc] using this
  obtain ⟨W, hW⟩ : ∃ W, (w.alloc (boxV x 27)).alloc (boxV y 27) = W := ⟨_, rfl⟩
  rw [hW] at HB X Y
  have HW := Lib.hid hW
  have HX := Lib.hid hx
  have HY := Lib.hid hy
  have HB := Lib.hid HB
  obtain ⟨x0, x1, x2, x3, x4⟩ := X
  obtain ⟨y0, y1, y2, y3, y4⟩ := Y
  simp only [Nat.zero_add] at x0 x1 x2 x3 x4 y0 y1 y2 y3 y4
  clear hx hy hW
  by_cases h0 : x.v.so = y.v.so
  case neg =>
    have d0 : (x.v.so == y.v.so) = false := by simp [h0]
    have Hr := Lib.hid (show sameB x.v y.v = false by rw [hv.out, decide_eq_false h0]; rfl)
    clear h0 hv
    go_enter Tryz.func13, Tryz.ntmps13
    go_wp2_with fail
    go_ret
    exact ⟨by rw [Hr.out]; rfl, by rw [HW.out]; exact HB.out⟩
  have d0 : (x.v.so == y.v.so) = true := by simp [h0]
  by_cases h1 : x.v.nu = y.v.nu
  case neg =>
    have d1 : (x.v.nu == y.v.nu) = false := by simp [h1]
    have Hr := Lib.hid (show sameB x.v y.v = false by rw [hv.out, decide_eq_true h0, decide_eq_false h1]; rfl)
    clear h0 h1 hv
    go_enter Tryz.func13, Tryz.ntmps13
    go_wp2_with fail
    go_ret
    exact ⟨by rw [Hr.out]; rfl, by rw [HW.out]; exact HB.out⟩
  have d1 : (x.v.nu == y.v.nu) = true := by simp [h1]
  have hv := Lib.hid (show sameB x.v y.v = (numB x.v.st y.v.st && (numB x.v.ix y.v.ix && numB x.v.xs y.v.xs)) by rw [hv.out, decide_eq_true h0, decide_eq_true h1]; rfl)
  have KX := Lib.hid (fun (W' : World) (h : Below W.heap.size W W') => (show FiveV W w.heap.size 0 x from ⟨x0, x1, x2, x3, x4⟩).later h)
  have KY := Lib.hid (fun (W' : World) (h : Below W.heap.size W W') => (show FiveV W (w.heap.size + 1) 0 y from ⟨y0, y1, y2, y3, y4⟩).later h)
  clear h0 h1
  go_enter Tryz.func13, Tryz.ntmps13
  go_wp2_with fail
  rw [HW.out]
  refine (numbers_any x.v.st y.v.st x.a1 y.a1 x.c1 y.c1 _ (HX.out.later HB.out).st (HY.out.later HB.out).st HX.out.l1 HY.out.l1).mono ?_
  rintro e w1 ⟨rfl, b1⟩
  have B1 := Lib.hid b1
  clear b1 d0 d1 x0 x1 x2 x3 x4 y0 y1 y2 y3 y4
  obtain ⟨x0, x1, x2, x3, x4⟩ := KX.out _ B1.out
  obtain ⟨y0, y1, y2, y3, y4⟩ := KY.out _ B1.out
  simp only [Nat.zero_add] at x0 x1 x2 x3 x4 y0 y1 y2 y3 y4
  cases hc : numB x.v.st y.v.st
  case false =>
    have Hr := Lib.hid (show sameB x.v y.v = false by rw [hv.out, hc]; rfl)
    clear hc hv
    go_wp2_with fail
    go_ret
    exact ⟨by rw [Hr.out]; rfl, HB.out.trans (B1.out.mono HB.out.size)⟩
  have hv := Lib.hid (show sameB x.v y.v = (numB x.v.ix y.v.ix && numB x.v.xs y.v.xs) by rw [hv.out, hc]; rfl)
  clear hc
  go_wp2_with fail
  refine (numbers_any x.v.ix y.v.ix x.a2 y.a2 x.c2 y.c2 _ (HX.out.later (HB.out.trans (B1.out.mono HB.out.size))).ix (HY.out.later (HB.out.trans (B1.out.mono HB.out.size))).ix HX.out.l2 HY.out.l2).mono ?_
  rintro e w2 ⟨rfl, b2⟩
  have B2 := Lib.hid (B1.out.trans (b2.mono B1.out.size))
  clear b2 x0 x1 x2 x3 x4 y0 y1 y2 y3 y4
  obtain ⟨x0, x1, x2, x3, x4⟩ := KX.out _ B2.out
  obtain ⟨y0, y1, y2, y3, y4⟩ := KY.out _ B2.out
  simp only [Nat.zero_add] at x0 x1 x2 x3 x4 y0 y1 y2 y3 y4
  cases hc : numB x.v.ix y.v.ix
  case false =>
    have Hr := Lib.hid (show sameB x.v y.v = false by rw [hv.out, hc]; rfl)
    clear hc hv
    go_wp2_with fail
    go_ret
    exact ⟨by rw [Hr.out]; rfl, HB.out.trans (B2.out.mono HB.out.size)⟩
  have hv := Lib.hid (show sameB x.v y.v = numB x.v.xs y.v.xs by rw [hv.out, hc]; rfl)
  clear hc
  go_wp2_with fail
  refine (numbers_any x.v.xs y.v.xs x.a3 y.a3 x.c3 y.c3 _ (HX.out.later (HB.out.trans (B2.out.mono HB.out.size))).xs (HY.out.later (HB.out.trans (B2.out.mono HB.out.size))).xs HX.out.l3 HY.out.l3).mono ?_
  rintro e w3 ⟨rfl, b3⟩
  have B3 := Lib.hid (B2.out.trans (b3.mono B2.out.size))
  clear b3 x0 x1 x2 x3 x4 y0 y1 y2 y3 y4
  cases hc : numB x.v.xs y.v.xs
  case false =>
    have Hr := Lib.hid (hv.out.trans hc)
    clear hc hv
    go_wp2_with fail
    go_ret
    exact ⟨by rw [Hr.out]; rfl, HB.out.trans (B3.out.mono HB.out.size)⟩
  have Hr := Lib.hid (hv.out.trans hc)
  clear hc hv
  go_wp2_with fail
  go_ret
  exact ⟨by rw [Hr.out]; rfl, HB.out.trans (B3.out.mono HB.out.size)⟩
end Go.Proofs.YtmeeombadkgneaaGreat
namespace Go.Proofs.YtmeeombadkgneaaGreat
open Go.RowKit Go.Shelf

attribute [local go_sem] Oper.semAt_some
noncomputable def refValidV (v : Vl) : Bool := decide (1 ≤ v.so) && (decide (v.so ≤ 5) && (bndB v.nu && ((ascB v.st && decide (v.st.length ≤ 200)) && ((ascB v.ix && decide (v.ix.length ≤ 200)) && (decide (v.xs.length = v.ix.length) && (nzB v.xs && shapeV v))))))
theorem valid_eq (v : Vl) : refValidV v = validV v := by
  have hs : shapeV v = true → 1 ≤ v.so ∧ v.so ≤ 5 := by
    unfold shapeV
    intro h
    split at h
    · omega
    split at h
    · omega
    split at h
    · omega
    split at h
    · omega
    · cases h
  unfold refValidV validV smallV
  cases hh : shapeV v
  · simp
  · obtain ⟨h1, h2⟩ := hs hh
    rw [decide_eq_true h1, decide_eq_true h2]
    cases bndB v.nu <;> cases ascB v.st <;> cases ascB v.ix <;> cases decide (v.st.length ≤ 200) <;> cases decide (v.ix.length ≤ 200) <;> rfl
set_option maxRecDepth 100000 in
set_option maxHeartbeats 8000000 in
theorem refValid_any (x : VA) (w : World) (hL : LiesV w x) : Calls Tryz.prog 18 #[vv x] w fun e w' => e = .returned (.bool (refValidV x.v)) ∧ Below w.heap.size w w' := by
  obtain ⟨W, hW⟩ : ∃ W, w.alloc (boxV x 27) = W := ⟨_, rfl⟩
  have X := fiveV_new w x 27
  have HB : Below w.heap.size w W := by rw [← hW]; exact (Below.refl _ _).alloc (Nat.le_refl _) _
  rw [hW] at X
  have HL := Lib.hid (hL.later HB)
  have HW := Lib.hid hW
  have HB := Lib.hid HB
  have hlen3 := hL.l3
  unfold maxLen at hlen3
  have HV := Lib.hid (show refValidV x.v = (decide (1 ≤ x.v.so) && (decide (x.v.so ≤ 5) && (bndB x.v.nu && ((ascB x.v.st && decide (x.v.st.length ≤ 200)) && ((ascB x.v.ix && decide (x.v.ix.length ≤ 200)) && (decide (x.v.xs.length = x.v.ix.length) && (nzB x.v.xs && shapeV x.v))))))) from rfl)
  obtain ⟨x0, x1, x2, x3, x4⟩ := X
  simp only [Nat.zero_add] at x0 x1 x2 x3 x4
  clear hL hW
  by_cases s1 : 1 ≤ x.v.so
  case neg =>
    have d1 : decide (x.v.so < 1) = true := decide_eq_true (by omega)
    have Hr := Lib.hid (show refValidV x.v = false by rw [HV.out, decide_eq_false s1]; rfl)
    clear s1 HV
    go_enter Tryz.func18, Tryz.ntmps18
    go_wp2_with fail
    go_ret
    exact ⟨by rw [Hr.out]; rfl, by rw [HW.out]; exact HB.out⟩
  have d1 : decide (x.v.so < 1) = false := decide_eq_false (by omega)
  by_cases s2 : x.v.so ≤ 5
  case neg =>
    have d2 : decide (5 < x.v.so) = true := decide_eq_true (by omega)
    have Hr := Lib.hid (show refValidV x.v = false by rw [HV.out, decide_eq_true s1, decide_eq_false s2]; rfl)
    clear s1 s2 HV
    go_enter Tryz.func18, Tryz.ntmps18
    go_wp2_with fail
    go_ret
    exact ⟨by rw [Hr.out]; rfl, by rw [HW.out]; exact HB.out⟩
  have d2 : decide (5 < x.v.so) = false := decide_eq_false (by omega)
  have HV := Lib.hid (show refValidV x.v = (bndB x.v.nu && ((ascB x.v.st && decide (x.v.st.length ≤ 200)) && ((ascB x.v.ix && decide (x.v.ix.length ≤ 200)) && (decide (x.v.xs.length = x.v.ix.length) && (nzB x.v.xs && shapeV x.v))))) by rw [HV.out, decide_eq_true s1, decide_eq_true s2]; rfl)
  go_enter Tryz.func18, Tryz.ntmps18
  go_wp2_with fail
  rw [HW.out]
  refine (fits_any x.v.nu _).mono ?_
  rintro e w1 ⟨rfl, rfl⟩
  cases hc : bndB x.v.nu
  case false =>
    have Hr := Lib.hid (show refValidV x.v = false by rw [HV.out, hc]; rfl)
    clear hc HV s1 s2
    go_wp2_with fail
    go_ret
    exact ⟨by rw [Hr.out]; rfl, HB.out⟩
  have HV := Lib.hid (show refValidV x.v = ((ascB x.v.st && decide (x.v.st.length ≤ 200)) && ((ascB x.v.ix && decide (x.v.ix.length ≤ 200)) && (decide (x.v.xs.length = x.v.ix.length) && (nzB x.v.xs && shapeV x.v)))) by rw [HV.out, hc]; rfl)
  clear hc
  go_wp2_with fail
  refine (refAsc_any x.v.st x.a1 x.c1 _ HL.out.st HL.out.l1).mono ?_
  rintro e w2 ⟨rfl, rfl⟩
  cases hc : (ascB x.v.st && decide (x.v.st.length ≤ 200))
  case false =>
    have Hr := Lib.hid (show refValidV x.v = false by rw [HV.out, hc]; rfl)
    clear hc HV s1 s2
    go_wp2_with fail
    go_ret
    exact ⟨by rw [Hr.out]; rfl, HB.out⟩
  have HV := Lib.hid (show refValidV x.v = ((ascB x.v.ix && decide (x.v.ix.length ≤ 200)) && (decide (x.v.xs.length = x.v.ix.length) && (nzB x.v.xs && shapeV x.v))) by rw [HV.out, hc]; rfl)
  clear hc
  go_wp2_with fail
  refine (refAsc_any x.v.ix x.a2 x.c2 _ HL.out.ix HL.out.l2).mono ?_
  rintro e w2 ⟨rfl, rfl⟩
  by_cases hlen : x.v.xs.length = x.v.ix.length
  case neg =>
    have dlen : ((x.v.xs.length : Int) != (x.v.ix.length : Int)) = true := by simp; omega
    cases hc : (ascB x.v.ix && decide (x.v.ix.length ≤ 200))
    case false =>
      have Hr := Lib.hid (show refValidV x.v = false by rw [HV.out, hc]; rfl)
      clear hc HV hlen s1 s2
      go_wp2_with fail
      go_ret
      exact ⟨by rw [Hr.out]; rfl, HB.out⟩
    have Hr := Lib.hid (show refValidV x.v = false by rw [HV.out, hc, decide_eq_false hlen]; rfl)
    clear hc HV hlen s1 s2
    go_wp2_with fail
    go_ret
    exact ⟨by rw [Hr.out]; rfl, HB.out⟩
  have dlen : ((x.v.xs.length : Int) != (x.v.ix.length : Int)) = false := by simp; omega
  cases hc : (ascB x.v.ix && decide (x.v.ix.length ≤ 200))
  case false =>
    have Hr := Lib.hid (show refValidV x.v = false by rw [HV.out, hc]; rfl)
    clear hc HV s1 s2
    go_wp2_with fail
    go_ret
    exact ⟨by rw [Hr.out]; rfl, HB.out⟩
  have HV := Lib.hid (show refValidV x.v = (decide (x.v.xs.length = x.v.ix.length) && (nzB x.v.xs && shapeV x.v)) by rw [HV.out, hc]; rfl)
  clear hc
  have HV := Lib.hid (show refValidV x.v = (nzB x.v.xs && shapeV x.v) by rw [HV.out, decide_eq_true hlen]; rfl)
  clear hlen d1 d2
  go_wp2_with fail
  clear dlen
  go_loopw [43] (fun i wr => ∃ k : Nat, k ≤ x.v.xs.length ∧ i = .int .i64 k ∧ Hid (∀ j (h : j < x.v.xs.length), j < k → nzAt x.v.xs j h) ∧ W = wr) (fun i _ => x.v.xs.length - (intOf i).toNat)
  case atStart => exact ⟨0, Nat.zero_le _, rfl, fun j hj hjk => absurd hjk (by omega), rfl⟩
  case round =>
    obtain ⟨k, hk, rfl, hj, rfl⟩ := hrel
    by_cases hlt : k < x.v.xs.length
    · obtain ⟨b, o, ha, hc⟩ := HL.out.xs
      have ha := ha (by omega)
      have c0 := hc k hlt
      have HJ := Lib.hid (fun (e : nzAt x.v.xs k hlt) => (show Hid (∀ j (h : j < x.v.xs.length), j < k + 1 → nzAt x.v.xs j h) from fun j h h2 => by
        by_cases e' : j = k
        · subst e'; exact e
        · exact hj.out j h (by omega)))
      have HN := Lib.hid (fun (e : ¬ nzAt x.v.xs k hlt) => show refValidV x.v = false by rw [HV.out, nzB_no hlt e]; rfl)
      have hx := Lib.hid (fun (e : bndB x.v.xs[k] = true) (e2 : x.v.xs[k] ≠ 0) => (show nzAt x.v.xs k hlt from ⟨e, e2⟩))
      have hy := Lib.hid (fun (e : bndB x.v.xs[k] = false ∨ x.v.xs[k] = 0) => (show ¬ nzAt x.v.xs k hlt from fun h => by
        rcases e with e | e
        · have := h.1; rw [e] at this; cases this
        · exact h.2 e))
      generalize x.v.xs[k] = z at *
      clear hj hc HL HV
      by_cases hz : z = 0
      · have hz' : (z == 0) = true := by simpa using hz
        have Hr := Lib.hid (HN.out (hy.out (.inr hz)))
        clear hz HJ HN hx hy s1 s2
        rw [ha] at *
        go_wp2_with fail
        go_ret
        exact ⟨by rw [Hr.out]; rfl, HB.out⟩
      have hz' : (z == 0) = false := by simpa using hz
      cases hb : bndB z
      case false =>
        have Hr := Lib.hid (HN.out (hy.out (.inl hb)))
        have Hb := Lib.hid hb
        clear hb hz HJ HN hx hy s1 s2
        rw [ha] at *
        go_wp2_with fail
        refine (fits_any z _).mono ?_
        rintro e w1 ⟨rfl, rfl⟩
        rw [Hb.out]
        go_wp2_with fail
        go_ret
        exact ⟨by rw [Hr.out]; rfl, HB.out⟩
      case true =>
        have Hn := HJ.out (hx.out hb hz)
        have Hb := Lib.hid hb
        clear hb hz HJ HN hx hy s1 s2
        rw [ha] at *
        go_wp2_with fail
        refine (fits_any z _).mono ?_
        rintro e w1 ⟨rfl, rfl⟩
        rw [Hb.out]
        go_wp2_with fail
        go_roundw
        case rel => exact ⟨k + 1, by omega, by go_num, Hn, by first | trivial | rfl⟩
        case measure => simp [intOf]; omega
    · have HV := Lib.hid (show refValidV x.v = shapeV x.v by rw [HV.out, nzB_yes fun j h => hj.out j h (by omega)]; rfl)
      clear hj HL
      by_cases h2 : x.v.so = 2
      · have hso := h2
        have q2 : (x.v.so == 2) = true := by rw [hso]; rfl
        have q5 : (x.v.so == 5) = false := by rw [hso]; rfl
        have q4 : (x.v.so == 4) = false := by rw [hso]; rfl
        by_cases nu0 : x.v.nu = 0
        · have dnu0 : (x.v.nu == 0) = true := by simp [nu0]
          have nnu0 : (x.v.nu != 0) = false := by simp [nu0]
          by_cases st0 : x.v.st.length = 0
          · have dst0 : ((x.v.st.length : Int) == 0) = true := by simp [st0]
            have nst0 : ((x.v.st.length : Int) != 0) = false := by simp [st0]
            by_cases ix0 : x.v.ix.length = 0
            · have dix0 : ((x.v.ix.length : Int) == 0) = true := by simp [ix0]
              have nix0 : ((x.v.ix.length : Int) != 0) = false := by simp [ix0]
              have Hr := Lib.hid (HV.out.trans (show shapeV x.v = true by simp [shapeV, nu0, st0, ix0, hso]))
              clear nu0 st0 ix0 HV
              go_wp2_with fail
              go_ret
              exact ⟨by rw [Hr.out]; rfl, HB.out⟩
            · have dix0 : ((x.v.ix.length : Int) == 0) = false := by rw [beq_eq_false_iff_ne]; omega
              have nix0 : ((x.v.ix.length : Int) != 0) = true := by rw [bne_iff_ne]; omega
              have Hr := Lib.hid (HV.out.trans (show shapeV x.v = false by simp [shapeV, nu0, st0, ix0, hso]))
              clear nu0 st0 ix0 HV
              go_wp2_with fail
              go_ret
              exact ⟨by rw [Hr.out]; rfl, HB.out⟩
          · have dst0 : ((x.v.st.length : Int) == 0) = false := by rw [beq_eq_false_iff_ne]; omega
            have nst0 : ((x.v.st.length : Int) != 0) = true := by rw [bne_iff_ne]; omega
            have Hr := Lib.hid (HV.out.trans (show shapeV x.v = false by simp [shapeV, nu0, st0, hso]))
            clear nu0 st0 HV
            go_wp2_with fail
            go_ret
            exact ⟨by rw [Hr.out]; rfl, HB.out⟩
        · have dnu0 : (x.v.nu == 0) = false := by rw [beq_eq_false_iff_ne]; omega
          have nnu0 : (x.v.nu != 0) = true := by rw [bne_iff_ne]; omega
          by_cases nu1 : x.v.nu = 1
          · have dnu1 : (x.v.nu == 1) = true := by simp [nu1]
            have nnu1 : (x.v.nu != 1) = false := by simp [nu1]
            by_cases st0 : x.v.st.length = 0
            · have dst0 : ((x.v.st.length : Int) == 0) = true := by simp [st0]
              have nst0 : ((x.v.st.length : Int) != 0) = false := by simp [st0]
              by_cases ix0 : x.v.ix.length = 0
              · have dix0 : ((x.v.ix.length : Int) == 0) = true := by simp [ix0]
                have nix0 : ((x.v.ix.length : Int) != 0) = false := by simp [ix0]
                have Hr := Lib.hid (HV.out.trans (show shapeV x.v = true by simp [shapeV, nu1, st0, ix0, hso]))
                clear nu1 st0 ix0 HV
                go_wp2_with fail
                go_ret
                exact ⟨by rw [Hr.out]; rfl, HB.out⟩
              · have dix0 : ((x.v.ix.length : Int) == 0) = false := by rw [beq_eq_false_iff_ne]; omega
                have nix0 : ((x.v.ix.length : Int) != 0) = true := by rw [bne_iff_ne]; omega
                have Hr := Lib.hid (HV.out.trans (show shapeV x.v = false by simp [shapeV, nu1, st0, ix0, hso]))
                clear nu1 st0 ix0 HV
                go_wp2_with fail
                go_ret
                exact ⟨by rw [Hr.out]; rfl, HB.out⟩
            · have dst0 : ((x.v.st.length : Int) == 0) = false := by rw [beq_eq_false_iff_ne]; omega
              have nst0 : ((x.v.st.length : Int) != 0) = true := by rw [bne_iff_ne]; omega
              have Hr := Lib.hid (HV.out.trans (show shapeV x.v = false by simp [shapeV, nu1, st0, hso]))
              clear nu1 st0 HV
              go_wp2_with fail
              go_ret
              exact ⟨by rw [Hr.out]; rfl, HB.out⟩
          · have dnu1 : (x.v.nu == 1) = false := by rw [beq_eq_false_iff_ne]; omega
            have nnu1 : (x.v.nu != 1) = true := by rw [bne_iff_ne]; omega
            have Hr := Lib.hid (HV.out.trans (show shapeV x.v = false by simp [shapeV, nu0, nu1, hso]))
            clear nu0 nu1 HV
            go_wp2_with fail
            go_ret
            exact ⟨by rw [Hr.out]; rfl, HB.out⟩
      by_cases h5 : x.v.so = 5
      · have hso := h5
        have q2 : (x.v.so == 2) = false := by rw [hso]; rfl
        have q5 : (x.v.so == 5) = true := by rw [hso]; rfl
        have q4 : (x.v.so == 4) = false := by rw [hso]; rfl
        by_cases nuge : 0 ≤ x.v.nu
        · have dge : decide (0 ≤ x.v.nu) = true := decide_eq_true nuge
          by_cases st0 : x.v.st.length = 0
          · have dst0 : ((x.v.st.length : Int) == 0) = true := by simp [st0]
            have nst0 : ((x.v.st.length : Int) != 0) = false := by simp [st0]
            have Hr := Lib.hid (HV.out.trans (show shapeV x.v = true by simp [shapeV, nuge, st0, hso]))
            clear nuge st0 HV
            go_wp2_with fail
            go_ret
            exact ⟨by rw [Hr.out]; rfl, HB.out⟩
          · have dst0 : ((x.v.st.length : Int) == 0) = false := by rw [beq_eq_false_iff_ne]; omega
            have nst0 : ((x.v.st.length : Int) != 0) = true := by rw [bne_iff_ne]; omega
            have Hr := Lib.hid (HV.out.trans (show shapeV x.v = false by simp [shapeV, nuge, st0, hso]))
            clear nuge st0 HV
            go_wp2_with fail
            go_ret
            exact ⟨by rw [Hr.out]; rfl, HB.out⟩
        · have dge : decide (0 ≤ x.v.nu) = false := decide_eq_false nuge
          have Hr := Lib.hid (HV.out.trans (show shapeV x.v = false by simp [shapeV, nuge, hso]))
          clear nuge HV
          go_wp2_with fail
          go_ret
          exact ⟨by rw [Hr.out]; rfl, HB.out⟩
      by_cases h4 : x.v.so = 4
      · have hso := h4
        have q2 : (x.v.so == 2) = false := by rw [hso]; rfl
        have q5 : (x.v.so == 5) = false := by rw [hso]; rfl
        have q4 : (x.v.so == 4) = true := by rw [hso]; rfl
        by_cases nu0 : x.v.nu = 0
        · have dnu0 : (x.v.nu == 0) = true := by simp [nu0]
          have nnu0 : (x.v.nu != 0) = false := by simp [nu0]
          by_cases ix0 : x.v.ix.length = 0
          · have dix0 : ((x.v.ix.length : Int) == 0) = true := by simp [ix0]
            have nix0 : ((x.v.ix.length : Int) != 0) = false := by simp [ix0]
            have Hr := Lib.hid (HV.out.trans (show shapeV x.v = true by simp [shapeV, nu0, ix0, hso]))
            clear nu0 ix0 HV
            go_wp2_with fail
            go_ret
            exact ⟨by rw [Hr.out]; rfl, HB.out⟩
          · have dix0 : ((x.v.ix.length : Int) == 0) = false := by rw [beq_eq_false_iff_ne]; omega
            have nix0 : ((x.v.ix.length : Int) != 0) = true := by rw [bne_iff_ne]; omega
            have Hr := Lib.hid (HV.out.trans (show shapeV x.v = false by simp [shapeV, nu0, ix0, hso]))
            clear nu0 ix0 HV
            go_wp2_with fail
            go_ret
            exact ⟨by rw [Hr.out]; rfl, HB.out⟩
        · have dnu0 : (x.v.nu == 0) = false := by rw [beq_eq_false_iff_ne]; omega
          have nnu0 : (x.v.nu != 0) = true := by rw [bne_iff_ne]; omega
          have Hr := Lib.hid (HV.out.trans (show shapeV x.v = false by simp [shapeV, nu0, hso]))
          clear nu0 HV
          go_wp2_with fail
          go_ret
          exact ⟨by rw [Hr.out]; rfl, HB.out⟩
      by_cases h1 : x.v.so = 1
      · have hso := h1
        have q2 : (x.v.so == 2) = false := by rw [hso]; rfl
        have q5 : (x.v.so == 5) = false := by rw [hso]; rfl
        have q4 : (x.v.so == 4) = false := by rw [hso]; rfl
        by_cases st0 : x.v.st.length = 0
        · have dst0 : ((x.v.st.length : Int) == 0) = true := by simp [st0]
          have nst0 : ((x.v.st.length : Int) != 0) = false := by simp [st0]
          by_cases ix0 : x.v.ix.length = 0
          · have dix0 : ((x.v.ix.length : Int) == 0) = true := by simp [ix0]
            have nix0 : ((x.v.ix.length : Int) != 0) = false := by simp [ix0]
            have Hr := Lib.hid (HV.out.trans (show shapeV x.v = true by simp [shapeV, st0, ix0, hso]))
            clear st0 ix0 HV
            go_wp2_with fail
            go_ret
            exact ⟨by rw [Hr.out]; rfl, HB.out⟩
          · have dix0 : ((x.v.ix.length : Int) == 0) = false := by rw [beq_eq_false_iff_ne]; omega
            have nix0 : ((x.v.ix.length : Int) != 0) = true := by rw [bne_iff_ne]; omega
            have Hr := Lib.hid (HV.out.trans (show shapeV x.v = false by simp [shapeV, st0, ix0, hso]))
            clear st0 ix0 HV
            go_wp2_with fail
            go_ret
            exact ⟨by rw [Hr.out]; rfl, HB.out⟩
        · have dst0 : ((x.v.st.length : Int) == 0) = false := by rw [beq_eq_false_iff_ne]; omega
          have nst0 : ((x.v.st.length : Int) != 0) = true := by rw [bne_iff_ne]; omega
          have Hr := Lib.hid (HV.out.trans (show shapeV x.v = false by simp [shapeV, st0, hso]))
          clear st0 HV
          go_wp2_with fail
          go_ret
          exact ⟨by rw [Hr.out]; rfl, HB.out⟩
      by_cases h3 : x.v.so = 3
      · have hso := h3
        have q2 : (x.v.so == 2) = false := by rw [hso]; rfl
        have q5 : (x.v.so == 5) = false := by rw [hso]; rfl
        have q4 : (x.v.so == 4) = false := by rw [hso]; rfl
        by_cases st0 : x.v.st.length = 0
        · have dst0 : ((x.v.st.length : Int) == 0) = true := by simp [st0]
          have nst0 : ((x.v.st.length : Int) != 0) = false := by simp [st0]
          by_cases ix0 : x.v.ix.length = 0
          · have dix0 : ((x.v.ix.length : Int) == 0) = true := by simp [ix0]
            have nix0 : ((x.v.ix.length : Int) != 0) = false := by simp [ix0]
            have Hr := Lib.hid (HV.out.trans (show shapeV x.v = true by simp [shapeV, st0, ix0, hso]))
            clear st0 ix0 HV
            go_wp2_with fail
            go_ret
            exact ⟨by rw [Hr.out]; rfl, HB.out⟩
          · have dix0 : ((x.v.ix.length : Int) == 0) = false := by rw [beq_eq_false_iff_ne]; omega
            have nix0 : ((x.v.ix.length : Int) != 0) = true := by rw [bne_iff_ne]; omega
            have Hr := Lib.hid (HV.out.trans (show shapeV x.v = false by simp [shapeV, st0, ix0, hso]))
            clear st0 ix0 HV
            go_wp2_with fail
            go_ret
            exact ⟨by rw [Hr.out]; rfl, HB.out⟩
        · have dst0 : ((x.v.st.length : Int) == 0) = false := by rw [beq_eq_false_iff_ne]; omega
          have nst0 : ((x.v.st.length : Int) != 0) = true := by rw [bne_iff_ne]; omega
          have Hr := Lib.hid (HV.out.trans (show shapeV x.v = false by simp [shapeV, st0, hso]))
          clear st0 HV
          go_wp2_with fail
          go_ret
          exact ⟨by rw [Hr.out]; rfl, HB.out⟩
      omega
end Go.Proofs.YtmeeombadkgneaaGreat
