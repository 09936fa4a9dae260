/-
  The comparisons of values and entries once more: the world behind them is the world ahead with draws and new blocks; conditions: the lists lie in memory.
-/
import Derived.Shelf.SlSortCmp.WholeK
import Derived.Test.YtmeeombadkgneaaGreatZVa10
namespace Go.Proofs.YtmeeombadkgneaaGreat
open Go.RowKit Go.Shelf

attribute [local go_sem] Oper.semAt_some
/-- Draws and new blocks. -/
def Gr (w w' : World) : Prop := ∃ q os, w' = Go.Sort.grow (w.drewN q) os
theorem Gr.refl (w : World) : Gr w w := ⟨0, #[], by rw [Go.Sort.grow_empty]; rfl⟩
theorem Gr.alloc (w : World) (o : Obj) : Gr w (w.alloc o) := ⟨0, #[o], by rw [Go.Sort.alloc_eq_grow]; rfl⟩
theorem Gr.drew (w : World) : Gr w w.drew := ⟨1, #[], by rw [Go.Sort.grow_empty]; rfl⟩
theorem Gr.trans {a b c : World} (h : Gr a b) (k : Gr b c) : Gr a c := by
  obtain ⟨q, os, rfl⟩ := h
  obtain ⟨q', os', rfl⟩ := k
  exact ⟨q + q', os ++ os', by simp [Go.Sort.grow, World.drewN, Array.append_assoc, Nat.add_assoc]⟩
theorem Gr.below {w w' : World} (h : Gr w w') : Below w.heap.size w w' := by
  obtain ⟨q, os, rfl⟩ := h
  refine ⟨rfl, rfl, rfl, by simp [Go.Sort.grow, World.drewN], fun k hk => ?_⟩
  show (w.heap ++ os)[k]? = _
  rw [Array.getElem?_append_left hk]
set_option maxRecDepth 100000 in
set_option maxHeartbeats 4000000 in
theorem compareV_gr (x y : VA) (w : World) (hx : LiesV w x) (hy : LiesV w y) : Calls Tryz.prog 61 #[vv x, vv y] w fun e w' => e = .returned (.int .i64 (cmpV x.v y.v)) ∧ Gr w w' := by
  have HB : Gr w ((w.alloc (boxV x 63)).alloc (boxV y 63)) := (Gr.alloc _ _).trans (Gr.alloc _ _)
  have X : FiveV ((w.alloc (boxV x 63)).alloc (boxV y 63)) w.heap.size 0 x := (fiveV_new w x 63).later ((Below.refl _ _).alloc (Nat.le_refl _) _)
  have Y : FiveV ((w.alloc (boxV x 63)).alloc (boxV y 63)) (w.heap.size + 1) 0 y := by have := fiveV_new (w.alloc (boxV x 63)) y 63; simpa only [World.size_alloc] using this
  have hv := Lib.hid (show cmpV x.v y.v = if orV (cmpI x.v.so y.v.so) (cmpI x.v.nu y.v.nu) = 0 then (if cmpL x.v.st y.v.st = 0 then (if cmpL x.v.ix y.v.ix = 0 then cmpL x.v.xs y.v.xs else cmpL x.v.ix y.v.ix) else cmpL x.v.st y.v.st) else orV (cmpI x.v.so y.v.so) (cmpI x.v.nu y.v.nu) from rfl)
  have HX := Lib.hid hx
  have HY := Lib.hid hy
  have e0 := X.c0
  have e1 := X.c1
  have e2 := Y.c0
  have e3 := Y.c1
  clear hx hy
  simp only [Nat.zero_add] at e0 e1 e2 e3
  go_enter Tryz.func61, Tryz.ntmps61
  go_wp2_with fail
  generalize (w.alloc (boxV x 63)).alloc (boxV y 63) = W at *
  go_still_tail 10, (by kernel_rfl)
  still_call ((cmpInt_any _ _ _).mono fun _ _ h => ⟨h.1, h.2.symm⟩)
  repeat still_step
  still_call ((cmp64_any _ _ _).mono fun _ _ h => ⟨h.1, h.2.symm⟩)
  refine wpStill_nil ?_
  change wpList _ _ _ _ _ W.drew
  clear e0 e1 e2 e3
  have hd : Below W.heap.size W W.drew := ⟨rfl, rfl, rfl, Nat.le_refl _, fun _ _ => rfl⟩
  have HBd := Lib.hid (HB.trans (Gr.drew _))
  have KX := Lib.hid (fun (W' : World) (h : Below W.drew.heap.size W.drew W') => (X.later hd).later h)
  have KY := Lib.hid (fun (W' : World) (h : Below W.drew.heap.size W.drew W') => (Y.later hd).later h)
  clear hd HB X Y
  generalize W.drew = W2 at *
  go_wp2_with fail
  refine (or_any (cmpI x.v.so y.v.so) (cmpI x.v.nu y.v.nu) _ _ _ (by simp [go_sem]) (by simp [go_sem])).mono ?_
  rintro e w1 ⟨rfl, hw⟩
  have B1 : Below W2.heap.size W2 w1 := by rw [← hw]; exact (Below.refl _ _).alloc (Nat.le_refl _) _
  have G1 : Gr W2 w1 := by rw [← hw]; exact Gr.alloc _ _
  clear hw
  obtain ⟨x0, x1, x2, x3, x4⟩ := KX.out _ B1
  obtain ⟨y0, y1, y2, y3, y4⟩ := KY.out _ B1
  simp only [Nat.zero_add] at x0 x1 x2 x3 x4 y0 y1 y2 y3 y4
  have HB1 := Lib.hid (HBd.out.trans G1)
  clear B1 G1 KX KY HBd
  by_cases h0 : orV (cmpI x.v.so y.v.so) (cmpI x.v.nu y.v.nu) = 0
  case neg =>
    have h0' : (orV (cmpI x.v.so y.v.so) (cmpI x.v.nu y.v.nu) != 0) = true := by simp [h0]
    have Hr := Lib.hid (show cmpV x.v y.v = orV (cmpI x.v.so y.v.so) (cmpI x.v.nu y.v.nu) by rw [hv.out, if_neg h0])
    clear h0 hv
    go_wp2_with fail
    go_ret
    exact ⟨by rw [Hr.out]; rfl, HB1.out⟩
  have h0' : (orV (cmpI x.v.so y.v.so) (cmpI x.v.nu y.v.nu) != 0) = false := by simp [h0]
  have hv := Lib.hid (hv.out.trans (if_pos h0))
  clear h0
  go_wp2_with fail
  refine (slCmp_any x.v.st y.v.st x.a1 y.a1 x.c1 y.c1 _ (HX.out.later HB1.out.below).st (HY.out.later HB1.out.below).st HX.out.l1 HY.out.l1).mono ?_
  rintro e w2 ⟨rfl, rfl⟩
  clear h0'
  by_cases h1 : cmpL x.v.st y.v.st = 0
  case neg =>
    have h1' : (cmpL x.v.st y.v.st != 0) = true := by simp [h1]
    have Hr := Lib.hid (show cmpV x.v y.v = cmpL x.v.st y.v.st by rw [hv.out, if_neg h1])
    clear h1 hv
    go_wp2_with fail
    go_ret
    exact ⟨by rw [Hr.out]; rfl, HB1.out⟩
  have h1' : (cmpL x.v.st y.v.st != 0) = false := by simp [h1]
  have hv := Lib.hid (hv.out.trans (if_pos h1))
  clear h1
  go_wp2_with fail
  refine (slCmp_any x.v.ix y.v.ix x.a2 y.a2 x.c2 y.c2 _ (HX.out.later HB1.out.below).ix (HY.out.later HB1.out.below).ix HX.out.l2 HY.out.l2).mono ?_
  rintro e w2 ⟨rfl, rfl⟩
  clear h1'
  by_cases h2 : cmpL x.v.ix y.v.ix = 0
  case neg =>
    have h2' : (cmpL x.v.ix y.v.ix != 0) = true := by simp [h2]
    have Hr := Lib.hid (show cmpV x.v y.v = cmpL x.v.ix y.v.ix by rw [hv.out, if_neg h2])
    clear h2 hv
    go_wp2_with fail
    go_ret
    exact ⟨by rw [Hr.out]; rfl, HB1.out⟩
  have h2' : (cmpL x.v.ix y.v.ix != 0) = false := by simp [h2]
  have hv := Lib.hid (hv.out.trans (if_pos h2))
  clear h2
  go_wp2_with fail
  refine (slCmp_any x.v.xs y.v.xs x.a3 y.a3 x.c3 y.c3 _ (HX.out.later HB1.out.below).xs (HY.out.later HB1.out.below).xs HX.out.l3 HY.out.l3).mono ?_
  rintro e w2 ⟨rfl, rfl⟩
  clear h2'
  go_wp2_with fail
  go_ret
  exact ⟨by rw [hv.out]; rfl, HB1.out⟩
set_option maxRecDepth 100000 in
set_option maxHeartbeats 4000000 in
theorem cl60_gr (x y : VA) (w : World) (hx : LiesV w x) (hy : LiesV w y) : Calls Tryz.prog 60 #[vv x, vv y] w fun e w' => e = .returned (.int .i64 (cmpV x.v y.v)) ∧ Gr w w' := by
  have HB : Gr w ((w.alloc (boxV x 27)).alloc (boxV y 27)) := (Gr.alloc _ _).trans (Gr.alloc _ _)
  have X : FiveV ((w.alloc (boxV x 27)).alloc (boxV y 27)) w.heap.size 0 x := (fiveV_new w x 27).later ((Below.refl _ _).alloc (Nat.le_refl _) _)
  have Y : FiveV ((w.alloc (boxV x 27)).alloc (boxV y 27)) (w.heap.size + 1) 0 y := by have := fiveV_new (w.alloc (boxV x 27)) y 27; simpa only [World.size_alloc] using this
  obtain ⟨W, hW⟩ : ∃ W, (w.alloc (boxV x 27)).alloc (boxV y 27) = W := ⟨_, rfl⟩
  rw [hW] at HB X Y
  have HW := Lib.hid hW
  have HX := Lib.hid hx
  have HY := Lib.hid hy
  have HB := Lib.hid HB
  obtain ⟨x0, x1, x2, x3, x4⟩ := X
  obtain ⟨y0, y1, y2, y3, y4⟩ := Y
  simp only [Nat.zero_add] at x0 x1 x2 x3 x4 y0 y1 y2 y3 y4
  clear hx hy hW
  go_enter Tryz.func60, Tryz.ntmps60
  go_wp2_with fail
  rw [HW.out]
  refine (compareV_gr x y _ (HX.out.later HB.out.below) (HY.out.later HB.out.below)).mono ?_
  rintro e w1 ⟨rfl, b1⟩
  have B1 := Lib.hid (HB.out.trans b1)
  clear b1 x0 x1 x2 x3 x4 y0 y1 y2 y3 y4
  go_wp2_with fail
  go_ret
  exact ⟨rfl, B1.out⟩
set_option maxRecDepth 100000 in
set_option maxHeartbeats 4000000 in
theorem cmpArgs_gr (l m : List VA) (A B : Option Addr) (ca cb : Nat) (w : World) (hl : LiesVs w A l) (hm : LiesVs w B m) :
    Calls Tryz.prog 59 #[.slice A l.length ca, .slice B m.length cb, .func (.func 60) #[] #[]] w fun e w' => e = .returned (.int .i64 (cmpVs (vls l) (vls m))) ∧ Gr w w' := by
  have hn := hl.len
  have hn2 := hm.len
  unfold maxLen at hn hn2
  have HS := Lib.hid hl
  have HM := Lib.hid hm
  clear hl hm
  go_enter Tryz.func59, Tryz.ntmps59
  go_wp2_with fail
  go_loopw [13] (fun i wr => ∃ k : Nat, k ≤ l.length ∧ k ≤ m.length ∧ i = .int .i64 k ∧ Hid (cmpVs (vls l) (vls m) = cmpVs ((vls l).drop k) ((vls m).drop k)) ∧ Hid (Gr w wr)) (fun i _ => l.length - (intOf i).toNat)
  case atStart => exact ⟨0, Nat.zero_le _, Nat.zero_le _, rfl, rfl, Gr.refl _⟩
  case round =>
    obtain ⟨k, hk, hk2, rfl, hj, hB⟩ := hrel
    by_cases hlt : k < l.length
    · obtain ⟨b, o, ha, hc⟩ := (HS.out.later hB.out.below).at_
      obtain rfl := ha (by omega)
      obtain ⟨c0, c1, c2, c3, c4⟩ := hc k hlt
      have L1 := Lib.hid ((HS.out.each k hlt).later hB.out.below)
      by_cases hlm : k < m.length
      · obtain ⟨b2, o2, ha2, hc2⟩ := (HM.out.later hB.out.below).at_
        obtain rfl := ha2 (by omega)
        have G2 := Lib.hid (hc2 k hlm)
        have L2 := Lib.hid ((HM.out.each k hlm).later hB.out.below)
        have hge : decide ((m.length : Int) ≤ (k : Int)) = false := decide_eq_false (by omega)
        have hst := Lib.hid (show cmpVs (vls l) (vls m) = if cmpV l[k].v m[k].v = 0 then cmpVs ((vls l).drop (k + 1)) ((vls m).drop (k + 1)) else cmpV l[k].v m[k].v by
          rw [hj.out, vls_drop hlt, vls_drop hlm, cmpVs])
        generalize l[k] = x at *
        generalize m[k] = y at *
        have hBB := Lib.hid ((Gr.alloc wr (boxV x 27)).trans (Gr.alloc _ (boxV y 27)))
        obtain ⟨d0, d1, d2, d3, d4⟩ := G2.out.later ((Below.refl wr.heap.size wr).alloc (Nat.le_refl _) (boxV x 27))
        clear hj hc hc2 ha ha2 HS HM G2
        by_cases hz : cmpV x.v y.v = 0
        · have hz' : (cmpV x.v y.v != 0) = false := by simp [hz]
          have Hn : Hid (cmpVs (vls l) (vls m) = cmpVs ((vls l).drop (k + 1)) ((vls m).drop (k + 1))) := by have := hst.out; rwa [if_pos hz] at this
          clear hst hz
          go_wp2_with fail
          refine (cl60_gr x y _ (L1.out.later hBB.out.below) (L2.out.later hBB.out.below)).mono ?_
          rintro e w1 ⟨rfl, b1⟩
          have B1 := Lib.hid (hB.out.trans (hBB.out.trans b1))
          clear b1 c0 c1 c2 c3 c4 d0 d1 d2 d3 d4
          go_wp2_with fail
          go_roundw
          case rel => exact ⟨k + 1, by omega, by omega, by go_num, Hn, B1.out⟩
          case measure => simp [intOf]; omega
        · have hz' : (cmpV x.v y.v != 0) = true := by simp [hz]
          have Hr := Lib.hid (show cmpVs (vls l) (vls m) = cmpV x.v y.v by have := hst.out; rwa [if_neg hz] at this)
          clear hst hz
          go_wp2_with fail
          refine (cl60_gr x y _ (L1.out.later hBB.out.below) (L2.out.later hBB.out.below)).mono ?_
          rintro e w1 ⟨rfl, b1⟩
          have B1 := Lib.hid (hB.out.trans (hBB.out.trans b1))
          clear b1 c0 c1 c2 c3 c4 d0 d1 d2 d3 d4
          go_wp2_with fail
          go_ret
          exact ⟨by rw [Hr.out]; rfl, B1.out⟩
      · have hge : decide ((m.length : Int) ≤ (k : Int)) = true := decide_eq_true (by omega)
        have Hr := Lib.hid (show cmpVs (vls l) (vls m) = 1 by
          rw [hj.out, vls_drop hlt, List.drop_of_length_le (show (vls m).length ≤ k by rw [vls_len]; omega), cmpVs])
        generalize l[k] = x at *
        have hBB := Lib.hid (Gr.alloc wr (boxV x 27))
        clear hj hc ha HS HM
        go_wp2_with fail
        go_ret
        exact ⟨by rw [Hr.out]; rfl, hB.out.trans hBB.out⟩
    · by_cases hlm : k < m.length
      · have hlt2 : decide ((l.length : Int) < (m.length : Int)) = true := decide_eq_true (by omega)
        have Hr := Lib.hid (show cmpVs (vls l) (vls m) = -1 by
          rw [hj.out, List.drop_of_length_le (show (vls l).length ≤ k by rw [vls_len]; omega), vls_drop hlm, cmpVs])
        clear hj HS HM
        go_wp2_with fail
        go_ret
        exact ⟨by rw [Hr.out]; rfl, hB.out⟩
      · have hlt2 : decide ((l.length : Int) < (m.length : Int)) = false := decide_eq_false (by omega)
        have Hr := Lib.hid (show cmpVs (vls l) (vls m) = 0 by
          rw [hj.out, List.drop_of_length_le (show (vls l).length ≤ k by rw [vls_len]; omega), List.drop_of_length_le (show (vls m).length ≤ k by rw [vls_len]; omega), cmpVs])
        clear hj HS HM
        go_wp2_with fail
        go_ret
        exact ⟨by rw [Hr.out]; rfl, hB.out⟩
set_option maxRecDepth 100000 in
set_option maxHeartbeats 4000000 in
theorem compareE_gr (x y : EA) (w : World) (hx : LiesE w x) (hy : LiesE w y) : Calls Tryz.prog 34 #[ev x, ev y] w fun e w' => e = .returned (.int .i64 (cmpE x y)) ∧ Gr w w' := by
  have HB : Gr w ((w.alloc (boxE x 29)).alloc (boxE y 29)) := (Gr.alloc _ _).trans (Gr.alloc _ _)
  have X : SevenE ((w.alloc (boxE x 29)).alloc (boxE y 29)) w.heap.size 0 x := (sevenE_new w x 29).later ((Below.refl _ _).alloc (Nat.le_refl _) _)
  have Y : SevenE ((w.alloc (boxE x 29)).alloc (boxE y 29)) (w.heap.size + 1) 0 y := by have := sevenE_new (w.alloc (boxE x 29)) y 29; simpa only [World.size_alloc] using this
  have hv := Lib.hid (show cmpE x y = orV (orV (cmpS x.nm y.nm) (cmpI x.val.v.so y.val.v.so)) (cmpVs (vls x.args) (vls y.args)) from rfl)
  have HX := Lib.hid hx
  have HY := Lib.hid hy
  have e0 := X.c0
  have e2 := X.c2
  have g0 := Y.c0
  have g2 := Y.c2
  clear hx hy
  simp only [Nat.zero_add] at e0 e2 g0 g2
  go_enter Tryz.func34, Tryz.ntmps34
  go_wp2_with fail
  generalize (w.alloc (boxE x 29)).alloc (boxE y 29) = W at *
  go_still_tail 12, (by kernel_rfl)
  still_call ((cmpStr_any _ _ _).mono fun _ _ h => ⟨h.1, h.2.symm⟩)
  repeat still_step
  still_call ((cmpInt_any _ _ _).mono fun _ _ h => ⟨h.1, h.2.symm⟩)
  refine wpStill_nil ?_
  change wpList _ _ _ _ _ W.drew
  clear e0 e2 g0 g2
  have hd : Below W.heap.size W W.drew := ⟨rfl, rfl, rfl, Nat.le_refl _, fun _ _ => rfl⟩
  have HBd := Lib.hid (HB.trans (Gr.drew _))
  have KX := Lib.hid (fun (W' : World) (h : Below W.drew.heap.size W.drew W') => (X.later hd).later h)
  have KY := Lib.hid (fun (W' : World) (h : Below W.drew.heap.size W.drew W') => (Y.later hd).later h)
  clear hd HB X Y
  generalize W.drew = W2 at *
  go_wp2_with fail
  refine (or_any (cmpS x.nm y.nm) (cmpI x.val.v.so y.val.v.so) _ _ _ (by simp [go_sem]) (by simp [go_sem])).mono ?_
  rintro e w1 ⟨rfl, hw⟩
  have B1 : Below W2.heap.size W2 w1 := by rw [← hw]; exact (Below.refl _ _).alloc (Nat.le_refl _) _
  have G1 : Gr W2 w1 := by rw [← hw]; exact Gr.alloc _ _
  clear hw
  obtain ⟨x0, x1, x2, x3, x4, x5, x6⟩ := KX.out _ B1
  obtain ⟨y0, y1, y2, y3, y4, y5, y6⟩ := KY.out _ B1
  simp only [Nat.zero_add] at x0 x1 x2 x3 x4 x5 x6 y0 y1 y2 y3 y4 y5 y6
  have HB1 := Lib.hid (HBd.out.trans G1)
  clear B1 G1 KX KY HBd
  by_cases h0 : orV (cmpS x.nm y.nm) (cmpI x.val.v.so y.val.v.so) = 0
  case neg =>
    have h0' : (orV (cmpS x.nm y.nm) (cmpI x.val.v.so y.val.v.so) != 0) = true := by simp [h0]
    have Hr := Lib.hid (show cmpE x y = orV (cmpS x.nm y.nm) (cmpI x.val.v.so y.val.v.so) by rw [hv.out]; exact if_pos h0)
    clear h0 hv
    go_wp2_with fail
    go_ret
    exact ⟨by rw [Hr.out]; rfl, HB1.out⟩
  have h0' : (orV (cmpS x.nm y.nm) (cmpI x.val.v.so y.val.v.so) != 0) = false := by simp [h0]
  have Hr := Lib.hid (show cmpE x y = cmpVs (vls x.args) (vls y.args) by rw [hv.out]; exact if_neg (by simpa using h0))
  clear h0 hv
  go_wp2_with fail
  refine (cmpArgs_gr x.args y.args x.A y.A x.c y.c _ (HX.out.args.later HB1.out.below) (HY.out.args.later HB1.out.below)).mono ?_
  rintro e w2 ⟨rfl, b2⟩
  have B2 := Lib.hid (HB1.out.trans b2)
  clear b2 x0 x1 x2 x3 x4 x5 x6 y0 y1 y2 y3 y4 y5 y6
  go_wp2_with fail
  go_ret
  exact ⟨by rw [Hr.out]; rfl, B2.out⟩
end Go.Proofs.YtmeeombadkgneaaGreat
