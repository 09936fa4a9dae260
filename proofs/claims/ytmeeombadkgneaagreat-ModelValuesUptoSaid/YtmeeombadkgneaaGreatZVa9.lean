/-
  What validEntry and ValidEntry return of an entry; conditions: the entry's lists lie in memory.
  What compareEntries and Place return of two entries, and that the order of entries is one; conditions: the entries' lists lie in memory.
  The comparisons of values and entries once more: the world behind them is the world ahead with draws and new blocks; conditions: the lists lie in memory.
-/
import Derived.Shelf.SlSortCmp.WholeK
import Derived.Test.YtmeeombadkgneaaGreatZVa7
import Derived.Test.YtmeeombadkgneaaGreatZRefWords
import Derived.Test.YtmeeombadkgneaaGreatZOrder
namespace Go.Proofs.YtmeeombadkgneaaGreat
open Go.RowKit Go.Shelf

attribute [local go_sem] Oper.semAt_some
noncomputable def validE (e : EA) : Bool := nameB e.nm && (decide (e.args.length ≤ 8) && (validV e.val.v && e.args.all fun x => validV x.v))
noncomputable def refValidE (e : EA) : Bool := nameB e.nm && (decide (e.args.length ≤ 8) && (refValidV e.val.v && e.args.all fun x => refValidV x.v))
theorem nameB_any (s : ByteArray) (w : World) : Calls Tryz.prog 55 #[.string s] w fun e w' => e = .returned (.bool (nameB s)) ∧ Below w.heap.size w w' := (name_any s w).mono fun e w' ⟨h1, h2⟩ => ⟨h1, by rw [h2]; exact Below.refl _ _⟩
theorem validE_eq (e : EA) : refValidE e = validE e := by
  unfold refValidE validE
  simp only [valid_eq]
set_option maxRecDepth 100000 in
set_option maxHeartbeats 4000000 in
theorem validE_any (e : EA) (w : World) (hL : LiesE w e) : Calls Tryz.prog 31 #[ev e] w fun en w' => en = .returned (.bool (validE e)) ∧ Below w.heap.size w w' := by
  obtain ⟨W, hW⟩ : ∃ W, w.alloc (boxE e 29) = W := ⟨_, rfl⟩
  have X := sevenE_new w e 29
  have HB : Below w.heap.size w W := by rw [← hW]; exact (Below.refl _ _).alloc (Nat.le_refl _) _
  rw [hW] at X
  have KX := Lib.hid (fun (W' : World) (h : Below W.heap.size W W') => X.later h)
  have HL := Lib.hid (hL.later HB)
  have HW := Lib.hid hW
  have HB := Lib.hid HB
  have hn := hL.args.len
  unfold maxLen at hn
  have HV := Lib.hid (show validE e = (nameB e.nm && (decide (e.args.length ≤ 8) && (validV e.val.v && e.args.all fun x => validV x.v))) from rfl)
  obtain ⟨x0, x1, x2, x3, x4, x5, x6⟩ := X
  simp only [Nat.zero_add] at x0 x1 x2 x3 x4 x5 x6
  clear hL hW
  by_cases hl8 : e.args.length ≤ 8
  case neg =>
    have d8 : decide (8 < (e.args.length : Int)) = true := decide_eq_true (by omega)
    go_enter Tryz.func31, Tryz.ntmps31
    go_wp2_with fail
    rw [HW.out]
    refine (nameB_any e.nm _).mono ?_
    rintro en w1 ⟨rfl, b0⟩
    have B0 := Lib.hid b0
    clear b0 x0 x1 x2 x3 x4 x5 x6
    obtain ⟨x0, x1, x2, x3, x4, x5, x6⟩ := KX.out _ B0.out
    simp only [Nat.zero_add] at x0 x1 x2 x3 x4 x5 x6
    have Hr : Hid (validE e = false) := by show _ = _; rw [HV.out, decide_eq_false hl8]; simp
    cases nameB e.nm <;>
    · clear HV hl8
      go_wp2_with fail
      go_ret
      exact ⟨by rw [Hr.out]; rfl, HB.out.trans (B0.out.mono HB.out.size)⟩
  have d8 : decide (8 < (e.args.length : Int)) = false := decide_eq_false (by omega)
  have HV := Lib.hid (show validE e = (nameB e.nm && (validV e.val.v && e.args.all fun x => validV x.v)) by rw [HV.out, decide_eq_true hl8]; simp)
  go_enter Tryz.func31, Tryz.ntmps31
  go_wp2_with fail
  rw [HW.out]
  refine (nameB_any e.nm _).mono ?_
  rintro en w0 ⟨rfl, b0⟩
  have B0 := Lib.hid b0
  clear b0 x0 x1 x2 x3 x4 x5 x6
  obtain ⟨x0, x1, x2, x3, x4, x5, x6⟩ := KX.out _ B0.out
  simp only [Nat.zero_add] at x0 x1 x2 x3 x4 x5 x6
  cases hc : nameB e.nm
  case false =>
    have Hr := Lib.hid (show validE e = false by rw [HV.out, hc]; rfl)
    clear hc HV hl8
    go_wp2_with fail
    go_ret
    exact ⟨by rw [Hr.out]; rfl, HB.out.trans (B0.out.mono HB.out.size)⟩
  have HV := Lib.hid (show validE e = (validV e.val.v && e.args.all fun x => validV x.v) by rw [HV.out, hc]; rfl)
  clear hc hl8
  go_wp2_with fail
  refine (valid_any e.val _ (HL.out.val.later B0.out)).mono ?_
  rintro en w1 ⟨rfl, b1⟩
  have B1 := Lib.hid (B0.out.trans (b1.mono B0.out.size))
  clear b1 x0 x1 x2 x3 x4 x5 x6 d8
  obtain ⟨x0, x1, x2, x3, x4, x5, x6⟩ := KX.out _ B1.out
  simp only [Nat.zero_add] at x0 x1 x2 x3 x4 x5 x6
  cases hc : validV e.val.v
  case false =>
    have Hr := Lib.hid (show validE e = false by rw [HV.out, hc]; rfl)
    clear hc HV
    go_wp2_with fail
    go_ret
    exact ⟨by rw [Hr.out]; rfl, HB.out.trans (B1.out.mono HB.out.size)⟩
  have HV := Lib.hid (show validE e = e.args.all fun x => validV x.v by rw [HV.out, hc]; rfl)
  clear hc
  have HA := Lib.hid (HL.out.args.later B1.out)
  generalize e.args = l at *
  clear HL
  go_wp2_with fail
  go_loopw [24] (fun i wr => ∃ k : Nat, k ≤ l.length ∧ i = .int .i64 k ∧ Hid (∀ j (h : j < l.length), j < k → validV l[j].v = true) ∧ Hid (Below w1.heap.size w1 wr)) (fun i _ => l.length - (intOf i).toNat)
  case atStart => exact ⟨0, Nat.zero_le _, rfl, fun j hj hjk => absurd hjk (by omega), Below.refl _ _⟩
  case round =>
    obtain ⟨k, hk, rfl, hj, hBr⟩ := hrel
    by_cases hlt : k < l.length
    · obtain ⟨b, o, ha, hc⟩ := (HA.out.later hBr.out).at_
      have ha := ha (by omega)
      obtain ⟨c0, c1, c2, c3, c4⟩ := hc k hlt
      have L1 := Lib.hid ((HA.out.each k hlt).later hBr.out)
      have hal := Lib.hid (fun O => (Below.refl wr.heap.size wr).alloc (Nat.le_refl _) O)
      have hy := Lib.hid (fun (e' : validV l[k].v = true) => (show Hid (∀ j (h : j < l.length), j < k + 1 → validV l[j].v = true) from fun j h h2 => by
        by_cases e2 : j = k
        · subst e2; exact e'
        · exact hj.out j h (by omega)))
      have hno := Lib.hid (fun (e' : validV l[k].v = false) => show validE e = false by rw [HV.out, List.all_eq_false]; exact ⟨l[k], List.getElem_mem hlt, by rw [e']; simp⟩)
      generalize l[k] = x at *
      clear hj hc HA HV x0 x1 x2 x3 x4 x5 x6
      rw [ha] at *
      cases hb : validV x.v
      case false =>
        have Hr := Lib.hid (hno.out hb)
        have Hb := Lib.hid hb
        clear hb hy hno
        go_wp2_with fail
        refine (valid_any x _ (L1.out.later (hal.out _))).mono ?_
        rintro en w2 ⟨rfl, b2⟩
        rw [Hb.out]
        have B2 := Lib.hid (hBr.out.trans (((hal.out (boxV x 27)).trans (b2.mono (hal.out (boxV x 27)).size)).mono hBr.out.size))
        clear b2 c0 c1 c2 c3 c4
        go_wp2_with fail
        go_ret
        exact ⟨by rw [Hr.out]; rfl, HB.out.trans ((B1.out.trans (B2.out.mono B1.out.size)).mono HB.out.size)⟩
      case true =>
        have Hn := hy.out hb
        have Hb := Lib.hid hb
        clear hb hy hno
        go_wp2_with fail
        refine (valid_any x _ (L1.out.later (hal.out _))).mono ?_
        rintro en w2 ⟨rfl, b2⟩
        rw [Hb.out]
        have B2 := Lib.hid (hBr.out.trans (((hal.out (boxV x 27)).trans (b2.mono (hal.out (boxV x 27)).size)).mono hBr.out.size))
        clear b2 c0 c1 c2 c3 c4
        go_wp2_with fail
        go_roundw
        case rel => exact ⟨k + 1, by omega, by go_num, Hn, B2.out⟩
        case measure => simp [intOf]; omega
    · have Hr := Lib.hid (show validE e = true by
        rw [HV.out, List.all_eq_true]
        intro y hy
        obtain ⟨i, hi, rfl⟩ := List.getElem_of_mem hy
        exact hj.out i hi (by omega))
      clear hj HA HV x0 x1 x2 x3 x4 x5 x6
      go_wp2_with fail
      go_ret
      exact ⟨by rw [Hr.out]; rfl, HB.out.trans ((B1.out.trans (hBr.out.mono B1.out.size)).mono HB.out.size)⟩

set_option maxRecDepth 100000 in
set_option maxHeartbeats 4000000 in
theorem refValidE_any (e : EA) (w : World) (hL : LiesE w e) : Calls Tryz.prog 37 #[ev e] w fun en w' => en = .returned (.bool (refValidE e)) ∧ Below w.heap.size w w' := by
  obtain ⟨W, hW⟩ : ∃ W, w.alloc (boxE e 29) = W := ⟨_, rfl⟩
  have X := sevenE_new w e 29
  have HB : Below w.heap.size w W := by rw [← hW]; exact (Below.refl _ _).alloc (Nat.le_refl _) _
  rw [hW] at X
  have KX := Lib.hid (fun (W' : World) (h : Below W.heap.size W W') => X.later h)
  have HL := Lib.hid (hL.later HB)
  have HW := Lib.hid hW
  have HB := Lib.hid HB
  have hn := hL.args.len
  unfold maxLen at hn
  have HV := Lib.hid (show refValidE e = (nameB e.nm && (decide (e.args.length ≤ 8) && (refValidV e.val.v && e.args.all fun x => refValidV x.v))) from rfl)
  obtain ⟨x0, x1, x2, x3, x4, x5, x6⟩ := X
  simp only [Nat.zero_add] at x0 x1 x2 x3 x4 x5 x6
  clear hL hW
  by_cases hl8 : e.args.length ≤ 8
  case neg =>
    have d8 : decide (8 < (e.args.length : Int)) = true := decide_eq_true (by omega)
    go_enter Tryz.func37, Tryz.ntmps37
    go_wp2_with fail
    rw [HW.out]
    refine (refName_any e.nm _).mono ?_
    rintro en w1 ⟨rfl, b0⟩
    have B0 := Lib.hid b0
    clear b0 x0 x1 x2 x3 x4 x5 x6
    obtain ⟨x0, x1, x2, x3, x4, x5, x6⟩ := KX.out _ B0.out
    simp only [Nat.zero_add] at x0 x1 x2 x3 x4 x5 x6
    have Hr : Hid (refValidE e = false) := by show _ = _; rw [HV.out, decide_eq_false hl8]; simp
    cases nameB e.nm <;>
    · clear HV hl8
      go_wp2_with fail
      go_ret
      exact ⟨by rw [Hr.out]; rfl, HB.out.trans (B0.out.mono HB.out.size)⟩
  have d8 : decide (8 < (e.args.length : Int)) = false := decide_eq_false (by omega)
  have HV := Lib.hid (show refValidE e = (nameB e.nm && (refValidV e.val.v && e.args.all fun x => refValidV x.v)) by rw [HV.out, decide_eq_true hl8]; simp)
  go_enter Tryz.func37, Tryz.ntmps37
  go_wp2_with fail
  rw [HW.out]
  refine (refName_any e.nm _).mono ?_
  rintro en w0 ⟨rfl, b0⟩
  have B0 := Lib.hid b0
  clear b0 x0 x1 x2 x3 x4 x5 x6
  obtain ⟨x0, x1, x2, x3, x4, x5, x6⟩ := KX.out _ B0.out
  simp only [Nat.zero_add] at x0 x1 x2 x3 x4 x5 x6
  cases hc : nameB e.nm
  case false =>
    have Hr := Lib.hid (show refValidE e = false by rw [HV.out, hc]; rfl)
    clear hc HV hl8
    go_wp2_with fail
    go_ret
    exact ⟨by rw [Hr.out]; rfl, HB.out.trans (B0.out.mono HB.out.size)⟩
  have HV := Lib.hid (show refValidE e = (refValidV e.val.v && e.args.all fun x => refValidV x.v) by rw [HV.out, hc]; rfl)
  clear hc hl8
  go_wp2_with fail
  refine (refValid_any e.val _ (HL.out.val.later B0.out)).mono ?_
  rintro en w1 ⟨rfl, b1⟩
  have B1 := Lib.hid (B0.out.trans (b1.mono B0.out.size))
  clear b1 x0 x1 x2 x3 x4 x5 x6 d8
  obtain ⟨x0, x1, x2, x3, x4, x5, x6⟩ := KX.out _ B1.out
  simp only [Nat.zero_add] at x0 x1 x2 x3 x4 x5 x6
  cases hc : refValidV e.val.v
  case false =>
    have Hr := Lib.hid (show refValidE e = false by rw [HV.out, hc]; rfl)
    clear hc HV
    go_wp2_with fail
    go_ret
    exact ⟨by rw [Hr.out]; rfl, HB.out.trans (B1.out.mono HB.out.size)⟩
  have HV := Lib.hid (show refValidE e = e.args.all fun x => refValidV x.v by rw [HV.out, hc]; rfl)
  clear hc
  have HA := Lib.hid (HL.out.args.later B1.out)
  generalize e.args = l at *
  clear HL
  go_wp2_with fail
  go_loopw [24] (fun i wr => ∃ k : Nat, k ≤ l.length ∧ i = .int .i64 k ∧ Hid (∀ j (h : j < l.length), j < k → refValidV l[j].v = true) ∧ Hid (Below w1.heap.size w1 wr)) (fun i _ => l.length - (intOf i).toNat)
  case atStart => exact ⟨0, Nat.zero_le _, rfl, fun j hj hjk => absurd hjk (by omega), Below.refl _ _⟩
  case round =>
    obtain ⟨k, hk, rfl, hj, hBr⟩ := hrel
    by_cases hlt : k < l.length
    · obtain ⟨b, o, ha, hc⟩ := (HA.out.later hBr.out).at_
      have ha := ha (by omega)
      obtain ⟨c0, c1, c2, c3, c4⟩ := hc k hlt
      have L1 := Lib.hid ((HA.out.each k hlt).later hBr.out)
      have hal := Lib.hid (fun O => (Below.refl wr.heap.size wr).alloc (Nat.le_refl _) O)
      have hy := Lib.hid (fun (e' : refValidV l[k].v = true) => (show Hid (∀ j (h : j < l.length), j < k + 1 → refValidV l[j].v = true) from fun j h h2 => by
        by_cases e2 : j = k
        · subst e2; exact e'
        · exact hj.out j h (by omega)))
      have hno := Lib.hid (fun (e' : refValidV l[k].v = false) => show refValidE e = false by rw [HV.out, List.all_eq_false]; exact ⟨l[k], List.getElem_mem hlt, by rw [e']; simp⟩)
      generalize l[k] = x at *
      clear hj hc HA HV x0 x1 x2 x3 x4 x5 x6
      rw [ha] at *
      cases hb : refValidV x.v
      case false =>
        have Hr := Lib.hid (hno.out hb)
        have Hb := Lib.hid hb
        clear hb hy hno
        go_wp2_with fail
        refine (refValid_any x _ (L1.out.later (hal.out _))).mono ?_
        rintro en w2 ⟨rfl, b2⟩
        rw [Hb.out]
        have B2 := Lib.hid (hBr.out.trans (((hal.out (boxV x 27)).trans (b2.mono (hal.out (boxV x 27)).size)).mono hBr.out.size))
        clear b2 c0 c1 c2 c3 c4
        go_wp2_with fail
        go_ret
        exact ⟨by rw [Hr.out]; rfl, HB.out.trans ((B1.out.trans (B2.out.mono B1.out.size)).mono HB.out.size)⟩
      case true =>
        have Hn := hy.out hb
        have Hb := Lib.hid hb
        clear hb hy hno
        go_wp2_with fail
        refine (refValid_any x _ (L1.out.later (hal.out _))).mono ?_
        rintro en w2 ⟨rfl, b2⟩
        rw [Hb.out]
        have B2 := Lib.hid (hBr.out.trans (((hal.out (boxV x 27)).trans (b2.mono (hal.out (boxV x 27)).size)).mono hBr.out.size))
        clear b2 c0 c1 c2 c3 c4
        go_wp2_with fail
        go_roundw
        case rel => exact ⟨k + 1, by omega, by go_num, Hn, B2.out⟩
        case measure => simp [intOf]; omega
    · have Hr := Lib.hid (show refValidE e = true by
        rw [HV.out, List.all_eq_true]
        intro y hy
        obtain ⟨i, hi, rfl⟩ := List.getElem_of_mem hy
        exact hj.out i hi (by omega))
      clear hj HA HV x0 x1 x2 x3 x4 x5 x6
      go_wp2_with fail
      go_ret
      exact ⟨by rw [Hr.out]; rfl, HB.out.trans ((B1.out.trans (hBr.out.mono B1.out.size)).mono HB.out.size)⟩

end Go.Proofs.YtmeeombadkgneaaGreat
namespace Go.Proofs.YtmeeombadkgneaaGreat
open Go.RowKit Go.Shelf

attribute [local go_sem] Oper.semAt_some
/-- The order of two entries. -/
def cmpE (e f : EA) : Int := orV (orV (cmpS e.nm f.nm) (cmpI e.val.v.so f.val.v.so)) (cmpVs (vls e.args) (vls f.args))
set_option maxRecDepth 100000 in
set_option maxHeartbeats 4000000 in
theorem compareE_any (x y : EA) (w : World) (hx : LiesE w x) (hy : LiesE w y) : Calls Tryz.prog 34 #[ev x, ev y] w fun e w' => e = .returned (.int .i64 (cmpE x y)) ∧ Below w.heap.size w w' := by
  have HB : Below w.heap.size w ((w.alloc (boxE x 29)).alloc (boxE y 29)) := ((Below.refl _ _).alloc (Nat.le_refl _) _).alloc (by simp) _
  have X : SevenE ((w.alloc (boxE x 29)).alloc (boxE y 29)) w.heap.size 0 x := (sevenE_new w x 29).later ((Below.refl _ _).alloc (Nat.le_refl _) _)
  have Y : SevenE ((w.alloc (boxE x 29)).alloc (boxE y 29)) (w.heap.size + 1) 0 y := by have := sevenE_new (w.alloc (boxE x 29)) y 29; simpa only [World.size_alloc] using this
  have hv := Lib.hid (show cmpE x y = orV (orV (cmpS x.nm y.nm) (cmpI x.val.v.so y.val.v.so)) (cmpVs (vls x.args) (vls y.args)) from rfl)
  have HX := Lib.hid hx
  have HY := Lib.hid hy
  have e0 := X.c0
  have e2 := X.c2
  have g0 := Y.c0
  have g2 := Y.c2
  clear hx hy
  simp only [Nat.zero_add] at e0 e2 g0 g2
  go_enter Tryz.func34, Tryz.ntmps34
  go_wp2_with fail
  generalize (w.alloc (boxE x 29)).alloc (boxE y 29) = W at *
  go_still_tail 12, (by kernel_rfl)
  still_call ((cmpStr_any _ _ _).mono fun _ _ h => ⟨h.1, h.2.symm⟩)
  repeat still_step
  still_call ((cmpInt_any _ _ _).mono fun _ _ h => ⟨h.1, h.2.symm⟩)
  refine wpStill_nil ?_
  change wpList _ _ _ _ _ W.drew
  clear e0 e2 g0 g2
  have hd : Below W.heap.size W W.drew := ⟨rfl, rfl, rfl, Nat.le_refl _, fun _ _ => rfl⟩
  have HBd := Lib.hid (HB.drew)
  have KX := Lib.hid (fun (W' : World) (h : Below W.drew.heap.size W.drew W') => (X.later hd).later h)
  have KY := Lib.hid (fun (W' : World) (h : Below W.drew.heap.size W.drew W') => (Y.later hd).later h)
  clear hd HB X Y
  generalize W.drew = W2 at *
  go_wp2_with fail
  refine (or_any (cmpS x.nm y.nm) (cmpI x.val.v.so y.val.v.so) _ _ _ (by simp [go_sem]) (by simp [go_sem])).mono ?_
  rintro e w1 ⟨rfl, hw⟩
  have B1 : Below W2.heap.size W2 w1 := by rw [← hw]; exact (Below.refl _ _).alloc (Nat.le_refl _) _
  clear hw
  obtain ⟨x0, x1, x2, x3, x4, x5, x6⟩ := KX.out _ B1
  obtain ⟨y0, y1, y2, y3, y4, y5, y6⟩ := KY.out _ B1
  simp only [Nat.zero_add] at x0 x1 x2 x3 x4 x5 x6 y0 y1 y2 y3 y4 y5 y6
  have HB1 := Lib.hid (HBd.out.trans (B1.mono HBd.out.size))
  clear B1 KX KY HBd
  by_cases h0 : orV (cmpS x.nm y.nm) (cmpI x.val.v.so y.val.v.so) = 0
  case neg =>
    have h0' : (orV (cmpS x.nm y.nm) (cmpI x.val.v.so y.val.v.so) != 0) = true := by simp [h0]
    have Hr := Lib.hid (show cmpE x y = orV (cmpS x.nm y.nm) (cmpI x.val.v.so y.val.v.so) by rw [hv.out]; exact if_pos h0)
    clear h0 hv
    go_wp2_with fail
    go_ret
    exact ⟨by rw [Hr.out]; rfl, HB1.out⟩
  have h0' : (orV (cmpS x.nm y.nm) (cmpI x.val.v.so y.val.v.so) != 0) = false := by simp [h0]
  have Hr := Lib.hid (show cmpE x y = cmpVs (vls x.args) (vls y.args) by rw [hv.out]; exact if_neg (by simpa using h0))
  clear h0 hv
  go_wp2_with fail
  refine (cmpArgs_any x.args y.args x.A y.A x.c y.c _ (HX.out.args.later HB1.out) (HY.out.args.later HB1.out)).mono ?_
  rintro e w2 ⟨rfl, b2⟩
  have B2 := Lib.hid (HB1.out.trans (b2.mono HB1.out.size))
  clear b2 x0 x1 x2 x3 x4 x5 x6 y0 y1 y2 y3 y4 y5 y6
  go_wp2_with fail
  go_ret
  exact ⟨by rw [Hr.out]; rfl, B2.out⟩
/-- Are two entries of one place? -/
def placeB (e f : EA) : Bool := (e.nm.toList == f.nm.toList) && (decide (e.val.v.so = f.val.v.so) && vlsB e.args f.args)
set_option maxRecDepth 100000 in
set_option maxHeartbeats 4000000 in
theorem place_any (x y : EA) (w : World) (hx : LiesE w x) (hy : LiesE w y) : Calls Tryz.prog 38 #[ev x, ev y] w fun e w' => e = .returned (.bool (placeB x y)) ∧ Below w.heap.size w w' := by
  have HB : Below w.heap.size w ((w.alloc (boxE x 29)).alloc (boxE y 29)) := ((Below.refl _ _).alloc (Nat.le_refl _) _).alloc (by simp) _
  have X : SevenE ((w.alloc (boxE x 29)).alloc (boxE y 29)) w.heap.size 0 x := (sevenE_new w x 29).later ((Below.refl _ _).alloc (Nat.le_refl _) _)
  have Y : SevenE ((w.alloc (boxE x 29)).alloc (boxE y 29)) (w.heap.size + 1) 0 y := by have := sevenE_new (w.alloc (boxE x 29)) y 29; simpa only [World.size_alloc] using this
  have hv := Lib.hid (show placeB x y = ((x.nm.toList == y.nm.toList) && (decide (x.val.v.so = y.val.v.so) && vlsB x.args y.args)) from rfl)
  obtain ⟨W, hW⟩ : ∃ W, (w.alloc (boxE x 29)).alloc (boxE y 29) = W := ⟨_, rfl⟩
  rw [hW] at HB X Y
  have HW := Lib.hid hW
  have HX := Lib.hid (hx.later HB)
  have HY := Lib.hid (hy.later HB)
  have HB := Lib.hid HB
  obtain ⟨x0, x1, x2, x3, x4, x5, x6⟩ := X
  obtain ⟨y0, y1, y2, y3, y4, y5, y6⟩ := Y
  simp only [Nat.zero_add] at x0 x1 x2 x3 x4 x5 x6 y0 y1 y2 y3 y4 y5 y6
  clear hx hy hW
  cases h0 : x.nm.toList == y.nm.toList
  case false =>
    have Hr := Lib.hid (show placeB x y = false by rw [hv.out, h0]; rfl)
    clear hv
    go_enter Tryz.func38, Tryz.ntmps38
    go_wp2_with fail
    go_ret
    exact ⟨by rw [Hr.out]; rfl, by rw [HW.out]; exact HB.out⟩
  by_cases h1 : x.val.v.so = y.val.v.so
  case neg =>
    have d1 : (x.val.v.so == y.val.v.so) = false := by simp [h1]
    have Hr := Lib.hid (show placeB x y = false by rw [hv.out, h0, decide_eq_false h1]; rfl)
    clear hv h1
    go_enter Tryz.func38, Tryz.ntmps38
    go_wp2_with fail
    go_ret
    exact ⟨by rw [Hr.out]; rfl, by rw [HW.out]; exact HB.out⟩
  have d1 : (x.val.v.so == y.val.v.so) = true := by simp [h1]
  have Hr := Lib.hid (show placeB x y = vlsB x.args y.args by rw [hv.out, h0, decide_eq_true h1]; rfl)
  clear hv h1
  go_enter Tryz.func38, Tryz.ntmps38
  go_wp2_with fail
  rw [HW.out]
  refine (sameArgs_any x.args y.args x.A y.A x.c y.c _ HX.out.args HY.out.args).mono ?_
  rintro e w2 ⟨rfl, b2⟩
  have B2 := Lib.hid (HB.out.trans (b2.mono HB.out.size))
  clear b2 x0 x1 x2 x3 x4 x5 x6 y0 y1 y2 y3 y4 y5 y6 h0 d1
  cases hc : vlsB x.args y.args
  case false =>
    have Hr := Lib.hid (Hr.out.trans hc)
    clear hc
    go_wp2_with fail
    go_ret
    exact ⟨by rw [Hr.out]; rfl, B2.out⟩
  case true =>
    have Hr := Lib.hid (Hr.out.trans hc)
    clear hc
    go_wp2_with fail
    go_ret
    exact ⟨by rw [Hr.out]; rfl, B2.out⟩

/-- Laws of an order by -1, 0 and 1. -/
structure Laws {α : Type} (c : α → α → Int) : Prop where
  neg : ∀ a b, c b a = -c a b
  r1 : ∀ a b, R1 (c a b)
  tri : ∀ a b d, Tri (c a b) (c b d) (c a d)
theorem laws_I : Laws cmpI := ⟨cmpI_neg, cmpI_r1, cmpI_tri⟩
theorem laws_S : Laws cmpS := ⟨fun a b => by rw [cmpS_eq, cmpS_eq]; exact cmpB_neg _ _, fun a b => by rw [cmpS_eq]; exact cmpB_r1 _ _, fun a b d => by rw [cmpS_eq, cmpS_eq, cmpS_eq]; exact cmpB_tri _ _ _⟩
theorem Laws.on {α β : Type} {c : α → α → Int} (h : Laws c) (f : β → α) : Laws fun a b => c (f a) (f b) := ⟨fun _ _ => h.neg _ _, fun _ _ => h.r1 _ _, fun _ _ _ => h.tri _ _ _⟩
theorem Laws.lex {α : Type} {c d : α → α → Int} (h : Laws c) (h' : Laws d) : Laws fun a b => lexI (c a b) (d a b) :=
  ⟨fun a b => by rw [h.neg a b, h'.neg a b, lexI_neg], fun a b => lexI_r1 (h.r1 _ _) (h'.r1 _ _), fun a b e => lexI_tri (h.tri _ _ _) fun _ _ => h'.tri _ _ _⟩
/-- Lists, as the words that slices.Compare gives. -/
def cmpOf {α : Type} (c : α → α → Int) : List α → List α → Int
  | [], [] => 0
  | [], _ :: _ => -1
  | _ :: _, [] => 1
  | x :: l, y :: m => lexI (c x y) (cmpOf c l m)
theorem cmpOf_neg {α : Type} {c : α → α → Int} (h : Laws c) : ∀ l m, cmpOf c m l = -cmpOf c l m
  | [], [] => rfl
  | [], _ :: _ => rfl
  | _ :: _, [] => rfl
  | x :: l, y :: m => by rw [cmpOf, cmpOf, h.neg x y, cmpOf_neg h l m, lexI_neg]
theorem cmpOf_r1 {α : Type} {c : α → α → Int} (h : Laws c) : ∀ l m, R1 (cmpOf c l m)
  | [], [] => by unfold R1 cmpOf; omega
  | [], _ :: _ => by unfold R1 cmpOf; omega
  | _ :: _, [] => by unfold R1 cmpOf; omega
  | x :: l, y :: m => lexI_r1 (h.r1 _ _) (cmpOf_r1 h l m)
theorem cmpOf_tri {α : Type} {c : α → α → Int} (h : Laws c) : ∀ l m n, Tri (cmpOf c l m) (cmpOf c m n) (cmpOf c l n)
  | [], [], [] => by unfold Tri cmpOf; omega
  | [], [], _ :: _ => by unfold Tri cmpOf; omega
  | [], _ :: _, [] => by unfold Tri cmpOf; omega
  | [], _ :: _, _ :: _ => by intro _ _; exact ⟨by unfold cmpOf; omega, .inl (by unfold cmpOf; omega)⟩
  | _ :: _, [], [] => by unfold Tri cmpOf; omega
  | _ :: _, [], _ :: _ => by unfold Tri; intro h1; unfold cmpOf at h1; omega
  | _ :: _, _ :: _, [] => by unfold Tri; intro _ h1; unfold cmpOf at h1; omega
  | x :: l, y :: m, z :: n => lexI_tri (h.tri _ _ _) fun _ _ => cmpOf_tri h l m n
theorem laws_of {α : Type} {c : α → α → Int} (h : Laws c) : Laws (cmpOf c) := ⟨cmpOf_neg h, cmpOf_r1 h, cmpOf_tri h⟩
theorem cmpL_of : ∀ l m, cmpL l m = cmpOf cmpI l m
  | [], [] => rfl
  | [], _ :: _ => rfl
  | _ :: _, [] => rfl
  | x :: l, y :: m => by
    rw [cmpL, cmpOf, lexI, cmpL_of l m]
    by_cases h : cmpI x y = 0 <;> simp [h]
theorem cmpV_lex (v u : Vl) : cmpV v u = lexI (lexI (cmpI v.so u.so) (cmpI v.nu u.nu)) (lexI (cmpOf cmpI v.st u.st) (lexI (cmpOf cmpI v.ix u.ix) (cmpOf cmpI v.xs u.xs))) := by
  rw [← cmpL_of, ← cmpL_of, ← cmpL_of]
  show cmpV v u = lexI (orV (cmpI v.so u.so) (cmpI v.nu u.nu)) _
  unfold cmpV lexI
  by_cases h : orV (cmpI v.so u.so) (cmpI v.nu u.nu) = 0
  · simp only [h, ne_eq, not_true, if_false, if_true]
    by_cases h2 : cmpL v.st u.st = 0
    · simp only [h2, not_true, if_false, if_true]
      by_cases h3 : cmpL v.ix u.ix = 0 <;> simp [h3]
    · simp [h2]
  · simp [h]
theorem laws_V : Laws cmpV := by
  have : cmpV = fun v u => lexI (lexI (cmpI v.so u.so) (cmpI v.nu u.nu)) (lexI (cmpOf cmpI v.st u.st) (lexI (cmpOf cmpI v.ix u.ix) (cmpOf cmpI v.xs u.xs))) := by funext v u; exact cmpV_lex v u
  rw [this]
  exact ((laws_I.on Vl.so).lex (laws_I.on Vl.nu)).lex (((laws_of laws_I).on Vl.st).lex (((laws_of laws_I).on Vl.ix).lex ((laws_of laws_I).on Vl.xs)))
theorem cmpVs_of : ∀ l m, cmpVs l m = cmpOf cmpV l m
  | [], [] => rfl
  | [], _ :: _ => rfl
  | _ :: _, [] => rfl
  | x :: l, y :: m => by
    rw [cmpVs, cmpOf, lexI, cmpVs_of l m]
    by_cases h : cmpV x y = 0 <;> simp [h]
theorem laws_E : Laws cmpE := by
  have : cmpE = fun e f => lexI (lexI (cmpS e.nm f.nm) (cmpI e.val.v.so f.val.v.so)) (cmpOf cmpV (vls e.args) (vls f.args)) := by
    funext e f
    rw [← cmpVs_of]
    rfl
  rw [this]
  exact ((laws_S.on EA.nm).lex (laws_I.on fun e : EA => e.val.v.so)).lex ((laws_of laws_V).on fun e : EA => vls e.args)
theorem cmpS_zero {a b : ByteArray} : cmpS a b = 0 ↔ a.toList = b.toList := by
  rw [cmpS_eq]
  exact ⟨cmpB_zero, fun h => by rw [h]; exact cmpB_self _⟩
theorem lexI_zero {x y : Int} : lexI x y = 0 ↔ x = 0 ∧ y = 0 := by unfold lexI; split <;> omega
/-- Two entries are of one place where the order says 0. -/
theorem place_eq (e f : EA) : (cmpE e f == 0) = placeB e f := by
  have : cmpE e f = 0 ↔ placeB e f = true := by
    show lexI (lexI _ _) _ = 0 ↔ _
    rw [lexI_zero, lexI_zero, cmpS_zero, cmpI_zero, cmpVs_zero]
    unfold placeB
    rw [Bool.and_eq_true, Bool.and_eq_true, beq_iff_eq, decide_eq_true_iff, vlsB_iff]
    constructor
    · rintro ⟨⟨a, b⟩, c⟩; exact ⟨a, b, c⟩
    · rintro ⟨a, b, c⟩; exact ⟨⟨a, b⟩, c⟩
  cases h : placeB e f with
  | true => simpa using this.2 h
  | false =>
    rw [beq_eq_false_iff_ne]
    intro h2
    rw [this.1 h2] at h
    cases h
end Go.Proofs.YtmeeombadkgneaaGreat
namespace Go.Proofs.YtmeeombadkgneaaGreat
open Go.RowKit Go.Shelf

attribute [local go_sem] Oper.semAt_some
/-- Draws and new blocks. -/
def Gr (w w' : World) : Prop := ∃ q os, w' = Go.Sort.grow (w.drewN q) os
theorem Gr.refl (w : World) : Gr w w := ⟨0, #[], by rw [Go.Sort.grow_empty]; rfl⟩
theorem Gr.alloc (w : World) (o : Obj) : Gr w (w.alloc o) := ⟨0, #[o], by rw [Go.Sort.alloc_eq_grow]; rfl⟩
theorem Gr.drew (w : World) : Gr w w.drew := ⟨1, #[], by rw [Go.Sort.grow_empty]; rfl⟩
theorem Gr.trans {a b c : World} (h : Gr a b) (k : Gr b c) : Gr a c := by
  obtain ⟨q, os, rfl⟩ := h
  obtain ⟨q', os', rfl⟩ := k
  exact ⟨q + q', os ++ os', by simp [Go.Sort.grow, World.drewN, Array.append_assoc, Nat.add_assoc]⟩
theorem Gr.below {w w' : World} (h : Gr w w') : Below w.heap.size w w' := by
  obtain ⟨q, os, rfl⟩ := h
  refine ⟨rfl, rfl, rfl, by simp [Go.Sort.grow, World.drewN], fun k hk => ?_⟩
  show (w.heap ++ os)[k]? = _
  rw [Array.getElem?_append_left hk]
set_option maxRecDepth 100000 in
set_option maxHeartbeats 4000000 in
theorem compareV_gr (x y : VA) (w : World) (hx : LiesV w x) (hy : LiesV w y) : Calls Tryz.prog 61 #[vv x, vv y] w fun e w' => e = .returned (.int .i64 (cmpV x.v y.v)) ∧ Gr w w' := by
  have HB : Gr w ((w.alloc (boxV x 63)).alloc (boxV y 63)) := (Gr.alloc _ _).trans (Gr.alloc _ _)
  have X : FiveV ((w.alloc (boxV x 63)).alloc (boxV y 63)) w.heap.size 0 x := (fiveV_new w x 63).later ((Below.refl _ _).alloc (Nat.le_refl _) _)
  have Y : FiveV ((w.alloc (boxV x 63)).alloc (boxV y 63)) (w.heap.size + 1) 0 y := by have := fiveV_new (w.alloc (boxV x 63)) y 63; simpa only [World.size_alloc] using this
  have hv := Lib.hid (show cmpV x.v y.v = if orV (cmpI x.v.so y.v.so) (cmpI x.v.nu y.v.nu) = 0 then (if cmpL x.v.st y.v.st = 0 then (if cmpL x.v.ix y.v.ix = 0 then cmpL x.v.xs y.v.xs else cmpL x.v.ix y.v.ix) else cmpL x.v.st y.v.st) else orV (cmpI x.v.so y.v.so) (cmpI x.v.nu y.v.nu) from rfl)
  have HX := Lib.hid hx
  have HY := Lib.hid hy
  have e0 := X.c0
  have e1 := X.c1
  have e2 := Y.c0
  have e3 := Y.c1
  clear hx hy
  simp only [Nat.zero_add] at e0 e1 e2 e3
  go_enter Tryz.func61, Tryz.ntmps61
  go_wp2_with fail
  generalize (w.alloc (boxV x 63)).alloc (boxV y 63) = W at *
  go_still_tail 10, (by kernel_rfl)
  still_call ((cmpInt_any _ _ _).mono fun _ _ h => ⟨h.1, h.2.symm⟩)
  repeat still_step
  still_call ((cmp64_any _ _ _).mono fun _ _ h => ⟨h.1, h.2.symm⟩)
  refine wpStill_nil ?_
  change wpList _ _ _ _ _ W.drew
  clear e0 e1 e2 e3
  have hd : Below W.heap.size W W.drew := ⟨rfl, rfl, rfl, Nat.le_refl _, fun _ _ => rfl⟩
  have HBd := Lib.hid (HB.trans (Gr.drew _))
  have KX := Lib.hid (fun (W' : World) (h : Below W.drew.heap.size W.drew W') => (X.later hd).later h)
  have KY := Lib.hid (fun (W' : World) (h : Below W.drew.heap.size W.drew W') => (Y.later hd).later h)
  clear hd HB X Y
  generalize W.drew = W2 at *
  go_wp2_with fail
  refine (or_any (cmpI x.v.so y.v.so) (cmpI x.v.nu y.v.nu) _ _ _ (by simp [go_sem]) (by simp [go_sem])).mono ?_
  rintro e w1 ⟨rfl, hw⟩
  have B1 : Below W2.heap.size W2 w1 := by rw [← hw]; exact (Below.refl _ _).alloc (Nat.le_refl _) _
  have G1 : Gr W2 w1 := by rw [← hw]; exact Gr.alloc _ _
  clear hw
  obtain ⟨x0, x1, x2, x3, x4⟩ := KX.out _ B1
  obtain ⟨y0, y1, y2, y3, y4⟩ := KY.out _ B1
  simp only [Nat.zero_add] at x0 x1 x2 x3 x4 y0 y1 y2 y3 y4
  have HB1 := Lib.hid (HBd.out.trans G1)
  clear B1 G1 KX KY HBd
  by_cases h0 : orV (cmpI x.v.so y.v.so) (cmpI x.v.nu y.v.nu) = 0
  case neg =>
    have h0' : (orV (cmpI x.v.so y.v.so) (cmpI x.v.nu y.v.nu) != 0) = true := by simp [h0]
    have Hr := Lib.hid (show cmpV x.v y.v = orV (cmpI x.v.so y.v.so) (cmpI x.v.nu y.v.nu) by rw [hv.out, if_neg h0])
    clear h0 hv
    go_wp2_with fail
    go_ret
    exact ⟨by rw [Hr.out]; rfl, HB1.out⟩
  have h0' : (orV (cmpI x.v.so y.v.so) (cmpI x.v.nu y.v.nu) != 0) = false := by simp [h0]
  have hv := Lib.hid (hv.out.trans (if_pos h0))
  clear h0
  go_wp2_with fail
  refine (slCmp_any x.v.st y.v.st x.a1 y.a1 x.c1 y.c1 _ (HX.out.later HB1.out.below).st (HY.out.later HB1.out.below).st HX.out.l1 HY.out.l1).mono ?_
  rintro e w2 ⟨rfl, rfl⟩
  clear h0'
  by_cases h1 : cmpL x.v.st y.v.st = 0
  case neg =>
    have h1' : (cmpL x.v.st y.v.st != 0) = true := by simp [h1]
    have Hr := Lib.hid (show cmpV x.v y.v = cmpL x.v.st y.v.st by rw [hv.out, if_neg h1])
    clear h1 hv
    go_wp2_with fail
    go_ret
    exact ⟨by rw [Hr.out]; rfl, HB1.out⟩
  have h1' : (cmpL x.v.st y.v.st != 0) = false := by simp [h1]
  have hv := Lib.hid (hv.out.trans (if_pos h1))
  clear h1
  go_wp2_with fail
  refine (slCmp_any x.v.ix y.v.ix x.a2 y.a2 x.c2 y.c2 _ (HX.out.later HB1.out.below).ix (HY.out.later HB1.out.below).ix HX.out.l2 HY.out.l2).mono ?_
  rintro e w2 ⟨rfl, rfl⟩
  clear h1'
  by_cases h2 : cmpL x.v.ix y.v.ix = 0
  case neg =>
    have h2' : (cmpL x.v.ix y.v.ix != 0) = true := by simp [h2]
    have Hr := Lib.hid (show cmpV x.v y.v = cmpL x.v.ix y.v.ix by rw [hv.out, if_neg h2])
    clear h2 hv
    go_wp2_with fail
    go_ret
    exact ⟨by rw [Hr.out]; rfl, HB1.out⟩
  have h2' : (cmpL x.v.ix y.v.ix != 0) = false := by simp [h2]
  have hv := Lib.hid (hv.out.trans (if_pos h2))
  clear h2
  go_wp2_with fail
  refine (slCmp_any x.v.xs y.v.xs x.a3 y.a3 x.c3 y.c3 _ (HX.out.later HB1.out.below).xs (HY.out.later HB1.out.below).xs HX.out.l3 HY.out.l3).mono ?_
  rintro e w2 ⟨rfl, rfl⟩
  clear h2'
  go_wp2_with fail
  go_ret
  exact ⟨by rw [hv.out]; rfl, HB1.out⟩
set_option maxRecDepth 100000 in
set_option maxHeartbeats 4000000 in
theorem cl60_gr (x y : VA) (w : World) (hx : LiesV w x) (hy : LiesV w y) : Calls Tryz.prog 60 #[vv x, vv y] w fun e w' => e = .returned (.int .i64 (cmpV x.v y.v)) ∧ Gr w w' := by
  have HB : Gr w ((w.alloc (boxV x 27)).alloc (boxV y 27)) := (Gr.alloc _ _).trans (Gr.alloc _ _)
  have X : FiveV ((w.alloc (boxV x 27)).alloc (boxV y 27)) w.heap.size 0 x := (fiveV_new w x 27).later ((Below.refl _ _).alloc (Nat.le_refl _) _)
  have Y : FiveV ((w.alloc (boxV x 27)).alloc (boxV y 27)) (w.heap.size + 1) 0 y := by have := fiveV_new (w.alloc (boxV x 27)) y 27; simpa only [World.size_alloc] using this
  obtain ⟨W, hW⟩ : ∃ W, (w.alloc (boxV x 27)).alloc (boxV y 27) = W := ⟨_, rfl⟩
  rw [hW] at HB X Y
  have HW := Lib.hid hW
  have HX := Lib.hid hx
  have HY := Lib.hid hy
  have HB := Lib.hid HB
  obtain ⟨x0, x1, x2, x3, x4⟩ := X
  obtain ⟨y0, y1, y2, y3, y4⟩ := Y
  simp only [Nat.zero_add] at x0 x1 x2 x3 x4 y0 y1 y2 y3 y4
  clear hx hy hW
  go_enter Tryz.func60, Tryz.ntmps60
  go_wp2_with fail
  rw [HW.out]
  refine (compareV_gr x y _ (HX.out.later HB.out.below) (HY.out.later HB.out.below)).mono ?_
  rintro e w1 ⟨rfl, b1⟩
  have B1 := Lib.hid (HB.out.trans b1)
  clear b1 x0 x1 x2 x3 x4 y0 y1 y2 y3 y4
  go_wp2_with fail
  go_ret
  exact ⟨rfl, B1.out⟩
set_option maxRecDepth 100000 in
set_option maxHeartbeats 4000000 in
theorem cmpArgs_gr (l m : List VA) (A B : Option Addr) (ca cb : Nat) (w : World) (hl : LiesVs w A l) (hm : LiesVs w B m) :
    Calls Tryz.prog 59 #[.slice A l.length ca, .slice B m.length cb, .func (.func 60) #[] #[]] w fun e w' => e = .returned (.int .i64 (cmpVs (vls l) (vls m))) ∧ Gr w w' := by
  have hn := hl.len
  have hn2 := hm.len
  unfold maxLen at hn hn2
  have HS := Lib.hid hl
  have HM := Lib.hid hm
  clear hl hm
  go_enter Tryz.func59, Tryz.ntmps59
  go_wp2_with fail
  go_loopw [13] (fun i wr => ∃ k : Nat, k ≤ l.length ∧ k ≤ m.length ∧ i = .int .i64 k ∧ Hid (cmpVs (vls l) (vls m) = cmpVs ((vls l).drop k) ((vls m).drop k)) ∧ Hid (Gr w wr)) (fun i _ => l.length - (intOf i).toNat)
  case atStart => exact ⟨0, Nat.zero_le _, Nat.zero_le _, rfl, rfl, Gr.refl _⟩
  case round =>
    obtain ⟨k, hk, hk2, rfl, hj, hB⟩ := hrel
    by_cases hlt : k < l.length
    · obtain ⟨b, o, ha, hc⟩ := (HS.out.later hB.out.below).at_
      obtain rfl := ha (by omega)
      obtain ⟨c0, c1, c2, c3, c4⟩ := hc k hlt
      have L1 := Lib.hid ((HS.out.each k hlt).later hB.out.below)
      by_cases hlm : k < m.length
      · obtain ⟨b2, o2, ha2, hc2⟩ := (HM.out.later hB.out.below).at_
        obtain rfl := ha2 (by omega)
        have G2 := Lib.hid (hc2 k hlm)
        have L2 := Lib.hid ((HM.out.each k hlm).later hB.out.below)
        have hge : decide ((m.length : Int) ≤ (k : Int)) = false := decide_eq_false (by omega)
        have hst := Lib.hid (show cmpVs (vls l) (vls m) = if cmpV l[k].v m[k].v = 0 then cmpVs ((vls l).drop (k + 1)) ((vls m).drop (k + 1)) else cmpV l[k].v m[k].v by
          rw [hj.out, vls_drop hlt, vls_drop hlm, cmpVs])
        generalize l[k] = x at *
        generalize m[k] = y at *
        have hBB := Lib.hid ((Gr.alloc wr (boxV x 27)).trans (Gr.alloc _ (boxV y 27)))
        obtain ⟨d0, d1, d2, d3, d4⟩ := G2.out.later ((Below.refl wr.heap.size wr).alloc (Nat.le_refl _) (boxV x 27))
        clear hj hc hc2 ha ha2 HS HM G2
        by_cases hz : cmpV x.v y.v = 0
        · have hz' : (cmpV x.v y.v != 0) = false := by simp [hz]
          have Hn : Hid (cmpVs (vls l) (vls m) = cmpVs ((vls l).drop (k + 1)) ((vls m).drop (k + 1))) := by have := hst.out; rwa [if_pos hz] at this
          clear hst hz
          go_wp2_with fail
          refine (cl60_gr x y _ (L1.out.later hBB.out.below) (L2.out.later hBB.out.below)).mono ?_
          rintro e w1 ⟨rfl, b1⟩
          have B1 := Lib.hid (hB.out.trans (hBB.out.trans b1))
          clear b1 c0 c1 c2 c3 c4 d0 d1 d2 d3 d4
          go_wp2_with fail
          go_roundw
          case rel => exact ⟨k + 1, by omega, by omega, by go_num, Hn, B1.out⟩
          case measure => simp [intOf]; omega
        · have hz' : (cmpV x.v y.v != 0) = true := by simp [hz]
          have Hr := Lib.hid (show cmpVs (vls l) (vls m) = cmpV x.v y.v by have := hst.out; rwa [if_neg hz] at this)
          clear hst hz
          go_wp2_with fail
          refine (cl60_gr x y _ (L1.out.later hBB.out.below) (L2.out.later hBB.out.below)).mono ?_
          rintro e w1 ⟨rfl, b1⟩
          have B1 := Lib.hid (hB.out.trans (hBB.out.trans b1))
          clear b1 c0 c1 c2 c3 c4 d0 d1 d2 d3 d4
          go_wp2_with fail
          go_ret
          exact ⟨by rw [Hr.out]; rfl, B1.out⟩
      · have hge : decide ((m.length : Int) ≤ (k : Int)) = true := decide_eq_true (by omega)
        have Hr := Lib.hid (show cmpVs (vls l) (vls m) = 1 by
          rw [hj.out, vls_drop hlt, List.drop_of_length_le (show (vls m).length ≤ k by rw [vls_len]; omega), cmpVs])
        generalize l[k] = x at *
        have hBB := Lib.hid (Gr.alloc wr (boxV x 27))
        clear hj hc ha HS HM
        go_wp2_with fail
        go_ret
        exact ⟨by rw [Hr.out]; rfl, hB.out.trans hBB.out⟩
    · by_cases hlm : k < m.length
      · have hlt2 : decide ((l.length : Int) < (m.length : Int)) = true := decide_eq_true (by omega)
        have Hr := Lib.hid (show cmpVs (vls l) (vls m) = -1 by
          rw [hj.out, List.drop_of_length_le (show (vls l).length ≤ k by rw [vls_len]; omega), vls_drop hlm, cmpVs])
        clear hj HS HM
        go_wp2_with fail
        go_ret
        exact ⟨by rw [Hr.out]; rfl, hB.out⟩
      · have hlt2 : decide ((l.length : Int) < (m.length : Int)) = false := decide_eq_false (by omega)
        have Hr := Lib.hid (show cmpVs (vls l) (vls m) = 0 by
          rw [hj.out, List.drop_of_length_le (show (vls l).length ≤ k by rw [vls_len]; omega), List.drop_of_length_le (show (vls m).length ≤ k by rw [vls_len]; omega), cmpVs])
        clear hj HS HM
        go_wp2_with fail
        go_ret
        exact ⟨by rw [Hr.out]; rfl, hB.out⟩
set_option maxRecDepth 100000 in
set_option maxHeartbeats 4000000 in
theorem compareE_gr (x y : EA) (w : World) (hx : LiesE w x) (hy : LiesE w y) : Calls Tryz.prog 34 #[ev x, ev y] w fun e w' => e = .returned (.int .i64 (cmpE x y)) ∧ Gr w w' := by
  have HB : Gr w ((w.alloc (boxE x 29)).alloc (boxE y 29)) := (Gr.alloc _ _).trans (Gr.alloc _ _)
  have X : SevenE ((w.alloc (boxE x 29)).alloc (boxE y 29)) w.heap.size 0 x := (sevenE_new w x 29).later ((Below.refl _ _).alloc (Nat.le_refl _) _)
  have Y : SevenE ((w.alloc (boxE x 29)).alloc (boxE y 29)) (w.heap.size + 1) 0 y := by have := sevenE_new (w.alloc (boxE x 29)) y 29; simpa only [World.size_alloc] using this
  have hv := Lib.hid (show cmpE x y = orV (orV (cmpS x.nm y.nm) (cmpI x.val.v.so y.val.v.so)) (cmpVs (vls x.args) (vls y.args)) from rfl)
  have HX := Lib.hid hx
  have HY := Lib.hid hy
  have e0 := X.c0
  have e2 := X.c2
  have g0 := Y.c0
  have g2 := Y.c2
  clear hx hy
  simp only [Nat.zero_add] at e0 e2 g0 g2
  go_enter Tryz.func34, Tryz.ntmps34
  go_wp2_with fail
  generalize (w.alloc (boxE x 29)).alloc (boxE y 29) = W at *
  go_still_tail 12, (by kernel_rfl)
  still_call ((cmpStr_any _ _ _).mono fun _ _ h => ⟨h.1, h.2.symm⟩)
  repeat still_step
  still_call ((cmpInt_any _ _ _).mono fun _ _ h => ⟨h.1, h.2.symm⟩)
  refine wpStill_nil ?_
  change wpList _ _ _ _ _ W.drew
  clear e0 e2 g0 g2
  have hd : Below W.heap.size W W.drew := ⟨rfl, rfl, rfl, Nat.le_refl _, fun _ _ => rfl⟩
  have HBd := Lib.hid (HB.trans (Gr.drew _))
  have KX := Lib.hid (fun (W' : World) (h : Below W.drew.heap.size W.drew W') => (X.later hd).later h)
  have KY := Lib.hid (fun (W' : World) (h : Below W.drew.heap.size W.drew W') => (Y.later hd).later h)
  clear hd HB X Y
  generalize W.drew = W2 at *
  go_wp2_with fail
  refine (or_any (cmpS x.nm y.nm) (cmpI x.val.v.so y.val.v.so) _ _ _ (by simp [go_sem]) (by simp [go_sem])).mono ?_
  rintro e w1 ⟨rfl, hw⟩
  have B1 : Below W2.heap.size W2 w1 := by rw [← hw]; exact (Below.refl _ _).alloc (Nat.le_refl _) _
  have G1 : Gr W2 w1 := by rw [← hw]; exact Gr.alloc _ _
  clear hw
  obtain ⟨x0, x1, x2, x3, x4, x5, x6⟩ := KX.out _ B1
  obtain ⟨y0, y1, y2, y3, y4, y5, y6⟩ := KY.out _ B1
  simp only [Nat.zero_add] at x0 x1 x2 x3 x4 x5 x6 y0 y1 y2 y3 y4 y5 y6
  have HB1 := Lib.hid (HBd.out.trans G1)
  clear B1 G1 KX KY HBd
  by_cases h0 : orV (cmpS x.nm y.nm) (cmpI x.val.v.so y.val.v.so) = 0
  case neg =>
    have h0' : (orV (cmpS x.nm y.nm) (cmpI x.val.v.so y.val.v.so) != 0) = true := by simp [h0]
    have Hr := Lib.hid (show cmpE x y = orV (cmpS x.nm y.nm) (cmpI x.val.v.so y.val.v.so) by rw [hv.out]; exact if_pos h0)
    clear h0 hv
    go_wp2_with fail
    go_ret
    exact ⟨by rw [Hr.out]; rfl, HB1.out⟩
  have h0' : (orV (cmpS x.nm y.nm) (cmpI x.val.v.so y.val.v.so) != 0) = false := by simp [h0]
  have Hr := Lib.hid (show cmpE x y = cmpVs (vls x.args) (vls y.args) by rw [hv.out]; exact if_neg (by simpa using h0))
  clear h0 hv
  go_wp2_with fail
  refine (cmpArgs_gr x.args y.args x.A y.A x.c y.c _ (HX.out.args.later HB1.out.below) (HY.out.args.later HB1.out.below)).mono ?_
  rintro e w2 ⟨rfl, b2⟩
  have B2 := Lib.hid (HB1.out.trans b2)
  clear b2 x0 x1 x2 x3 x4 x5 x6 y0 y1 y2 y3 y4 y5 y6
  go_wp2_with fail
  go_ret
  exact ⟨by rw [Hr.out]; rfl, B2.out⟩
end Go.Proofs.YtmeeombadkgneaaGreat
