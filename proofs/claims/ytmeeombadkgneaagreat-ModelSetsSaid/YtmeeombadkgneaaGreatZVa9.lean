/-
  What validEntry and ValidEntry return of an entry; conditions: the entry's lists lie in memory.
-/
import Derived.Test.YtmeeombadkgneaaGreatZVa8
import Derived.Test.YtmeeombadkgneaaGreatZRefWords
namespace Go.Proofs.YtmeeombadkgneaaGreat
open Go.RowKit Go.Shelf

attribute [local go_sem] Oper.semAt_some
noncomputable def validE (e : EA) : Bool := nameB e.nm && (decide (e.args.length ≤ 8) && (validV e.val.v && e.args.all fun x => validV x.v))
noncomputable def refValidE (e : EA) : Bool := nameB e.nm && (decide (e.args.length ≤ 8) && (refValidV e.val.v && e.args.all fun x => refValidV x.v))
theorem nameB_any (s : ByteArray) (w : World) : Calls Tryz.prog 55 #[.string s] w fun e w' => e = .returned (.bool (nameB s)) ∧ Below w.heap.size w w' := (name_any s w).mono fun e w' ⟨h1, h2⟩ => ⟨h1, by rw [h2]; exact Below.refl _ _⟩
theorem validE_eq (e : EA) : refValidE e = validE e := by
  unfold refValidE validE
  simp only [valid_eq]
set_option maxRecDepth 100000 in
set_option maxHeartbeats 4000000 in
theorem validE_any (e : EA) (w : World) (hL : LiesE w e) : Calls Tryz.prog 31 #[ev e] w fun en w' => en = .returned (.bool (validE e)) ∧ Below w.heap.size w w' := by
  obtain ⟨W, hW⟩ : ∃ W, w.alloc (boxE e 29) = W := ⟨_, rfl⟩
  have X := sevenE_new w e 29
  have HB : Below w.heap.size w W := by rw [← hW]; exact (Below.refl _ _).alloc (Nat.le_refl _) _
  rw [hW] at X
  have KX := Lib.hid (fun (W' : World) (h : Below W.heap.size W W') => X.later h)
  have HL := Lib.hid (hL.later HB)
  have HW := Lib.hid hW
  have HB := Lib.hid HB
  have hn := hL.args.len
  unfold maxLen at hn
  have HV := Lib.hid (show validE e = (nameB e.nm && (decide (e.args.length ≤ 8) && (validV e.val.v && e.args.all fun x => validV x.v))) from rfl)
  obtain ⟨x0, x1, x2, x3, x4, x5, x6⟩ := X
  simp only [Nat.zero_add] at x0 x1 x2 x3 x4 x5 x6
  clear hL hW
  by_cases hl8 : e.args.length ≤ 8
  case neg =>
    have d8 : decide (8 < (e.args.length : Int)) = true := decide_eq_true (by omega)
    go_enter Tryz.func31, Tryz.ntmps31
    go_wp2_with fail
    rw [HW.out]
    refine (nameB_any e.nm _).mono ?_
    rintro en w1 ⟨rfl, b0⟩
    have B0 := Lib.hid b0
    clear b0 x0 x1 x2 x3 x4 x5 x6
    obtain ⟨x0, x1, x2, x3, x4, x5, x6⟩ := KX.out _ B0.out
    simp only [Nat.zero_add] at x0 x1 x2 x3 x4 x5 x6
    have Hr : Hid (validE e = false) := by show _ = _; rw [HV.out, decide_eq_false hl8]; simp
    cases nameB e.nm <;>
    · clear HV hl8
      go_wp2_with fail
      go_ret
      exact ⟨by rw [Hr.out]; rfl, HB.out.trans (B0.out.mono HB.out.size)⟩
  have d8 : decide (8 < (e.args.length : Int)) = false := decide_eq_false (by omega)
  have HV := Lib.hid (show validE e = (nameB e.nm && (validV e.val.v && e.args.all fun x => validV x.v)) by rw [HV.out, decide_eq_true hl8]; simp)
  go_enter Tryz.func31, Tryz.ntmps31
  go_wp2_with fail
  rw [HW.out]
  refine (nameB_any e.nm _).mono ?_
  rintro en w0 ⟨rfl, b0⟩
  have B0 := Lib.hid b0
  clear b0 x0 x1 x2 x3 x4 x5 x6
  obtain ⟨x0, x1, x2, x3, x4, x5, x6⟩ := KX.out _ B0.out
  simp only [Nat.zero_add] at x0 x1 x2 x3 x4 x5 x6
  cases hc : nameB e.nm
  case false =>
    have Hr := Lib.hid (show validE e = false by rw [HV.out, hc]; rfl)
    clear hc HV hl8
    go_wp2_with fail
    go_ret
    exact ⟨by rw [Hr.out]; rfl, HB.out.trans (B0.out.mono HB.out.size)⟩
  have HV := Lib.hid (show validE e = (validV e.val.v && e.args.all fun x => validV x.v) by rw [HV.out, hc]; rfl)
  clear hc hl8
  go_wp2_with fail
  refine (valid_any e.val _ (HL.out.val.later B0.out)).mono ?_
  rintro en w1 ⟨rfl, b1⟩
  have B1 := Lib.hid (B0.out.trans (b1.mono B0.out.size))
  clear b1 x0 x1 x2 x3 x4 x5 x6 d8
  obtain ⟨x0, x1, x2, x3, x4, x5, x6⟩ := KX.out _ B1.out
  simp only [Nat.zero_add] at x0 x1 x2 x3 x4 x5 x6
  cases hc : validV e.val.v
  case false =>
    have Hr := Lib.hid (show validE e = false by rw [HV.out, hc]; rfl)
    clear hc HV
    go_wp2_with fail
    go_ret
    exact ⟨by rw [Hr.out]; rfl, HB.out.trans (B1.out.mono HB.out.size)⟩
  have HV := Lib.hid (show validE e = e.args.all fun x => validV x.v by rw [HV.out, hc]; rfl)
  clear hc
  have HA := Lib.hid (HL.out.args.later B1.out)
  generalize e.args = l at *
  clear HL
  go_wp2_with fail
  go_loopw [24] (fun i wr => ∃ k : Nat, k ≤ l.length ∧ i = .int .i64 k ∧ Hid (∀ j (h : j < l.length), j < k → validV l[j].v = true) ∧ Hid (Below w1.heap.size w1 wr)) (fun i _ => l.length - (intOf i).toNat)
  case atStart => exact ⟨0, Nat.zero_le _, rfl, fun j hj hjk => absurd hjk (by omega), Below.refl _ _⟩
  case round =>
    obtain ⟨k, hk, rfl, hj, hBr⟩ := hrel
    by_cases hlt : k < l.length
    · obtain ⟨b, o, ha, hc⟩ := (HA.out.later hBr.out).at_
      have ha := ha (by omega)
      obtain ⟨c0, c1, c2, c3, c4⟩ := hc k hlt
      have L1 := Lib.hid ((HA.out.each k hlt).later hBr.out)
      have hal := Lib.hid (fun O => (Below.refl wr.heap.size wr).alloc (Nat.le_refl _) O)
      have hy := Lib.hid (fun (e' : validV l[k].v = true) => (show Hid (∀ j (h : j < l.length), j < k + 1 → validV l[j].v = true) from fun j h h2 => by
        by_cases e2 : j = k
        · subst e2; exact e'
        · exact hj.out j h (by omega)))
      have hno := Lib.hid (fun (e' : validV l[k].v = false) => show validE e = false by rw [HV.out, List.all_eq_false]; exact ⟨l[k], List.getElem_mem hlt, by rw [e']; simp⟩)
      generalize l[k] = x at *
      clear hj hc HA HV x0 x1 x2 x3 x4 x5 x6
      rw [ha] at *
      cases hb : validV x.v
      case false =>
        have Hr := Lib.hid (hno.out hb)
        have Hb := Lib.hid hb
        clear hb hy hno
        go_wp2_with fail
        refine (valid_any x _ (L1.out.later (hal.out _))).mono ?_
        rintro en w2 ⟨rfl, b2⟩
        rw [Hb.out]
        have B2 := Lib.hid (hBr.out.trans (((hal.out (boxV x 27)).trans (b2.mono (hal.out (boxV x 27)).size)).mono hBr.out.size))
        clear b2 c0 c1 c2 c3 c4
        go_wp2_with fail
        go_ret
        exact ⟨by rw [Hr.out]; rfl, HB.out.trans ((B1.out.trans (B2.out.mono B1.out.size)).mono HB.out.size)⟩
      case true =>
        have Hn := hy.out hb
        have Hb := Lib.hid hb
        clear hb hy hno
        go_wp2_with fail
        refine (valid_any x _ (L1.out.later (hal.out _))).mono ?_
        rintro en w2 ⟨rfl, b2⟩
        rw [Hb.out]
        have B2 := Lib.hid (hBr.out.trans (((hal.out (boxV x 27)).trans (b2.mono (hal.out (boxV x 27)).size)).mono hBr.out.size))
        clear b2 c0 c1 c2 c3 c4
        go_wp2_with fail
        go_roundw
        case rel => exact ⟨k + 1, by omega, by go_num, Hn, B2.out⟩
        case measure => simp [intOf]; omega
    · have Hr := Lib.hid (show validE e = true by
        rw [HV.out, List.all_eq_true]
        intro y hy
        obtain ⟨i, hi, rfl⟩ := List.getElem_of_mem hy
        exact hj.out i hi (by omega))
      clear hj HA HV x0 x1 x2 x3 x4 x5 x6
      go_wp2_with fail
      go_ret
      exact ⟨by rw [Hr.out]; rfl, HB.out.trans ((B1.out.trans (hBr.out.mono B1.out.size)).mono HB.out.size)⟩

set_option maxRecDepth 100000 in
set_option maxHeartbeats 4000000 in
theorem refValidE_any (e : EA) (w : World) (hL : LiesE w e) : Calls Tryz.prog 37 #[ev e] w fun en w' => en = .returned (.bool (refValidE e)) ∧ Below w.heap.size w w' := by
  obtain ⟨W, hW⟩ : ∃ W, w.alloc (boxE e 29) = W := ⟨_, rfl⟩
  have X := sevenE_new w e 29
  have HB : Below w.heap.size w W := by rw [← hW]; exact (Below.refl _ _).alloc (Nat.le_refl _) _
  rw [hW] at X
  have KX := Lib.hid (fun (W' : World) (h : Below W.heap.size W W') => X.later h)
  have HL := Lib.hid (hL.later HB)
  have HW := Lib.hid hW
  have HB := Lib.hid HB
  have hn := hL.args.len
  unfold maxLen at hn
  have HV := Lib.hid (show refValidE e = (nameB e.nm && (decide (e.args.length ≤ 8) && (refValidV e.val.v && e.args.all fun x => refValidV x.v))) from rfl)
  obtain ⟨x0, x1, x2, x3, x4, x5, x6⟩ := X
  simp only [Nat.zero_add] at x0 x1 x2 x3 x4 x5 x6
  clear hL hW
  by_cases hl8 : e.args.length ≤ 8
  case neg =>
    have d8 : decide (8 < (e.args.length : Int)) = true := decide_eq_true (by omega)
    go_enter Tryz.func37, Tryz.ntmps37
    go_wp2_with fail
    rw [HW.out]
    refine (refName_any e.nm _).mono ?_
    rintro en w1 ⟨rfl, b0⟩
    have B0 := Lib.hid b0
    clear b0 x0 x1 x2 x3 x4 x5 x6
    obtain ⟨x0, x1, x2, x3, x4, x5, x6⟩ := KX.out _ B0.out
    simp only [Nat.zero_add] at x0 x1 x2 x3 x4 x5 x6
    have Hr : Hid (refValidE e = false) := by show _ = _; rw [HV.out, decide_eq_false hl8]; simp
    cases nameB e.nm <;>
    · clear HV hl8
      go_wp2_with fail
      go_ret
      exact ⟨by rw [Hr.out]; rfl, HB.out.trans (B0.out.mono HB.out.size)⟩
  have d8 : decide (8 < (e.args.length : Int)) = false := decide_eq_false (by omega)
  have HV := Lib.hid (show refValidE e = (nameB e.nm && (refValidV e.val.v && e.args.all fun x => refValidV x.v)) by rw [HV.out, decide_eq_true hl8]; simp)
  go_enter Tryz.func37, Tryz.ntmps37
  go_wp2_with fail
  rw [HW.out]
  refine (refName_any e.nm _).mono ?_
  rintro en w0 ⟨rfl, b0⟩
  have B0 := Lib.hid b0
  clear b0 x0 x1 x2 x3 x4 x5 x6
  obtain ⟨x0, x1, x2, x3, x4, x5, x6⟩ := KX.out _ B0.out
  simp only [Nat.zero_add] at x0 x1 x2 x3 x4 x5 x6
  cases hc : nameB e.nm
  case false =>
    have Hr := Lib.hid (show refValidE e = false by rw [HV.out, hc]; rfl)
    clear hc HV hl8
    go_wp2_with fail
    go_ret
    exact ⟨by rw [Hr.out]; rfl, HB.out.trans (B0.out.mono HB.out.size)⟩
  have HV := Lib.hid (show refValidE e = (refValidV e.val.v && e.args.all fun x => refValidV x.v) by rw [HV.out, hc]; rfl)
  clear hc hl8
  go_wp2_with fail
  refine (refValid_any e.val _ (HL.out.val.later B0.out)).mono ?_
  rintro en w1 ⟨rfl, b1⟩
  have B1 := Lib.hid (B0.out.trans (b1.mono B0.out.size))
  clear b1 x0 x1 x2 x3 x4 x5 x6 d8
  obtain ⟨x0, x1, x2, x3, x4, x5, x6⟩ := KX.out _ B1.out
  simp only [Nat.zero_add] at x0 x1 x2 x3 x4 x5 x6
  cases hc : refValidV e.val.v
  case false =>
    have Hr := Lib.hid (show refValidE e = false by rw [HV.out, hc]; rfl)
    clear hc HV
    go_wp2_with fail
    go_ret
    exact ⟨by rw [Hr.out]; rfl, HB.out.trans (B1.out.mono HB.out.size)⟩
  have HV := Lib.hid (show refValidE e = e.args.all fun x => refValidV x.v by rw [HV.out, hc]; rfl)
  clear hc
  have HA := Lib.hid (HL.out.args.later B1.out)
  generalize e.args = l at *
  clear HL
  go_wp2_with fail
  go_loopw [24] (fun i wr => ∃ k : Nat, k ≤ l.length ∧ i = .int .i64 k ∧ Hid (∀ j (h : j < l.length), j < k → refValidV l[j].v = true) ∧ Hid (Below w1.heap.size w1 wr)) (fun i _ => l.length - (intOf i).toNat)
  case atStart => exact ⟨0, Nat.zero_le _, rfl, fun j hj hjk => absurd hjk (by omega), Below.refl _ _⟩
  case round =>
    obtain ⟨k, hk, rfl, hj, hBr⟩ := hrel
    by_cases hlt : k < l.length
    · obtain ⟨b, o, ha, hc⟩ := (HA.out.later hBr.out).at_
      have ha := ha (by omega)
      obtain ⟨c0, c1, c2, c3, c4⟩ := hc k hlt
      have L1 := Lib.hid ((HA.out.each k hlt).later hBr.out)
      have hal := Lib.hid (fun O => (Below.refl wr.heap.size wr).alloc (Nat.le_refl _) O)
      have hy := Lib.hid (fun (e' : refValidV l[k].v = true) => (show Hid (∀ j (h : j < l.length), j < k + 1 → refValidV l[j].v = true) from fun j h h2 => by
        by_cases e2 : j = k
        · subst e2; exact e'
        · exact hj.out j h (by omega)))
      have hno := Lib.hid (fun (e' : refValidV l[k].v = false) => show refValidE e = false by rw [HV.out, List.all_eq_false]; exact ⟨l[k], List.getElem_mem hlt, by rw [e']; simp⟩)
      generalize l[k] = x at *
      clear hj hc HA HV x0 x1 x2 x3 x4 x5 x6
      rw [ha] at *
      cases hb : refValidV x.v
      case false =>
        have Hr := Lib.hid (hno.out hb)
        have Hb := Lib.hid hb
        clear hb hy hno
        go_wp2_with fail
        refine (refValid_any x _ (L1.out.later (hal.out _))).mono ?_
        rintro en w2 ⟨rfl, b2⟩
        rw [Hb.out]
        have B2 := Lib.hid (hBr.out.trans (((hal.out (boxV x 27)).trans (b2.mono (hal.out (boxV x 27)).size)).mono hBr.out.size))
        clear b2 c0 c1 c2 c3 c4
        go_wp2_with fail
        go_ret
        exact ⟨by rw [Hr.out]; rfl, HB.out.trans ((B1.out.trans (B2.out.mono B1.out.size)).mono HB.out.size)⟩
      case true =>
        have Hn := hy.out hb
        have Hb := Lib.hid hb
        clear hb hy hno
        go_wp2_with fail
        refine (refValid_any x _ (L1.out.later (hal.out _))).mono ?_
        rintro en w2 ⟨rfl, b2⟩
        rw [Hb.out]
        have B2 := Lib.hid (hBr.out.trans (((hal.out (boxV x 27)).trans (b2.mono (hal.out (boxV x 27)).size)).mono hBr.out.size))
        clear b2 c0 c1 c2 c3 c4
        go_wp2_with fail
        go_roundw
        case rel => exact ⟨k + 1, by omega, by go_num, Hn, B2.out⟩
        case measure => simp [intOf]; omega
    · have Hr := Lib.hid (show refValidE e = true by
        rw [HV.out, List.all_eq_true]
        intro y hy
        obtain ⟨i, hi, rfl⟩ := List.getElem_of_mem hy
        exact hj.out i hi (by omega))
      clear hj HA HV x0 x1 x2 x3 x4 x5 x6
      go_wp2_with fail
      go_ret
      exact ⟨by rw [Hr.out]; rfl, HB.out.trans ((B1.out.trans (hBr.out.mono B1.out.size)).mono HB.out.size)⟩

end Go.Proofs.YtmeeombadkgneaaGreat
