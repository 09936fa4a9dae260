/-
  What the law ModelSets returns: true; conditions: the model and the entry lie in memory.
-/
import Derived.Test.YtmeeombadkgneaaGreatZVa36
namespace Go.Proofs.YtmeeombadkgneaaGreat
open Go.Proofs Go.RowKit Go.Shelf Go.Sort Go.Lib

attribute [local go_sem] Oper.semAt_some
/-- A value without lists. -/
def plV (so nu : Int) : VA := ⟨⟨so, nu, [], [], []⟩, none, 0, none, 0, none, 0⟩
theorem lies_plV (w : World) (so nu : Int) : LiesV w (plV so nu) := ⟨ints_zero w, ints_zero w, ints_zero w, by simp [plV], by simp [plV], by simp [plV]⟩
theorem vv_plV (so nu : Int) : vv (plV so nu) = pv so nu := rfl
/-- What one round of the law's second loop finds. -/
theorem yieldV (x y : VA) : (cmpV x.v y.v == 0) = sameB x.v y.v := same_eq _ _
set_option maxRecDepth 100000 in
set_option maxHeartbeats 4000000 in
theorem setsLaw_any (l : List EA) (x : EA) (A : Option Addr) (cap : Nat) (w : World) (hL : LiesM w A l) (hx : LiesE w x) :
    Calls Tryz.prog 3 #[.slice A l.length cap, ev x] w fun e w' => e = .returned (.bool true) ∧ RowKit.Below w.heap.size w w' := by
  obtain ⟨W0, hW⟩ : ∃ W0, w.alloc (boxE x 29) = W0 := ⟨_, rfl⟩
  have hB0 : RowKit.Below w.heap.size w W0 := by rw [← hW]; exact (RowKit.Below.refl _ _).alloc (Nat.le_refl _) _
  have HS0 := Lib.hid (show SevenE W0 w.heap.size 0 x by rw [← hW]; exact sevenE_new w x 29)
  have HSZ := Lib.hid (show W0.heap.size = w.heap.size + 1 by rw [← hW]; simp)
  have HL := Lib.hid (hL.later hB0)
  have HX := Lib.hid (hx.later hB0)
  have HB0 := Lib.hid hB0
  have HW := Lib.hid hW
  clear hL hx hB0 hW
  go_enter Tryz.func3, Tryz.ntmps3
  go_upto_region 1 with fail
  rw [HW.out]
  go_wp2_with fail
  refine (awake_any _).mono ?_
  rintro e w1 ⟨rfl, b1⟩
  obtain ⟨s0, s1, s2, s3, s4, s5, s6⟩ := HS0.out.later b1
  simp only [Nat.zero_add] at s0 s1 s2 s3 s4 s5 s6
  have B1 := Lib.hid b1
  clear b1
  cases hsh : shortM l
  case false =>
    have Hsh := Lib.hid hsh
    clear hsh
    go_wp2_with fail
    refine (short_any l A cap _ (HL.out.later B1.out)).mono ?_
    rintro e w2 ⟨rfl, b2⟩
    rw [Hsh.out]
    have B2 := Lib.hid (HB0.out.trans ((B1.out.trans (b2.mono B1.out.size)).mono HB0.out.size))
    clear b2
    go_wp2_with fail
    go_ret
    exact ⟨rfl, B2.out⟩
  case true =>
  have Hsh := Lib.hid hsh
  clear hsh
  go_wp2_with fail
  refine (short_any l A cap _ (HL.out.later B1.out)).mono ?_
  rintro e w2 ⟨rfl, b2⟩
  rw [Hsh.out]
  have B2 := Lib.hid (B1.out.trans (b2.mono B1.out.size))
  clear b2 s0 s1 s2 s3 s4 s5 s6 B1
  obtain ⟨s0, s1, s2, s3, s4, s5, s6⟩ := HS0.out.later B2.out
  simp only [Nat.zero_add] at s0 s1 s2 s3 s4 s5 s6
  have hl60 : l.length ≤ 60 := by
    have := Hsh.out
    unfold shortM at this
    simp only [Bool.and_eq_true, decide_eq_true_eq] at this
    exact this.1
  cases hbr : briefE x
  case false =>
    have Hbr := Lib.hid hbr
    clear hbr
    go_wp2_with fail
    refine (brief_any x _ (HX.out.later B2.out)).mono ?_
    rintro e w3 ⟨rfl, b3⟩
    rw [Hbr.out]
    have B3 := Lib.hid (HB0.out.trans ((B2.out.trans (b3.mono B2.out.size)).mono HB0.out.size))
    clear b3
    go_wp2_with fail
    go_ret
    exact ⟨rfl, B3.out⟩
  case true =>
  have Hbr := Lib.hid hbr
  clear hbr
  go_wp2_with fail
  refine (brief_any x _ (HX.out.later B2.out)).mono ?_
  rintro e w3 ⟨rfl, b3⟩
  rw [Hbr.out]
  have B3 := Lib.hid (B2.out.trans (b3.mono B2.out.size))
  clear b3 s0 s1 s2 s3 s4 s5 s6 B2 Hbr Hsh
  obtain ⟨s0, s1, s2, s3, s4, s5, s6⟩ := HS0.out.later B3.out
  simp only [Nat.zero_add] at s0 s1 s2 s3 s4 s5 s6
  go_wp2_with fail
  refine (set9_any l x A cap _ (HL.out.later B3.out) (HX.out.later B3.out) hl60).mono ?_
  rintro e w4 ⟨hset, b4⟩
  obtain ⟨As, cs, zs, es, rfl, hzs, hez⟩ : ∃ (As : Option Addr) (cs : Nat) (zs : List EA) (es : Int), e = .returned (.tuple #[.slice As zs.length cs, .int .i64 es]) ∧ LiesM w4 As zs ∧ ((validM l && validE x) = false ∧ es = 3 ∧ zs = [] ∨ (validM l && validE x) = true ∧ es = 0 ∧ zs.map keyE = (setR l x).map keyE) := by
    rcases hset with ⟨h1, h2⟩ | ⟨h1, A', c, zs, h2, h3, h4⟩
    · exact ⟨none, 0, [], 3, h2, ⟨by simp, ⟨0, 0, fun h => absurd h (by simp), fun i h => absurd h (by simp)⟩, fun i h => absurd h (by simp)⟩, .inl ⟨h1, rfl, rfl⟩⟩
    · exact ⟨A', c, zs, 0, h2, h4, .inr ⟨h1, rfl, h3⟩⟩
  have B4 := Lib.hid (B3.out.trans (b4.mono B3.out.size))
  have HZS := Lib.hid hzs
  have HEZ := Lib.hid hez
  clear b4 hset hzs hez s0 s1 s2 s3 s4 s5 s6 B3
  obtain ⟨s0, s1, s2, s3, s4, s5, s6⟩ := HS0.out.later B4.out
  simp only [Nat.zero_add] at s0 s1 s2 s3 s4 s5 s6
  go_wp2_with fail
  refine (refSet_any l x A cap _ (HL.out.later B4.out) (HX.out.later B4.out) hl60).mono ?_
  rintro e w5 ⟨hset, b5⟩
  obtain ⟨Ar, cr, ys, rfl, hys, hkey⟩ : ∃ (Ar : Option Addr) (cr : Nat) (ys : List EA), e = .returned (.tuple #[.slice Ar ys.length cr, .int .i64 es]) ∧ LiesM w5 Ar ys ∧ zs.map keyE = ys.map keyE := by
    rcases hset with ⟨h1, h2⟩ | ⟨h1, A', c, h2, h4⟩
    · rcases HEZ.out with ⟨_, rfl, rfl⟩ | ⟨h5, _⟩
      · exact ⟨none, 0, [], h2, ⟨by simp, ⟨0, 0, fun h => absurd h (by simp), fun i h => absurd h (by simp)⟩, fun i h => absurd h (by simp)⟩, rfl⟩
      · rw [h1] at h5; cases h5
    · rcases HEZ.out with ⟨h5, _⟩ | ⟨_, rfl, h6⟩
      · rw [h1] at h5; cases h5
      · exact ⟨A', c, setR l x, h2, h4, h6⟩
  have HZS5 := Lib.hid (HZS.out.later b5)
  have B5 := Lib.hid (B4.out.trans (b5.mono B4.out.size))
  have HYS := Lib.hid hys
  have HKEY := Lib.hid hkey
  clear b5 hset hys hkey s0 s1 s2 s3 s4 s5 s6 B4 HZS HEZ
  go_wp2_with fail
  go_loopw [9] (fun i wr => ∃ c : Int, i = .int .i64 c ∧ -1 ≤ c ∧ c ≤ 8 ∧ Hid (RowKit.Below w5.heap.size w5 wr)) (fun i _ => (8 - intOf i).toNat)
  case atStart => exact ⟨-1, rfl, by omega, by omega, RowKit.Below.refl _ _⟩
  case round =>
    obtain ⟨c, rfl, hc1, hc2, hB⟩ := hrel
    by_cases hlt : c < 8
    · have hd : decide (c < 8) = true := decide_eq_true hlt
      skip
      go_wp2_with fail
      refine (default_any c _).mono ?_
      rintro e w6 ⟨rfl, b6⟩
      have G6 := Lib.hid ((RowKit.Below.refl w6.heap.size w6).alloc (Nat.le_refl _) (.cells #[.int .i64 (dfS c), .int .i64 0, .slice none 0 0, .slice none 0 0, .slice none 0 0] 27))
      have R6 := Lib.hid (heap_alloc_new w6 (.cells #[.int .i64 (dfS c), .int .i64 0, .slice none 0 0, .slice none 0 0, .slice none 0 0] 27))
      have B6 := Lib.hid (hB.out.trans (b6.mono hB.out.size))
      clear b6
      go_wp2_with fail
      refine (refDefault_any c _).mono ?_
      rintro e w7 ⟨rfl, b7⟩
      have R7 := (b7.block _ (Array.getElem?_eq_some_iff.1 R6.out).1).trans R6.out
      have B7 := Lib.hid (B6.out.trans ((G6.out.trans (b7.mono G6.out.size)).mono B6.out.size))
      have G7 := Lib.hid ((RowKit.Below.refl w7.heap.size w7).alloc (Nat.le_refl _) (.cells #[.int .i64 (dfS c), .int .i64 0, .slice none 0 0, .slice none 0 0, .slice none 0 0] 27))
      obtain ⟨z0, z1, z2, z3, z4, _, _, _, _, _⟩ := boxT_facts R7
      obtain ⟨p0, p1, p2, p3, p4, _, _, _, _, _⟩ := boxT_facts ((G7.out.block _ (Array.getElem?_eq_some_iff.1 R7).1).trans R7)
      have hS := Lib.hid (show sameB (plV (dfS c) 0).v (plV (dfS c) 0).v = true from (sameB_iff _ _).2 rfl)
      have hne : (dfE c != dfE c) = false := by simp
      clear b7 R7 R6
      generalize dfE c = g at *
      go_wp2_with fail
      refine (refSame_any (plV (dfS c) 0) (plV (dfS c) 0) _ (lies_plV _ _ _) (lies_plV _ _ _)).mono ?_
      rintro e w8 ⟨rfl, b8⟩
      rw [hS.out]
      have B8 := Lib.hid (B7.out.trans ((G7.out.trans (b8.mono G7.out.size)).mono B7.out.size))
      clear b8 z0 z1 z2 z3 z4 p0 p1 p2 p3 p4
      go_wp2_with fail
      go_roundw
      case rel => exact ⟨c + 1, by go_num, by omega, by omega, B8.out⟩
      case measure => simp [intOf]; omega
    · have hd : decide (c < 8) = false := decide_eq_false hlt
      have HB1 := Lib.hid hB.out
      generalize wr = wo at *
      skip
      go_wp2_with fail
      go_loopw [63] (fun i wr => ∃ k : Nat, k ≤ l.length ∧ i = .int .i64 k ∧ Hid (RowKit.Below w5.heap.size w5 wr)) (fun i _ => l.length - (intOf i).toNat)
      case atStart => exact ⟨0, Nat.zero_le _, rfl, HB1.out⟩
      case round =>
        obtain ⟨k, hk, rfl, hB⟩ := hrel
        have hBw := B5.out.trans (hB.out.mono B5.out.size)
        have X := HS0.out.later hBw
        by_cases hlt : k < l.length
        · obtain ⟨b, o, ha, hc⟩ := (HL.out.later hBw).at_
          have ha := ha (by omega)
          obtain ⟨c0, c1, c2, c3, c4, c5, c6⟩ := hc k hlt
          have HQ := Lib.hid (((HL.out.later hBw).each k hlt))
          have HXr := Lib.hid (HX.out.later hBw)
          generalize l[k] = q at *
          clear hc HZS5 HYS HKEY
          rw [ha] at *
          go_wp2_with fail
          clear c0 c1 c2 c3 c4 c5 c6
          obtain ⟨wq, hwq⟩ : ∃ wq, wr.alloc (boxE q 29) = wq := ⟨_, rfl⟩
          have gq : RowKit.Below wr.heap.size wr wq := by rw [← hwq]; exact (RowKit.Below.refl _ _).alloc (Nat.le_refl _) _
          have Q7 : SevenE wq wr.heap.size 0 q := by rw [← hwq]; exact sevenE_new wr q 29
          have X7 := X.later gq
          rw [hwq]
          have Gq := Lib.hid (hB.out.trans (gq.mono hB.out.size))
          have K6 := Lib.hid (fun W' (h : RowKit.Below wq.heap.size wq W') => (show (fun W' => RowKit.Below wq.heap.size wq W' ∧ W'.cell? ⟨w.heap.size, 2, none⟩ = some (.int .i64 x.val.v.so) ∧ W'.cell? ⟨w.heap.size, 3, none⟩ = some (.int .i64 x.val.v.nu) ∧ W'.cell? ⟨w.heap.size, 4, none⟩ = some (.slice x.val.a1 x.val.v.st.length x.val.c1) ∧ W'.cell? ⟨w.heap.size, 5, none⟩ = some (.slice x.val.a2 x.val.v.ix.length x.val.c2) ∧ W'.cell? ⟨w.heap.size, 6, none⟩ = some (.slice x.val.a3 x.val.v.xs.length x.val.c3) ∧ W'.cell? ⟨wr.heap.size, 2, none⟩ = some (.int .i64 q.val.v.so) ∧ W'.cell? ⟨wr.heap.size, 3, none⟩ = some (.int .i64 q.val.v.nu) ∧ W'.cell? ⟨wr.heap.size, 4, none⟩ = some (.slice q.val.a1 q.val.v.st.length q.val.c1) ∧ W'.cell? ⟨wr.heap.size, 5, none⟩ = some (.slice q.val.a2 q.val.v.ix.length q.val.c2) ∧ W'.cell? ⟨wr.heap.size, 6, none⟩ = some (.slice q.val.a3 q.val.v.xs.length q.val.c3)) W' from ⟨h, by simpa only [Nat.zero_add] using (X7.later h).c2, by simpa only [Nat.zero_add] using (X7.later h).c3, by simpa only [Nat.zero_add] using (X7.later h).c4, by simpa only [Nat.zero_add] using (X7.later h).c5, by simpa only [Nat.zero_add] using (X7.later h).c6, by simpa only [Nat.zero_add] using (Q7.later h).c2, by simpa only [Nat.zero_add] using (Q7.later h).c3, by simpa only [Nat.zero_add] using (Q7.later h).c4, by simpa only [Nat.zero_add] using (Q7.later h).c5, by simpa only [Nat.zero_add] using (Q7.later h).c6⟩))
          have K14 := Lib.hid (fun W' (h : RowKit.Below wq.heap.size wq W') => (show Calls Tryz.prog 14 #[vv x.val, vv q.val] W' fun e w' => e = .returned (.bool (sameB x.val.v q.val.v)) ∧ RowKit.Below W'.heap.size W' w' from (mSame_any x.val q.val W' ((HXr.out.later gq).val.later h) ((HQ.out.later gq).val.later h)).mono fun e w' ⟨h1, h2⟩ => ⟨by rw [h1, same_eq], h2⟩))
          have K13 := Lib.hid (fun W' (h : RowKit.Below wq.heap.size wq W') => refSame_any x.val q.val W' ((HXr.out.later gq).val.later h) ((HQ.out.later gq).val.later h))
          have hne : (sameB x.val.v q.val.v != sameB x.val.v q.val.v) = false := by simp
          generalize sameB x.val.v q.val.v = sb at *
          clear hwq gq Q7 X7 X HQ HXr
          go_region_held3 (fun W' => RowKit.Below wq.heap.size wq W' ∧ W'.cell? ⟨w.heap.size, 2, none⟩ = some (.int .i64 x.val.v.so) ∧ W'.cell? ⟨w.heap.size, 3, none⟩ = some (.int .i64 x.val.v.nu) ∧ W'.cell? ⟨w.heap.size, 4, none⟩ = some (.slice x.val.a1 x.val.v.st.length x.val.c1) ∧ W'.cell? ⟨w.heap.size, 5, none⟩ = some (.slice x.val.a2 x.val.v.ix.length x.val.c2) ∧ W'.cell? ⟨w.heap.size, 6, none⟩ = some (.slice x.val.a3 x.val.v.xs.length x.val.c3) ∧ W'.cell? ⟨wr.heap.size, 2, none⟩ = some (.int .i64 q.val.v.so) ∧ W'.cell? ⟨wr.heap.size, 3, none⟩ = some (.int .i64 q.val.v.nu) ∧ W'.cell? ⟨wr.heap.size, 4, none⟩ = some (.slice q.val.a1 q.val.v.st.length q.val.c1) ∧ W'.cell? ⟨wr.heap.size, 5, none⟩ = some (.slice q.val.a2 q.val.v.ix.length q.val.c2) ∧ W'.cell? ⟨wr.heap.size, 6, none⟩ = some (.slice q.val.a3 q.val.v.xs.length q.val.c3))
            ((go_split_ands; refine K6.out _ ?_; first | exact (RowKit.Below.refl _ _).drew | (exact below_trans2 (by assumption) (by assumption))))
            (first
              | (go_at_call 14; go_split_ands; refine (K14.out _ (by assumption)).mono ?_; rintro e w8 ⟨rfl, b8⟩)
              | (go_at_call 13; go_split_ands; refine (K13.out _ (by assumption)).mono ?_; rintro e w9 ⟨rfl, b9⟩))
          all_goals
            go_split_ands
            first
              | (have B9 := Lib.hid (Gq.out.trans ((show RowKit.Below wq.heap.size wq w9 by assumption).mono Gq.out.size))
                 go_wp2_with fail
                 go_roundw
                 case rel => exact ⟨k + 1, by omega, by go_num, B9.out⟩
                 case measure => simp [intOf]; omega)
              | (have B9 := Lib.hid (Gq.out.trans ((show RowKit.Below wq.heap.size wq w8 by assumption).mono Gq.out.size))
                 go_wp2_with fail
                 go_roundw
                 case rel => exact ⟨k + 1, by omega, by go_num, B9.out⟩
                 case measure => simp [intOf]; omega)
        · have hlr := HL.out.later hBw
          have HXr := Lib.hid (HX.out.later hBw)
          have K6 := Lib.hid (fun W' (h : RowKit.Below wr.heap.size wr W') => (show (fun W' => RowKit.Below wr.heap.size wr W' ∧ W'.cell? ⟨w.heap.size, 2, none⟩ = some (.int .i64 x.val.v.so) ∧ W'.cell? ⟨w.heap.size, 3, none⟩ = some (.int .i64 x.val.v.nu) ∧ W'.cell? ⟨w.heap.size, 4, none⟩ = some (.slice x.val.a1 x.val.v.st.length x.val.c1) ∧ W'.cell? ⟨w.heap.size, 5, none⟩ = some (.slice x.val.a2 x.val.v.ix.length x.val.c2) ∧ W'.cell? ⟨w.heap.size, 6, none⟩ = some (.slice x.val.a3 x.val.v.xs.length x.val.c3)) W' from ⟨h, by simpa only [Nat.zero_add] using (X.later h).c2, by simpa only [Nat.zero_add] using (X.later h).c3, by simpa only [Nat.zero_add] using (X.later h).c4, by simpa only [Nat.zero_add] using (X.later h).c5, by simpa only [Nat.zero_add] using (X.later h).c6⟩))
          have K15 := Lib.hid (fun W' (h : RowKit.Below wr.heap.size wr W') => validM_any l A cap W' (hlr.later h))
          have K16 := Lib.hid (fun W' (h : RowKit.Below wr.heap.size wr W') => refValidM_any l A cap W' (hlr.later h))
          have K17 := Lib.hid (fun W' (h : RowKit.Below wr.heap.size wr W') => mValid_any x.val W' (HXr.out.val.later h))
          have K18 := Lib.hid (fun W' (h : RowKit.Below wr.heap.size wr W') => (show Calls Tryz.prog 18 #[vv x.val] W' fun e w' => e = .returned (.bool (validV x.val.v)) ∧ RowKit.Below W'.heap.size W' w' from (refValid_any x.val W' (HXr.out.val.later h)).mono fun e w' ⟨h1, h2⟩ => ⟨by rw [h1, valid_eq], h2⟩))
          have K19 := Lib.hid (fun W' (h : RowKit.Below wr.heap.size wr W') => models_any zs ys As Ar cs cr W' (HZS5.out.later (hB.out.trans (h.mono hB.out.size))) (HYS.out.later (hB.out.trans (h.mono hB.out.size))) HKEY.out)
          have hBw2 := Lib.hid (HB0.out.trans (hBw.mono HB0.out.size))
          have e1 : (validM l == validM l) = true := by simp
          have e2 : (validV x.val.v == validV x.val.v) = true := by simp
          have e3 : (es == es) = true := by simp
          generalize validM l = vm at *
          generalize validV x.val.v = vx at *
          clear hlr HXr X HZS5 HYS HKEY hBw HL HX
          go_wp2_with fail
          go_region_held3 (fun W' => RowKit.Below wr.heap.size wr W' ∧ W'.cell? ⟨w.heap.size, 2, none⟩ = some (.int .i64 x.val.v.so) ∧ W'.cell? ⟨w.heap.size, 3, none⟩ = some (.int .i64 x.val.v.nu) ∧ W'.cell? ⟨w.heap.size, 4, none⟩ = some (.slice x.val.a1 x.val.v.st.length x.val.c1) ∧ W'.cell? ⟨w.heap.size, 5, none⟩ = some (.slice x.val.a2 x.val.v.ix.length x.val.c2) ∧ W'.cell? ⟨w.heap.size, 6, none⟩ = some (.slice x.val.a3 x.val.v.xs.length x.val.c3))
            ((go_split_ands; refine K6.out _ ?_; first | exact (RowKit.Below.refl _ _).drew | (exact below_trans2 (by assumption) (by assumption))))
            (first
              | (go_at_call 15; go_split_ands; refine (K15.out _ (by assumption)).mono ?_; rintro e v1 ⟨rfl, b1⟩)
              | (go_at_call 16; go_split_ands; refine (K16.out _ (by assumption)).mono ?_; rintro e v2 ⟨rfl, b2⟩)
              | (go_at_call 17; go_split_ands; refine (K17.out _ (by assumption)).mono ?_; rintro e v3 ⟨rfl, b3⟩)
              | (go_at_call 18; go_split_ands; refine (K18.out _ (by assumption)).mono ?_; rintro e v4 ⟨rfl, b4⟩)
              | (go_at_call 19; go_split_ands; refine (K19.out _ (by assumption)).mono ?_; rintro e v5 ⟨rfl, b5⟩))
          all_goals
            go_split_ands
            have hfin : RowKit.Below wr.heap.size wr v5 := by assumption
            have B9 := Lib.hid (hBw2.out.trans (hfin.mono hBw2.out.size))
            clear hfin
            go_wp2_with fail
            go_ret
            exact ⟨rfl, B9.out⟩
end Go.Proofs.YtmeeombadkgneaaGreat
