/-
  What the law LogicOrders returns: true; conditions: the three trees lie in memory.
-/
import Derived.Test.YtpjokapkoeclpaaAwake
import Derived.Test.YtpjokapkoeclpaaOrder
namespace Go.Proofs.Ytpjokapkoeclpaa
open Go.RowKit Go.Shelf

theorem lies_one {W : World} {b : Nat} {t : Nd} {A : Option Addr} {cap c : Nat} (h5 : Five W b 0 t (.slice A t.ks.length cap)) (hL : Lies W A cap t.ks) (hf : Fine t) : Lies W (some ⟨b, 0, none⟩) c [t] :=
  .mk _ _ _ (by unfold maxLen; simp) b 0 (fun _ => A) (fun _ => cap) (fun _ => rfl)
    (fun i hi => by obtain rfl : i = 0 := by simp at hi; omega
                    simpa using h5)
    (fun i hi => by obtain rfl : i = 0 := by simp at hi; omega
                    simpa using hL)
    (fun i hi => by obtain rfl : i = 0 := by simp at hi; omega
                    simpa using hf)

/-- What the law says of the order of three nodes, as its last line has it. -/
theorem order_last (t u v : Nd) : ¬ (cmpN t u ≤ 0 ∧ cmpN u v ≤ 0) ∨ (cmpN t v ≤ 0 ∧ (cmpN t v < 0 ∨ cmpN t u = 0 ∧ cmpN u v = 0)) := by
  by_cases h : cmpN t u ≤ 0 ∧ cmpN u v ≤ 0
  · exact .inr ((cmp_all t).2.2.2 u v h.1 h.2)
  · exact .inl h

set_option maxRecDepth 100000 in
set_option maxHeartbeats 4000000 in
theorem orders_law (t u v : Nd) (A B C : Option Addr) (ca cb cc : Nat) (w : World) (hA : Lies w A ca t.ks) (hB : Lies w B cb u.ks) (hC : Lies w C cc v.ks) (fa : Fine t) (fb : Fine u) (fc : Fine v) :
    Calls Try.prog 5 #[nv t.op t.so t.nm t.nu (.slice A t.ks.length ca), nv u.op u.so u.nm u.nu (.slice B u.ks.length cb), nv v.op v.so v.nm v.nu (.slice C v.ks.length cc)] w fun e w' => e = .returned (.bool true) ∧ Below w.heap.size w w' := by
  obtain ⟨W, hW⟩ : ∃ W, ((w.alloc (boxO t (.slice A t.ks.length ca))).alloc (boxO u (.slice B u.ks.length cb))).alloc (boxO v (.slice C v.ks.length cc)) = W := ⟨_, rfl⟩
  have hBW : Below w.heap.size w W := by
    rw [← hW]
    exact (((Below.refl _ w).alloc (Nat.le_refl _) _).alloc (by simp) _).alloc (by simp; omega) _
  have x1 : Five W w.heap.size 0 t (.slice A t.ks.length ca) := by
    rw [← hW]
    exact ((five_new w t _ 24).later ((Below.refl _ _).alloc (Nat.le_refl _) _)).later ((Below.refl _ _).alloc (Nat.le_refl _) _)
  have x2 : Five W (w.heap.size + 1) 0 u (.slice B u.ks.length cb) := by
    rw [← hW]
    have := (five_new (w.alloc (boxO t (.slice A t.ks.length ca))) u (.slice B u.ks.length cb) 24).later ((Below.refl _ _).alloc (Nat.le_refl _) (boxO v (.slice C v.ks.length cc)))
    simpa only [World.size_alloc] using this
  have x3 : Five W (w.heap.size + 1 + 1) 0 v (.slice C v.ks.length cc) := by
    rw [← hW]
    have := five_new ((w.alloc (boxO t (.slice A t.ks.length ca))).alloc (boxO u (.slice B u.ks.length cb))) v (.slice C v.ks.length cc) 24
    simpa only [World.size_alloc] using this
  have X1 := Lib.hid x1
  have X2 := Lib.hid x2
  have X3 := Lib.hid x3
  have LA := Lib.hid (hA.later hBW)
  have LB := Lib.hid (hB.later hBW)
  have LC := Lib.hid (hC.later hBW)
  have HBW := Lib.hid hBW
  have HW := Lib.hid hW
  clear x1 x2 x3 hA hB hC hBW hW
  go_enter Try.func5, Try.ntmps5
  go_wp2_with fail
  rw [HW.out]
  refine (awake_any _).mono ?_
  rintro e w1 ⟨rfl, b1⟩
  have B1 := Lib.hid b1
  obtain ⟨a0, a1, a2, a3, a4⟩ := X1.out.later b1
  clear b1
  go_wp2_with fail
  have hs := small_any 2000 [t] (some ⟨w1.heap.size, 0, none⟩) 1 _ (lies_one (c := 1) (five_new w1 t (.slice A t.ks.length ca) 24) (LA.out.later (B1.out.trans (((Below.refl _ _).alloc (Nat.le_refl _) _).mono B1.out.size))) fa)
  cases s1 : decide (0 ≤ leftOf 2000 [t])
  all_goals rw [s1] at hs
  case false =>
    refine hs.mono ?_
    clear hs s1
    rintro e w2 ⟨rfl, b2⟩
    have B2 := Lib.hid (HBW.out.trans ((B1.out.trans ((((Below.refl _ _).alloc (Nat.le_refl _) _).trans (b2.mono (by simp))).mono B1.out.size)).mono HBW.out.size))
    clear b2 a0 a1 a2 a3 a4
    go_wp2_with fail
    go_ret
    exact ⟨rfl, B2.out⟩
  refine hs.mono ?_
  clear hs s1
  rintro e w2 ⟨rfl, b2⟩
  have B2 := Lib.hid (B1.out.trans ((((Below.refl _ _).alloc (Nat.le_refl _) _).trans (b2.mono (by simp))).mono B1.out.size))
  clear b2 a0 a1 a2 a3 a4
  obtain ⟨a0, a1, a2, a3, a4⟩ := X2.out.later B2.out
  go_wp2_with fail
  have hs := small_any 2000 [u] (some ⟨w2.heap.size, 0, none⟩) 1 _ (lies_one (c := 1) (five_new w2 u (.slice B u.ks.length cb) 24) (LB.out.later (B2.out.trans (((Below.refl _ _).alloc (Nat.le_refl _) _).mono B2.out.size))) fb)
  cases s1 : decide (0 ≤ leftOf 2000 [u])
  all_goals rw [s1] at hs
  case false =>
    refine hs.mono ?_
    clear hs s1
    rintro e w3 ⟨rfl, b3⟩
    have B3 := Lib.hid (HBW.out.trans ((B2.out.trans ((((Below.refl _ _).alloc (Nat.le_refl _) _).trans (b3.mono (by simp))).mono B2.out.size)).mono HBW.out.size))
    clear b3 a0 a1 a2 a3 a4
    go_wp2_with fail
    go_ret
    exact ⟨rfl, B3.out⟩
  refine hs.mono ?_
  clear hs s1
  rintro e w3 ⟨rfl, b3⟩
  have B3 := Lib.hid (B2.out.trans ((((Below.refl _ _).alloc (Nat.le_refl _) _).trans (b3.mono (by simp))).mono B2.out.size))
  clear b3 a0 a1 a2 a3 a4
  obtain ⟨a0, a1, a2, a3, a4⟩ := X3.out.later B3.out
  go_wp2_with fail
  have hs := small_any 2000 [v] (some ⟨w3.heap.size, 0, none⟩) 1 _ (lies_one (c := 1) (five_new w3 v (.slice C v.ks.length cc) 24) (LC.out.later (B3.out.trans (((Below.refl _ _).alloc (Nat.le_refl _) _).mono B3.out.size))) fc)
  cases s1 : decide (0 ≤ leftOf 2000 [v])
  all_goals rw [s1] at hs
  case false =>
    refine hs.mono ?_
    clear hs s1
    rintro e w4 ⟨rfl, b4⟩
    have B4 := Lib.hid (HBW.out.trans ((B3.out.trans ((((Below.refl _ _).alloc (Nat.le_refl _) _).trans (b4.mono (by simp))).mono B3.out.size)).mono HBW.out.size))
    clear b4 a0 a1 a2 a3 a4
    go_wp2_with fail
    go_ret
    exact ⟨rfl, B4.out⟩
  refine hs.mono ?_
  clear hs s1
  rintro e w4 ⟨rfl, b4⟩
  have B4 := Lib.hid (B3.out.trans ((((Below.refl _ _).alloc (Nat.le_refl _) _).trans (b4.mono (by simp))).mono B3.out.size))
  clear b4 a0 a1 a2 a3 a4
  go_wp2_with fail
  have p := X1.out.later B4.out
  have a0 := cell_regrown p.c0
  have a1 := cell_regrown p.c1
  have a2 := cell_regrown p.c2
  have a3 := cell_regrown p.c3
  have a4 := cell_regrown p.c4
  have q := X2.out.later B4.out
  have b0 := cell_regrown q.c0
  have b1 := cell_regrown q.c1
  have b2 := cell_regrown q.c2
  have b3 := cell_regrown q.c3
  have b4 := cell_regrown q.c4
  have r := X3.out.later B4.out
  have c0 := cell_regrown r.c0
  have c1 := cell_regrown r.c1
  have c2 := cell_regrown r.c2
  have c3 := cell_regrown r.c3
  have c4 := cell_regrown r.c4
  have k1 := fun d os => Calls.regrown_of (compare_any t u A B ca cb _ (LA.out.later (B4.out.trans ((below_regrown w4 d os).mono B4.out.size))) (LB.out.later (B4.out.trans ((below_regrown w4 d os).mono B4.out.size))))
  have k2 := fun d os => Calls.regrown_of (compare_any u v B C cb cc _ (LB.out.later (B4.out.trans ((below_regrown w4 d os).mono B4.out.size))) (LC.out.later (B4.out.trans ((below_regrown w4 d os).mono B4.out.size))))
  have k3 := fun d os => Calls.regrown_of (compare_any t v A C ca cc _ (LA.out.later (B4.out.trans ((below_regrown w4 d os).mono B4.out.size))) (LC.out.later (B4.out.trans ((below_regrown w4 d os).mono B4.out.size))))
  have K1 := Lib.hid k1
  have K2 := Lib.hid k2
  have K3 := Lib.hid k3
  clear k1 k2 k3 p q r
  refine wp_region_quiet_below (by kernel_rfl) (by kernel_rfl) ?_
  repeat (go_big_quiet_step (first | (with_reducible exact K1.out _ _) | (with_reducible exact K2.out _ _) | (with_reducible exact K3.out _ _)))
  refine wpQuiet_nil ?_
  intro _ hw'
  obtain ⟨⟨dq, osq⟩, hw''⟩ := hw'
  subst hw''
  clear a0 a1 a2 a3 a4 b0 b1 b2 b3 b4 c0 c1 c2 c3 c4 K1 K2 K3
  have B5 := Lib.hid (B4.out.trans ((below_regrown w4 dq osq).mono B4.out.size))
  generalize Go.Sort.grow (redrawn w4 dq) osq = w5 at *
  obtain ⟨n1, r1, z1, _⟩ := cmp_all t
  have hlast := order_last t u v
  have hr1 := r1 u
  have kr := refCompare_any t u A B ca cb
  have ku := compare_any u t B A cb ca
  have ke := equal_any t u A B ca cb
  have kt := compare_any t t A A ca ca
  rw [n1 u] at ku
  rw [z1] at kt
  generalize cmpN t u = x at *
  generalize cmpN u v = y at *
  generalize cmpN t v = z at *
  obtain ⟨hx1, hx2⟩ := hr1
  have Hlast := Lib.hid hlast
  have KR := Lib.hid kr
  have KU := Lib.hid ku
  have KE := Lib.hid ke
  have KT := Lib.hid kt
  clear hlast kr ku ke kt n1 r1 z1
  obtain ⟨a0, a1, a2, a3, a4⟩ := X1.out.later B5.out
  obtain ⟨b0, b1, b2, b3, b4⟩ := X2.out.later B5.out
  go_wp2_with fail
  refine (KR.out _ (LA.out.later B5.out) (LB.out.later B5.out)).mono ?_
  rintro e w6 ⟨rfl, bb⟩
  have B6 := Lib.hid (B5.out.trans (bb.mono B5.out.size))
  clear bb a0 a1 a2 a3 a4 b0 b1 b2 b3 b4 KR
  obtain ⟨a0, a1, a2, a3, a4⟩ := X1.out.later B6.out
  obtain ⟨b0, b1, b2, b3, b4⟩ := X2.out.later B6.out
  have s1 : (x == x) = true := by simp
  have s2 : (x != x) = false := by simp
  go_wp2_with fail
  refine (KU.out _ (LB.out.later B6.out) (LA.out.later B6.out)).mono ?_
  rintro e w7 ⟨rfl, bb⟩
  have B7 := Lib.hid (B6.out.trans (bb.mono B6.out.size))
  clear bb a0 a1 a2 a3 a4 b0 b1 b2 b3 b4 KU
  obtain ⟨a0, a1, a2, a3, a4⟩ := X1.out.later B7.out
  obtain ⟨b0, b1, b2, b3, b4⟩ := X2.out.later B7.out
  have s3 : (-x == -x) = true := by simp
  have s4 : (-x != -x) = false := by simp
  go_wp2_with fail
  refine (KE.out _ (LA.out.later B7.out) (LB.out.later B7.out)).mono ?_
  rintro e w8 ⟨rfl, bb⟩
  have B8 := Lib.hid (B7.out.trans (bb.mono B7.out.size))
  clear bb a0 a1 a2 a3 a4 b0 b1 b2 b3 b4 KE
  obtain ⟨a0, a1, a2, a3, a4⟩ := X1.out.later B8.out
  have s5 : ((x == 0) == (x == 0)) = true := by simp
  have s6 : ((x == 0) != (x == 0)) = false := by simp
  go_wp2_with fail
  refine (KT.out _ (LA.out.later B8.out) (LA.out.later B8.out)).mono ?_
  rintro e w9 ⟨rfl, bb⟩
  have B9 := Lib.hid (B8.out.trans (bb.mono B8.out.size))
  have hfin := Lib.hid (HBW.out.trans (B9.out.mono HBW.out.size))
  clear bb a0 a1 a2 a3 a4 KT
  by_cases hx : x ≤ 0
  case neg =>
    go_wp2_with fail
    go_ret
    exact ⟨rfl, hfin.out⟩
  by_cases hy : y ≤ 0
  case neg =>
    go_wp2_with fail
    go_ret
    exact ⟨rfl, hfin.out⟩
  have hz := Hlast.out.resolve_left (fun h => h ⟨hx, hy⟩)
  have hz0 := hz.1
  by_cases hz1 : z < 0
  · clear hz
    go_wp2_with fail
    go_ret
    exact ⟨rfl, hfin.out⟩
  obtain ⟨rfl, rfl⟩ := hz.2.resolve_left hz1
  clear hz
  go_wp2_with fail
  go_ret
  exact ⟨rfl, hfin.out⟩
end Go.Proofs.Ytpjokapkoeclpaa
