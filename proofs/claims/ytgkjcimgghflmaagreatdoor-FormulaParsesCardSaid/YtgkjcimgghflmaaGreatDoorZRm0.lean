/-
  The phrase prim of the document's own parser at a variable and at what opens no phrase; conditions: the text is no longer than a string can be.
-/
import Derived.Test.YtgkjcimgghflmaaGreatDoorZRl6
namespace Go.Proofs.YtgkjcimgghflmaaGreatDoor
set_option maxRecDepth 100000
set_option maxHeartbeats 8000000
open Go.RowKit Go.Shelf
attribute [local go_sem] Oper.semAt_some
theorem prim_paren (p : Nat) (s : ByteArray) (a : Nat) (o : Int) (W : World) (h : PSt W p s a o 0 0) (hs : s.size ≤ 9223372036854775000) (Z3 Z5 Z : Nd → Nat → Int → Int → Nat → Prop) (e1 : Int) (wh1 : Nat) (ha : a ≤ s.size) (ht : T s a = [40])
  (c2 : ∀ W', PSt W' p s (nxt s a) o 0 0 → Calls Tryz.prog 38 #[.pointer (some ⟨p, 0, none⟩)] W' fun r W'' => r = .returned (.tuple #[]) ∧ PSt W'' p s (nxt s a) (o + 1) e1 wh1 ∧ Fr p W' W'')
  (c3 : ∀ W', PSt W' p s (nxt s a) (o + 1) e1 wh1 → Calls Tryz.prog 21 #[.pointer (some ⟨p, 0, none⟩)] W' (Ret1 p s Z3 W'))
  (c4 : ∀ u b o' er' wh' W', Z3 u b o' er' wh' → PSt W' p s b o' er' wh' → Calls Tryz.prog 164 #[.pointer (some ⟨p, 0, none⟩), .string (bs [41])] W' fun r W'' => r = .returned (.tuple #[]) ∧ Fr p W' W'' ∧ ∃ b2 e2 wh2, PSt W'' p s b2 o' e2 wh2 ∧ Z5 u b2 o' e2 wh2)
  (hz : ∀ u b o' er' wh', Z5 u b o' er' wh' → Z u b (wrap64 (o' - 1)) er' wh') :
  Calls Tryz.prog 160 #[.pointer (some ⟨p, 0, none⟩)] W (Ret1 p s Z W) := by
 have CX := Lib.hid (CarryX.start h)
 have HP := Lib.hid (h.alloc (.cells zero5 27))
 have HZ := Lib.hid hz
 have HC2 := Lib.hid c2
 have HC3 := Lib.hid c3
 rw [show bs [41] = ⟨#[41]⟩ from rfl] at c4
 have HC4 := Lib.hid c4
 have cn := next_any p s a o 0 0 _ HP.out ha hs
 rw [show nT s a 0 = [40] by simp [nT, ht], show bs [40] = ⟨#[40]⟩ from rfl] at cn
 have cp := Lib.hid (fun (W' : World) (hb : Below (W.alloc (.cells zero5 27)).heap.size (W.alloc (.cells zero5 27)) W') => pass_live p s a o 0 W' (HP.out.later hb) ha hs)
 clear h c2 c3 c4 ht hz
 go_enter Tryz.func160, Tryz.ntmps160
 go_wp2_with fail
 refine cn.mono ?_
 rintro e w1 ⟨rfl, b1⟩
 have cp := cp.out _ b1
 have CX1 := Lib.hid (CX.out.step (Fr.of b1))
 clear b1 cn
 go_wp2_with fail
 refine cp.mono ?_
 rintro e w1' ⟨rfl, h1, f1⟩
 have CX1 := Lib.hid (CX1.out.step f1)
 have c2 := HC2.out _ h1
 clear h1 f1 cp HC2
 go_wp2_with fail
 refine c2.mono ?_
 rintro e w2 ⟨rfl, h2, f2⟩
 have CX2 := Lib.hid (CX1.out.step f2)
 have c3 := HC3.out _ h2
 clear h2 f2 c2 HC3
 go_wp2_with fail
 refine c3.mono ?_
 rintro e w4 ⟨u, B, cb, a4, o4, er4, wh4, rfl, hr4, hf4, hfr4, hp4, hz4⟩
 have hpl : p < w4.heap.size := hp4.lt
 have hxw : W.heap.size < w2.heap.size := Nat.lt_of_le_of_lt (Nat.le_of_eq CX2.out.xs) (Array.getElem?_eq_some_iff.1 CX2.out.box).1
 have c4 := HC4.out u a4 o4 er4 wh4 _ hz4 (hp4.alloc (boxN u B cb))
 have hux : (w4.alloc (boxN u B cb)).heap[w4.heap.size]? = some (.cells #[.int .i64 u.op, .int .i64 u.so, .string u.nm, .int .i64 u.nu, .slice B u.ks.length cb] 27 (0, 0)) := World.alloc_heap_new w4 _
 have F4 : Fr p w4 (w4.alloc (boxN u B cb)) := Fr.of ((Below.refl w4.heap.size w4).alloc (Nat.le_refl _) (boxN u B cb))
 have CX4 := Lib.hid ((CX2.out.step hfr4).step F4)
 have UR4 := Lib.hid ((hr4.fr F4 (Nat.lt_trans CX2.out.px hxw)).low (Nat.succ_le_of_lt hxw))
 have HF4 := Lib.hid hf4
 have HUX := Lib.hid hux
 have HPL := Lib.hid hpl
 clear c3 hr4 hf4 hfr4 hp4 hz4 hpl hux F4 hxw HC4
 go_wp2_with fail
 refine c4.mono ?_
 rintro e w5 ⟨rfl, f5, b2, e2, wh2, h5, hz5⟩
 have FS : Fr p (w4.alloc (boxN u B cb)) (w5.setCell ⟨p, 2, none⟩ (.int .i64 (wrap64 (o4 - 1)))) := f5.trans (Fr.set w5 2 (.int .i64 (wrap64 (o4 - 1))))
 have CX6 := Lib.hid (CX4.out.step FS)
 have UR6 := Lib.hid (UR4.out.fr FS (by have := CX4.out.px; have := CX4.out.xs; omega))
 have UB := Lib.hid (FS.at (x := w4.heap.size) HUX.out (Nat.ne_of_gt HPL.out))
 have HP6 := Lib.hid (h5.set2 (wrap64 (o4 - 1)))
 have HZ5 := Lib.hid hz5
 obtain ⟨q0, q1, q2, q3, q4, g1, g2, g3, g4⟩ := h5.cells
 clear f5 h5 hz5 FS c4 UR4 HUX CX4
 go_upto_region 8 with fail
 clear q0 q1 q2 q3 q4 g1 g2 g3 g4
 generalize (w5.setCell ⟨p, 2, none⟩ (.int .i64 (wrap64 (o4 - 1)))) = w6 at *
 generalize w4.heap.size = ub at *
 obtain ⟨u0, u1, u2, u3, u4, _, _, _, _, _⟩ := box_facts UB.out
 obtain ⟨z0, z1, z2, z3, z4, f0, f1, f2, f3, f4⟩ := box_facts CX6.out.box
 clear UB
 go_wp2_with fail
 have hx := CX6.out
 exact bodyPost_ret (res27 Tryz.results160 _ _ W.heap.size _ _ _ _ _ rfl (set5_same _ _ _ _ _ hx.box)) rfl
  ⟨u, B, cb, b2, wrap64 (o4 - 1), e2, wh2, rfl, UR6.out.set5 (by omega) (by omega) _ _ _ _ _, HF4.out, hx.fr.set5 (Nat.le_refl _) _ _ _ _ _, HP6.out.set5 (by have := hx.px; omega) _ _ _ _ _, HZ.out _ _ _ _ _ HZ5.out⟩
theorem prim_true (p : Nat) (s : ByteArray) (a : Nat) (o : Int) (W : World) (h : PSt W p s a o 0 0) (hs : s.size ≤ 9223372036854775000) (Z : Nd → Nat → Int → Int → Nat → Prop) (ha : a ≤ s.size) (ht : T s a = [116, 114, 117, 101])
  (hz : Z (leafN 30) (nxt s a) o 0 0) :
  Calls Tryz.prog 160 #[.pointer (some ⟨p, 0, none⟩)] W (Ret1 p s Z W) := by
 have CX := Lib.hid (CarryX.start h)
 have HP := Lib.hid (h.alloc (.cells zero5 27))
 have HZ := Lib.hid hz
 have cn := next_any p s a o 0 0 _ HP.out ha hs
 rw [show nT s a 0 = [116, 114, 117, 101] by simp [nT, ht], show bs [116, 114, 117, 101] = ⟨#[116, 114, 117, 101]⟩ from rfl] at cn
 have cp := Lib.hid (fun (W' : World) (hb : Below (W.alloc (.cells zero5 27)).heap.size (W.alloc (.cells zero5 27)) W') => pass_live p s a o 0 W' (HP.out.later hb) ha hs)
 clear h ht hz
 go_enter Tryz.func160, Tryz.ntmps160
 go_wp2_with fail
 refine cn.mono ?_
 rintro e w1 ⟨rfl, b1⟩
 have cp := cp.out _ b1
 have CX1 := Lib.hid (CX.out.step (Fr.of b1))
 clear b1 cn
 go_wp2_with fail
 refine cp.mono ?_
 rintro e w2 ⟨rfl, h1, f1⟩
 have CX2 := Lib.hid (CX1.out.step f1)
 have HP2 := Lib.hid h1
 clear h1 f1 cp
 obtain ⟨z0, z1, z2, z3, z4, f0, f1, f2, f3, f4⟩ := box_facts CX2.out.box
 go_wp2_with fail
 have hx := CX2.out
 exact bodyPost_ret (res27 Tryz.results160 _ _ W.heap.size _ _ _ _ _ rfl (set5_same _ _ _ _ _ hx.box)) rfl
  ⟨leafN 30, none, 0, nxt s a, o, 0, 0, rfl, rob_none _ _ _ _, fine_op (by decide), hx.fr.set5 (Nat.le_refl _) _ _ _ _ _, HP2.out.set5 (by have := hx.px; omega) _ _ _ _ _, HZ.out⟩
theorem prim_false (p : Nat) (s : ByteArray) (a : Nat) (o : Int) (W : World) (h : PSt W p s a o 0 0) (hs : s.size ≤ 9223372036854775000) (Z : Nd → Nat → Int → Int → Nat → Prop) (ha : a ≤ s.size) (ht : T s a = [102, 97, 108, 115, 101])
  (hz : Z (leafN 31) (nxt s a) o 0 0) :
  Calls Tryz.prog 160 #[.pointer (some ⟨p, 0, none⟩)] W (Ret1 p s Z W) := by
 have CX := Lib.hid (CarryX.start h)
 have HP := Lib.hid (h.alloc (.cells zero5 27))
 have HZ := Lib.hid hz
 have cn := next_any p s a o 0 0 _ HP.out ha hs
 rw [show nT s a 0 = [102, 97, 108, 115, 101] by simp [nT, ht], show bs [102, 97, 108, 115, 101] = ⟨#[102, 97, 108, 115, 101]⟩ from rfl] at cn
 have cp := Lib.hid (fun (W' : World) (hb : Below (W.alloc (.cells zero5 27)).heap.size (W.alloc (.cells zero5 27)) W') => pass_live p s a o 0 W' (HP.out.later hb) ha hs)
 clear h ht hz
 go_enter Tryz.func160, Tryz.ntmps160
 go_wp2_with fail
 refine cn.mono ?_
 rintro e w1 ⟨rfl, b1⟩
 have cp := cp.out _ b1
 have CX1 := Lib.hid (CX.out.step (Fr.of b1))
 clear b1 cn
 go_wp2_with fail
 refine cp.mono ?_
 rintro e w2 ⟨rfl, h1, f1⟩
 have CX2 := Lib.hid (CX1.out.step f1)
 have HP2 := Lib.hid h1
 clear h1 f1 cp
 obtain ⟨z0, z1, z2, z3, z4, f0, f1, f2, f3, f4⟩ := box_facts CX2.out.box
 go_wp2_with fail
 have hx := CX2.out
 exact bodyPost_ret (res27 Tryz.results160 _ _ W.heap.size _ _ _ _ _ rfl (set5_same _ _ _ _ _ hx.box)) rfl
  ⟨leafN 31, none, 0, nxt s a, o, 0, 0, rfl, rob_none _ _ _ _, fine_op (by decide), hx.fr.set5 (Nat.le_refl _) _ _ _ _ _, HP2.out.set5 (by have := hx.px; omega) _ _ _ _ _, HZ.out⟩
theorem prim_empty (p : Nat) (s : ByteArray) (a : Nat) (o : Int) (W : World) (h : PSt W p s a o 0 0) (hs : s.size ≤ 9223372036854775000) (Z : Nd → Nat → Int → Int → Nat → Prop) (ha : a ≤ s.size) (ht : T s a = [101, 109, 112, 116, 121])
  (hz : Z (leafN 9) (nxt s a) o 0 0) :
  Calls Tryz.prog 160 #[.pointer (some ⟨p, 0, none⟩)] W (Ret1 p s Z W) := by
 have CX := Lib.hid (CarryX.start h)
 have HP := Lib.hid (h.alloc (.cells zero5 27))
 have HZ := Lib.hid hz
 have cn := next_any p s a o 0 0 _ HP.out ha hs
 rw [show nT s a 0 = [101, 109, 112, 116, 121] by simp [nT, ht], show bs [101, 109, 112, 116, 121] = ⟨#[101, 109, 112, 116, 121]⟩ from rfl] at cn
 have cp := Lib.hid (fun (W' : World) (hb : Below (W.alloc (.cells zero5 27)).heap.size (W.alloc (.cells zero5 27)) W') => pass_live p s a o 0 W' (HP.out.later hb) ha hs)
 clear h ht hz
 go_enter Tryz.func160, Tryz.ntmps160
 go_wp2_with fail
 refine cn.mono ?_
 rintro e w1 ⟨rfl, b1⟩
 have cp := cp.out _ b1
 have CX1 := Lib.hid (CX.out.step (Fr.of b1))
 clear b1 cn
 go_wp2_with fail
 refine cp.mono ?_
 rintro e w2 ⟨rfl, h1, f1⟩
 have CX2 := Lib.hid (CX1.out.step f1)
 have HP2 := Lib.hid h1
 clear h1 f1 cp
 obtain ⟨z0, z1, z2, z3, z4, f0, f1, f2, f3, f4⟩ := box_facts CX2.out.box
 go_wp2_with fail
 have hx := CX2.out
 exact bodyPost_ret (res27 Tryz.results160 _ _ W.heap.size _ _ _ _ _ rfl (set5_same _ _ _ _ _ hx.box)) rfl
  ⟨leafN 9, none, 0, nxt s a, o, 0, 0, rfl, rob_none _ _ _ _, fine_op (by decide), hx.fr.set5 (Nat.le_refl _) _ _ _ _ _, HP2.out.set5 (by have := hx.px; omega) _ _ _ _ _, HZ.out⟩
end Go.Proofs.YtgkjcimgghflmaaGreatDoor
namespace Go.Proofs.YtgkjcimgghflmaaGreatDoor
set_option maxRecDepth 100000
set_option maxHeartbeats 8000000
open Go.RowKit Go.Shelf
attribute [local go_sem] Oper.semAt_some
theorem taking_sing (w : World) : Calls Tryz.prog 165 #[.string ⟨#[115, 105, 110, 103]⟩] w fun e w' => e = .returned (.tuple #[.int .i64 10, .int .i64 1]) ∧ w = w' := by
 go_enter Tryz.func165, Tryz.ntmps165
 go_wp2_with fail
 go_ret2
 exact ⟨rfl, rfl⟩
theorem taking_cup (w : World) : Calls Tryz.prog 165 #[.string ⟨#[99, 117, 112]⟩] w fun e w' => e = .returned (.tuple #[.int .i64 11, .int .i64 2]) ∧ w = w' := by
 go_enter Tryz.func165, Tryz.ntmps165
 go_wp2_with fail
 go_ret2
 exact ⟨rfl, rfl⟩
theorem taking_cap (w : World) : Calls Tryz.prog 165 #[.string ⟨#[99, 97, 112]⟩] w fun e w' => e = .returned (.tuple #[.int .i64 12, .int .i64 2]) ∧ w = w' := by
 go_enter Tryz.func165, Tryz.ntmps165
 go_wp2_with fail
 go_ret2
 exact ⟨rfl, rfl⟩
theorem taking_diff (w : World) : Calls Tryz.prog 165 #[.string ⟨#[100, 105, 102, 102]⟩] w fun e w' => e = .returned (.tuple #[.int .i64 13, .int .i64 2]) ∧ w = w' := by
 go_enter Tryz.func165, Tryz.ntmps165
 go_wp2_with fail
 go_ret2
 exact ⟨rfl, rfl⟩
theorem taking_sel (w : World) : Calls Tryz.prog 165 #[.string ⟨#[115, 101, 108]⟩] w fun e w' => e = .returned (.tuple #[.int .i64 14, .int .i64 2]) ∧ w = w' := by
 go_enter Tryz.func165, Tryz.ntmps165
 go_wp2_with fail
 go_ret2
 exact ⟨rfl, rfl⟩
theorem taking_sto (w : World) : Calls Tryz.prog 165 #[.string ⟨#[115, 116, 111]⟩] w fun e w' => e = .returned (.tuple #[.int .i64 15, .int .i64 3]) ∧ w = w' := by
 go_enter Tryz.func165, Tryz.ntmps165
 go_wp2_with fail
 go_ret2
 exact ⟨rfl, rfl⟩
theorem taking_ite (w : World) : Calls Tryz.prog 165 #[.string ⟨#[105, 116, 101]⟩] w fun e w' => e = .returned (.tuple #[.int .i64 8, .int .i64 3]) ∧ w = w' := by
 go_enter Tryz.func165, Tryz.ntmps165
 go_wp2_with fail
 go_ret2
 exact ⟨rfl, rfl⟩
theorem taking_vlen (w : World) : Calls Tryz.prog 165 #[.string ⟨#[118, 108, 101, 110]⟩] w fun e w' => e = .returned (.tuple #[.int .i64 16, .int .i64 1]) ∧ w = w' := by
 go_enter Tryz.func165, Tryz.ntmps165
 go_wp2_with fail
 go_ret2
 exact ⟨rfl, rfl⟩
theorem taking_no (t : List UInt8) (ht : wordA t = none) (w : World) : Calls Tryz.prog 165 #[.string (bs t)] w fun e w' => e = .returned (.tuple #[.int .i64 0, .int .i64 0]) ∧ w = w' := by
 have h0 : ((bs t).toList == [115, 105, 110, 103]) = false := by
  rw [bs_toList]
  cases hq : (t == [115, 105, 110, 103]) with
  | false => rfl
  | true =>
   rw [beq_iff_eq] at hq
   rw [hq] at ht
   exact absurd ht (by decide)
 have h1 : ((bs t).toList == [99, 117, 112]) = false := by
  rw [bs_toList]
  cases hq : (t == [99, 117, 112]) with
  | false => rfl
  | true =>
   rw [beq_iff_eq] at hq
   rw [hq] at ht
   exact absurd ht (by decide)
 have h2 : ((bs t).toList == [99, 97, 112]) = false := by
  rw [bs_toList]
  cases hq : (t == [99, 97, 112]) with
  | false => rfl
  | true =>
   rw [beq_iff_eq] at hq
   rw [hq] at ht
   exact absurd ht (by decide)
 have h3 : ((bs t).toList == [100, 105, 102, 102]) = false := by
  rw [bs_toList]
  cases hq : (t == [100, 105, 102, 102]) with
  | false => rfl
  | true =>
   rw [beq_iff_eq] at hq
   rw [hq] at ht
   exact absurd ht (by decide)
 have h4 : ((bs t).toList == [115, 101, 108]) = false := by
  rw [bs_toList]
  cases hq : (t == [115, 101, 108]) with
  | false => rfl
  | true =>
   rw [beq_iff_eq] at hq
   rw [hq] at ht
   exact absurd ht (by decide)
 have h5 : ((bs t).toList == [115, 116, 111]) = false := by
  rw [bs_toList]
  cases hq : (t == [115, 116, 111]) with
  | false => rfl
  | true =>
   rw [beq_iff_eq] at hq
   rw [hq] at ht
   exact absurd ht (by decide)
 have h6 : ((bs t).toList == [105, 116, 101]) = false := by
  rw [bs_toList]
  cases hq : (t == [105, 116, 101]) with
  | false => rfl
  | true =>
   rw [beq_iff_eq] at hq
   rw [hq] at ht
   exact absurd ht (by decide)
 have h7 : ((bs t).toList == [118, 108, 101, 110]) = false := by
  rw [bs_toList]
  cases hq : (t == [118, 108, 101, 110]) with
  | false => rfl
  | true =>
   rw [beq_iff_eq] at hq
   rw [hq] at ht
   exact absurd ht (by decide)
 generalize bs t = st at *
 go_enter Tryz.func165, Tryz.ntmps165
 go_wp2_with fail
 go_ret2
 exact ⟨rfl, rfl⟩
theorem taking_any (t : List UInt8) (w : World) : Calls Tryz.prog 165 #[.string (bs t)] w fun e w' => e = .returned (.tuple #[.int .i64 ((wordA t).map (·.1)|>.getD 0), .int .i64 (((wordA t).map (·.2)|>.getD 0 : Nat) : Int)]) ∧ w = w' := by
 by_cases h : t = [115, 105, 110, 103]
 ·subst h
  exact taking_sing w
 by_cases h : t = [99, 117, 112]
 ·subst h
  exact taking_cup w
 by_cases h : t = [99, 97, 112]
 ·subst h
  exact taking_cap w
 by_cases h : t = [100, 105, 102, 102]
 ·subst h
  exact taking_diff w
 by_cases h : t = [115, 101, 108]
 ·subst h
  exact taking_sel w
 by_cases h : t = [115, 116, 111]
 ·subst h
  exact taking_sto w
 by_cases h : t = [105, 116, 101]
 ·subst h
  exact taking_ite w
 by_cases h : t = [118, 108, 101, 110]
 ·subst h
  exact taking_vlen w
 have hn : wordA t = none := by
  unfold wordA
  simp [*]
 rw [hn]
 exact taking_no t hn w
end Go.Proofs.YtgkjcimgghflmaaGreatDoor
namespace Go.Proofs.YtgkjcimgghflmaaGreatDoor
set_option maxRecDepth 100000
set_option maxHeartbeats 8000000
open Go.RowKit Go.Shelf
attribute [local go_sem] Oper.semAt_some
def noKey (t : List UInt8) : Prop := t ≠ [40] ∧ t ≠ [116, 114, 117, 101] ∧ t ≠ [102, 97, 108, 115, 101] ∧ t ≠ [101, 109, 112, 116, 121]
theorem prim_bad (p : Nat) (s : ByteArray) (a : Nat) (o : Int) (W : World) (h : PSt W p s a o 0 0) (hs : s.size ≤ 9223372036854775000) (Z : Nd → Nat → Int → Int → Nat → Prop) (ha : a ≤ s.size) (hk : noKey (T s a)) (hw : wordA (T s a) = none) (hnm : nameB (bs (T s a)) = false)
  (hz : Z zeroN a o 20 a) :
  Calls Tryz.prog 160 #[.pointer (some ⟨p, 0, none⟩)] W (Ret1 p s Z W) := by
 have CX := Lib.hid (CarryX.start h)
 have HP := Lib.hid (h.alloc (.cells zero5 27))
 have HZ := Lib.hid hz
 have cn := next_any p s a o 0 0 _ HP.out ha hs
 rw [show nT s a 0 = T s a from if_pos rfl] at cn
 have hk0 : ((bs (T s a)).toList == [40]) = false := by rw [bs_toList]; simpa using hk.1
 have hk1 : ((bs (T s a)).toList == [116, 114, 117, 101]) = false := by rw [bs_toList]; simpa using hk.2.1
 have hk2 : ((bs (T s a)).toList == [102, 97, 108, 115, 101]) = false := by rw [bs_toList]; simpa using hk.2.2.1
 have hk3 : ((bs (T s a)).toList == [101, 109, 112, 116, 121]) = false := by rw [bs_toList]; simpa using hk.2.2.2
 have KT := Lib.hid (fun w => taking_no (T s a) hw w)
 have HNm := Lib.hid hnm
 have cp := Lib.hid (fun (W' : World) (hb : Below (W.alloc (.cells zero5 27)).heap.size (W.alloc (.cells zero5 27)) W') => fail_live p s a o 0 W' (HP.out.later hb))
 generalize bs (T s a) = st at *
 clear h hz hk hw hnm
 go_enter Tryz.func160, Tryz.ntmps160
 go_wp2_with fail
 refine cn.mono ?_
 rintro e w1 ⟨rfl, b1⟩
 have B1 := Lib.hid b1
 clear b1 cn
 go_wp2_with fail
 refine (KT.out _).mono ?_
 rintro e w2 ⟨rfl, rfl⟩
 clear KT
 go_wp2_with fail
 refine (refName_any _ _).mono ?_
 rintro e w3 ⟨rfl, b2⟩
 rw [HNm.out]
 have B2 := Lib.hid (B1.out.trans (b2.mono B1.out.size))
 have CX1 := Lib.hid (CX.out.step (Fr.of B2.out))
 have c2 := cp.out _ B2.out
 clear b2 cp HNm
 go_wp2_with fail
 refine c2.mono ?_
 rintro e w4 ⟨rfl, h1, f1⟩
 have CX2 := Lib.hid (CX1.out.step f1)
 have HP2 := Lib.hid h1
 clear h1 f1 c2
 obtain ⟨z0, z1, z2, z3, z4, f0, f1, f2, f3, f4⟩ := box_facts CX2.out.box
 go_wp2_with fail
 have hx := CX2.out
 exact bodyPost_ret (res27 Tryz.results160 _ _ W.heap.size _ _ _ _ _ rfl (set5_same _ _ _ _ _ hx.box)) rfl
  ⟨zeroN, none, 0, a, o, 20, a, rfl, rob_none _ _ _ _, fine_op (by decide), hx.fr.set5 (Nat.le_refl _) _ _ _ _ _, HP2.out.set5 (by have := hx.px; omega) _ _ _ _ _, HZ.out⟩
theorem prim_var (p : Nat) (s : ByteArray) (a : Nat) (o : Int) (W : World) (h : PSt W p s a o 0 0) (hs : s.size ≤ 9223372036854775000) (Z : Nd → Nat → Int → Int → Nat → Prop) (ha : a ≤ s.size) (hk : noKey (T s a)) (hw : wordA (T s a) = none) (hnm : nameB (bs (T s a)) = true)
  (hop : T s (nxt s a) ≠ [40]) (hlen : (T s a).length ≤ maxLen) (hz : Z (.mk 1 0 (bs (T s a)) 0 []) (nxt s a) o 0 0) :
  Calls Tryz.prog 160 #[.pointer (some ⟨p, 0, none⟩)] W (Ret1 p s Z W) := by
 have CX := Lib.hid (CarryX.start h)
 have HP := Lib.hid (h.alloc (.cells zero5 27))
 have HZ := Lib.hid hz
 have cn := next_any p s a o 0 0 _ HP.out ha hs
 rw [show nT s a 0 = T s a from if_pos rfl] at cn
 have hk0 : ((bs (T s a)).toList == [40]) = false := by rw [bs_toList]; simpa using hk.1
 have hk1 : ((bs (T s a)).toList == [116, 114, 117, 101]) = false := by rw [bs_toList]; simpa using hk.2.1
 have hk2 : ((bs (T s a)).toList == [102, 97, 108, 115, 101]) = false := by rw [bs_toList]; simpa using hk.2.2.1
 have hk3 : ((bs (T s a)).toList == [101, 109, 112, 116, 121]) = false := by rw [bs_toList]; simpa using hk.2.2.2
 have KT := Lib.hid (fun w => taking_no (T s a) hw w)
 have HNm := Lib.hid hnm
 have cp := Lib.hid (fun (W' : World) (hb : Below (W.alloc (.cells zero5 27)).heap.size (W.alloc (.cells zero5 27)) W') => pass_live p s a o 0 W' (HP.out.later hb) ha hs)
 have hn2 := (nxt_le ha).2
 have ct := Lib.hid (fun (W' : World) (hp : PSt W' p s (nxt s a) o 0 0) => take_no [40] p s (nxt s a) o 0 0 W' hp hn2 hs (by rw [show nT s (nxt s a) 0 = T s (nxt s a) from if_pos rfl]; exact hop))
 rw [show bs [40] = ⟨#[40]⟩ from rfl] at ct
 have HF := Lib.hid (show Fine (.mk 1 0 (bs (T s a)) 0 []) from ⟨by show (bs (T s a)).size ≤ maxLen; simpa [bs, ByteArray.size] using hlen, by show (Lit.int .i64 1).wf = true; decide, by show (Lit.int .i64 0).wf = true; decide, by show (Lit.int .i64 0).wf = true; decide⟩)
 generalize bs (T s a) = st at *
 clear h hz hk hw hnm hop hlen hn2
 go_enter Tryz.func160, Tryz.ntmps160
 go_wp2_with fail
 refine cn.mono ?_
 rintro e w1 ⟨rfl, b1⟩
 have B1 := Lib.hid b1
 clear b1 cn
 go_wp2_with fail
 refine (KT.out _).mono ?_
 rintro e w2 ⟨rfl, rfl⟩
 clear KT
 go_wp2_with fail
 refine (refName_any _ _).mono ?_
 rintro e w3 ⟨rfl, b2⟩
 rw [HNm.out]
 have B2 := Lib.hid (B1.out.trans (b2.mono B1.out.size))
 have CX1 := Lib.hid (CX.out.step (Fr.of B2.out))
 have c2 := cp.out _ B2.out
 clear b2 cp HNm
 go_wp2_with fail
 refine c2.mono ?_
 rintro e w4 ⟨rfl, h1, f1⟩
 have CX2 := Lib.hid (CX1.out.step f1)
 have HP2 := Lib.hid h1
 clear h1 f1 c2
 go_wp2_with fail
 refine (ct.out _ HP2.out).mono ?_
 rintro e w5 ⟨rfl, b5⟩
 have CX2 := Lib.hid (CX2.out.step (Fr.of b5))
 have HP2 := Lib.hid (HP2.out.later b5)
 clear b5 ct
 obtain ⟨z0, z1, z2, z3, z4, f0, f1, f2, f3, f4⟩ := box_facts CX2.out.box
 go_wp2_with fail
 have hx := CX2.out
 exact bodyPost_ret (res27 Tryz.results160 _ _ W.heap.size _ _ _ _ _ rfl (set5_same _ _ _ _ _ hx.box)) rfl
  ⟨.mk 1 0 st 0 [], none, 0, nxt s a, o, 0, 0, rfl, rob_none _ _ _ _, HF.out, hx.fr.set5 (Nat.le_refl _) _ _ _ _ _, HP2.out.set5 (by have := hx.px; omega) _ _ _ _ _, HZ.out⟩
end Go.Proofs.YtgkjcimgghflmaaGreatDoor
