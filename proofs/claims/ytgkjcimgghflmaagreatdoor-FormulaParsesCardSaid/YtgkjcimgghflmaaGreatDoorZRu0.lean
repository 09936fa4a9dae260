/-
  The phrase unary of the document's own parser answers as the grammar says, when those within do; conditions: the text is no longer than a string can be.
-/
import Derived.Test.YtgkjcimgghflmaaGreatDoorZRn0
namespace Go.Proofs.YtgkjcimgghflmaaGreatDoor
set_option maxRecDepth 100000
set_option maxHeartbeats 8000000
open Go.RowKit Go.Shelf
attribute [local go_sem] Oper.semAt_some
theorem fine_int (n : Int) (h : (Lit.int .i64 n).wf = true) : Fine (intN n) := ⟨by show (ByteArray.mk #[]).size ≤ maxLen; decide, by show (Lit.int .i64 2).wf = true; decide, by show (Lit.int .i64 0).wf = true; decide, h⟩
theorem una_prim (p : Nat) (s : ByteArray) (a : Nat) (o e : Int) (wh : Nat) (W : World) (h : PSt W p s a o e wh) (hs : s.size ≤ 9223372036854775000) (Z : Nd → Nat → Int → Int → Nat → Prop) (ha : a ≤ s.size) (hno : nT s a e ≠ [45]) (hnn : isNum (nT s a e) = false)
  (c1 : ∀ W', PSt W' p s a o e wh → Calls Tryz.prog 160 #[.pointer (some ⟨p, 0, none⟩)] W' (Ret1 p s Z W')) :
  Calls Tryz.prog 155 #[.pointer (some ⟨p, 0, none⟩)] W (Ret1 p s Z W) := by
 have CX := Lib.hid (CarryX.start h)
 have HP := Lib.hid (h.alloc (.cells zero5 27))
 have HC := Lib.hid c1
 have ct := take_no [45] p s a o e wh _ HP.out ha hs hno
 have ec : bs [45] = ⟨#[45]⟩ := rfl
 rw [ec] at ct
 have cn := Lib.hid (fun (W' : World) (hb : Below (W.alloc (.cells zero5 27)).heap.size (W.alloc (.cells zero5 27)) W') => numeric_any p s a o e wh W' (HP.out.later hb) ha hs)
 rw [hnn] at cn
 clear h c1 ec hno hnn
 go_enter Tryz.func155, Tryz.ntmps155
 go_wp2_with fail
 refine ct.mono ?_
 rintro e w1 ⟨rfl, b1⟩
 have cn := cn.out _ b1
 have B1 := Lib.hid b1
 clear b1 ct
 go_wp2_with fail
 refine cn.mono ?_
 rintro e w2 ⟨rfl, b2⟩
 have B2 := Lib.hid (B1.out.trans (b2.mono B1.out.size))
 have CX1 := Lib.hid (CX.out.step (Fr.of B2.out))
 have c1 := HC.out _ (HP.out.later B2.out)
 clear b2 cn HC
 go_wp2_with fail
 refine c1.mono ?_
 rintro e w2 ⟨t, A, cap, a2, o2, er, wh2, rfl, hr, hf, hfr, hp2, hz2⟩
 have CX2 := Lib.hid (CX1.out.step hfr)
 have HR := Lib.hid (hr.low (Nat.succ_le_of_lt (Nat.lt_of_le_of_lt (Nat.le_of_eq CX1.out.xs) (Array.getElem?_eq_some_iff.1 CX1.out.box).1)))
 have HF := Lib.hid hf
 have HP2 := Lib.hid hp2
 have HZ2 := Lib.hid hz2
 obtain ⟨z0, z1, z2, z3, z4, f0, f1, f2, f3, f4⟩ := box_facts CX2.out.box
 clear hr hf hfr hp2 hz2 c1
 go_wp2_with fail
 have hx := CX2.out
 exact bodyPost_ret (res27 Tryz.results155 _ _ W.heap.size _ _ _ _ _ rfl (set5_same _ _ _ _ _ hx.box)) rfl
  ⟨t, A, cap, a2, o2, er, wh2, rfl, HR.out.set5 (by omega) (by omega) _ _ _ _ _, HF.out, hx.fr.set5 (Nat.le_refl _) _ _ _ _ _, HP2.out.set5 (by have := hx.px; omega) _ _ _ _ _, HZ2.out⟩
theorem una_neg1 (p : Nat) (s : ByteArray) (a : Nat) (o : Int) (W : World) (h : PSt W p s a o 0 0) (hs : s.size ≤ 9223372036854775000) (Z3 Z : Nd → Nat → Int → Int → Nat → Prop) (e1 : Int) (wh1 : Nat) (ha : a ≤ s.size) (ht : T s a = [45]) (hnum : isNum (T s (nxt s a)) = false)
  
  (c2 : ∀ W', PSt W' p s (nxt s a) o 0 0 → Calls Tryz.prog 38 #[.pointer (some ⟨p, 0, none⟩)] W' fun r W'' => r = .returned (.tuple #[]) ∧ PSt W'' p s (nxt s a) (o + 1) e1 wh1 ∧ Fr p W' W'')
  (c3 : ∀ W', PSt W' p s (nxt s a) (o + 1) e1 wh1 → Calls Tryz.prog 155 #[.pointer (some ⟨p, 0, none⟩)] W' (Ret1 p s Z3 W'))
  (hz : ∀ u b o' er' wh', Z3 u b o' er' wh' → Z (oneN 6 u) b (wrap64 (o' - 1)) er' wh') :
  Calls Tryz.prog 155 #[.pointer (some ⟨p, 0, none⟩)] W (Ret1 p s Z W) := by
 have HZ := Lib.hid hz
 have HC2 := Lib.hid c2
 have HC3 := Lib.hid c3
 clear hz c2 c3
 have CX := Lib.hid (CarryX.start h)
 have HP := Lib.hid (h.alloc (.cells zero5 27))
 have ct := take_yes [45] p s a o 0 _ HP.out ha hs ht
 have ec : bs [45] = ⟨#[45]⟩ := rfl
 rw [ec] at ct
 have hb := (nxt_le ha).2
 generalize nxt s a = b at *
 have HQ := Lib.hid (fun (W' : World) (hp : PSt W' p s b o 0 0) => numeric_any p s b o 0 0 W' hp hb hs)
 rw [show nT s b 0 = T s b from if_pos rfl, hnum] at HQ
 have HS := Lib.hid (fun (W' : World) (hp : PSt W' p s b o 0 0) => starred_live p s b o 0 W' hp hb hs)
 clear HS
 clear h ec ht hnum
 go_enter Tryz.func155, Tryz.ntmps155
 go_wp2_with fail
 refine ct.mono ?_
 rintro e w1 ⟨rfl, h1, f1⟩
 have CX1 := Lib.hid (CX.out.step f1)
 have h1 := Lib.hid h1
 clear f1 ct
 go_wp2_with fail
 refine (HQ.out _ h1.out).mono ?_
 rintro e w2 ⟨rfl, b2⟩
 have CX1 := Lib.hid (CX1.out.step (Fr.of b2))
 have h1 := Lib.hid (h1.out.later b2)
 clear b2 HQ
 go_wp2_with fail
 have c2 := HC2.out _ h1.out
 clear HC2 h1
 refine c2.mono ?_
 rintro e w2 ⟨rfl, h2, f2⟩
 have CX2 := Lib.hid (CX1.out.step f2)
 have c3 := HC3.out _ h2
 clear h2 f2 c2 HC3
 go_wp2_with fail
 refine c3.mono ?_
 rintro e w4 ⟨u, B, cb, a4, o4, er4, wh4, rfl, hr4, hf4, hfr4, hp4, hz4⟩
 have PU := hp4.alloc (boxN u B cb)
 have hpl : p < w4.heap.size := hp4.lt
 have hux : (w4.alloc (boxN u B cb)).heap[w4.heap.size]? = some (.cells #[.int .i64 u.op, .int .i64 u.so, .string u.nm, .int .i64 u.nu, .slice B u.ks.length cb] 27 (0, 0)) := World.alloc_heap_new w4 _
 have FS : Fr p w4 ((w4.alloc (boxN u B cb)).setCell ⟨p, 2, none⟩ (.int .i64 (wrap64 (o4 - 1)))) := (Fr.of ((Below.refl w4.heap.size w4).alloc (Nat.le_refl _) (boxN u B cb))).trans (Fr.set (w4.alloc (boxN u B cb)) 2 (.int .i64 (wrap64 (o4 - 1))))
 have hxw : W.heap.size < w2.heap.size := Nat.lt_of_le_of_lt (Nat.le_of_eq CX2.out.xs) (Array.getElem?_eq_some_iff.1 CX2.out.box).1
 have CX5 := Lib.hid ((CX2.out.step hfr4).step FS)
 have UB := Lib.hid ((Fr.set (w4.alloc (boxN u B cb)) 2 (.int .i64 (wrap64 (o4 - 1)))).at (x := w4.heap.size) hux (Nat.ne_of_gt hpl))
 have UR := Lib.hid ((hr4.fr FS (Nat.lt_trans CX2.out.px hxw)).low (Nat.succ_le_of_lt hxw))
 have HF4 := Lib.hid hf4
 have HPU := Lib.hid (PU.set2 (wrap64 (o4 - 1)))
 have HZ4 := Lib.hid hz4
 obtain ⟨q0, q1, q2, q3, q4, g1, g2, g3, g4⟩ := PU.cells
 clear PU hz4 c3 hr4 hf4 hfr4 hp4 hpl hux FS hxw
 go_upto_region 8 with fail
 clear q0 q1 q2 q3 q4 g1 g2 g3 g4
 generalize ((w4.alloc (boxN u B cb)).setCell ⟨p, 2, none⟩ (.int .i64 (wrap64 (o4 - 1)))) = w5 at *
 generalize w4.heap.size = ub at *
 have hx := CX5.out
 have c5 := one_row 6 (W.heap.size + 1) u B cb w5 UR.out HF4.out (Array.getElem?_eq_some_iff.1 hx.box).1
 obtain ⟨u0, u1, u2, u3, u4, _, _, _, _, _⟩ := box_facts UB.out
 clear hx UB UR HF4
 go_wp2_with fail
 refine c5.mono ?_
 rintro e w6 ⟨D, cd, rfl, r6, b6⟩
 have CX6 := Lib.hid (CX5.out.step (Fr.of b6))
 have HP6 := Lib.hid (HPU.out.later b6)
 have R6 := Lib.hid r6
 obtain ⟨z0, z1, z2, z3, z4, f0, f1, f2, f3, f4⟩ := box_facts CX6.out.box
 clear b6 r6 c5
 go_wp2_with fail
 have hx := CX6.out
 exact bodyPost_ret (res27 Tryz.results155 _ _ W.heap.size _ _ _ _ _ rfl (set5_same _ _ _ _ _ hx.box)) rfl
  ⟨oneN 6 u, D, cd, a4, wrap64 (o4 - 1), er4, wh4, rfl, R6.out.set5 (by omega) (by omega) _ _ _ _ _, fine_op (by decide), hx.fr.set5 (Nat.le_refl _) _ _ _ _ _, HP6.out.set5 (by have := hx.px; omega) _ _ _ _ _, HZ.out _ _ _ _ _ HZ4.out⟩
theorem una_neg2 (p : Nat) (s : ByteArray) (a : Nat) (o : Int) (W : World) (h : PSt W p s a o 0 0) (hs : s.size ≤ 9223372036854775000) (Z3 Z : Nd → Nat → Int → Int → Nat → Prop) (e1 : Int) (wh1 : Nat) (ha : a ≤ s.size) (ht : T s a = [45]) (hnum : isNum (T s (nxt s a)) = true)
  (hstar : T s (nxt s (nxt s a)) = [42])
  (c2 : ∀ W', PSt W' p s (nxt s a) o 0 0 → Calls Tryz.prog 38 #[.pointer (some ⟨p, 0, none⟩)] W' fun r W'' => r = .returned (.tuple #[]) ∧ PSt W'' p s (nxt s a) (o + 1) e1 wh1 ∧ Fr p W' W'')
  (c3 : ∀ W', PSt W' p s (nxt s a) (o + 1) e1 wh1 → Calls Tryz.prog 155 #[.pointer (some ⟨p, 0, none⟩)] W' (Ret1 p s Z3 W'))
  (hz : ∀ u b o' er' wh', Z3 u b o' er' wh' → Z (oneN 6 u) b (wrap64 (o' - 1)) er' wh') :
  Calls Tryz.prog 155 #[.pointer (some ⟨p, 0, none⟩)] W (Ret1 p s Z W) := by
 have HZ := Lib.hid hz
 have HC2 := Lib.hid c2
 have HC3 := Lib.hid c3
 clear hz c2 c3
 have CX := Lib.hid (CarryX.start h)
 have HP := Lib.hid (h.alloc (.cells zero5 27))
 have ct := take_yes [45] p s a o 0 _ HP.out ha hs ht
 have ec : bs [45] = ⟨#[45]⟩ := rfl
 rw [ec] at ct
 have hb := (nxt_le ha).2
 generalize nxt s a = b at *
 have HQ := Lib.hid (fun (W' : World) (hp : PSt W' p s b o 0 0) => numeric_any p s b o 0 0 W' hp hb hs)
 rw [show nT s b 0 = T s b from if_pos rfl, hnum] at HQ
 have HS := Lib.hid (fun (W' : World) (hp : PSt W' p s b o 0 0) => starred_live p s b o 0 W' hp hb hs)
 rw [show (T s (nxt s b) == [42]) = true by rw [hstar]; rfl] at HS
 clear hstar
 clear h ec ht hnum
 go_enter Tryz.func155, Tryz.ntmps155
 go_wp2_with fail
 refine ct.mono ?_
 rintro e w1 ⟨rfl, h1, f1⟩
 have CX1 := Lib.hid (CX.out.step f1)
 have h1 := Lib.hid h1
 clear f1 ct
 go_wp2_with fail
 refine (HQ.out _ h1.out).mono ?_
 rintro e w2 ⟨rfl, b2⟩
 have CX1 := Lib.hid (CX1.out.step (Fr.of b2))
 have h1 := Lib.hid (h1.out.later b2)
 clear b2 HQ
 go_wp2_with fail
 refine (HS.out _ h1.out).mono ?_
 rintro e w3 ⟨rfl, b2⟩
 have CX1 := Lib.hid (CX1.out.step (Fr.of b2))
 have h1 := Lib.hid (h1.out.later b2)
 clear b2 HS
 go_wp2_with fail
 have c2 := HC2.out _ h1.out
 clear HC2 h1
 refine c2.mono ?_
 rintro e w2 ⟨rfl, h2, f2⟩
 have CX2 := Lib.hid (CX1.out.step f2)
 have c3 := HC3.out _ h2
 clear h2 f2 c2 HC3
 go_wp2_with fail
 refine c3.mono ?_
 rintro e w4 ⟨u, B, cb, a4, o4, er4, wh4, rfl, hr4, hf4, hfr4, hp4, hz4⟩
 have PU := hp4.alloc (boxN u B cb)
 have hpl : p < w4.heap.size := hp4.lt
 have hux : (w4.alloc (boxN u B cb)).heap[w4.heap.size]? = some (.cells #[.int .i64 u.op, .int .i64 u.so, .string u.nm, .int .i64 u.nu, .slice B u.ks.length cb] 27 (0, 0)) := World.alloc_heap_new w4 _
 have FS : Fr p w4 ((w4.alloc (boxN u B cb)).setCell ⟨p, 2, none⟩ (.int .i64 (wrap64 (o4 - 1)))) := (Fr.of ((Below.refl w4.heap.size w4).alloc (Nat.le_refl _) (boxN u B cb))).trans (Fr.set (w4.alloc (boxN u B cb)) 2 (.int .i64 (wrap64 (o4 - 1))))
 have hxw : W.heap.size < w2.heap.size := Nat.lt_of_le_of_lt (Nat.le_of_eq CX2.out.xs) (Array.getElem?_eq_some_iff.1 CX2.out.box).1
 have CX5 := Lib.hid ((CX2.out.step hfr4).step FS)
 have UB := Lib.hid ((Fr.set (w4.alloc (boxN u B cb)) 2 (.int .i64 (wrap64 (o4 - 1)))).at (x := w4.heap.size) hux (Nat.ne_of_gt hpl))
 have UR := Lib.hid ((hr4.fr FS (Nat.lt_trans CX2.out.px hxw)).low (Nat.succ_le_of_lt hxw))
 have HF4 := Lib.hid hf4
 have HPU := Lib.hid (PU.set2 (wrap64 (o4 - 1)))
 have HZ4 := Lib.hid hz4
 obtain ⟨q0, q1, q2, q3, q4, g1, g2, g3, g4⟩ := PU.cells
 clear PU hz4 c3 hr4 hf4 hfr4 hp4 hpl hux FS hxw
 go_upto_region 8 with fail
 clear q0 q1 q2 q3 q4 g1 g2 g3 g4
 generalize ((w4.alloc (boxN u B cb)).setCell ⟨p, 2, none⟩ (.int .i64 (wrap64 (o4 - 1)))) = w5 at *
 generalize w4.heap.size = ub at *
 have hx := CX5.out
 have c5 := one_row 6 (W.heap.size + 1) u B cb w5 UR.out HF4.out (Array.getElem?_eq_some_iff.1 hx.box).1
 obtain ⟨u0, u1, u2, u3, u4, _, _, _, _, _⟩ := box_facts UB.out
 clear hx UB UR HF4
 go_wp2_with fail
 refine c5.mono ?_
 rintro e w6 ⟨D, cd, rfl, r6, b6⟩
 have CX6 := Lib.hid (CX5.out.step (Fr.of b6))
 have HP6 := Lib.hid (HPU.out.later b6)
 have R6 := Lib.hid r6
 obtain ⟨z0, z1, z2, z3, z4, f0, f1, f2, f3, f4⟩ := box_facts CX6.out.box
 clear b6 r6 c5
 go_wp2_with fail
 have hx := CX6.out
 exact bodyPost_ret (res27 Tryz.results155 _ _ W.heap.size _ _ _ _ _ rfl (set5_same _ _ _ _ _ hx.box)) rfl
  ⟨oneN 6 u, D, cd, a4, wrap64 (o4 - 1), er4, wh4, rfl, R6.out.set5 (by omega) (by omega) _ _ _ _ _, fine_op (by decide), hx.fr.set5 (Nat.le_refl _) _ _ _ _ _, HP6.out.set5 (by have := hx.px; omega) _ _ _ _ _, HZ.out _ _ _ _ _ HZ4.out⟩
theorem una_negnum (p : Nat) (s : ByteArray) (a : Nat) (o : Int) (W : World) (h : PSt W p s a o 0 0) (hs : s.size ≤ 9223372036854775000) (Z : Nd → Nat → Int → Int → Nat → Prop) (n a' : Nat) (e1 : Int) (wh1 : Nat) (ha : a ≤ s.size) (ht : T s a = [45]) (hnum : isNum (T s (nxt s a)) = true)
  (hstar : T s (nxt s (nxt s a)) ≠ [42]) (hn : n ≤ 1000000000000)
  (c2 : ∀ W', PSt W' p s (nxt s a) o 0 0 → Calls Tryz.prog 159 #[.pointer (some ⟨p, 0, none⟩)] W' fun r W'' => r = .returned (.int .i64 n) ∧ PSt W'' p s a' o e1 wh1 ∧ Fr p W' W'')
  (hz : Z (intN (-n)) a' o e1 wh1) :
  Calls Tryz.prog 155 #[.pointer (some ⟨p, 0, none⟩)] W (Ret1 p s Z W) := by
 have HZ := Lib.hid hz
 have HC2 := Lib.hid c2
 clear hz c2
 have CX := Lib.hid (CarryX.start h)
 have HP := Lib.hid (h.alloc (.cells zero5 27))
 have ct := take_yes [45] p s a o 0 _ HP.out ha hs ht
 have ec : bs [45] = ⟨#[45]⟩ := rfl
 rw [ec] at ct
 have hb := (nxt_le ha).2
 generalize nxt s a = b at *
 have HQ := Lib.hid (fun (W' : World) (hp : PSt W' p s b o 0 0) => numeric_any p s b o 0 0 W' hp hb hs)
 rw [show nT s b 0 = T s b from if_pos rfl, hnum] at HQ
 have HS := Lib.hid (fun (W' : World) (hp : PSt W' p s b o 0 0) => starred_live p s b o 0 W' hp hb hs)
 rw [show (T s (nxt s b) == [42]) = false by simpa using hstar] at HS
 clear hstar
 have hneg : IntKind.i64.wrap (-(n : Int)) = -(n : Int) := IntWalk.i64_in _ (by omega)
 have HW := Lib.hid (show (Lit.int .i64 (-(n : Int))).wf = true from by have hw := wrap64_wf (-(n : Int)); rw [IntWalk.wrap64_in _ (by omega)] at hw; exact hw)
 clear h ec ht hnum
 go_enter Tryz.func155, Tryz.ntmps155
 go_wp2_with fail
 refine ct.mono ?_
 rintro e w1 ⟨rfl, h1, f1⟩
 have CX1 := Lib.hid (CX.out.step f1)
 have h1 := Lib.hid h1
 clear f1 ct
 go_wp2_with fail
 refine (HQ.out _ h1.out).mono ?_
 rintro e w2 ⟨rfl, b2⟩
 have CX1 := Lib.hid (CX1.out.step (Fr.of b2))
 have h1 := Lib.hid (h1.out.later b2)
 clear b2 HQ
 go_wp2_with fail
 refine (HS.out _ h1.out).mono ?_
 rintro e w3 ⟨rfl, b2⟩
 have CX1 := Lib.hid (CX1.out.step (Fr.of b2))
 have h1 := Lib.hid (h1.out.later b2)
 clear b2 HS
 go_wp2_with fail
 have c2 := HC2.out _ h1.out
 clear HC2 h1
 refine c2.mono ?_
 rintro e w4 ⟨rfl, h2, f2⟩
 have CX2 := Lib.hid (CX1.out.step f2)
 have HP2 := Lib.hid h2
 clear h2 f2 c2
 obtain ⟨z0, z1, z2, z3, z4, f0, f1, f2, f3, f4⟩ := box_facts CX2.out.box
 go_wp2_with fail
 have hx := CX2.out
 exact bodyPost_ret (res27 Tryz.results155 _ _ W.heap.size _ _ _ _ _ rfl (set5_same _ _ _ _ _ hx.box)) rfl
  ⟨intN (-n), none, 0, a', o, e1, wh1, rfl, rob_none _ _ _ _, fine_int _ HW.out, hx.fr.set5 (Nat.le_refl _) _ _ _ _ _, HP2.out.set5 (by have := hx.px; omega) _ _ _ _ _, HZ.out⟩
end Go.Proofs.YtgkjcimgghflmaaGreatDoor
namespace Go.Proofs.YtgkjcimgghflmaaGreatDoor
set_option maxRecDepth 100000
set_option maxHeartbeats 8000000
open Go.RowKit Go.Shelf
attribute [local go_sem] Oper.semAt_some
theorem fine_int' (n : Nat) (h : n ≤ 1000000000000) : Fine (intN n) := ⟨by show (ByteArray.mk #[]).size ≤ maxLen; decide, by show (Lit.int .i64 2).wf = true; decide, by show (Lit.int .i64 0).wf = true; decide, by
 have hw := wrap64_wf (n : Int)
 rw [IntWalk.wrap64_in _ (by omega)] at hw
 exact hw⟩
theorem una_num (p : Nat) (s : ByteArray) (a : Nat) (o : Int) (W : World) (h : PSt W p s a o 0 0) (hs : s.size ≤ 9223372036854775000) (Z : Nd → Nat → Int → Int → Nat → Prop) (n a' : Nat) (e1 : Int) (wh1 : Nat) (ha : a ≤ s.size) (ha' : a' ≤ s.size) (hnum : isNum (T s a) = true)
  (hn : n ≤ 1000000000000) (hno : nT s a' e1 ≠ [42])
  (c2 : ∀ W', PSt W' p s a o 0 0 → Calls Tryz.prog 159 #[.pointer (some ⟨p, 0, none⟩)] W' fun r W'' => r = .returned (.int .i64 n) ∧ PSt W'' p s a' o e1 wh1 ∧ Fr p W' W'')
  (hz : Z (intN n) a' o e1 wh1) :
  Calls Tryz.prog 155 #[.pointer (some ⟨p, 0, none⟩)] W (Ret1 p s Z W) := by
 have CX := Lib.hid (CarryX.start h)
 have HP := Lib.hid (h.alloc (.cells zero5 27))
 have HZ := Lib.hid hz
 have HC2 := Lib.hid c2
 have ct := take_no [45] p s a o 0 0 _ HP.out ha hs (by
  rw [show nT s a 0 = T s a from if_pos rfl]
  intro e
  rw [e] at hnum
  exact absurd hnum (by decide))
 have ec : bs [45] = ⟨#[45]⟩ := rfl
 rw [ec] at ct
 have cn := Lib.hid (fun (W' : World) (hb : Below (W.alloc (.cells zero5 27)).heap.size (W.alloc (.cells zero5 27)) W') => numeric_any p s a o 0 0 W' (HP.out.later hb) ha hs)
 rw [show nT s a 0 = T s a from if_pos rfl, hnum] at cn
 have HF := Lib.hid (fine_int' n hn)
 clear h c2 ec hnum hz
 go_enter Tryz.func155, Tryz.ntmps155
 go_wp2_with fail
 refine ct.mono ?_
 rintro e w1 ⟨rfl, b1⟩
 have cn := cn.out _ b1
 have B1 := Lib.hid b1
 clear b1 ct
 go_wp2_with fail
 refine cn.mono ?_
 rintro e w2 ⟨rfl, b2⟩
 have B2 := Lib.hid (B1.out.trans (b2.mono B1.out.size))
 have CX1 := Lib.hid (CX.out.step (Fr.of B2.out))
 have c2 := HC2.out _ (HP.out.later B2.out)
 clear b2 cn HC2
 go_wp2_with fail
 refine c2.mono ?_
 rintro e w3 ⟨rfl, h3, f3⟩
 have CX2 := Lib.hid (CX1.out.step f3)
 have HP3 := Lib.hid h3
 clear h3 f3 c2
 have ct2 := take_no [42] p s a' o e1 wh1 _ HP3.out ha' hs hno
 rw [show bs [42] = ⟨#[42]⟩ from rfl] at ct2
 clear hno
 go_wp2_with fail
 refine ct2.mono ?_
 rintro e w4 ⟨rfl, b4⟩
 have CX4 := Lib.hid (CX2.out.step (Fr.of b4))
 have HP4 := Lib.hid (HP3.out.later b4)
 clear b4 ct2
 obtain ⟨z0, z1, z2, z3, z4, f0, f1, f2, f3, f4⟩ := box_facts CX4.out.box
 go_wp2_with fail
 have hx := CX4.out
 exact bodyPost_ret (res27 Tryz.results155 _ _ W.heap.size _ _ _ _ _ rfl (set5_same _ _ _ _ _ hx.box)) rfl
  ⟨intN n, none, 0, a', o, e1, wh1, rfl, rob_none _ _ _ _, HF.out, hx.fr.set5 (Nat.le_refl _) _ _ _ _ _, HP4.out.set5 (by have := hx.px; omega) _ _ _ _ _, HZ.out⟩
theorem una_scale (p : Nat) (s : ByteArray) (a : Nat) (o : Int) (W : World) (h : PSt W p s a o 0 0) (hs : s.size ≤ 9223372036854775000) (Z3 Z : Nd → Nat → Int → Int → Nat → Prop) (n a' : Nat) (e1 : Int) (wh1 : Nat) (ha : a ≤ s.size) (ha' : a' ≤ s.size) (hnum : isNum (T s a) = true)
  (hn : n ≤ 1000000000000) (hst : T s a' = [42])
  (c2 : ∀ W', PSt W' p s a o 0 0 → Calls Tryz.prog 159 #[.pointer (some ⟨p, 0, none⟩)] W' fun r W'' => r = .returned (.int .i64 n) ∧ PSt W'' p s a' o 0 0 ∧ Fr p W' W'')
  (c4 : ∀ W', PSt W' p s (nxt s a') o 0 0 → Calls Tryz.prog 38 #[.pointer (some ⟨p, 0, none⟩)] W' fun r W'' => r = .returned (.tuple #[]) ∧ PSt W'' p s (nxt s a') (o + 1) e1 wh1 ∧ Fr p W' W'')
  (c3 : ∀ W', PSt W' p s (nxt s a') (o + 1) e1 wh1 → Calls Tryz.prog 155 #[.pointer (some ⟨p, 0, none⟩)] W' (Ret1 p s Z3 W'))
  (hz : ∀ u b o' er' wh', Z3 u b o' er' wh' → Z (.mk 7 0 noNm n [u]) b (wrap64 (o' - 1)) er' wh') :
  Calls Tryz.prog 155 #[.pointer (some ⟨p, 0, none⟩)] W (Ret1 p s Z W) := by
 have CX := Lib.hid (CarryX.start h)
 have HP := Lib.hid (h.alloc (.cells zero5 27))
 have HZ := Lib.hid hz
 have HC2 := Lib.hid c2
 have ct := take_no [45] p s a o 0 0 _ HP.out ha hs (by
  rw [show nT s a 0 = T s a from if_pos rfl]
  intro e
  rw [e] at hnum
  exact absurd hnum (by decide))
 have ec : bs [45] = ⟨#[45]⟩ := rfl
 rw [ec] at ct
 have cn := Lib.hid (fun (W' : World) (hb : Below (W.alloc (.cells zero5 27)).heap.size (W.alloc (.cells zero5 27)) W') => numeric_any p s a o 0 0 W' (HP.out.later hb) ha hs)
 rw [show nT s a 0 = T s a from if_pos rfl, hnum] at cn
 have HF := Lib.hid (fine_int' n hn)
 have HC3 := Lib.hid c3
 have HC4 := Lib.hid c4
 clear c3 c4
 clear h c2 ec hnum hz
 go_enter Tryz.func155, Tryz.ntmps155
 go_wp2_with fail
 refine ct.mono ?_
 rintro e w1 ⟨rfl, b1⟩
 have cn := cn.out _ b1
 have B1 := Lib.hid b1
 clear b1 ct
 go_wp2_with fail
 refine cn.mono ?_
 rintro e w2 ⟨rfl, b2⟩
 have B2 := Lib.hid (B1.out.trans (b2.mono B1.out.size))
 have CX1 := Lib.hid (CX.out.step (Fr.of B2.out))
 have c2 := HC2.out _ (HP.out.later B2.out)
 clear b2 cn HC2
 go_wp2_with fail
 refine c2.mono ?_
 rintro e w3 ⟨rfl, h3, f3⟩
 have CX2 := Lib.hid (CX1.out.step f3)
 have HP3 := Lib.hid h3
 clear h3 f3 c2
 have ct2 := take_yes [42] p s a' o 0 _ HP3.out ha' hs hst
 rw [show bs [42] = ⟨#[42]⟩ from rfl] at ct2
 clear hst
 go_wp2_with fail
 refine ct2.mono ?_
 rintro e w4 ⟨rfl, h4, f4⟩
 have CX1 := Lib.hid (CX2.out.step f4)
 clear CX2
 have c2 := HC4.out _ h4
 clear h4 f4 ct2 HC4
 go_wp2_with fail
 refine c2.mono ?_
 rintro e w2 ⟨rfl, h2, f2⟩
 have CX2 := Lib.hid (CX1.out.step f2)
 have c3 := HC3.out _ h2
 clear h2 f2 c2 HC3
 go_wp2_with fail
 refine c3.mono ?_
 rintro e w4 ⟨u, B, cb, a4, o4, er4, wh4, rfl, hr4, hf4, hfr4, hp4, hz4⟩
 have PU := hp4.alloc (boxN u B cb)
 have hpl : p < w4.heap.size := hp4.lt
 have hux : (w4.alloc (boxN u B cb)).heap[w4.heap.size]? = some (.cells #[.int .i64 u.op, .int .i64 u.so, .string u.nm, .int .i64 u.nu, .slice B u.ks.length cb] 27 (0, 0)) := World.alloc_heap_new w4 _
 have FS : Fr p w4 ((w4.alloc (boxN u B cb)).setCell ⟨p, 2, none⟩ (.int .i64 (wrap64 (o4 - 1)))) := (Fr.of ((Below.refl w4.heap.size w4).alloc (Nat.le_refl _) (boxN u B cb))).trans (Fr.set (w4.alloc (boxN u B cb)) 2 (.int .i64 (wrap64 (o4 - 1))))
 have hxw : W.heap.size < w2.heap.size := Nat.lt_of_le_of_lt (Nat.le_of_eq CX2.out.xs) (Array.getElem?_eq_some_iff.1 CX2.out.box).1
 have CX5 := Lib.hid ((CX2.out.step hfr4).step FS)
 have UB := Lib.hid ((Fr.set (w4.alloc (boxN u B cb)) 2 (.int .i64 (wrap64 (o4 - 1)))).at (x := w4.heap.size) hux (Nat.ne_of_gt hpl))
 have UR := Lib.hid ((hr4.fr FS (Nat.lt_trans CX2.out.px hxw)).low (Nat.succ_le_of_lt hxw))
 have HF4 := Lib.hid hf4
 have HPU := Lib.hid (PU.set2 (wrap64 (o4 - 1)))
 have HZ4 := Lib.hid hz4
 obtain ⟨q0, q1, q2, q3, q4, g1, g2, g3, g4⟩ := PU.cells
 clear PU hz4 c3 hr4 hf4 hfr4 hp4 hpl hux FS hxw
 go_upto_region 17 with fail
 clear q0 q1 q2 q3 q4 g1 g2 g3 g4
 generalize ((w4.alloc (boxN u B cb)).setCell ⟨p, 2, none⟩ (.int .i64 (wrap64 (o4 - 1)))) = w5 at *
 generalize w4.heap.size = ub at *
 have hx := CX5.out
 have c5 := one_row 7 (W.heap.size + 1) u B cb w5 UR.out HF4.out (Array.getElem?_eq_some_iff.1 hx.box).1
 obtain ⟨u0, u1, u2, u3, u4, _, _, _, _, _⟩ := box_facts UB.out
 clear hx UB UR HF4
 go_wp2_with fail
 refine c5.mono ?_
 rintro e w6 ⟨D, cd, rfl, r6, b6⟩
 have FA : Fr p w6 (w6.alloc (.cells #[.int .i64 7, .int .i64 0, .string noNm, .int .i64 n, .slice D 1 cd] 27)) := Fr.of ((Below.refl _ _).alloc (Nat.le_refl _) _)
 have CX6 := Lib.hid ((CX5.out.step (Fr.of b6)).step FA)
 have HP6 := Lib.hid ((HPU.out.later b6).alloc (.cells #[.int .i64 7, .int .i64 0, .string noNm, .int .i64 n, .slice D 1 cd] 27))
 have R6 := Lib.hid (r6.later ((Below.refl w6.heap.size w6).alloc (Nat.le_refl _) (.cells #[.int .i64 7, .int .i64 0, .string noNm, .int .i64 n, .slice D 1 cd] 27)))
 have HF6 := Lib.hid (show Fine (.mk 7 0 noNm n [u]) from ⟨by show (ByteArray.mk #[]).size ≤ maxLen; decide, by show (Lit.int .i64 7).wf = true; decide, by show (Lit.int .i64 0).wf = true; decide, HF.out.nu⟩)
 obtain ⟨z0, z1, z2, z3, z4, f0, f1, f2, f3, f4⟩ := box_facts CX6.out.box
 clear b6 r6 c5 FA
 go_wp2_with fail
 have hx := CX6.out
 exact bodyPost_ret (res27 Tryz.results155 _ _ W.heap.size _ _ _ _ _ rfl (set5_same _ _ _ _ _ hx.box)) rfl
  ⟨.mk 7 0 noNm n [u], D, cd, a4, wrap64 (o4 - 1), er4, wh4, rfl, R6.out.set5 (by omega) (by omega) _ _ _ _ _, HF6.out, hx.fr.set5 (Nat.le_refl _) _ _ _ _ _, HP6.out.set5 (by have := hx.px; omega) _ _ _ _ _, HZ.out _ _ _ _ _ HZ4.out⟩
end Go.Proofs.YtgkjcimgghflmaaGreatDoor
namespace Go.Proofs.YtgkjcimgghflmaaGreatDoor
set_option maxRecDepth 100000
set_option maxHeartbeats 8000000
open Go.RowKit Go.Shelf
theorem pre_live {s : ByteArray} {a b0 o f : Nat} {nt : NT} {g : Nd → Nd} {u : Nd} {b : Nat} {o' er' : Int} {wh' : Nat} (hb : a ≤ b0) (hl : ¬ 90 < o + 1) (h3 : ZR s b0 (o + 1) (PA s f nt (o + 1) b0) u b o' er' wh') :
  ZR s a o (opn (o + 1) ((PA s f nt (o + 1) b0).bind fun k a2 => .ok (g k) a2)) (g u) b (wrap64 (o' - 1)) er' wh' := by
 obtain ⟨k1, k2, k3⟩ := h3
 refine ⟨by omega, k2, ?_⟩
 rw [opn, if_neg hl]
 cases hq2 : PA s f nt (o + 1) b0 with
 | out => rw [hq2] at k3; exact k3.elim
 | err e w => rw [hq2] at k3; exact k3
 | ok r a2 =>
  rw [hq2] at k3
  obtain ⟨rfl, rfl, rfl, rfl, rfl⟩ := k3
  exact ⟨rfl, rfl, wrap_back o (by omega), rfl, rfl⟩
theorem pre_lim {s : ByteArray} {a b0 o : Nat} {r : PR} {t : Nd} {b : Nat} {o' o2 er' : Int} {wh' : Nat} {u : Nd} (hb : a ≤ b0) (h2 : b0 ≤ s.size) (hl : 90 < o + 1) (h3 : ZD b0 (o + 1) 2 0 u b o2 er' wh') :
  ZR s a o (opn (o + 1) r) t b o' er' wh' := by
 obtain ⟨rfl, rfl, rfl, rfl⟩ := h3
 refine ⟨by omega, h2, ?_⟩
 rw [opn, if_pos hl]
 exact ⟨rfl, rfl, by decide⟩
theorem una_step (s : ByteArray) (hs : s.size ≤ 9223372036854775000) (f : Nat) (hi : LiveOk s f .prim 160) (hr : LiveOk s f .una 155) : LiveOk s (f + 1) .una 155 := by
 intro p o a W h ha ho hf
 rw [PA]
 by_cases ht : T s a = [45]
 ·rw [if_pos ht]
  obtain ⟨n1, n2⟩ := nxt_lt ha ht (by decide)
  have hle : a ≤ nxt s a := by omega
  by_cases hc : isNum (T s (nxt s a)) = true ∧ T s (nxt s (nxt s a)) ≠ [42]
  ·rw [if_pos hc, number]
   have n3 := nxt_lt n2 rfl (isNum_ne hc.1)
   by_cases h13 : 13 < (T s (nxt s a)).length
   ·rw [if_pos h13]
    exact una_negnum p s a o W h hs _ 0 (nxt s a) 20 (nxt s a) ha ht hc.1 hc.2 (by decide) (fun W' hp => number_long p s _ o 0 W' hp n2 hs h13) ⟨hle, n2, rfl, rfl, by decide⟩
   ·rw [if_neg h13]
    by_cases hV : 1000000000000 < numV (T s (nxt s a))
    ·rw [if_pos hV]
     exact una_negnum p s a o W h hs _ 0 (nxt s a) 20 (nxt s a) ha ht hc.1 hc.2 (by decide) (fun W' hp => number_big p s _ o 0 W' hp n2 hs hc.1 h13 hV) ⟨hle, n2, rfl, rfl, by decide⟩
    ·rw [if_neg hV]
     exact una_negnum p s a o W h hs _ (numV (T s (nxt s a))) (nxt s (nxt s a)) 0 0 ha ht hc.1 hc.2 (by omega) (fun W' hp => number_ok p s _ o 0 W' hp n2 hs hc.1 h13 hV) ⟨by omega, n3.2, rfl, rfl, rfl, rfl, rfl⟩
  ·rw [if_neg hc]
   have hf2 : 32 * (s.size - nxt s a) + rank .una < f := by simp [rank] at hf ⊢; omega
   cases hnum : isNum (T s (nxt s a)) with
   | false =>
    by_cases hl : 90 < o + 1
    ·exact una_neg1 p s a o W h hs (ZD (nxt s a) (o + 1) 2 0) _ 2 0 ha ht hnum (fun W' hp => open_lim p s _ o 0 W' hp (by omega) (by omega)) (fun W' hp => dead_unary.ret hp n2 hs (by decide)) fun u b o' er' wh' hz => pre_lim hle n2 hl hz
    ·exact una_neg1 p s a o W h hs (ZR s (nxt s a) (o + 1) (PA s f .una (o + 1) (nxt s a))) _ 0 0 ha ht hnum (fun W' hp => open_live p s _ o 0 W' hp (by omega) (by omega)) (fun W' hp => hr p (o + 1) (nxt s a) W' hp n2 (by omega) hf2) fun u b o' er' wh' hz => pre_live (g := oneN 6) hle hl hz
   | true =>
    have hst : T s (nxt s (nxt s a)) = [42] := Classical.byContradiction fun e => hc ⟨hnum, e⟩
    by_cases hl : 90 < o + 1
    ·exact una_neg2 p s a o W h hs (ZD (nxt s a) (o + 1) 2 0) _ 2 0 ha ht hnum hst (fun W' hp => open_lim p s _ o 0 W' hp (by omega) (by omega)) (fun W' hp => dead_unary.ret hp n2 hs (by decide)) fun u b o' er' wh' hz => pre_lim hle n2 hl hz
    ·exact una_neg2 p s a o W h hs (ZR s (nxt s a) (o + 1) (PA s f .una (o + 1) (nxt s a))) _ 0 0 ha ht hnum hst (fun W' hp => open_live p s _ o 0 W' hp (by omega) (by omega)) (fun W' hp => hr p (o + 1) (nxt s a) W' hp n2 (by omega) hf2) fun u b o' er' wh' hz => pre_live (g := oneN 6) hle hl hz
 ·rw [if_neg ht]
  cases hnum : isNum (T s a) with
  | false =>
   rw [if_neg (by decide)]
   have hf1 : 32 * (s.size - a) + rank .prim < f := by simp [rank] at hf ⊢; omega
   exact una_prim p s a o 0 0 W h hs _ ha (by simpa [nT] using ht) (by rw [show nT s a 0 = T s a from if_pos rfl]; exact hnum) fun W' hp => hi p o a W' hp ha ho hf1
  | true =>
   rw [if_pos rfl, number]
   have n3 := nxt_lt ha rfl (isNum_ne hnum)
   by_cases h13 : 13 < (T s a).length
   ·rw [if_pos h13]
    exact una_num p s a o W h hs _ 0 a 20 a ha ha hnum (by decide) (by rw [nT_dead (by decide)]; decide) (fun W' hp => number_long p s _ o 0 W' hp ha hs h13) ⟨Nat.le_refl _, ha, rfl, rfl, by decide⟩
   ·rw [if_neg h13]
    by_cases hV : 1000000000000 < numV (T s a)
    ·rw [if_pos hV]
     exact una_num p s a o W h hs _ 0 a 20 a ha ha hnum (by decide) (by rw [nT_dead (by decide)]; decide) (fun W' hp => number_big p s _ o 0 W' hp ha hs hnum h13 hV) ⟨Nat.le_refl _, ha, rfl, rfl, by decide⟩
    ·rw [if_neg hV]
     by_cases hst : T s (nxt s a) = [42]
     ·rw [if_pos hst]
      obtain ⟨m1, m2⟩ := nxt_lt n3.2 hst (by decide)
      have hle : a ≤ nxt s (nxt s a) := by omega
      by_cases hl : 90 < o + 1
      ·exact una_scale p s a o W h hs (ZD (nxt s (nxt s a)) (o + 1) 2 0) _ (numV (T s a)) (nxt s a) 2 0 ha n3.2 hnum (by omega) hst (fun W' hp => number_ok p s _ o 0 W' hp ha hs hnum h13 hV) (fun W' hp => open_lim p s _ o 0 W' hp (by omega) (by omega)) (fun W' hp => dead_unary.ret hp m2 hs (by decide)) fun u b o' er' wh' hz => pre_lim hle m2 hl hz
      ·have hf2 : 32 * (s.size - nxt s (nxt s a)) + rank .una < f := by simp [rank] at hf ⊢; omega
       exact una_scale p s a o W h hs (ZR s (nxt s (nxt s a)) (o + 1) (PA s f .una (o + 1) (nxt s (nxt s a)))) _ (numV (T s a)) (nxt s a) 0 0 ha n3.2 hnum (by omega) hst (fun W' hp => number_ok p s _ o 0 W' hp ha hs hnum h13 hV) (fun W' hp => open_live p s _ o 0 W' hp (by omega) (by omega)) (fun W' hp => hr p (o + 1) (nxt s (nxt s a)) W' hp m2 (by omega) hf2) fun u b o' er' wh' hz => pre_live (g := fun k => .mk 7 0 noNm (numV (T s a)) [k]) hle hl hz
     ·rw [if_neg hst]
      exact una_num p s a o W h hs _ (numV (T s a)) (nxt s a) 0 0 ha n3.2 hnum (by omega) (by simpa [nT] using hst) (fun W' hp => number_ok p s _ o 0 W' hp ha hs hnum h13 hV) ⟨by omega, n3.2, rfl, rfl, rfl, rfl, rfl⟩
end Go.Proofs.YtgkjcimgghflmaaGreatDoor
