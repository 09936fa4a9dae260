/-
  The phrase cmp of the document's own parser answers as the grammar says, when those within do; conditions: the text is no longer than a string can be.
-/
import Derived.Test.YtgkjcimgghflmaaGreatDoorZRl4
namespace Go.Proofs.YtgkjcimgghflmaaGreatDoor
set_option maxRecDepth 100000
set_option maxHeartbeats 8000000
open Go.RowKit Go.Shelf
attribute [local go_sem] Oper.semAt_some
def sumOp (t : List UInt8) (op : Int) : Prop := (t = [45] ∧ op = 5) ∨ (t = [43] ∧ op = 4)
theorem sum_loop (p : Nat) (s : ByteArray) (a : Nat) (o e : Int) (wh : Nat) (W : World) (h : PSt W p s a o e wh) (hs : s.size ≤ 9223372036854775000) (Z1 J Z : Nd → Nat → Int → Int → Nat → Prop) (Z3 : Nd → Nat → Int → Nd → Nat → Int → Int → Nat → Prop)
  (c1 : Calls Tryz.prog 155 #[.pointer (some ⟨p, 0, none⟩)] (W.alloc (.cells zero5 27)) (Ret1 p s Z1 (W.alloc (.cells zero5 27))))
  (h1 : ∀ t a o er wh, Z1 t a o er wh → J t a o er wh)
  (hJ : ∀ t a o er wh, J t a o er wh → a ≤ s.size)
  (c3 : ∀ op t a o wh W', J t a o 0 wh → sumOp (T s a) op → PSt W' p s (nxt s a) o 0 wh → Calls Tryz.prog 155 #[.pointer (some ⟨p, 0, none⟩)] W' (Ret1 p s (Z3 t a op) W'))
  (h3 : ∀ op t a o wh u b o' er' wh', J t a o 0 wh → sumOp (T s a) op → Z3 t a op u b o' er' wh' → a < b ∧ J (twoN op t u) b o' er' wh')
  (hz : ∀ t a o er wh, J t a o er wh → (er = 0 → T s a ≠ [45] ∧ T s a ≠ [43]) → Z t a o er wh) :
  Calls Tryz.prog 150 #[.pointer (some ⟨p, 0, none⟩)] W (Ret1 p s Z W) := by
 have H := Lib.hid h
 have H1 := Lib.hid h1
 have HJ := Lib.hid hJ
 have H3 := Lib.hid h3
 have HZ := Lib.hid hz
 have HC3 := Lib.hid c3
 clear h h1 hJ h3 hz c3
 go_enter Tryz.func150, Tryz.ntmps150
 go_wp2_with fail
 refine c1.mono ?_
 rintro e w1 ⟨t, A, cap, a1, o1, er, wh1, rfl, hr, hf, hfr, hp1, hz1⟩
 have CA := Lib.hid (CarryL.start H.out hr hf hfr)
 have HP := Lib.hid (hp1.alloc (boxN t A cap))
 have HJ1 := Lib.hid (H1.out _ _ _ _ _ hz1)
 clear hr hf hfr hp1 hz1 c1
 go_wp2_with fail
 generalize w1.heap.size = l at *
 go_loopw [12] (fun _ wr => ∃ t A cap a o er wh, Hid (CarryL p s W W.heap.size l t A cap wr) ∧ Hid (PSt wr p s a o er wh) ∧ Hid (J t a o er wh)) (fun _ wr => s.size - atOf p wr)
 case atStart => exact ⟨t, A, cap, a1, o1, er, wh1, CA, HP, HJ1⟩
 case round =>
  obtain ⟨t, A, cap, a, o, er, wh, CA, HP, HJ1⟩ := hrel
  have ha := HJ.out _ _ _ _ _ HJ1.out
  by_cases he : ¬ er = 0
  ·have HZ2 := Lib.hid (HZ.out _ _ _ _ _ HJ1.out (fun e => absurd e he))
   have hne : (er == 0) = false := by simpa using he
   obtain ⟨q0, q1, q2, q3, q4, g1, g2, g3, g4⟩ := HP.out.cells
   have CA2 := CA
   have HP2 := HP
   clear HJ1 HZ he
   obtain ⟨z0, z1, z2, z3, z4, f0, f1, f2, f3, f4⟩ := box_facts CA2.out.box
   obtain ⟨l0, l1, l2, l3, l4, _, _, _, _, _⟩ := box_facts CA2.out.lbox
   go_wp2_with fail
   have hx := CA2.out
   exact bodyPost_ret (res27 Tryz.results150 _ _ W.heap.size _ _ _ _ _ rfl (set5_same _ _ _ _ _ hx.box)) rfl
    ⟨t, A, cap, a, o, er, wh, rfl, hx.rob.weak.set5 (by omega) (by omega) _ _ _ _ _, hx.fine, hx.fr.set5 (Nat.le_refl _) _ _ _ _ _, HP2.out.set5 (by have := hx.px; omega) _ _ _ _ _, HZ2.out⟩
  obtain rfl : er = 0 := Classical.byContradiction he
  clear he
  by_cases ht : T s a = [45]
  ·clear HZ
   have cn := Lib.hid (fun (W' : World) (hb : Below wr.heap.size wr W') => next_any p s a o 0 wh W' (HP.out.later hb) ha hs)
   have e1 : nT s a 0 = [45] := by simp [nT, ht]
   rw [e1, show bs [45] = ⟨#[45]⟩ from rfl] at cn
   have cp := Lib.hid (fun (W' : World) (hb : Below wr.heap.size wr W') => pass_live p s a o wh W' (HP.out.later hb) ha hs)
   have HT := Lib.hid (show sumOp (T s a) 5 from .inl ⟨ht, rfl⟩)
   obtain ⟨q0, q1, q2, q3, q4, g1, g2, g3, g4⟩ := HP.out.cells
   clear e1 ht
   go_wp2_with fail
   refine (cn.out _ (Below.refl _ _)).mono ?_
   rintro e w2 ⟨rfl, b2⟩
   have B2 := Lib.hid b2
   clear b2 q0 q1 q2 q3 q4 g1 g2 g3 g4
   go_wp2_with fail
   refine (cp.out _ B2.out).mono ?_
   rintro e w3 ⟨rfl, h3, f3⟩
   have CA2 := Lib.hid (CA.out.step ((Fr.of B2.out).trans f3))
   have c3 := HC3.out _ _ _ _ _ _ HJ1.out HT.out h3
   clear h3 f3 cp cn B2
   go_wp2_with fail
   refine c3.mono ?_
   rintro e w4 ⟨u, B, cb, a4, o4, er4, wh4, rfl, hr4, hf4, hfr4, hp4, hz4⟩
   have hux : (w4.alloc (boxN u B cb)).heap[w4.heap.size]? = some (.cells #[.int .i64 u.op, .int .i64 u.so, .string u.nm, .int .i64 u.nu, .slice B u.ks.length cb] 27 (0, 0)) := World.alloc_heap_new w4 _
   have FS : Fr p w4 (w4.alloc (boxN u B cb)) := Fr.of ((Below.refl w4.heap.size w4).alloc (Nat.le_refl _) (boxN u B cb))
   have CA5 := Lib.hid ((CA2.out.step hfr4).step FS)
   have hlw : l < w3.heap.size := (Array.getElem?_eq_some_iff.1 CA2.out.lbox).1
   have UB := Lib.hid hux
   have UR := Lib.hid ((hr4.fr FS (Nat.lt_trans (Nat.lt_trans CA2.out.px CA2.out.xl) hlw)).except hlw (Nat.le_trans (Nat.succ_le_of_lt CA2.out.xl) (Nat.le_of_lt hlw)) : Rob (W.heap.size + 1) _ (some l) B cb u.ks)
   have HF4 := Lib.hid hf4
   have HPU := Lib.hid (hp4.alloc (boxN u B cb))
   have HZ4 := Lib.hid (H3.out _ _ _ _ _ _ _ _ _ _ HJ1.out HT.out hz4)
   clear hz4 c3 HT HC3 H3 hr4 hf4 hfr4 hp4 hux FS hlw
   go_upto_region 9 with fail
   generalize w4.alloc (boxN u B cb) = w5 at *
   generalize w4.heap.size = ub at *
   have hx := CA5.out
   have c5 := two_row 5 (W.heap.size + 1) l t u A B cap cb w5 hx.rob UR.out hx.fine HF4.out (by have := (Array.getElem?_eq_some_iff.1 hx.box).1; omega) (Array.getElem?_eq_some_iff.1 hx.lbox).1
   obtain ⟨l0, l1, l2, l3, l4, _, _, _, _, _⟩ := box_facts hx.lbox
   obtain ⟨u0, u1, u2, u3, u4, _, _, _, _, _⟩ := box_facts UB.out
   clear hx UB UR HF4
   go_wp2_with fail
   refine c5.mono ?_
   rintro e w6 ⟨D, cd, rfl, r6, b6⟩
   have CA6 := Lib.hid (CA5.out.step (Fr.of b6))
   have HP6 := Lib.hid (HPU.out.later b6)
   have R6 := Lib.hid r6
   obtain ⟨z0, z1, z2, z3, z4, f0, f1, f2, f3, f4⟩ := box_facts CA6.out.lbox
   clear b6 r6 c5
   go_wp2_with fail
   have hx := CA6.out
   have hp := HP6.out.set5 (x := l) (by have := hx.px; have := hx.xl; omega) (.int .i64 5) (.int .i64 0) (.string noNm) (.int .i64 0) (.slice D 2 cd)
   refine ⟨⟨twoN 5 t u, D, cd, a4, o4, er4, wh4, Lib.hid (hx.join R6.out (fine_op (by decide))), Lib.hid hp, Lib.hid HZ4.out.2⟩, ?_⟩
   have e1 := HP.out.atOf
   have e2 := hp.atOf
   have := HZ4.out.1
   have := HJ.out _ _ _ _ _ HZ4.out.2
   exact Nat.lt_of_le_of_lt (Nat.le_of_eq (congrArg (s.size - ·) e2)) (by rw [e1]; omega)
  by_cases ht2 : T s a = [43]
  ·clear HZ ht
   have ht := ht2
   clear ht2
   have cn := Lib.hid (fun (W' : World) (hb : Below wr.heap.size wr W') => next_any p s a o 0 wh W' (HP.out.later hb) ha hs)
   have e1 : nT s a 0 = [43] := by simp [nT, ht]
   rw [e1, show bs [43] = ⟨#[43]⟩ from rfl] at cn
   have cp := Lib.hid (fun (W' : World) (hb : Below wr.heap.size wr W') => pass_live p s a o wh W' (HP.out.later hb) ha hs)
   have HT := Lib.hid (show sumOp (T s a) 4 from .inr ⟨ht, rfl⟩)
   obtain ⟨q0, q1, q2, q3, q4, g1, g2, g3, g4⟩ := HP.out.cells
   clear e1 ht
   go_wp2_with fail
   refine (cn.out _ (Below.refl _ _)).mono ?_
   rintro e w2 ⟨rfl, b2⟩
   have B2 := Lib.hid b2
   clear b2 q0 q1 q2 q3 q4 g1 g2 g3 g4
   go_wp2_with fail
   refine (cn.out _ B2.out).mono ?_
   rintro e w2' ⟨rfl, b2⟩
   have B2 := Lib.hid (B2.out.trans (b2.mono B2.out.size))
   clear b2
   go_wp2_with fail
   refine (cp.out _ B2.out).mono ?_
   rintro e w3 ⟨rfl, h3, f3⟩
   have CA2 := Lib.hid (CA.out.step ((Fr.of B2.out).trans f3))
   have c3 := HC3.out _ _ _ _ _ _ HJ1.out HT.out h3
   clear h3 f3 cp cn B2
   go_wp2_with fail
   refine c3.mono ?_
   rintro e w4 ⟨u, B, cb, a4, o4, er4, wh4, rfl, hr4, hf4, hfr4, hp4, hz4⟩
   have hux : (w4.alloc (boxN u B cb)).heap[w4.heap.size]? = some (.cells #[.int .i64 u.op, .int .i64 u.so, .string u.nm, .int .i64 u.nu, .slice B u.ks.length cb] 27 (0, 0)) := World.alloc_heap_new w4 _
   have FS : Fr p w4 (w4.alloc (boxN u B cb)) := Fr.of ((Below.refl w4.heap.size w4).alloc (Nat.le_refl _) (boxN u B cb))
   have CA5 := Lib.hid ((CA2.out.step hfr4).step FS)
   have hlw : l < w3.heap.size := (Array.getElem?_eq_some_iff.1 CA2.out.lbox).1
   have UB := Lib.hid hux
   have UR := Lib.hid ((hr4.fr FS (Nat.lt_trans (Nat.lt_trans CA2.out.px CA2.out.xl) hlw)).except hlw (Nat.le_trans (Nat.succ_le_of_lt CA2.out.xl) (Nat.le_of_lt hlw)) : Rob (W.heap.size + 1) _ (some l) B cb u.ks)
   have HF4 := Lib.hid hf4
   have HPU := Lib.hid (hp4.alloc (boxN u B cb))
   have HZ4 := Lib.hid (H3.out _ _ _ _ _ _ _ _ _ _ HJ1.out HT.out hz4)
   clear hz4 c3 HT HC3 H3 hr4 hf4 hfr4 hp4 hux FS hlw
   go_upto_region 9 with fail
   generalize w4.alloc (boxN u B cb) = w5 at *
   generalize w4.heap.size = ub at *
   have hx := CA5.out
   have c5 := two_row 4 (W.heap.size + 1) l t u A B cap cb w5 hx.rob UR.out hx.fine HF4.out (by have := (Array.getElem?_eq_some_iff.1 hx.box).1; omega) (Array.getElem?_eq_some_iff.1 hx.lbox).1
   obtain ⟨l0, l1, l2, l3, l4, _, _, _, _, _⟩ := box_facts hx.lbox
   obtain ⟨u0, u1, u2, u3, u4, _, _, _, _, _⟩ := box_facts UB.out
   clear hx UB UR HF4
   go_wp2_with fail
   refine c5.mono ?_
   rintro e w6 ⟨D, cd, rfl, r6, b6⟩
   have CA6 := Lib.hid (CA5.out.step (Fr.of b6))
   have HP6 := Lib.hid (HPU.out.later b6)
   have R6 := Lib.hid r6
   obtain ⟨z0, z1, z2, z3, z4, f0, f1, f2, f3, f4⟩ := box_facts CA6.out.lbox
   clear b6 r6 c5
   go_wp2_with fail
   have hx := CA6.out
   have hp := HP6.out.set5 (x := l) (by have := hx.px; have := hx.xl; omega) (.int .i64 4) (.int .i64 0) (.string noNm) (.int .i64 0) (.slice D 2 cd)
   refine ⟨⟨twoN 4 t u, D, cd, a4, o4, er4, wh4, Lib.hid (hx.join R6.out (fine_op (by decide))), Lib.hid hp, Lib.hid HZ4.out.2⟩, ?_⟩
   have e1 := HP.out.atOf
   have e2 := hp.atOf
   have := HZ4.out.1
   have := HJ.out _ _ _ _ _ HZ4.out.2
   exact Nat.lt_of_le_of_lt (Nat.le_of_eq (congrArg (s.size - ·) e2)) (by rw [e1]; omega)
  ·have HZ2 := Lib.hid (HZ.out _ _ _ _ _ HJ1.out (fun _ => ⟨ht, ht2⟩))
   have cn := Lib.hid (fun (W' : World) (hb : Below wr.heap.size wr W') => next_any p s a o 0 wh W' (HP.out.later hb) ha hs)
   have hq1 : ((bs (nT s a 0)).toList == [45]) = false := by rw [bs_toList]; simpa [nT] using ht
   have hq2 : ((bs (nT s a 0)).toList == [43]) = false := by rw [bs_toList]; simpa [nT] using ht2
   generalize bs (nT s a 0) = st at *
   obtain ⟨q0, q1, q2, q3, q4, g1, g2, g3, g4⟩ := HP.out.cells
   clear HJ1 HZ ht ht2
   go_wp2_with fail
   refine (cn.out _ (Below.refl _ _)).mono ?_
   rintro e w2 ⟨rfl, b2⟩
   have B2 := Lib.hid b2
   clear b2 q0 q1 q2 q3 q4 g1 g2 g3 g4
   go_wp2_with fail
   refine (cn.out _ B2.out).mono ?_
   rintro e w2' ⟨rfl, b2⟩
   have B2 := Lib.hid (B2.out.trans (b2.mono B2.out.size))
   clear b2
   have CA2 := Lib.hid (CA.out.step (Fr.of B2.out))
   have HP2 := Lib.hid (HP.out.later B2.out)
   obtain ⟨z0, z1, z2, z3, z4, f0, f1, f2, f3, f4⟩ := box_facts CA2.out.box
   obtain ⟨l0, l1, l2, l3, l4, _, _, _, _, _⟩ := box_facts CA2.out.lbox
   go_wp2_with fail
   have hx := CA2.out
   exact bodyPost_ret (res27 Tryz.results150 _ _ W.heap.size _ _ _ _ _ rfl (set5_same _ _ _ _ _ hx.box)) rfl
    ⟨t, A, cap, a, o, 0, wh, rfl, hx.rob.weak.set5 (by omega) (by omega) _ _ _ _ _, hx.fine, hx.fr.set5 (Nat.le_refl _) _ _ _ _ _, HP2.out.set5 (by have := hx.px; omega) _ _ _ _ _, HZ2.out⟩
end Go.Proofs.YtgkjcimgghflmaaGreatDoor
namespace Go.Proofs.YtgkjcimgghflmaaGreatDoor
set_option maxRecDepth 100000
set_option maxHeartbeats 8000000
open Go.RowKit Go.Shelf
def Jsum (s : ByteArray) (a o f : Nat) (R : PR) (t : Nd) (b : Nat) (o' er : Int) (wh : Nat) : Prop :=
 a ≤ b ∧ b ≤ s.size ∧ ((er ≠ 0 ∧ R = .err er wh) ∨ (er = 0 ∧ o' = o ∧ wh = 0 ∧ ∃ g, g < f ∧ 32 * (s.size - b) + 7 ≤ g ∧ R = PA s (g + 1) (.sumL t) o b))
theorem sumL_yes {s : ByteArray} {g o b : Nat} {t : Nd} {op : Int} (h : sumOp (T s b) op) :
  PA s (g + 1) (.sumL t) o b = (PA s g .una o (nxt s b)).bind fun r a1 => PA s g (.sumL (twoN op t r)) o a1 := by
 rw [PA]
 rcases h with ⟨ht, rfl⟩ | ⟨ht, rfl⟩
 ·rw [if_pos ht]
 ·rw [if_neg (by rw [ht]; decide), if_pos ht]
theorem sumOp_ne {t : List UInt8} {op : Int} (h : sumOp t op) : t ≠ [] := by
 rcases h with ⟨ht, _⟩ | ⟨ht, _⟩ <;> rw [ht] <;> decide
theorem sum_step (s : ByteArray) (hs : s.size ≤ 9223372036854775000) (f : Nat) (hi : ∀ g, g ≤ f → LiveOk s g .una 155) : LiveOk s (f + 1) .sum 150 := by
 intro p o a W h ha ho hf
 have hf1 : 32 * (s.size - a) + rank .una < f := by simp [rank] at hf ⊢; omega
 have c1 := hi f (Nat.le_refl _) p o a _ (h.alloc (.cells zero5 27)) ha ho hf1
 have hen := enough s f .una o a ha hf1
 generalize hR : PA s (f + 1) .sum o a = R
 rw [PA] at hR
 refine sum_loop p s a o 0 0 W h hs _ (Jsum s a o f R) (ZR s a o R) (fun t b op u b' o' er' wh' => b < b' ∧ Jsum s a o f R (twoN op t u) b' o' er' wh') c1 ?_ (fun t b o' er wh hj => hj.2.1) ?_ (fun op t b o' wh u b' o2 er2 wh2 _ _ hz => hz) ?_
 ·rintro t b o' er wh ⟨k1, k2, k3⟩
  refine ⟨k1, k2, ?_⟩
  cases hq : PA s f .una o a with
  | out => rw [hq] at hen; exact hen.elim
  | err e w =>
   rw [hq] at k3 hR
   obtain ⟨rfl, rfl, k5⟩ := k3
   exact .inl ⟨k5, hR.symm⟩
  | ok l a1 =>
   rw [hq] at k3 hR hen
   obtain ⟨rfl, rfl, rfl, rfl, rfl⟩ := k3
   have g2 := hen.2.1 rfl
   obtain ⟨g, rfl⟩ : ∃ g, f = g + 1 := ⟨f - 1, by omega⟩
   exact .inr ⟨rfl, rfl, rfl, g, by omega, by simp [rank] at hf; omega, hR.symm⟩
 ·rintro op t b o' wh W' ⟨k1, k2, k3⟩ ht hp
  rcases k3 with ⟨hne, _⟩ | ⟨_, rfl, rfl, g, hg, hfu, hRg⟩
  ·exact absurd rfl hne
  obtain ⟨n1, n2⟩ := nxt_lt k2 rfl (sumOp_ne ht)
  have hf2 : 32 * (s.size - nxt s b) + rank .una < g := by simp [rank]; omega
  have hen2 := enough s g .una o _ n2 hf2
  rw [sumL_yes ht] at hRg
  refine (hi g (by omega) p o (nxt s b) W' hp n2 ho hf2).mono fun r W2 hr => hr.imp ?_
  rintro u b' o2 er2 wh2 ⟨m1, m2, m3⟩
  refine ⟨by omega, by omega, m2, ?_⟩
  cases hq : PA s g .una o (nxt s b) with
  | out => rw [hq] at hen2; exact hen2.elim
  | err e w =>
   rw [hq] at m3 hRg
   obtain ⟨rfl, rfl, k5⟩ := m3
   exact .inl ⟨k5, hRg⟩
  | ok l a1 =>
   rw [hq] at m3 hRg
   obtain ⟨rfl, rfl, rfl, rfl, rfl⟩ := m3
   obtain ⟨g', rfl⟩ : ∃ g', g = g' + 1 := ⟨g - 1, by omega⟩
   exact .inr ⟨rfl, rfl, rfl, g', by omega, by omega, hRg⟩
 ·rintro t b o' er wh ⟨k1, k2, k3⟩ hno
  refine ⟨k1, k2, ?_⟩
  rcases k3 with ⟨hne, hRe⟩ | ⟨rfl, rfl, rfl, g, hg, hfu, hRg⟩
  ·rw [hRe]
   exact ⟨rfl, rfl, hne⟩
  ·rw [PA, if_neg (hno rfl).1, if_neg (hno rfl).2] at hRg
   rw [hRg]
   exact ⟨rfl, rfl, rfl, rfl, rfl⟩
end Go.Proofs.YtgkjcimgghflmaaGreatDoor
namespace Go.Proofs.YtgkjcimgghflmaaGreatDoor
set_option maxRecDepth 100000
set_option maxHeartbeats 8000000
open Go.RowKit Go.Shelf
attribute [local go_sem] Oper.semAt_some
def noCmp (t : List UInt8) : Prop := t ≠ [61] ∧ t ≠ [33, 61] ∧ t ≠ [60] ∧ t ≠ [60, 61] ∧ t ≠ [62] ∧ t ≠ [62, 61] ∧ t ≠ [105, 110] ∧ t ≠ [115, 117, 98]
theorem cmp_no (p : Nat) (s : ByteArray) (a : Nat) (o e : Int) (wh : Nat) (W : World) (h : PSt W p s a o e wh) (hs : s.size ≤ 9223372036854775000) (Z1 Z : Nd → Nat → Int → Int → Nat → Prop)
  (c1 : Calls Tryz.prog 150 #[.pointer (some ⟨p, 0, none⟩)] (W.alloc (.cells zero5 27)) (Ret1 p s Z1 (W.alloc (.cells zero5 27))))
  (hz : ∀ t a o er wh, Z1 t a o er wh → Z t a o er wh ∧ a ≤ s.size ∧ noCmp (nT s a er)) :
  Calls Tryz.prog 140 #[.pointer (some ⟨p, 0, none⟩)] W (Ret1 p s Z W) := by
 have H := Lib.hid h
 have HZ := Lib.hid hz
 clear h hz
 go_enter Tryz.func140, Tryz.ntmps140
 go_wp2_with fail
 refine c1.mono ?_
 rintro e w1 ⟨t, A, cap, a1, o1, er, wh1, rfl, hr, hf, hfr, hp1, hz1⟩
 have CA := Lib.hid (Carry.start H.out hr hf hfr)
 obtain ⟨hz2, ha1, hno⟩ := HZ.out _ _ _ _ _ hz1
 have HP := Lib.hid (hp1.alloc (boxN t A cap))
 have HZ2 := Lib.hid hz2
 have HN := Lib.hid hno
 have cn := next_any p s a1 o1 er wh1 _ HP.out ha1 hs
 have hq0 : ((bs (nT s a1 er)).toList == [61]) = false := by rw [bs_toList]; simpa using HN.out.1
 have hq1 : ((bs (nT s a1 er)).toList == [33, 61]) = false := by rw [bs_toList]; simpa using HN.out.2.1
 have hq2 : ((bs (nT s a1 er)).toList == [60]) = false := by rw [bs_toList]; simpa using HN.out.2.2.1
 have hq3 : ((bs (nT s a1 er)).toList == [60, 61]) = false := by rw [bs_toList]; simpa using HN.out.2.2.2.1
 have hq4 : ((bs (nT s a1 er)).toList == [62]) = false := by rw [bs_toList]; simpa using HN.out.2.2.2.2.1
 have hq5 : ((bs (nT s a1 er)).toList == [62, 61]) = false := by rw [bs_toList]; simpa using HN.out.2.2.2.2.2.1
 have hq6 : ((bs (nT s a1 er)).toList == [105, 110]) = false := by rw [bs_toList]; simpa using HN.out.2.2.2.2.2.2.1
 have hq7 : ((bs (nT s a1 er)).toList == [115, 117, 98]) = false := by rw [bs_toList]; simpa using HN.out.2.2.2.2.2.2.2
 generalize bs (nT s a1 er) = st at *
 clear hr hf hfr hp1 hz1 hz2 ha1 hno HN c1
 go_wp2_with fail
 refine cn.mono ?_
 rintro e w2 ⟨rfl, b2⟩
 have CA2 := Lib.hid (CA.out.step (Fr.of b2))
 have HP2 := Lib.hid (HP.out.later b2)
 clear b2 cn
 obtain ⟨z0, z1, z2, z3, z4, f0, f1, f2, f3, f4⟩ := box_facts CA2.out.box
 obtain ⟨l0, l1, l2, l3, l4, _, _, _, _, _⟩ := box_facts CA2.out.lbox
 go_wp2_with fail
 have hx := CA2.out
 exact bodyPost_ret (res27 Tryz.results140 _ _ W.heap.size _ _ _ _ _ rfl (set5_same _ _ _ _ _ hx.box)) rfl
  ⟨t, A, cap, a1, o1, er, wh1, rfl, hx.rob.set5 (by omega) (by omega) _ _ _ _ _, hx.fine, hx.fr.set5 (Nat.le_refl _) _ _ _ _ _, HP2.out.set5 (by have := hx.px; omega) _ _ _ _ _, HZ2.out⟩
theorem cmp_eq (p : Nat) (s : ByteArray) (a a1 : Nat) (o e : Int) (wh : Nat) (W : World) (h : PSt W p s a o e wh) (hs : s.size ≤ 9223372036854775000) (Z1 Z3 Z : Nd → Nat → Int → Int → Nat → Prop)
  (c1 : Calls Tryz.prog 150 #[.pointer (some ⟨p, 0, none⟩)] (W.alloc (.cells zero5 27)) (Ret1 p s Z1 (W.alloc (.cells zero5 27))))
  (hz1 : ∀ t a o' er wh, Z1 t a o' er wh → a = a1 ∧ o' = o ∧ er = 0 ∧ wh = 0) (ha : a1 ≤ s.size) (ht : T s a1 = [61])
  (c3 : ∀ W', PSt W' p s (nxt s a1) o 0 0 → Calls Tryz.prog 150 #[.pointer (some ⟨p, 0, none⟩)] W' (Ret1 p s Z3 W'))
  (hz : ∀ t u a b o' er' wh', Z1 t a o 0 0 → Z3 u b o' er' wh' → Z (twoN 37 t u) b o' er' wh') :
  Calls Tryz.prog 140 #[.pointer (some ⟨p, 0, none⟩)] W (Ret1 p s Z W) := by
 have H := Lib.hid h
 have HZ1 := Lib.hid hz1
 have HZ := Lib.hid hz
 have HC3 := Lib.hid c3
 have HT := Lib.hid ht
 clear h hz hz1 c3 ht
 go_enter Tryz.func140, Tryz.ntmps140
 go_wp2_with fail
 refine c1.mono ?_
 rintro e w1 ⟨t, A, cap, a2, o2, er, wh2, rfl, hr, hf, hfr, hp1, hz1⟩
 obtain ⟨rfl, rfl, rfl, rfl⟩ := HZ1.out _ _ _ _ _ hz1
 have CA := Lib.hid (Carry.start H.out hr hf hfr)
 have HP := Lib.hid (hp1.alloc (boxN t A cap))
 have HZ2 := Lib.hid hz1
 have cn := next_any p s a2 o2 0 0 _ HP.out ha hs
 rw [show nT s a2 0 = [61] by simp [nT, HT.out], show bs [61] = ⟨#[61]⟩ from rfl] at cn
 have cp := Lib.hid (fun (W' : World) (hb : Below (w1.alloc (boxN t A cap)).heap.size (w1.alloc (boxN t A cap)) W') => pass_live p s a2 o2 0 W' (HP.out.later hb) ha hs)
 clear hr hf hfr hp1 hz1 c1 HT HZ1
 go_wp2_with fail
 refine cn.mono ?_
 rintro e w2 ⟨rfl, b2⟩
 have CA2 := Lib.hid (CA.out.step (Fr.of b2))
 have cp := cp.out _ b2
 clear b2 cn
 go_wp2_with fail
 refine cp.mono ?_
 rintro e w3 ⟨rfl, h3, f3⟩
 have CA3 := Lib.hid (CA2.out.step f3)
 have c3 := HC3.out _ h3
 clear h3 f3 cp HC3
 go_wp2_with fail
 refine c3.mono ?_
 rintro e w4 ⟨u, B, cb, a4, o4, er4, wh4, rfl, hr4, hf4, hfr4, hp4, hz4⟩
 have FS : Fr p w4 (w4.alloc (boxN u B cb)) := Fr.of ((Below.refl w4.heap.size w4).alloc (Nat.le_refl _) (boxN u B cb))
 have CA5 := Lib.hid ((CA3.out.step hfr4).step FS)
 have hxw : W.heap.size < w3.heap.size := (Array.getElem?_eq_some_iff.1 CA3.out.box).1
 have UR := Lib.hid ((hr4.fr FS (Nat.lt_trans CA3.out.px hxw)).low (Nat.succ_le_of_lt hxw))
 have HF4 := Lib.hid hf4
 have HP5 := Lib.hid (hp4.alloc (boxN u B cb))
 have HZ4 := Lib.hid hz4
 have hx := CA5.out
 have c5 := two_any 37 (W.heap.size + 1) t u A B cap cb (w4.alloc (boxN u B cb)) hx.rob UR.out hx.fine HF4.out (by have := (Array.getElem?_eq_some_iff.1 hx.box).1; omega)
 obtain ⟨l0, l1, l2, l3, l4, _, _, _, _, _⟩ := box_facts hx.lbox
 clear hz4 c3 hr4 hf4 hfr4 hp4 FS hxw hx UR HF4
 go_wp2_with fail
 refine c5.mono ?_
 rintro e w6 ⟨D, cd, rfl, r6, b6⟩
 have CA6 := Lib.hid (CA5.out.step (Fr.of b6))
 have HP6 := Lib.hid (HP5.out.later b6)
 have R6 := Lib.hid r6
 obtain ⟨z0, z1, z2, z3, z4, f0, f1, f2, f3, f4⟩ := box_facts CA6.out.box
 clear b6 r6 c5
 go_wp2_with fail
 have hx := CA6.out
 exact bodyPost_ret (res27 Tryz.results140 _ _ W.heap.size _ _ _ _ _ rfl (set5_same _ _ _ _ _ hx.box)) rfl
  ⟨(twoN 37 t u), D, cd, a4, o4, er4, wh4, rfl, R6.out.set5 (by omega) (by omega) _ _ _ _ _, fine_op (by decide), hx.fr.set5 (Nat.le_refl _) _ _ _ _ _, HP6.out.set5 (by have := hx.px; omega) _ _ _ _ _, HZ.out _ _ _ _ _ _ _ HZ2.out HZ4.out⟩
theorem cmp_ne (p : Nat) (s : ByteArray) (a a1 : Nat) (o e : Int) (wh : Nat) (W : World) (h : PSt W p s a o e wh) (hs : s.size ≤ 9223372036854775000) (Z1 Z3 Z : Nd → Nat → Int → Int → Nat → Prop)
  (c1 : Calls Tryz.prog 150 #[.pointer (some ⟨p, 0, none⟩)] (W.alloc (.cells zero5 27)) (Ret1 p s Z1 (W.alloc (.cells zero5 27))))
  (hz1 : ∀ t a o' er wh, Z1 t a o' er wh → a = a1 ∧ o' = o ∧ er = 0 ∧ wh = 0) (ha : a1 ≤ s.size) (ht : T s a1 = [33, 61])
  (c3 : ∀ W', PSt W' p s (nxt s a1) o 0 0 → Calls Tryz.prog 150 #[.pointer (some ⟨p, 0, none⟩)] W' (Ret1 p s Z3 W'))
  (hz : ∀ t u a b o' er' wh', Z1 t a o 0 0 → Z3 u b o' er' wh' → Z (oneN 32 (twoN 37 t u)) b o' er' wh') :
  Calls Tryz.prog 140 #[.pointer (some ⟨p, 0, none⟩)] W (Ret1 p s Z W) := by
 have H := Lib.hid h
 have HZ1 := Lib.hid hz1
 have HZ := Lib.hid hz
 have HC3 := Lib.hid c3
 have HT := Lib.hid ht
 clear h hz hz1 c3 ht
 go_enter Tryz.func140, Tryz.ntmps140
 go_wp2_with fail
 refine c1.mono ?_
 rintro e w1 ⟨t, A, cap, a2, o2, er, wh2, rfl, hr, hf, hfr, hp1, hz1⟩
 obtain ⟨rfl, rfl, rfl, rfl⟩ := HZ1.out _ _ _ _ _ hz1
 have CA := Lib.hid (Carry.start H.out hr hf hfr)
 have HP := Lib.hid (hp1.alloc (boxN t A cap))
 have HZ2 := Lib.hid hz1
 have cn := next_any p s a2 o2 0 0 _ HP.out ha hs
 rw [show nT s a2 0 = [33, 61] by simp [nT, HT.out], show bs [33, 61] = ⟨#[33, 61]⟩ from rfl] at cn
 have cp := Lib.hid (fun (W' : World) (hb : Below (w1.alloc (boxN t A cap)).heap.size (w1.alloc (boxN t A cap)) W') => pass_live p s a2 o2 0 W' (HP.out.later hb) ha hs)
 clear hr hf hfr hp1 hz1 c1 HT HZ1
 go_wp2_with fail
 refine cn.mono ?_
 rintro e w2 ⟨rfl, b2⟩
 have CA2 := Lib.hid (CA.out.step (Fr.of b2))
 have cp := cp.out _ b2
 clear b2 cn
 go_wp2_with fail
 refine cp.mono ?_
 rintro e w3 ⟨rfl, h3, f3⟩
 have CA3 := Lib.hid (CA2.out.step f3)
 have c3 := HC3.out _ h3
 clear h3 f3 cp HC3
 go_wp2_with fail
 refine c3.mono ?_
 rintro e w4 ⟨u, B, cb, a4, o4, er4, wh4, rfl, hr4, hf4, hfr4, hp4, hz4⟩
 have FS : Fr p w4 (w4.alloc (boxN u B cb)) := Fr.of ((Below.refl w4.heap.size w4).alloc (Nat.le_refl _) (boxN u B cb))
 have CA5 := Lib.hid ((CA3.out.step hfr4).step FS)
 have hxw : W.heap.size < w3.heap.size := (Array.getElem?_eq_some_iff.1 CA3.out.box).1
 have UR := Lib.hid ((hr4.fr FS (Nat.lt_trans CA3.out.px hxw)).low (Nat.succ_le_of_lt hxw))
 have HF4 := Lib.hid hf4
 have HP5 := Lib.hid (hp4.alloc (boxN u B cb))
 have HZ4 := Lib.hid hz4
 have hx := CA5.out
 have c5 := two_any 37 (W.heap.size + 1) t u A B cap cb (w4.alloc (boxN u B cb)) hx.rob UR.out hx.fine HF4.out (by have := (Array.getElem?_eq_some_iff.1 hx.box).1; omega)
 obtain ⟨l0, l1, l2, l3, l4, _, _, _, _, _⟩ := box_facts hx.lbox
 clear hz4 c3 hr4 hf4 hfr4 hp4 FS hxw hx UR HF4
 go_wp2_with fail
 refine c5.mono ?_
 rintro e w6 ⟨D, cd, rfl, r6, b6⟩
 have CA6 := Lib.hid (CA5.out.step (Fr.of b6))
 have HP6 := Lib.hid (HP5.out.later b6)
 have R6 := Lib.hid r6
 obtain ⟨z0, z1, z2, z3, z4, f0, f1, f2, f3, f4⟩ := box_facts CA6.out.box
 clear b6 r6 c5
 have hn6 : W.heap.size + 1 ≤ w6.heap.size := by have := (Array.getElem?_eq_some_iff.1 CA6.out.box).1; omega
 have c6 := one_any 32 (W.heap.size + 1) (twoN 37 t u) D cd w6 R6.out (fine_op (by decide)) hn6
 clear hn6 z0 z1 z2 z3 z4 f0 f1 f2 f3 f4
 go_wp2_with fail
 refine c6.mono ?_
 rintro e w7 ⟨D, cd, rfl, r6, b6⟩
 have CA6 := Lib.hid (CA6.out.step (Fr.of b6))
 have HP6 := Lib.hid (HP6.out.later b6)
 have R6 := Lib.hid r6
 obtain ⟨z0, z1, z2, z3, z4, f0, f1, f2, f3, f4⟩ := box_facts CA6.out.box
 clear b6 r6 c6
 go_wp2_with fail
 have hx := CA6.out
 exact bodyPost_ret (res27 Tryz.results140 _ _ W.heap.size _ _ _ _ _ rfl (set5_same _ _ _ _ _ hx.box)) rfl
  ⟨(oneN 32 (twoN 37 t u)), D, cd, a4, o4, er4, wh4, rfl, R6.out.set5 (by omega) (by omega) _ _ _ _ _, fine_op (by decide), hx.fr.set5 (Nat.le_refl _) _ _ _ _ _, HP6.out.set5 (by have := hx.px; omega) _ _ _ _ _, HZ.out _ _ _ _ _ _ _ HZ2.out HZ4.out⟩
theorem cmp_lt (p : Nat) (s : ByteArray) (a a1 : Nat) (o e : Int) (wh : Nat) (W : World) (h : PSt W p s a o e wh) (hs : s.size ≤ 9223372036854775000) (Z1 Z3 Z : Nd → Nat → Int → Int → Nat → Prop)
  (c1 : Calls Tryz.prog 150 #[.pointer (some ⟨p, 0, none⟩)] (W.alloc (.cells zero5 27)) (Ret1 p s Z1 (W.alloc (.cells zero5 27))))
  (hz1 : ∀ t a o' er wh, Z1 t a o' er wh → a = a1 ∧ o' = o ∧ er = 0 ∧ wh = 0) (ha : a1 ≤ s.size) (ht : T s a1 = [60])
  (c3 : ∀ W', PSt W' p s (nxt s a1) o 0 0 → Calls Tryz.prog 150 #[.pointer (some ⟨p, 0, none⟩)] W' (Ret1 p s Z3 W'))
  (hz : ∀ t u a b o' er' wh', Z1 t a o 0 0 → Z3 u b o' er' wh' → Z (twoN 39 t u) b o' er' wh') :
  Calls Tryz.prog 140 #[.pointer (some ⟨p, 0, none⟩)] W (Ret1 p s Z W) := by
 have H := Lib.hid h
 have HZ1 := Lib.hid hz1
 have HZ := Lib.hid hz
 have HC3 := Lib.hid c3
 have HT := Lib.hid ht
 clear h hz hz1 c3 ht
 go_enter Tryz.func140, Tryz.ntmps140
 go_wp2_with fail
 refine c1.mono ?_
 rintro e w1 ⟨t, A, cap, a2, o2, er, wh2, rfl, hr, hf, hfr, hp1, hz1⟩
 obtain ⟨rfl, rfl, rfl, rfl⟩ := HZ1.out _ _ _ _ _ hz1
 have CA := Lib.hid (Carry.start H.out hr hf hfr)
 have HP := Lib.hid (hp1.alloc (boxN t A cap))
 have HZ2 := Lib.hid hz1
 have cn := next_any p s a2 o2 0 0 _ HP.out ha hs
 rw [show nT s a2 0 = [60] by simp [nT, HT.out], show bs [60] = ⟨#[60]⟩ from rfl] at cn
 have cp := Lib.hid (fun (W' : World) (hb : Below (w1.alloc (boxN t A cap)).heap.size (w1.alloc (boxN t A cap)) W') => pass_live p s a2 o2 0 W' (HP.out.later hb) ha hs)
 clear hr hf hfr hp1 hz1 c1 HT HZ1
 go_wp2_with fail
 refine cn.mono ?_
 rintro e w2 ⟨rfl, b2⟩
 have CA2 := Lib.hid (CA.out.step (Fr.of b2))
 have cp := cp.out _ b2
 clear b2 cn
 go_wp2_with fail
 refine cp.mono ?_
 rintro e w3 ⟨rfl, h3, f3⟩
 have CA3 := Lib.hid (CA2.out.step f3)
 have c3 := HC3.out _ h3
 clear h3 f3 cp HC3
 go_wp2_with fail
 refine c3.mono ?_
 rintro e w4 ⟨u, B, cb, a4, o4, er4, wh4, rfl, hr4, hf4, hfr4, hp4, hz4⟩
 have FS : Fr p w4 (w4.alloc (boxN u B cb)) := Fr.of ((Below.refl w4.heap.size w4).alloc (Nat.le_refl _) (boxN u B cb))
 have CA5 := Lib.hid ((CA3.out.step hfr4).step FS)
 have hxw : W.heap.size < w3.heap.size := (Array.getElem?_eq_some_iff.1 CA3.out.box).1
 have UR := Lib.hid ((hr4.fr FS (Nat.lt_trans CA3.out.px hxw)).low (Nat.succ_le_of_lt hxw))
 have HF4 := Lib.hid hf4
 have HP5 := Lib.hid (hp4.alloc (boxN u B cb))
 have HZ4 := Lib.hid hz4
 have hx := CA5.out
 have c5 := two_any 39 (W.heap.size + 1) t u A B cap cb (w4.alloc (boxN u B cb)) hx.rob UR.out hx.fine HF4.out (by have := (Array.getElem?_eq_some_iff.1 hx.box).1; omega)
 obtain ⟨l0, l1, l2, l3, l4, _, _, _, _, _⟩ := box_facts hx.lbox
 clear hz4 c3 hr4 hf4 hfr4 hp4 FS hxw hx UR HF4
 go_wp2_with fail
 refine c5.mono ?_
 rintro e w6 ⟨D, cd, rfl, r6, b6⟩
 have CA6 := Lib.hid (CA5.out.step (Fr.of b6))
 have HP6 := Lib.hid (HP5.out.later b6)
 have R6 := Lib.hid r6
 obtain ⟨z0, z1, z2, z3, z4, f0, f1, f2, f3, f4⟩ := box_facts CA6.out.box
 clear b6 r6 c5
 go_wp2_with fail
 have hx := CA6.out
 exact bodyPost_ret (res27 Tryz.results140 _ _ W.heap.size _ _ _ _ _ rfl (set5_same _ _ _ _ _ hx.box)) rfl
  ⟨(twoN 39 t u), D, cd, a4, o4, er4, wh4, rfl, R6.out.set5 (by omega) (by omega) _ _ _ _ _, fine_op (by decide), hx.fr.set5 (Nat.le_refl _) _ _ _ _ _, HP6.out.set5 (by have := hx.px; omega) _ _ _ _ _, HZ.out _ _ _ _ _ _ _ HZ2.out HZ4.out⟩
theorem cmp_le (p : Nat) (s : ByteArray) (a a1 : Nat) (o e : Int) (wh : Nat) (W : World) (h : PSt W p s a o e wh) (hs : s.size ≤ 9223372036854775000) (Z1 Z3 Z : Nd → Nat → Int → Int → Nat → Prop)
  (c1 : Calls Tryz.prog 150 #[.pointer (some ⟨p, 0, none⟩)] (W.alloc (.cells zero5 27)) (Ret1 p s Z1 (W.alloc (.cells zero5 27))))
  (hz1 : ∀ t a o' er wh, Z1 t a o' er wh → a = a1 ∧ o' = o ∧ er = 0 ∧ wh = 0) (ha : a1 ≤ s.size) (ht : T s a1 = [60, 61])
  (c3 : ∀ W', PSt W' p s (nxt s a1) o 0 0 → Calls Tryz.prog 150 #[.pointer (some ⟨p, 0, none⟩)] W' (Ret1 p s Z3 W'))
  (hz : ∀ t u a b o' er' wh', Z1 t a o 0 0 → Z3 u b o' er' wh' → Z (twoN 38 t u) b o' er' wh') :
  Calls Tryz.prog 140 #[.pointer (some ⟨p, 0, none⟩)] W (Ret1 p s Z W) := by
 have H := Lib.hid h
 have HZ1 := Lib.hid hz1
 have HZ := Lib.hid hz
 have HC3 := Lib.hid c3
 have HT := Lib.hid ht
 clear h hz hz1 c3 ht
 go_enter Tryz.func140, Tryz.ntmps140
 go_wp2_with fail
 refine c1.mono ?_
 rintro e w1 ⟨t, A, cap, a2, o2, er, wh2, rfl, hr, hf, hfr, hp1, hz1⟩
 obtain ⟨rfl, rfl, rfl, rfl⟩ := HZ1.out _ _ _ _ _ hz1
 have CA := Lib.hid (Carry.start H.out hr hf hfr)
 have HP := Lib.hid (hp1.alloc (boxN t A cap))
 have HZ2 := Lib.hid hz1
 have cn := next_any p s a2 o2 0 0 _ HP.out ha hs
 rw [show nT s a2 0 = [60, 61] by simp [nT, HT.out], show bs [60, 61] = ⟨#[60, 61]⟩ from rfl] at cn
 have cp := Lib.hid (fun (W' : World) (hb : Below (w1.alloc (boxN t A cap)).heap.size (w1.alloc (boxN t A cap)) W') => pass_live p s a2 o2 0 W' (HP.out.later hb) ha hs)
 clear hr hf hfr hp1 hz1 c1 HT HZ1
 go_wp2_with fail
 refine cn.mono ?_
 rintro e w2 ⟨rfl, b2⟩
 have CA2 := Lib.hid (CA.out.step (Fr.of b2))
 have cp := cp.out _ b2
 clear b2 cn
 go_wp2_with fail
 refine cp.mono ?_
 rintro e w3 ⟨rfl, h3, f3⟩
 have CA3 := Lib.hid (CA2.out.step f3)
 have c3 := HC3.out _ h3
 clear h3 f3 cp HC3
 go_wp2_with fail
 refine c3.mono ?_
 rintro e w4 ⟨u, B, cb, a4, o4, er4, wh4, rfl, hr4, hf4, hfr4, hp4, hz4⟩
 have FS : Fr p w4 (w4.alloc (boxN u B cb)) := Fr.of ((Below.refl w4.heap.size w4).alloc (Nat.le_refl _) (boxN u B cb))
 have CA5 := Lib.hid ((CA3.out.step hfr4).step FS)
 have hxw : W.heap.size < w3.heap.size := (Array.getElem?_eq_some_iff.1 CA3.out.box).1
 have UR := Lib.hid ((hr4.fr FS (Nat.lt_trans CA3.out.px hxw)).low (Nat.succ_le_of_lt hxw))
 have HF4 := Lib.hid hf4
 have HP5 := Lib.hid (hp4.alloc (boxN u B cb))
 have HZ4 := Lib.hid hz4
 have hx := CA5.out
 have c5 := two_any 38 (W.heap.size + 1) t u A B cap cb (w4.alloc (boxN u B cb)) hx.rob UR.out hx.fine HF4.out (by have := (Array.getElem?_eq_some_iff.1 hx.box).1; omega)
 obtain ⟨l0, l1, l2, l3, l4, _, _, _, _, _⟩ := box_facts hx.lbox
 clear hz4 c3 hr4 hf4 hfr4 hp4 FS hxw hx UR HF4
 go_wp2_with fail
 refine c5.mono ?_
 rintro e w6 ⟨D, cd, rfl, r6, b6⟩
 have CA6 := Lib.hid (CA5.out.step (Fr.of b6))
 have HP6 := Lib.hid (HP5.out.later b6)
 have R6 := Lib.hid r6
 obtain ⟨z0, z1, z2, z3, z4, f0, f1, f2, f3, f4⟩ := box_facts CA6.out.box
 clear b6 r6 c5
 go_wp2_with fail
 have hx := CA6.out
 exact bodyPost_ret (res27 Tryz.results140 _ _ W.heap.size _ _ _ _ _ rfl (set5_same _ _ _ _ _ hx.box)) rfl
  ⟨(twoN 38 t u), D, cd, a4, o4, er4, wh4, rfl, R6.out.set5 (by omega) (by omega) _ _ _ _ _, fine_op (by decide), hx.fr.set5 (Nat.le_refl _) _ _ _ _ _, HP6.out.set5 (by have := hx.px; omega) _ _ _ _ _, HZ.out _ _ _ _ _ _ _ HZ2.out HZ4.out⟩
theorem cmp_gt (p : Nat) (s : ByteArray) (a a1 : Nat) (o e : Int) (wh : Nat) (W : World) (h : PSt W p s a o e wh) (hs : s.size ≤ 9223372036854775000) (Z1 Z3 Z : Nd → Nat → Int → Int → Nat → Prop)
  (c1 : Calls Tryz.prog 150 #[.pointer (some ⟨p, 0, none⟩)] (W.alloc (.cells zero5 27)) (Ret1 p s Z1 (W.alloc (.cells zero5 27))))
  (hz1 : ∀ t a o' er wh, Z1 t a o' er wh → a = a1 ∧ o' = o ∧ er = 0 ∧ wh = 0) (ha : a1 ≤ s.size) (ht : T s a1 = [62])
  (c3 : ∀ W', PSt W' p s (nxt s a1) o 0 0 → Calls Tryz.prog 150 #[.pointer (some ⟨p, 0, none⟩)] W' (Ret1 p s Z3 W'))
  (hz : ∀ t u a b o' er' wh', Z1 t a o 0 0 → Z3 u b o' er' wh' → Z (twoN 39 u t) b o' er' wh') :
  Calls Tryz.prog 140 #[.pointer (some ⟨p, 0, none⟩)] W (Ret1 p s Z W) := by
 have H := Lib.hid h
 have HZ1 := Lib.hid hz1
 have HZ := Lib.hid hz
 have HC3 := Lib.hid c3
 have HT := Lib.hid ht
 clear h hz hz1 c3 ht
 go_enter Tryz.func140, Tryz.ntmps140
 go_wp2_with fail
 refine c1.mono ?_
 rintro e w1 ⟨t, A, cap, a2, o2, er, wh2, rfl, hr, hf, hfr, hp1, hz1⟩
 obtain ⟨rfl, rfl, rfl, rfl⟩ := HZ1.out _ _ _ _ _ hz1
 have CA := Lib.hid (Carry.start H.out hr hf hfr)
 have HP := Lib.hid (hp1.alloc (boxN t A cap))
 have HZ2 := Lib.hid hz1
 have cn := next_any p s a2 o2 0 0 _ HP.out ha hs
 rw [show nT s a2 0 = [62] by simp [nT, HT.out], show bs [62] = ⟨#[62]⟩ from rfl] at cn
 have cp := Lib.hid (fun (W' : World) (hb : Below (w1.alloc (boxN t A cap)).heap.size (w1.alloc (boxN t A cap)) W') => pass_live p s a2 o2 0 W' (HP.out.later hb) ha hs)
 clear hr hf hfr hp1 hz1 c1 HT HZ1
 go_wp2_with fail
 refine cn.mono ?_
 rintro e w2 ⟨rfl, b2⟩
 have CA2 := Lib.hid (CA.out.step (Fr.of b2))
 have cp := cp.out _ b2
 clear b2 cn
 go_wp2_with fail
 refine cp.mono ?_
 rintro e w3 ⟨rfl, h3, f3⟩
 have CA3 := Lib.hid (CA2.out.step f3)
 have c3 := HC3.out _ h3
 clear h3 f3 cp HC3
 go_wp2_with fail
 refine c3.mono ?_
 rintro e w4 ⟨u, B, cb, a4, o4, er4, wh4, rfl, hr4, hf4, hfr4, hp4, hz4⟩
 have FS : Fr p w4 (w4.alloc (boxN u B cb)) := Fr.of ((Below.refl w4.heap.size w4).alloc (Nat.le_refl _) (boxN u B cb))
 have CA5 := Lib.hid ((CA3.out.step hfr4).step FS)
 have hxw : W.heap.size < w3.heap.size := (Array.getElem?_eq_some_iff.1 CA3.out.box).1
 have UR := Lib.hid ((hr4.fr FS (Nat.lt_trans CA3.out.px hxw)).low (Nat.succ_le_of_lt hxw))
 have HF4 := Lib.hid hf4
 have HP5 := Lib.hid (hp4.alloc (boxN u B cb))
 have HZ4 := Lib.hid hz4
 have hx := CA5.out
 have c5 := two_any 39 (W.heap.size + 1) u t B A cb cap (w4.alloc (boxN u B cb)) UR.out hx.rob HF4.out hx.fine (by have := (Array.getElem?_eq_some_iff.1 hx.box).1; omega)
 obtain ⟨l0, l1, l2, l3, l4, _, _, _, _, _⟩ := box_facts hx.lbox
 clear hz4 c3 hr4 hf4 hfr4 hp4 FS hxw hx UR HF4
 go_wp2_with fail
 refine c5.mono ?_
 rintro e w6 ⟨D, cd, rfl, r6, b6⟩
 have CA6 := Lib.hid (CA5.out.step (Fr.of b6))
 have HP6 := Lib.hid (HP5.out.later b6)
 have R6 := Lib.hid r6
 obtain ⟨z0, z1, z2, z3, z4, f0, f1, f2, f3, f4⟩ := box_facts CA6.out.box
 clear b6 r6 c5
 go_wp2_with fail
 have hx := CA6.out
 exact bodyPost_ret (res27 Tryz.results140 _ _ W.heap.size _ _ _ _ _ rfl (set5_same _ _ _ _ _ hx.box)) rfl
  ⟨(twoN 39 u t), D, cd, a4, o4, er4, wh4, rfl, R6.out.set5 (by omega) (by omega) _ _ _ _ _, fine_op (by decide), hx.fr.set5 (Nat.le_refl _) _ _ _ _ _, HP6.out.set5 (by have := hx.px; omega) _ _ _ _ _, HZ.out _ _ _ _ _ _ _ HZ2.out HZ4.out⟩
theorem cmp_ge (p : Nat) (s : ByteArray) (a a1 : Nat) (o e : Int) (wh : Nat) (W : World) (h : PSt W p s a o e wh) (hs : s.size ≤ 9223372036854775000) (Z1 Z3 Z : Nd → Nat → Int → Int → Nat → Prop)
  (c1 : Calls Tryz.prog 150 #[.pointer (some ⟨p, 0, none⟩)] (W.alloc (.cells zero5 27)) (Ret1 p s Z1 (W.alloc (.cells zero5 27))))
  (hz1 : ∀ t a o' er wh, Z1 t a o' er wh → a = a1 ∧ o' = o ∧ er = 0 ∧ wh = 0) (ha : a1 ≤ s.size) (ht : T s a1 = [62, 61])
  (c3 : ∀ W', PSt W' p s (nxt s a1) o 0 0 → Calls Tryz.prog 150 #[.pointer (some ⟨p, 0, none⟩)] W' (Ret1 p s Z3 W'))
  (hz : ∀ t u a b o' er' wh', Z1 t a o 0 0 → Z3 u b o' er' wh' → Z (twoN 38 u t) b o' er' wh') :
  Calls Tryz.prog 140 #[.pointer (some ⟨p, 0, none⟩)] W (Ret1 p s Z W) := by
 have H := Lib.hid h
 have HZ1 := Lib.hid hz1
 have HZ := Lib.hid hz
 have HC3 := Lib.hid c3
 have HT := Lib.hid ht
 clear h hz hz1 c3 ht
 go_enter Tryz.func140, Tryz.ntmps140
 go_wp2_with fail
 refine c1.mono ?_
 rintro e w1 ⟨t, A, cap, a2, o2, er, wh2, rfl, hr, hf, hfr, hp1, hz1⟩
 obtain ⟨rfl, rfl, rfl, rfl⟩ := HZ1.out _ _ _ _ _ hz1
 have CA := Lib.hid (Carry.start H.out hr hf hfr)
 have HP := Lib.hid (hp1.alloc (boxN t A cap))
 have HZ2 := Lib.hid hz1
 have cn := next_any p s a2 o2 0 0 _ HP.out ha hs
 rw [show nT s a2 0 = [62, 61] by simp [nT, HT.out], show bs [62, 61] = ⟨#[62, 61]⟩ from rfl] at cn
 have cp := Lib.hid (fun (W' : World) (hb : Below (w1.alloc (boxN t A cap)).heap.size (w1.alloc (boxN t A cap)) W') => pass_live p s a2 o2 0 W' (HP.out.later hb) ha hs)
 clear hr hf hfr hp1 hz1 c1 HT HZ1
 go_wp2_with fail
 refine cn.mono ?_
 rintro e w2 ⟨rfl, b2⟩
 have CA2 := Lib.hid (CA.out.step (Fr.of b2))
 have cp := cp.out _ b2
 clear b2 cn
 go_wp2_with fail
 refine cp.mono ?_
 rintro e w3 ⟨rfl, h3, f3⟩
 have CA3 := Lib.hid (CA2.out.step f3)
 have c3 := HC3.out _ h3
 clear h3 f3 cp HC3
 go_wp2_with fail
 refine c3.mono ?_
 rintro e w4 ⟨u, B, cb, a4, o4, er4, wh4, rfl, hr4, hf4, hfr4, hp4, hz4⟩
 have FS : Fr p w4 (w4.alloc (boxN u B cb)) := Fr.of ((Below.refl w4.heap.size w4).alloc (Nat.le_refl _) (boxN u B cb))
 have CA5 := Lib.hid ((CA3.out.step hfr4).step FS)
 have hxw : W.heap.size < w3.heap.size := (Array.getElem?_eq_some_iff.1 CA3.out.box).1
 have UR := Lib.hid ((hr4.fr FS (Nat.lt_trans CA3.out.px hxw)).low (Nat.succ_le_of_lt hxw))
 have HF4 := Lib.hid hf4
 have HP5 := Lib.hid (hp4.alloc (boxN u B cb))
 have HZ4 := Lib.hid hz4
 have hx := CA5.out
 have c5 := two_any 38 (W.heap.size + 1) u t B A cb cap (w4.alloc (boxN u B cb)) UR.out hx.rob HF4.out hx.fine (by have := (Array.getElem?_eq_some_iff.1 hx.box).1; omega)
 obtain ⟨l0, l1, l2, l3, l4, _, _, _, _, _⟩ := box_facts hx.lbox
 clear hz4 c3 hr4 hf4 hfr4 hp4 FS hxw hx UR HF4
 go_wp2_with fail
 refine c5.mono ?_
 rintro e w6 ⟨D, cd, rfl, r6, b6⟩
 have CA6 := Lib.hid (CA5.out.step (Fr.of b6))
 have HP6 := Lib.hid (HP5.out.later b6)
 have R6 := Lib.hid r6
 obtain ⟨z0, z1, z2, z3, z4, f0, f1, f2, f3, f4⟩ := box_facts CA6.out.box
 clear b6 r6 c5
 go_wp2_with fail
 have hx := CA6.out
 exact bodyPost_ret (res27 Tryz.results140 _ _ W.heap.size _ _ _ _ _ rfl (set5_same _ _ _ _ _ hx.box)) rfl
  ⟨(twoN 38 u t), D, cd, a4, o4, er4, wh4, rfl, R6.out.set5 (by omega) (by omega) _ _ _ _ _, fine_op (by decide), hx.fr.set5 (Nat.le_refl _) _ _ _ _ _, HP6.out.set5 (by have := hx.px; omega) _ _ _ _ _, HZ.out _ _ _ _ _ _ _ HZ2.out HZ4.out⟩
theorem cmp_mem (p : Nat) (s : ByteArray) (a a1 : Nat) (o e : Int) (wh : Nat) (W : World) (h : PSt W p s a o e wh) (hs : s.size ≤ 9223372036854775000) (Z1 Z3 Z : Nd → Nat → Int → Int → Nat → Prop)
  (c1 : Calls Tryz.prog 150 #[.pointer (some ⟨p, 0, none⟩)] (W.alloc (.cells zero5 27)) (Ret1 p s Z1 (W.alloc (.cells zero5 27))))
  (hz1 : ∀ t a o' er wh, Z1 t a o' er wh → a = a1 ∧ o' = o ∧ er = 0 ∧ wh = 0) (ha : a1 ≤ s.size) (ht : T s a1 = [105, 110])
  (c3 : ∀ W', PSt W' p s (nxt s a1) o 0 0 → Calls Tryz.prog 150 #[.pointer (some ⟨p, 0, none⟩)] W' (Ret1 p s Z3 W'))
  (hz : ∀ t u a b o' er' wh', Z1 t a o 0 0 → Z3 u b o' er' wh' → Z (twoN 40 t u) b o' er' wh') :
  Calls Tryz.prog 140 #[.pointer (some ⟨p, 0, none⟩)] W (Ret1 p s Z W) := by
 have H := Lib.hid h
 have HZ1 := Lib.hid hz1
 have HZ := Lib.hid hz
 have HC3 := Lib.hid c3
 have HT := Lib.hid ht
 clear h hz hz1 c3 ht
 go_enter Tryz.func140, Tryz.ntmps140
 go_wp2_with fail
 refine c1.mono ?_
 rintro e w1 ⟨t, A, cap, a2, o2, er, wh2, rfl, hr, hf, hfr, hp1, hz1⟩
 obtain ⟨rfl, rfl, rfl, rfl⟩ := HZ1.out _ _ _ _ _ hz1
 have CA := Lib.hid (Carry.start H.out hr hf hfr)
 have HP := Lib.hid (hp1.alloc (boxN t A cap))
 have HZ2 := Lib.hid hz1
 have cn := next_any p s a2 o2 0 0 _ HP.out ha hs
 rw [show nT s a2 0 = [105, 110] by simp [nT, HT.out], show bs [105, 110] = ⟨#[105, 110]⟩ from rfl] at cn
 have cp := Lib.hid (fun (W' : World) (hb : Below (w1.alloc (boxN t A cap)).heap.size (w1.alloc (boxN t A cap)) W') => pass_live p s a2 o2 0 W' (HP.out.later hb) ha hs)
 clear hr hf hfr hp1 hz1 c1 HT HZ1
 go_wp2_with fail
 refine cn.mono ?_
 rintro e w2 ⟨rfl, b2⟩
 have CA2 := Lib.hid (CA.out.step (Fr.of b2))
 have cp := cp.out _ b2
 clear b2 cn
 go_wp2_with fail
 refine cp.mono ?_
 rintro e w3 ⟨rfl, h3, f3⟩
 have CA3 := Lib.hid (CA2.out.step f3)
 have c3 := HC3.out _ h3
 clear h3 f3 cp HC3
 go_wp2_with fail
 refine c3.mono ?_
 rintro e w4 ⟨u, B, cb, a4, o4, er4, wh4, rfl, hr4, hf4, hfr4, hp4, hz4⟩
 have FS : Fr p w4 (w4.alloc (boxN u B cb)) := Fr.of ((Below.refl w4.heap.size w4).alloc (Nat.le_refl _) (boxN u B cb))
 have CA5 := Lib.hid ((CA3.out.step hfr4).step FS)
 have hxw : W.heap.size < w3.heap.size := (Array.getElem?_eq_some_iff.1 CA3.out.box).1
 have UR := Lib.hid ((hr4.fr FS (Nat.lt_trans CA3.out.px hxw)).low (Nat.succ_le_of_lt hxw))
 have HF4 := Lib.hid hf4
 have HP5 := Lib.hid (hp4.alloc (boxN u B cb))
 have HZ4 := Lib.hid hz4
 have hx := CA5.out
 have c5 := two_any 40 (W.heap.size + 1) t u A B cap cb (w4.alloc (boxN u B cb)) hx.rob UR.out hx.fine HF4.out (by have := (Array.getElem?_eq_some_iff.1 hx.box).1; omega)
 obtain ⟨l0, l1, l2, l3, l4, _, _, _, _, _⟩ := box_facts hx.lbox
 clear hz4 c3 hr4 hf4 hfr4 hp4 FS hxw hx UR HF4
 go_wp2_with fail
 refine c5.mono ?_
 rintro e w6 ⟨D, cd, rfl, r6, b6⟩
 have CA6 := Lib.hid (CA5.out.step (Fr.of b6))
 have HP6 := Lib.hid (HP5.out.later b6)
 have R6 := Lib.hid r6
 obtain ⟨z0, z1, z2, z3, z4, f0, f1, f2, f3, f4⟩ := box_facts CA6.out.box
 clear b6 r6 c5
 go_wp2_with fail
 have hx := CA6.out
 exact bodyPost_ret (res27 Tryz.results140 _ _ W.heap.size _ _ _ _ _ rfl (set5_same _ _ _ _ _ hx.box)) rfl
  ⟨(twoN 40 t u), D, cd, a4, o4, er4, wh4, rfl, R6.out.set5 (by omega) (by omega) _ _ _ _ _, fine_op (by decide), hx.fr.set5 (Nat.le_refl _) _ _ _ _ _, HP6.out.set5 (by have := hx.px; omega) _ _ _ _ _, HZ.out _ _ _ _ _ _ _ HZ2.out HZ4.out⟩
theorem cmp_sub (p : Nat) (s : ByteArray) (a a1 : Nat) (o e : Int) (wh : Nat) (W : World) (h : PSt W p s a o e wh) (hs : s.size ≤ 9223372036854775000) (Z1 Z3 Z : Nd → Nat → Int → Int → Nat → Prop)
  (c1 : Calls Tryz.prog 150 #[.pointer (some ⟨p, 0, none⟩)] (W.alloc (.cells zero5 27)) (Ret1 p s Z1 (W.alloc (.cells zero5 27))))
  (hz1 : ∀ t a o' er wh, Z1 t a o' er wh → a = a1 ∧ o' = o ∧ er = 0 ∧ wh = 0) (ha : a1 ≤ s.size) (ht : T s a1 = [115, 117, 98])
  (c3 : ∀ W', PSt W' p s (nxt s a1) o 0 0 → Calls Tryz.prog 150 #[.pointer (some ⟨p, 0, none⟩)] W' (Ret1 p s Z3 W'))
  (hz : ∀ t u a b o' er' wh', Z1 t a o 0 0 → Z3 u b o' er' wh' → Z (twoN 41 t u) b o' er' wh') :
  Calls Tryz.prog 140 #[.pointer (some ⟨p, 0, none⟩)] W (Ret1 p s Z W) := by
 have H := Lib.hid h
 have HZ1 := Lib.hid hz1
 have HZ := Lib.hid hz
 have HC3 := Lib.hid c3
 have HT := Lib.hid ht
 clear h hz hz1 c3 ht
 go_enter Tryz.func140, Tryz.ntmps140
 go_wp2_with fail
 refine c1.mono ?_
 rintro e w1 ⟨t, A, cap, a2, o2, er, wh2, rfl, hr, hf, hfr, hp1, hz1⟩
 obtain ⟨rfl, rfl, rfl, rfl⟩ := HZ1.out _ _ _ _ _ hz1
 have CA := Lib.hid (Carry.start H.out hr hf hfr)
 have HP := Lib.hid (hp1.alloc (boxN t A cap))
 have HZ2 := Lib.hid hz1
 have cn := next_any p s a2 o2 0 0 _ HP.out ha hs
 rw [show nT s a2 0 = [115, 117, 98] by simp [nT, HT.out], show bs [115, 117, 98] = ⟨#[115, 117, 98]⟩ from rfl] at cn
 have cp := Lib.hid (fun (W' : World) (hb : Below (w1.alloc (boxN t A cap)).heap.size (w1.alloc (boxN t A cap)) W') => pass_live p s a2 o2 0 W' (HP.out.later hb) ha hs)
 clear hr hf hfr hp1 hz1 c1 HT HZ1
 go_wp2_with fail
 refine cn.mono ?_
 rintro e w2 ⟨rfl, b2⟩
 have CA2 := Lib.hid (CA.out.step (Fr.of b2))
 have cp := cp.out _ b2
 clear b2 cn
 go_wp2_with fail
 refine cp.mono ?_
 rintro e w3 ⟨rfl, h3, f3⟩
 have CA3 := Lib.hid (CA2.out.step f3)
 have c3 := HC3.out _ h3
 clear h3 f3 cp HC3
 go_wp2_with fail
 refine c3.mono ?_
 rintro e w4 ⟨u, B, cb, a4, o4, er4, wh4, rfl, hr4, hf4, hfr4, hp4, hz4⟩
 have FS : Fr p w4 (w4.alloc (boxN u B cb)) := Fr.of ((Below.refl w4.heap.size w4).alloc (Nat.le_refl _) (boxN u B cb))
 have CA5 := Lib.hid ((CA3.out.step hfr4).step FS)
 have hxw : W.heap.size < w3.heap.size := (Array.getElem?_eq_some_iff.1 CA3.out.box).1
 have UR := Lib.hid ((hr4.fr FS (Nat.lt_trans CA3.out.px hxw)).low (Nat.succ_le_of_lt hxw))
 have HF4 := Lib.hid hf4
 have HP5 := Lib.hid (hp4.alloc (boxN u B cb))
 have HZ4 := Lib.hid hz4
 have hx := CA5.out
 have c5 := two_any 41 (W.heap.size + 1) t u A B cap cb (w4.alloc (boxN u B cb)) hx.rob UR.out hx.fine HF4.out (by have := (Array.getElem?_eq_some_iff.1 hx.box).1; omega)
 obtain ⟨l0, l1, l2, l3, l4, _, _, _, _, _⟩ := box_facts hx.lbox
 clear hz4 c3 hr4 hf4 hfr4 hp4 FS hxw hx UR HF4
 go_wp2_with fail
 refine c5.mono ?_
 rintro e w6 ⟨D, cd, rfl, r6, b6⟩
 have CA6 := Lib.hid (CA5.out.step (Fr.of b6))
 have HP6 := Lib.hid (HP5.out.later b6)
 have R6 := Lib.hid r6
 obtain ⟨z0, z1, z2, z3, z4, f0, f1, f2, f3, f4⟩ := box_facts CA6.out.box
 clear b6 r6 c5
 go_wp2_with fail
 have hx := CA6.out
 exact bodyPost_ret (res27 Tryz.results140 _ _ W.heap.size _ _ _ _ _ rfl (set5_same _ _ _ _ _ hx.box)) rfl
  ⟨(twoN 41 t u), D, cd, a4, o4, er4, wh4, rfl, R6.out.set5 (by omega) (by omega) _ _ _ _ _, fine_op (by decide), hx.fr.set5 (Nat.le_refl _) _ _ _ _ _, HP6.out.set5 (by have := hx.px; omega) _ _ _ _ _, HZ.out _ _ _ _ _ _ _ HZ2.out HZ4.out⟩
end Go.Proofs.YtgkjcimgghflmaaGreatDoor
namespace Go.Proofs.YtgkjcimgghflmaaGreatDoor
set_option maxRecDepth 100000
set_option maxHeartbeats 8000000
open Go.RowKit Go.Shelf
theorem noCmp_of {t : List UInt8} (h : isCmp t = false) : noCmp t := by
 simp only [isCmp, Bool.or_eq_false_iff, beq_eq_false_iff_ne] at h
 exact h
theorem isCmp_of {t : List UInt8} (h : isCmp t = true) : t = [61] ∨ t = [33, 61] ∨ t = [60] ∨ t = [60, 61] ∨ t = [62] ∨ t = [62, 61] ∨ t = [105, 110] ∨ t = [115, 117, 98] := by
 simp only [isCmp, Bool.or_eq_true, beq_iff_eq] at h
 exact h
theorem cmp_close {s : ByteArray} {a a1 o f : Nat} {l t u n : Nd} {b : Nat} {o' er' : Int} {wh' : Nat} {k : Nd → Nd → Nd} {a2 : Nat} (ha : a ≤ nxt s a1) (hz : ZR s a o (.ok l a1) t a2 (o : Int) 0 0)
  (h3 : ZR s (nxt s a1) o (PA s f .sum o (nxt s a1)) u b o' er' wh') (hn : n = k t u) : ZR s a o ((PA s f .sum o (nxt s a1)).bind fun r a2 => .ok (k l r) a2) n b o' er' wh' := by
 obtain ⟨m1, m2, m3⟩ := h3
 refine ⟨by omega, m2, ?_⟩
 cases hq : PA s f .sum o (nxt s a1) with
 | out => rw [hq] at m3; exact m3.elim
 | err e w => rw [hq] at m3; exact m3
 | ok r a2 =>
  rw [hq] at m3
  obtain ⟨rfl, rfl, rfl, rfl, rfl⟩ := m3
  exact ⟨by rw [hn, hz.2.2.1], rfl, rfl, rfl, rfl⟩
theorem cmp_step (s : ByteArray) (hs : s.size ≤ 9223372036854775000) (f : Nat) (hi : LiveOk s f .sum 150) : LiveOk s (f + 1) .cmp 140 := by
 intro p o a W h ha ho hf
 have hf1 : 32 * (s.size - a) + rank .sum < f := by simp [rank] at hf ⊢; omega
 have c1 := hi p o a _ (h.alloc (.cells zero5 27)) ha ho hf1
 have hen := enough s f .sum o a ha hf1
 rw [PA]
 cases hq : PA s f .sum o a with
 | out => rw [hq] at hen; exact hen.elim
 | err e w =>
  rw [hq] at c1
  refine cmp_no p s a o 0 0 W h hs _ _ c1 fun t a' o' er wh hz => ⟨hz, hz.2.1, ?_⟩
  rw [nT_dead (by rw [hz.2.2.1]; exact hz.2.2.2.2)]
  exact noCmp_of rfl
 | ok l a1 =>
  rw [hq] at c1 hen
  obtain ⟨g1, g2, g3⟩ := hen
  have g2 := g2 rfl
  show Calls Tryz.prog 140 _ W (Ret1 p s (ZR s a o (if isCmp (T s a1) = true then _ else _)) W)
  cases hc : isCmp (T s a1) with
  | false =>
   rw [if_neg (by decide)]
   refine cmp_no p s a o 0 0 W h hs _ _ c1 fun t a' o' er wh hz => ⟨hz, hz.2.1, ?_⟩
   obtain ⟨_, _, _, rfl, _, rfl, _⟩ := hz
   have := noCmp_of hc
   simpa [nT] using this
  | true =>
   rw [if_pos rfl]
   have hne : T s a1 ≠ [] := fun e => by rw [e] at hc; exact absurd hc (by decide)
   obtain ⟨n1, n2⟩ := nxt_lt g3 rfl hne
   have hf2 : 32 * (s.size - nxt s a1) + rank .sum < f := by simp [rank] at hf ⊢; omega
   have c3 := fun W' hp => hi p o (nxt s a1) W' hp n2 ho hf2
   have hle : a ≤ nxt s a1 := by omega
   rcases isCmp_of hc with ht | ht | ht | ht | ht | ht | ht | ht
   ·rw [ht]
    exact cmp_eq p s a a1 o 0 0 W h hs _ _ _ c1 (fun t a' o' er wh hz => hz.2.2.2) g3 ht c3 fun t u b b' o' er' wh' hz h3 => cmp_close hle hz h3 rfl
   ·rw [ht]
    exact cmp_ne p s a a1 o 0 0 W h hs _ _ _ c1 (fun t a' o' er wh hz => hz.2.2.2) g3 ht c3 fun t u b b' o' er' wh' hz h3 => cmp_close hle hz h3 rfl
   ·rw [ht]
    exact cmp_lt p s a a1 o 0 0 W h hs _ _ _ c1 (fun t a' o' er wh hz => hz.2.2.2) g3 ht c3 fun t u b b' o' er' wh' hz h3 => cmp_close hle hz h3 rfl
   ·rw [ht]
    exact cmp_le p s a a1 o 0 0 W h hs _ _ _ c1 (fun t a' o' er wh hz => hz.2.2.2) g3 ht c3 fun t u b b' o' er' wh' hz h3 => cmp_close hle hz h3 rfl
   ·rw [ht]
    exact cmp_gt p s a a1 o 0 0 W h hs _ _ _ c1 (fun t a' o' er wh hz => hz.2.2.2) g3 ht c3 fun t u b b' o' er' wh' hz h3 => cmp_close hle hz h3 rfl
   ·rw [ht]
    exact cmp_ge p s a a1 o 0 0 W h hs _ _ _ c1 (fun t a' o' er wh hz => hz.2.2.2) g3 ht c3 fun t u b b' o' er' wh' hz h3 => cmp_close hle hz h3 rfl
   ·rw [ht]
    exact cmp_mem p s a a1 o 0 0 W h hs _ _ _ c1 (fun t a' o' er wh hz => hz.2.2.2) g3 ht c3 fun t u b b' o' er' wh' hz h3 => cmp_close hle hz h3 rfl
   ·rw [ht]
    exact cmp_sub p s a a1 o 0 0 W h hs _ _ _ c1 (fun t a' o' er wh hz => hz.2.2.2) g3 ht c3 fun t u b b' o' er' wh' hz h3 => cmp_close hle hz h3 rfl
end Go.Proofs.YtgkjcimgghflmaaGreatDoor
