/-
  The phrase not of the document's own parser answers as the grammar says, when those within do; conditions: the text is no longer than a string can be.
-/
import Derived.Test.YtgkjcimgghflmaaGreatDoorZRl0
namespace Go.Proofs.YtgkjcimgghflmaaGreatDoor
set_option maxRecDepth 100000
set_option maxHeartbeats 8000000
open Go.RowKit Go.Shelf
def Jor (s : ByteArray) (a o f : Nat) (R : PR) (t : Nd) (b : Nat) (o' er : Int) (wh : Nat) : Prop :=
 a ≤ b ∧ b ≤ s.size ∧ ((er ≠ 0 ∧ R = .err er wh) ∨ (er = 0 ∧ o' = o ∧ wh = 0 ∧ ∃ g, g < f ∧ 32 * (s.size - b) + 13 ≤ g ∧ R = PA s (g + 1) (.orL t) o b))
theorem or_step (s : ByteArray) (hs : s.size ≤ 9223372036854775000) (f : Nat) (hi : ∀ g, g ≤ f → LiveOk s g .and 111) : LiveOk s (f + 1) .or 73 := by
 intro p o a W h ha ho hf
 have hf1 : 32 * (s.size - a) + rank .and < f := by simp [rank] at hf ⊢; omega
 have c1 := hi f (Nat.le_refl _) p o a _ (h.alloc (.cells zero5 27)) ha ho hf1
 have hen := enough s f .and o a ha hf1
 generalize hR : PA s (f + 1) .or o a = R
 rw [PA] at hR
 refine or_loop p s a o 0 0 W h hs _ (Jor s a o f R) (ZR s a o R) (fun t b u b' o' er' wh' => b < b' ∧ Jor s a o f R (twoN 34 t u) b' o' er' wh') c1 ?_ (fun t b o' er wh hj => hj.2.1) ?_ (fun t b o' wh u b' o2 er2 wh2 _ _ hz => hz) ?_
 ·rintro t b o' er wh ⟨k1, k2, k3⟩
  refine ⟨k1, k2, ?_⟩
  cases hq : PA s f .and o a with
  | out => rw [hq] at hen; exact hen.elim
  | err e w =>
   rw [hq] at k3 hR
   obtain ⟨rfl, rfl, k5⟩ := k3
   exact .inl ⟨k5, hR.symm⟩
  | ok l a1 =>
   rw [hq] at k3 hR hen
   obtain ⟨rfl, rfl, rfl, rfl, rfl⟩ := k3
   have g2 := hen.2.1 rfl
   obtain ⟨g, rfl⟩ : ∃ g, f = g + 1 := ⟨f - 1, by omega⟩
   exact .inr ⟨rfl, rfl, rfl, g, by omega, by simp [rank] at hf; omega, hR.symm⟩
 ·rintro t b o' wh W' ⟨k1, k2, k3⟩ ht hp
  rcases k3 with ⟨hne, _⟩ | ⟨_, rfl, rfl, g, hg, hfu, hRg⟩
  ·exact absurd rfl hne
  obtain ⟨n1, n2⟩ := nxt_lt k2 ht (by decide)
  have hf2 : 32 * (s.size - nxt s b) + rank .and < g := by simp [rank]; omega
  have hen2 := enough s g .and o _ n2 hf2
  rw [PA, if_pos ht] at hRg
  refine (hi g (by omega) p o (nxt s b) W' hp n2 ho hf2).mono fun r W2 hr => hr.imp ?_
  rintro u b' o2 er2 wh2 ⟨m1, m2, m3⟩
  refine ⟨by omega, by omega, m2, ?_⟩
  cases hq : PA s g .and o (nxt s b) with
  | out => rw [hq] at hen2; exact hen2.elim
  | err e w =>
   rw [hq] at m3 hRg
   obtain ⟨rfl, rfl, k5⟩ := m3
   exact .inl ⟨k5, hRg⟩
  | ok l a1 =>
   rw [hq] at m3 hRg
   obtain ⟨rfl, rfl, rfl, rfl, rfl⟩ := m3
   obtain ⟨g', rfl⟩ : ∃ g', g = g' + 1 := ⟨g - 1, by omega⟩
   exact .inr ⟨rfl, rfl, rfl, g', by omega, by omega, hRg⟩
 ·rintro t b o' er wh ⟨k1, k2, k3⟩ hno
  refine ⟨k1, k2, ?_⟩
  rcases k3 with ⟨hne, hRe⟩ | ⟨rfl, rfl, rfl, g, hg, hfu, hRg⟩
  ·rw [hRe]
   exact ⟨rfl, rfl, hne⟩
  ·rw [PA, if_neg (by simpa [nT] using hno)] at hRg
   rw [hRg]
   exact ⟨rfl, rfl, rfl, rfl, rfl⟩
def Jand (s : ByteArray) (a o f : Nat) (R : PR) (t : Nd) (b : Nat) (o' er : Int) (wh : Nat) : Prop :=
 a ≤ b ∧ b ≤ s.size ∧ ((er ≠ 0 ∧ R = .err er wh) ∨ (er = 0 ∧ o' = o ∧ wh = 0 ∧ ∃ g, g < f ∧ 32 * (s.size - b) + 11 ≤ g ∧ R = PA s (g + 1) (.andL t) o b))
theorem and_step (s : ByteArray) (hs : s.size ≤ 9223372036854775000) (f : Nat) (hi : ∀ g, g ≤ f → LiveOk s g .not 129) : LiveOk s (f + 1) .and 111 := by
 intro p o a W h ha ho hf
 have hf1 : 32 * (s.size - a) + rank .not < f := by simp [rank] at hf ⊢; omega
 have c1 := hi f (Nat.le_refl _) p o a _ (h.alloc (.cells zero5 27)) ha ho hf1
 have hen := enough s f .not o a ha hf1
 generalize hR : PA s (f + 1) .and o a = R
 rw [PA] at hR
 refine and_loop p s a o 0 0 W h hs _ (Jand s a o f R) (ZR s a o R) (fun t b u b' o' er' wh' => b < b' ∧ Jand s a o f R (twoN 33 t u) b' o' er' wh') c1 ?_ (fun t b o' er wh hj => hj.2.1) ?_ (fun t b o' wh u b' o2 er2 wh2 _ _ hz => hz) ?_
 ·rintro t b o' er wh ⟨k1, k2, k3⟩
  refine ⟨k1, k2, ?_⟩
  cases hq : PA s f .not o a with
  | out => rw [hq] at hen; exact hen.elim
  | err e w =>
   rw [hq] at k3 hR
   obtain ⟨rfl, rfl, k5⟩ := k3
   exact .inl ⟨k5, hR.symm⟩
  | ok l a1 =>
   rw [hq] at k3 hR hen
   obtain ⟨rfl, rfl, rfl, rfl, rfl⟩ := k3
   have g2 := hen.2.1 rfl
   obtain ⟨g, rfl⟩ : ∃ g, f = g + 1 := ⟨f - 1, by omega⟩
   exact .inr ⟨rfl, rfl, rfl, g, by omega, by simp [rank] at hf; omega, hR.symm⟩
 ·rintro t b o' wh W' ⟨k1, k2, k3⟩ ht hp
  rcases k3 with ⟨hne, _⟩ | ⟨_, rfl, rfl, g, hg, hfu, hRg⟩
  ·exact absurd rfl hne
  obtain ⟨n1, n2⟩ := nxt_lt k2 ht (by decide)
  have hf2 : 32 * (s.size - nxt s b) + rank .not < g := by simp [rank]; omega
  have hen2 := enough s g .not o _ n2 hf2
  rw [PA, if_pos ht] at hRg
  refine (hi g (by omega) p o (nxt s b) W' hp n2 ho hf2).mono fun r W2 hr => hr.imp ?_
  rintro u b' o2 er2 wh2 ⟨m1, m2, m3⟩
  refine ⟨by omega, by omega, m2, ?_⟩
  cases hq : PA s g .not o (nxt s b) with
  | out => rw [hq] at hen2; exact hen2.elim
  | err e w =>
   rw [hq] at m3 hRg
   obtain ⟨rfl, rfl, k5⟩ := m3
   exact .inl ⟨k5, hRg⟩
  | ok l a1 =>
   rw [hq] at m3 hRg
   obtain ⟨rfl, rfl, rfl, rfl, rfl⟩ := m3
   obtain ⟨g', rfl⟩ : ∃ g', g = g' + 1 := ⟨g - 1, by omega⟩
   exact .inr ⟨rfl, rfl, rfl, g', by omega, by omega, hRg⟩
 ·rintro t b o' er wh ⟨k1, k2, k3⟩ hno
  refine ⟨k1, k2, ?_⟩
  rcases k3 with ⟨hne, hRe⟩ | ⟨rfl, rfl, rfl, g, hg, hfu, hRg⟩
  ·rw [hRe]
   exact ⟨rfl, rfl, hne⟩
  ·rw [PA, if_neg (by simpa [nT] using hno)] at hRg
   rw [hRg]
   exact ⟨rfl, rfl, rfl, rfl, rfl⟩
end Go.Proofs.YtgkjcimgghflmaaGreatDoor
namespace Go.Proofs.YtgkjcimgghflmaaGreatDoor
set_option maxRecDepth 100000
set_option maxHeartbeats 8000000
open Go.RowKit Go.Shelf
attribute [local go_sem] Oper.semAt_some
structure CarryX (p : Nat) (W : World) (x : Nat) (w : World) : Prop where
 fr : Fr p W w
 px : p < x
 xs : x = W.heap.size
 box : w.heap[x]? = some (.cells zero5 27 (0, 0))
theorem CarryX.step {p : Nat} {W w w' : World} {x : Nat} (h : CarryX p W x w) (hf : Fr p w w') : CarryX p W x w' :=
 ⟨h.fr.trans hf, h.px, h.xs, hf.at h.box (by have := h.px; omega)⟩
theorem CarryX.start {p : Nat} {s : ByteArray} {W : World} {a : Nat} {o e : Int} {wh : Nat} (h : PSt W p s a o e wh) : CarryX p W W.heap.size (W.alloc (.cells zero5 27)) :=
 ⟨Fr.of ((Below.refl _ _).alloc (Nat.le_refl _) _), h.lt, rfl, World.alloc_heap_new _ _⟩
theorem one_row (op : Int) (n0 : Nat) (t : Nd) (A : Option Addr) (ca : Nat) (W : World) (hr : Rob n0 W none A ca t.ks) (hf : Fine t) (hn : n0 ≤ W.heap.size) :
  Calls Tryz.prog 141 #[.int .i64 op, nv t.op t.so t.nm t.nu (.slice A t.ks.length ca)] W fun e W' => ∃ D cd, e = .returned (nv op 0 noNm 0 (.slice D 1 cd)) ∧ Rob n0 W' none D cd [t] ∧ Below W.heap.size W W' :=
 (one_any op n0 t A ca W hr hf hn).mono fun _ _ ⟨D, cd, h1, h2, h3⟩ => ⟨D, cd, h1, h2, h3⟩
theorem not_no (p : Nat) (s : ByteArray) (a : Nat) (o e : Int) (wh : Nat) (W : World) (h : PSt W p s a o e wh) (hs : s.size ≤ 9223372036854775000) (Z : Nd → Nat → Int → Int → Nat → Prop) (ha : a ≤ s.size) (hno : nT s a e ≠ [33])
  (c1 : ∀ W', PSt W' p s a o e wh → Calls Tryz.prog 140 #[.pointer (some ⟨p, 0, none⟩)] W' (Ret1 p s Z W')) :
  Calls Tryz.prog 129 #[.pointer (some ⟨p, 0, none⟩)] W (Ret1 p s Z W) := by
 have CX := Lib.hid (CarryX.start h)
 have HP := Lib.hid (h.alloc (.cells zero5 27))
 have HC := Lib.hid c1
 have ct := take_no [33] p s a o e wh _ HP.out ha hs hno
 have ec : bs [33] = ⟨#[33]⟩ := rfl
 rw [ec] at ct
 clear h c1 ec hno
 go_enter Tryz.func129, Tryz.ntmps129
 go_wp2_with fail
 refine ct.mono ?_
 rintro e w1 ⟨rfl, b1⟩
 have CX1 := Lib.hid (CX.out.step (Fr.of b1))
 have c1 := HC.out _ (HP.out.later b1)
 clear b1 ct HC
 go_wp2_with fail
 refine c1.mono ?_
 rintro e w2 ⟨t, A, cap, a2, o2, er, wh2, rfl, hr, hf, hfr, hp2, hz2⟩
 have CX2 := Lib.hid (CX1.out.step hfr)
 have HR := Lib.hid (hr.low (Nat.succ_le_of_lt (Nat.lt_of_le_of_lt (Nat.le_of_eq CX1.out.xs) (Array.getElem?_eq_some_iff.1 CX1.out.box).1)))
 have HF := Lib.hid hf
 have HP2 := Lib.hid hp2
 have HZ2 := Lib.hid hz2
 obtain ⟨z0, z1, z2, z3, z4, f0, f1, f2, f3, f4⟩ := box_facts CX2.out.box
 clear hr hf hfr hp2 hz2 c1
 go_wp2_with fail
 have hx := CX2.out
 exact bodyPost_ret (res27 Tryz.results129 _ _ W.heap.size _ _ _ _ _ rfl (set5_same _ _ _ _ _ hx.box)) rfl
  ⟨t, A, cap, a2, o2, er, wh2, rfl, HR.out.set5 (by omega) (by omega) _ _ _ _ _, HF.out, hx.fr.set5 (Nat.le_refl _) _ _ _ _ _, HP2.out.set5 (by have := hx.px; omega) _ _ _ _ _, HZ2.out⟩
theorem not_yes (p : Nat) (s : ByteArray) (a : Nat) (o : Int) (W : World) (h : PSt W p s a o 0 0) (hs : s.size ≤ 9223372036854775000) (Z3 Z : Nd → Nat → Int → Int → Nat → Prop) (e1 : Int) (wh1 : Nat) (ha : a ≤ s.size) (ht : T s a = [33])
  (c2 : ∀ W', PSt W' p s (nxt s a) o 0 0 → Calls Tryz.prog 38 #[.pointer (some ⟨p, 0, none⟩)] W' fun r W'' => r = .returned (.tuple #[]) ∧ PSt W'' p s (nxt s a) (o + 1) e1 wh1 ∧ Fr p W' W'')
  (c3 : ∀ W', PSt W' p s (nxt s a) (o + 1) e1 wh1 → Calls Tryz.prog 129 #[.pointer (some ⟨p, 0, none⟩)] W' (Ret1 p s Z3 W'))
  (hz : ∀ u b o' er' wh', Z3 u b o' er' wh' → Z (oneN 32 u) b (wrap64 (o' - 1)) er' wh') :
  Calls Tryz.prog 129 #[.pointer (some ⟨p, 0, none⟩)] W (Ret1 p s Z W) := by
 have CX := Lib.hid (CarryX.start h)
 have HP := Lib.hid (h.alloc (.cells zero5 27))
 have HZ := Lib.hid hz
 have HC2 := Lib.hid c2
 have HC3 := Lib.hid c3
 have ct := take_yes [33] p s a o 0 _ HP.out ha hs ht
 have ec : bs [33] = ⟨#[33]⟩ := rfl
 rw [ec] at ct
 clear h c2 c3 ec ht hz
 go_enter Tryz.func129, Tryz.ntmps129
 go_wp2_with fail
 refine ct.mono ?_
 rintro e w1 ⟨rfl, h1, f1⟩
 have CX1 := Lib.hid (CX.out.step f1)
 have c2 := HC2.out _ h1
 clear h1 f1 ct HC2
 go_wp2_with fail
 refine c2.mono ?_
 rintro e w2 ⟨rfl, h2, f2⟩
 have CX2 := Lib.hid (CX1.out.step f2)
 have c3 := HC3.out _ h2
 clear h2 f2 c2 HC3
 go_wp2_with fail
 refine c3.mono ?_
 rintro e w4 ⟨u, B, cb, a4, o4, er4, wh4, rfl, hr4, hf4, hfr4, hp4, hz4⟩
 have PU := hp4.alloc (boxN u B cb)
 have hpl : p < w4.heap.size := hp4.lt
 have hux : (w4.alloc (boxN u B cb)).heap[w4.heap.size]? = some (.cells #[.int .i64 u.op, .int .i64 u.so, .string u.nm, .int .i64 u.nu, .slice B u.ks.length cb] 27 (0, 0)) := World.alloc_heap_new w4 _
 have FS : Fr p w4 ((w4.alloc (boxN u B cb)).setCell ⟨p, 2, none⟩ (.int .i64 (wrap64 (o4 - 1)))) := (Fr.of ((Below.refl w4.heap.size w4).alloc (Nat.le_refl _) (boxN u B cb))).trans (Fr.set (w4.alloc (boxN u B cb)) 2 (.int .i64 (wrap64 (o4 - 1))))
 have hxw : W.heap.size < w2.heap.size := Nat.lt_of_le_of_lt (Nat.le_of_eq CX2.out.xs) (Array.getElem?_eq_some_iff.1 CX2.out.box).1
 have CX5 := Lib.hid ((CX2.out.step hfr4).step FS)
 have UB := Lib.hid ((Fr.set (w4.alloc (boxN u B cb)) 2 (.int .i64 (wrap64 (o4 - 1)))).at (x := w4.heap.size) hux (Nat.ne_of_gt hpl))
 have UR := Lib.hid ((hr4.fr FS (Nat.lt_trans CX2.out.px hxw)).low (Nat.succ_le_of_lt hxw))
 have HF4 := Lib.hid hf4
 have HPU := Lib.hid (PU.set2 (wrap64 (o4 - 1)))
 have HZ4 := Lib.hid hz4
 obtain ⟨q0, q1, q2, q3, q4, g1, g2, g3, g4⟩ := PU.cells
 clear PU hz4 c3 hr4 hf4 hfr4 hp4 hpl hux FS hxw
 go_upto_region 6 with fail
 clear q0 q1 q2 q3 q4 g1 g2 g3 g4
 generalize ((w4.alloc (boxN u B cb)).setCell ⟨p, 2, none⟩ (.int .i64 (wrap64 (o4 - 1)))) = w5 at *
 generalize w4.heap.size = ub at *
 have hx := CX5.out
 have c5 := one_row 32 (W.heap.size + 1) u B cb w5 UR.out HF4.out (Array.getElem?_eq_some_iff.1 hx.box).1
 obtain ⟨u0, u1, u2, u3, u4, _, _, _, _, _⟩ := box_facts UB.out
 clear hx UB UR HF4
 go_wp2_with fail
 refine c5.mono ?_
 rintro e w6 ⟨D, cd, rfl, r6, b6⟩
 have CX6 := Lib.hid (CX5.out.step (Fr.of b6))
 have HP6 := Lib.hid (HPU.out.later b6)
 have R6 := Lib.hid r6
 obtain ⟨z0, z1, z2, z3, z4, f0, f1, f2, f3, f4⟩ := box_facts CX6.out.box
 clear b6 r6 c5
 go_wp2_with fail
 have hx := CX6.out
 exact bodyPost_ret (res27 Tryz.results129 _ _ W.heap.size _ _ _ _ _ rfl (set5_same _ _ _ _ _ hx.box)) rfl
  ⟨oneN 32 u, D, cd, a4, wrap64 (o4 - 1), er4, wh4, rfl, R6.out.set5 (by omega) (by omega) _ _ _ _ _, fine_op (by decide), hx.fr.set5 (Nat.le_refl _) _ _ _ _ _, HP6.out.set5 (by have := hx.px; omega) _ _ _ _ _, HZ.out _ _ _ _ _ HZ4.out⟩
theorem not_step (s : ByteArray) (hs : s.size ≤ 9223372036854775000) (f : Nat) (hi : LiveOk s f .cmp 140) (hr : LiveOk s f .not 129) : LiveOk s (f + 1) .not 129 := by
 intro p o a W h ha ho hf
 rw [PA]
 by_cases ht : T s a = [33]
 ·rw [if_pos ht]
  obtain ⟨n1, n2⟩ := nxt_lt ha ht (by decide)
  by_cases hl : 90 < o + 1
  ·refine not_yes p s a o W h hs (ZD (nxt s a) (o + 1) 2 0) _ 2 0 ha ht (fun W' hp => open_lim p s _ o 0 W' hp (by omega) (by omega)) (fun W' hp => dead_not.ret hp n2 hs (by decide)) ?_
   rintro u b o' er' wh' ⟨rfl, rfl, rfl, rfl⟩
   refine ⟨by omega, n2, ?_⟩
   rw [opn, if_pos hl]
   exact ⟨rfl, rfl, by decide⟩
  ·have hf2 : 32 * (s.size - nxt s a) + rank .not < f := by simp [rank] at hf ⊢; omega
   have hen2 := enough s f .not (o + 1) _ n2 hf2
   refine not_yes p s a o W h hs (ZR s (nxt s a) (o + 1) (PA s f .not (o + 1) (nxt s a))) _ 0 0 ha ht (fun W' hp => open_live p s _ o 0 W' hp (by omega) (by omega)) (fun W' hp => hr p (o + 1) (nxt s a) W' hp n2 (by omega) hf2) ?_
   rintro u b o' er' wh' ⟨k1, k2, k3⟩
   refine ⟨by omega, k2, ?_⟩
   rw [opn, if_neg hl]
   cases hq2 : PA s f .not (o + 1) (nxt s a) with
   | out => rw [hq2] at hen2; exact hen2.elim
   | err e w => rw [hq2] at k3; exact k3
   | ok r a2 =>
    rw [hq2] at k3
    obtain ⟨rfl, rfl, rfl, rfl, rfl⟩ := k3
    exact ⟨rfl, rfl, wrap_back o (by omega), rfl, rfl⟩
 ·rw [if_neg ht]
  have hf1 : 32 * (s.size - a) + rank .cmp < f := by simp [rank] at hf ⊢; omega
  exact not_no p s a o 0 0 W h hs _ ha (by simpa [nT] using ht) fun W' hp => hi p o a W' hp ha ho hf1
end Go.Proofs.YtgkjcimgghflmaaGreatDoor
