/-
  The phrases or and and of the document's own parser: what their loops hand back; conditions: the text is no longer than a string can be, and the phrases within answer as the grammar says.
-/
import Derived.Deep.Cut
import Derived.Test.YtgkjcimgghflmaaGreatDoorZRd
namespace Go.Proofs.YtgkjcimgghflmaaGreatDoor
set_option maxRecDepth 100000
set_option maxHeartbeats 8000000
open Go.RowKit Go.Shelf
attribute [local go_sem] Oper.semAt_some
theorem Fr.alloc {p : Nat} {A B : World} (h : Fr p A B) (o : Obj) : Fr p A (B.alloc o) := h.trans (Fr.of ((Below.refl _ _).alloc (Nat.le_refl _) _))
theorem Fr.setCell {p : Nat} {A B : World} (h : Fr p A B) (x : Addr) (hx : A.heap.size ≤ x.block) (c : Value) : Fr p A (B.setCell x c) :=
 ⟨by simpa [World.setCell] using h.os, by simpa [World.setCell] using h.tape, by simpa [World.setCell] using h.output, by simpa [World.setCell] using h.size, fun k hk hp => (Below.heap_setCell B x c k (by omega)).trans (h.block k hk hp)⟩
theorem Fr.set5 {p x : Nat} {A B : World} (h : Fr p A B) (hx : A.heap.size ≤ x) (c0 c1 c2 c3 c4 : Value) : Fr p A (set5 B x c0 c1 c2 c3 c4) :=
 ((((h.setCell _ hx c0).setCell _ hx c1).setCell _ hx c2).setCell _ hx c3).setCell _ hx c4
theorem PSt.set5 {W : World} {p x : Nat} {s : ByteArray} {a : Nat} {o e : Int} {wh : Nat} (h : PSt W p s a o e wh) (hx : p ≠ x) (c0 c1 c2 c3 c4 : Value) : PSt (set5 W x c0 c1 c2 c3 c4) p s a o e wh := (set5_other c0 c1 c2 c3 c4 hx).trans h
theorem PSt.alloc {W : World} {p : Nat} {s : ByteArray} {a : Nat} {o e : Int} {wh : Nat} (h : PSt W p s a o e wh) (ob : Obj) : PSt (W.alloc ob) p s a o e wh := h.later ((Below.refl _ _).alloc (Nat.le_refl _) _)
theorem heap_alloc {W : World} {x : Nat} {o : Obj} (h : W.heap[x]? = some o) (ob : Obj) : (W.alloc ob).heap[x]? = some o := (Lib.alloc_old W ob x (Array.getElem?_eq_some_iff.1 h).1).trans h
abbrev boxN (t : Nd) (A : Option Addr) (cap : Nat) : Obj := .cells #[.int .i64 t.op, .int .i64 t.so, .string t.nm, .int .i64 t.nu, .slice A t.ks.length cap] 27
def LiveOk (s : ByteArray) (f : Nat) (nt : NT) (F : Nat) : Prop := ∀ (p o a : Nat) (W : World), PSt W p s a o 0 0 → a ≤ s.size → o ≤ 90 → 32 * (s.size - a) + rank nt < f →
 Calls Tryz.prog F #[.pointer (some ⟨p, 0, none⟩)] W (Ret1 p s (ZR s a o (PA s f nt o a)) W)
structure Carry (p : Nat) (s : ByteArray) (W : World) (x l : Nat) (t : Nd) (A : Option Addr) (cap : Nat) (w : World) : Prop where
 fr : Fr p W w
 px : p < x
 xl : x < l
 xs : x = W.heap.size
 box : w.heap[x]? = some (.cells zero5 27 (0, 0))
 lbox : w.heap[l]? = some (.cells #[.int .i64 t.op, .int .i64 t.so, .string t.nm, .int .i64 t.nu, .slice A t.ks.length cap] 27 (0, 0))
 rob : Rob (x + 1) w none A cap t.ks
 fine : Fine t
theorem Carry.step {p : Nat} {s : ByteArray} {W w w' : World} {x l : Nat} {t : Nd} {A : Option Addr} {cap : Nat} (h : Carry p s W x l t A cap w) (hf : Fr p w w') : Carry p s W x l t A cap w' :=
 ⟨h.fr.trans hf, h.px, h.xl, h.xs, hf.at h.box (by have := h.px; omega), hf.at h.lbox (by have := h.px; have := h.xl; omega), h.rob.fr hf (by have := h.px; omega), h.fine⟩
theorem Carry.start {p : Nat} {s : ByteArray} {W w1 : World} {a : Nat} {o e : Int} {wh : Nat} (h : PSt W p s a o e wh) {t : Nd} {A : Option Addr} {cap : Nat} (hr : Rob (W.alloc (.cells zero5 27)).heap.size w1 none A cap t.ks) (hf : Fine t) (hfr : Fr p (W.alloc (.cells zero5 27)) w1) :
  Carry p s W W.heap.size w1.heap.size t A cap (w1.alloc (boxN t A cap)) := by
 have hp := h.lt
 have hsz : W.heap.size + 1 ≤ w1.heap.size := by have := hfr.size; simpa using this
 refine ⟨((Fr.of ((Below.refl _ _).alloc (Nat.le_refl _) _)).trans hfr).alloc _, hp, by omega, rfl, heap_alloc (hfr.at (World.alloc_heap_new W _) (by omega)) _, World.alloc_heap_new w1 _, ?_, hf⟩
 have : Rob (W.heap.size + 1) w1 none A cap t.ks := by simpa using hr
 exact this.later ((Below.refl _ _).alloc (Nat.le_refl _) _)
theorem form_no (p : Nat) (s : ByteArray) (a : Nat) (o e : Int) (wh : Nat) (W : World) (h : PSt W p s a o e wh) (hs : s.size ≤ 9223372036854775000) (Z1 Z : Nd → Nat → Int → Int → Nat → Prop)
  (c1 : Calls Tryz.prog 36 #[.pointer (some ⟨p, 0, none⟩)] (W.alloc (.cells zero5 27)) (Ret1 p s Z1 (W.alloc (.cells zero5 27))))
  (hz : ∀ t a o er wh, Z1 t a o er wh → Z t a o er wh ∧ a ≤ s.size ∧ nT s a er ≠ [60, 61, 62]) :
  Calls Tryz.prog 21 #[.pointer (some ⟨p, 0, none⟩)] W (Ret1 p s Z W) := by
 have H := Lib.hid h
 have HZ := Lib.hid hz
 clear h hz
 go_enter Tryz.func21, Tryz.ntmps21
 go_wp2_with fail
 refine c1.mono ?_
 rintro e w1 ⟨t, A, cap, a1, o1, er, wh1, rfl, hr, hf, hfr, hp1, hz1⟩
 have CA := Lib.hid (Carry.start H.out hr hf hfr)
 obtain ⟨hz2, ha1, hno⟩ := HZ.out _ _ _ _ _ hz1
 have HP := Lib.hid (hp1.alloc (boxN t A cap))
 have HZ2 := Lib.hid hz2
 have ct := take_no [60, 61, 62] p s a1 o1 er wh1 _ HP.out ha1 hs hno
 have ec : bs [60, 61, 62] = ⟨#[60, 61, 62]⟩ := rfl
 rw [ec] at ct
 clear hr hf hfr hp1 hz1 hz2 ha1 hno ec c1
 go_wp2_with fail
 refine ct.mono ?_
 rintro e w2 ⟨rfl, b2⟩
 have CA2 := Lib.hid (CA.out.step (Fr.of b2))
 have HP2 := Lib.hid (HP.out.later b2)
 clear b2 ct
 obtain ⟨z0, z1, z2, z3, z4, f0, f1, f2, f3, f4⟩ := box_facts CA2.out.box
 obtain ⟨l0, l1, l2, l3, l4, _, _, _, _, _⟩ := box_facts CA2.out.lbox
 go_wp2_with fail
 have hx := CA2.out
 exact bodyPost_ret (res27 Tryz.results21 _ _ W.heap.size _ _ _ _ _ rfl (set5_same _ _ _ _ _ hx.box)) rfl
  ⟨t, A, cap, a1, o1, er, wh1, rfl, hx.rob.set5 (by omega) (by omega) _ _ _ _ _, hx.fine, hx.fr.set5 (Nat.le_refl _) _ _ _ _ _, HP2.out.set5 (by have := hx.px; omega) _ _ _ _ _, HZ2.out⟩
end Go.Proofs.YtgkjcimgghflmaaGreatDoor
namespace Go.Proofs.YtgkjcimgghflmaaGreatDoor
set_option maxRecDepth 100000
set_option maxHeartbeats 8000000
open Go.RowKit Go.Shelf
attribute [local go_sem] Oper.semAt_some
theorem Rob.low {n0 n1 : Nat} {w : World} {row : Option Nat} {A : Option Addr} {cap : Nat} {ks : List Nd} (h : Rob n0 w row A cap ks) (hn : n1 ≤ n0) : Rob n1 w row A cap ks :=
 fun W hW => h W fun k h1 h2 h3 => hW k (by omega) h2 h3
theorem form_yes (p : Nat) (s : ByteArray) (a a1 : Nat) (o e : Int) (wh : Nat) (W : World) (h : PSt W p s a o e wh) (hs : s.size ≤ 9223372036854775000) (Z1 Z3 Z : Nd → Nat → Int → Int → Nat → Prop) (e1 : Int) (wh1 : Nat)
  (c1 : Calls Tryz.prog 36 #[.pointer (some ⟨p, 0, none⟩)] (W.alloc (.cells zero5 27)) (Ret1 p s Z1 (W.alloc (.cells zero5 27))))
  (hz1 : ∀ t a o' er wh, Z1 t a o' er wh → a = a1 ∧ o' = o ∧ er = 0 ∧ wh = 0) (ha : a1 ≤ s.size) (ht : T s a1 = [60, 61, 62])
  (c2 : ∀ W', PSt W' p s (nxt s a1) o 0 0 → Calls Tryz.prog 38 #[.pointer (some ⟨p, 0, none⟩)] W' fun r W'' => r = .returned (.tuple #[]) ∧ PSt W'' p s (nxt s a1) (o + 1) e1 wh1 ∧ Fr p W' W'')
  (c3 : ∀ W', PSt W' p s (nxt s a1) (o + 1) e1 wh1 → Calls Tryz.prog 21 #[.pointer (some ⟨p, 0, none⟩)] W' (Ret1 p s Z3 W'))
  (hz : ∀ t u a b o' er' wh', Z1 t a o 0 0 → Z3 u b o' er' wh' → Z (twoN 36 t u) b (wrap64 (o' - 1)) er' wh') :
  Calls Tryz.prog 21 #[.pointer (some ⟨p, 0, none⟩)] W (Ret1 p s Z W) := by
 have H := Lib.hid h
 have HZ1 := Lib.hid hz1
 have HZ := Lib.hid hz
 have HC2 := Lib.hid c2
 have HC3 := Lib.hid c3
 have HT := Lib.hid ht
 clear h hz hz1 c2 c3 ht
 go_enter Tryz.func21, Tryz.ntmps21
 go_wp2_with fail
 refine c1.mono ?_
 rintro e w1 ⟨t, A, cap, a2, o2, er, wh2, rfl, hr, hf, hfr, hp1, hz1⟩
 obtain ⟨rfl, rfl, rfl, rfl⟩ := HZ1.out _ _ _ _ _ hz1
 have CA := Lib.hid (Carry.start H.out hr hf hfr)
 have HP := Lib.hid (hp1.alloc (boxN t A cap))
 have HZ2 := Lib.hid hz1
 have ct := take_yes [60, 61, 62] p s a2 o2 0 _ HP.out ha hs HT.out
 have ec : bs [60, 61, 62] = ⟨#[60, 61, 62]⟩ := rfl
 rw [ec] at ct
 clear hr hf hfr hp1 hz1 ec c1
 go_wp2_with fail
 refine ct.mono ?_
 rintro e w2 ⟨rfl, h2, f2⟩
 have CA2 := Lib.hid (CA.out.step f2)
 have c2 := HC2.out _ h2
 clear h2 f2 ct
 go_wp2_with fail
 refine c2.mono ?_
 rintro e w3 ⟨rfl, h3, f3⟩
 have CA3 := Lib.hid (CA2.out.step f3)
 have c3 := HC3.out _ h3
 clear h3 f3 c2
 go_wp2_with fail
 refine c3.mono ?_
 rintro e w4 ⟨u, B, cb, a4, o4, er4, wh4, rfl, hr4, hf4, hfr4, hp4, hz4⟩
 have CA4 := Lib.hid (CA3.out.step hfr4)
 have PU := hp4.alloc (boxN u B cb)
 have hux : (w4.alloc (boxN u B cb)).heap[w4.heap.size]? = some (.cells #[.int .i64 u.op, .int .i64 u.so, .string u.nm, .int .i64 u.nu, .slice B u.ks.length cb] 27 (0, 0)) := World.alloc_heap_new w4 _
 have FS := (Fr.of (p := p) ((Below.refl _ _).alloc (Nat.le_refl _) (boxN u B cb))).trans (Fr.set (w4.alloc (boxN u B cb)) 2 (.int .i64 (wrap64 (o4 - 1))))
 have CA5 := Lib.hid (CA4.out.step FS)
 have hpl : p < w4.heap.size := by have := hp4.lt; exact this
 have hw3 : W.heap.size + 1 ≤ w3.heap.size := by exact (Array.getElem?_eq_some_iff.1 CA3.out.box).1
 have UB := Lib.hid ((Fr.set (w4.alloc (boxN u B cb)) 2 (.int .i64 (wrap64 (o4 - 1)))).at (x := w4.heap.size) hux (Nat.ne_of_gt hpl))
 have UR := Lib.hid ((hr4.fr FS (Nat.lt_of_lt_of_le (Nat.lt_succ_of_lt CA3.out.px) hw3)).low hw3)
 have HF4 := Lib.hid hf4
 have HPU := Lib.hid (PU.set2 (wrap64 (o4 - 1)))
 have HZ4 := Lib.hid hz4
 obtain ⟨q0, q1, q2, q3, q4, g1, g2, g3, g4⟩ := PU.cells
 clear PU hz4 c3 HT HC2 HC3 CA4 hr4 hf4 hfr4 hp4 hpl hux FS hw3
 go_upto_region 7 with fail
 clear q0 q1 q2 q3 q4 g1 g2 g3 g4
 generalize ((w4.alloc (boxN u B cb)).setCell ⟨p, 2, none⟩ (.int .i64 (wrap64 (o4 - 1)))) = w5 at *
 generalize w4.heap.size = ub at *
 have hx := CA5.out
 have c5 := two_any 36 (W.heap.size + 1) t u A B cap cb w5 hx.rob UR.out hx.fine HF4.out (by have := (Array.getElem?_eq_some_iff.1 hx.box).1; omega)
 obtain ⟨l0, l1, l2, l3, l4, _, _, _, _, _⟩ := box_facts hx.lbox
 obtain ⟨u0, u1, u2, u3, u4, _, _, _, _, _⟩ := box_facts UB.out
 clear hx UB UR HF4
 go_wp2_with fail
 refine c5.mono ?_
 rintro e w6 ⟨D, cd, rfl, r6, b6⟩
 have CA6 := Lib.hid (CA5.out.step (Fr.of b6))
 have HP6 := Lib.hid (HPU.out.later b6)
 have R6 := Lib.hid r6
 obtain ⟨z0, z1, z2, z3, z4, f0, f1, f2, f3, f4⟩ := box_facts CA6.out.box
 clear b6 r6 c5
 go_wp2_with fail
 have hx := CA6.out
 exact bodyPost_ret (res27 Tryz.results21 _ _ W.heap.size _ _ _ _ _ rfl (set5_same _ _ _ _ _ hx.box)) rfl
   ⟨twoN 36 t u, D, cd, a4, wrap64 (o4 - 1), er4, wh4, rfl, R6.out.set5 (by omega) (by omega) _ _ _ _ _, fine_op (by decide), hx.fr.set5 (Nat.le_refl _) _ _ _ _ _, HP6.out.set5 (by have := hx.px; omega) _ _ _ _ _, HZ.out _ _ _ _ _ _ _ HZ2.out HZ4.out⟩
theorem imp_no (p : Nat) (s : ByteArray) (a : Nat) (o e : Int) (wh : Nat) (W : World) (h : PSt W p s a o e wh) (hs : s.size ≤ 9223372036854775000) (Z1 Z : Nd → Nat → Int → Int → Nat → Prop)
  (c1 : Calls Tryz.prog 73 #[.pointer (some ⟨p, 0, none⟩)] (W.alloc (.cells zero5 27)) (Ret1 p s Z1 (W.alloc (.cells zero5 27))))
  (hz : ∀ t a o er wh, Z1 t a o er wh → Z t a o er wh ∧ a ≤ s.size ∧ nT s a er ≠ [61, 62]) :
  Calls Tryz.prog 36 #[.pointer (some ⟨p, 0, none⟩)] W (Ret1 p s Z W) := by
 have H := Lib.hid h
 have HZ := Lib.hid hz
 clear h hz
 go_enter Tryz.func36, Tryz.ntmps36
 go_wp2_with fail
 refine c1.mono ?_
 rintro e w1 ⟨t, A, cap, a1, o1, er, wh1, rfl, hr, hf, hfr, hp1, hz1⟩
 have CA := Lib.hid (Carry.start H.out hr hf hfr)
 obtain ⟨hz2, ha1, hno⟩ := HZ.out _ _ _ _ _ hz1
 have HP := Lib.hid (hp1.alloc (boxN t A cap))
 have HZ2 := Lib.hid hz2
 have ct := take_no [61, 62] p s a1 o1 er wh1 _ HP.out ha1 hs hno
 have ec : bs [61, 62] = ⟨#[61, 62]⟩ := rfl
 rw [ec] at ct
 clear hr hf hfr hp1 hz1 hz2 ha1 hno ec c1
 go_wp2_with fail
 refine ct.mono ?_
 rintro e w2 ⟨rfl, b2⟩
 have CA2 := Lib.hid (CA.out.step (Fr.of b2))
 have HP2 := Lib.hid (HP.out.later b2)
 clear b2 ct
 obtain ⟨z0, z1, z2, z3, z4, f0, f1, f2, f3, f4⟩ := box_facts CA2.out.box
 obtain ⟨l0, l1, l2, l3, l4, _, _, _, _, _⟩ := box_facts CA2.out.lbox
 go_wp2_with fail
 have hx := CA2.out
 exact bodyPost_ret (res27 Tryz.results36 _ _ W.heap.size _ _ _ _ _ rfl (set5_same _ _ _ _ _ hx.box)) rfl
  ⟨t, A, cap, a1, o1, er, wh1, rfl, hx.rob.set5 (by omega) (by omega) _ _ _ _ _, hx.fine, hx.fr.set5 (Nat.le_refl _) _ _ _ _ _, HP2.out.set5 (by have := hx.px; omega) _ _ _ _ _, HZ2.out⟩
theorem imp_yes (p : Nat) (s : ByteArray) (a a1 : Nat) (o e : Int) (wh : Nat) (W : World) (h : PSt W p s a o e wh) (hs : s.size ≤ 9223372036854775000) (Z1 Z3 Z : Nd → Nat → Int → Int → Nat → Prop) (e1 : Int) (wh1 : Nat)
  (c1 : Calls Tryz.prog 73 #[.pointer (some ⟨p, 0, none⟩)] (W.alloc (.cells zero5 27)) (Ret1 p s Z1 (W.alloc (.cells zero5 27))))
  (hz1 : ∀ t a o' er wh, Z1 t a o' er wh → a = a1 ∧ o' = o ∧ er = 0 ∧ wh = 0) (ha : a1 ≤ s.size) (ht : T s a1 = [61, 62])
  (c2 : ∀ W', PSt W' p s (nxt s a1) o 0 0 → Calls Tryz.prog 38 #[.pointer (some ⟨p, 0, none⟩)] W' fun r W'' => r = .returned (.tuple #[]) ∧ PSt W'' p s (nxt s a1) (o + 1) e1 wh1 ∧ Fr p W' W'')
  (c3 : ∀ W', PSt W' p s (nxt s a1) (o + 1) e1 wh1 → Calls Tryz.prog 36 #[.pointer (some ⟨p, 0, none⟩)] W' (Ret1 p s Z3 W'))
  (hz : ∀ t u a b o' er' wh', Z1 t a o 0 0 → Z3 u b o' er' wh' → Z (twoN 35 t u) b (wrap64 (o' - 1)) er' wh') :
  Calls Tryz.prog 36 #[.pointer (some ⟨p, 0, none⟩)] W (Ret1 p s Z W) := by
 have H := Lib.hid h
 have HZ1 := Lib.hid hz1
 have HZ := Lib.hid hz
 have HC2 := Lib.hid c2
 have HC3 := Lib.hid c3
 have HT := Lib.hid ht
 clear h hz hz1 c2 c3 ht
 go_enter Tryz.func36, Tryz.ntmps36
 go_wp2_with fail
 refine c1.mono ?_
 rintro e w1 ⟨t, A, cap, a2, o2, er, wh2, rfl, hr, hf, hfr, hp1, hz1⟩
 obtain ⟨rfl, rfl, rfl, rfl⟩ := HZ1.out _ _ _ _ _ hz1
 have CA := Lib.hid (Carry.start H.out hr hf hfr)
 have HP := Lib.hid (hp1.alloc (boxN t A cap))
 have HZ2 := Lib.hid hz1
 have ct := take_yes [61, 62] p s a2 o2 0 _ HP.out ha hs HT.out
 have ec : bs [61, 62] = ⟨#[61, 62]⟩ := rfl
 rw [ec] at ct
 clear hr hf hfr hp1 hz1 ec c1
 go_wp2_with fail
 refine ct.mono ?_
 rintro e w2 ⟨rfl, h2, f2⟩
 have CA2 := Lib.hid (CA.out.step f2)
 have c2 := HC2.out _ h2
 clear h2 f2 ct
 go_wp2_with fail
 refine c2.mono ?_
 rintro e w3 ⟨rfl, h3, f3⟩
 have CA3 := Lib.hid (CA2.out.step f3)
 have c3 := HC3.out _ h3
 clear h3 f3 c2
 go_wp2_with fail
 refine c3.mono ?_
 rintro e w4 ⟨u, B, cb, a4, o4, er4, wh4, rfl, hr4, hf4, hfr4, hp4, hz4⟩
 have CA4 := Lib.hid (CA3.out.step hfr4)
 have PU := hp4.alloc (boxN u B cb)
 have hux : (w4.alloc (boxN u B cb)).heap[w4.heap.size]? = some (.cells #[.int .i64 u.op, .int .i64 u.so, .string u.nm, .int .i64 u.nu, .slice B u.ks.length cb] 27 (0, 0)) := World.alloc_heap_new w4 _
 have FS := (Fr.of (p := p) ((Below.refl _ _).alloc (Nat.le_refl _) (boxN u B cb))).trans (Fr.set (w4.alloc (boxN u B cb)) 2 (.int .i64 (wrap64 (o4 - 1))))
 have CA5 := Lib.hid (CA4.out.step FS)
 have hpl : p < w4.heap.size := by have := hp4.lt; exact this
 have hw3 : W.heap.size + 1 ≤ w3.heap.size := by exact (Array.getElem?_eq_some_iff.1 CA3.out.box).1
 have UB := Lib.hid ((Fr.set (w4.alloc (boxN u B cb)) 2 (.int .i64 (wrap64 (o4 - 1)))).at (x := w4.heap.size) hux (Nat.ne_of_gt hpl))
 have UR := Lib.hid ((hr4.fr FS (Nat.lt_of_lt_of_le (Nat.lt_succ_of_lt CA3.out.px) hw3)).low hw3)
 have HF4 := Lib.hid hf4
 have HPU := Lib.hid (PU.set2 (wrap64 (o4 - 1)))
 have HZ4 := Lib.hid hz4
 obtain ⟨q0, q1, q2, q3, q4, g1, g2, g3, g4⟩ := PU.cells
 clear PU hz4 c3 HT HC2 HC3 CA4 hr4 hf4 hfr4 hp4 hpl hux FS hw3
 go_upto_region 7 with fail
 clear q0 q1 q2 q3 q4 g1 g2 g3 g4
 generalize ((w4.alloc (boxN u B cb)).setCell ⟨p, 2, none⟩ (.int .i64 (wrap64 (o4 - 1)))) = w5 at *
 generalize w4.heap.size = ub at *
 have hx := CA5.out
 have c5 := two_any 35 (W.heap.size + 1) t u A B cap cb w5 hx.rob UR.out hx.fine HF4.out (by have := (Array.getElem?_eq_some_iff.1 hx.box).1; omega)
 obtain ⟨l0, l1, l2, l3, l4, _, _, _, _, _⟩ := box_facts hx.lbox
 obtain ⟨u0, u1, u2, u3, u4, _, _, _, _, _⟩ := box_facts UB.out
 clear hx UB UR HF4
 go_wp2_with fail
 refine c5.mono ?_
 rintro e w6 ⟨D, cd, rfl, r6, b6⟩
 have CA6 := Lib.hid (CA5.out.step (Fr.of b6))
 have HP6 := Lib.hid (HPU.out.later b6)
 have R6 := Lib.hid r6
 obtain ⟨z0, z1, z2, z3, z4, f0, f1, f2, f3, f4⟩ := box_facts CA6.out.box
 clear b6 r6 c5
 go_wp2_with fail
 have hx := CA6.out
 exact bodyPost_ret (res27 Tryz.results36 _ _ W.heap.size _ _ _ _ _ rfl (set5_same _ _ _ _ _ hx.box)) rfl
   ⟨twoN 35 t u, D, cd, a4, wrap64 (o4 - 1), er4, wh4, rfl, R6.out.set5 (by omega) (by omega) _ _ _ _ _, fine_op (by decide), hx.fr.set5 (Nat.le_refl _) _ _ _ _ _, HP6.out.set5 (by have := hx.px; omega) _ _ _ _ _, HZ.out _ _ _ _ _ _ _ HZ2.out HZ4.out⟩
end Go.Proofs.YtgkjcimgghflmaaGreatDoor
namespace Go.Proofs.YtgkjcimgghflmaaGreatDoor
set_option maxRecDepth 100000
set_option maxHeartbeats 8000000
open Go.RowKit Go.Shelf
theorem rob_none (n0 : Nat) (w : World) (A : Option Addr) (cap : Nat) : Rob n0 w none A cap [] := fun _ _ =>
 .mk _ _ _ (by simp) 0 0 (fun _ => none) (fun _ => 0) (fun h => absurd h (by simp)) (fun i hi => absurd hi (by simp)) (fun i hi => absurd hi (by simp)) (fun i hi => absurd hi (by simp))
def ZD (a : Nat) (o e : Int) (wh : Nat) (_t : Nd) (a' : Nat) (o' e' : Int) (wh' : Nat) : Prop := a' = a ∧ o' = o ∧ e' = e ∧ wh' = wh
theorem DeadOk.ret {F : Nat} (h : DeadOk F) {p : Nat} {s : ByteArray} {a : Nat} {o e : Int} {wh : Nat} {W : World} (hp : PSt W p s a o e wh) (ha : a ≤ s.size) (hs : s.size ≤ 9223372036854775000) (he : e ≠ 0) :
  Calls Tryz.prog F #[.pointer (some ⟨p, 0, none⟩)] W (Ret1 p s (ZD a o e wh) W) := by
 refine (h p s a o e wh W hp ha hs he).mono ?_
 rintro r W' ⟨rfl, hb⟩
 exact ⟨zeroN, none, 0, a, o, e, wh, rfl, rob_none _ _ _ _, fine_op (by decide), Fr.of hb, hp.later hb, rfl, rfl, rfl, rfl⟩
theorem Ret1.imp {p : Nat} {s : ByteArray} {Z Z' : Nd → Nat → Int → Int → Nat → Prop} {W W' : World} {e : Ending} (h : Ret1 p s Z W e W') (k : ∀ t a o er wh, Z t a o er wh → Z' t a o er wh) : Ret1 p s Z' W e W' := by
 obtain ⟨t, A, cap, a, o, er, wh, h1, h2, h3, h4, h5, h6⟩ := h
 exact ⟨t, A, cap, a, o, er, wh, h1, h2, h3, h4, h5, k _ _ _ _ _ h6⟩
theorem wrap_back (o : Nat) (ho : o ≤ 1000) : wrap64 (((o + 1 : Nat) : Int) - 1) = (o : Int) := by rw [IntWalk.wrap64_in _ (by omega)]; omega
theorem form_step (s : ByteArray) (hs : s.size ≤ 9223372036854775000) (f : Nat) (hi : LiveOk s f .imp 36) (hr : LiveOk s f .form 21) : LiveOk s (f + 1) .form 21 := by
 intro p o a W h ha ho hf
 have hf1 : 32 * (s.size - a) + rank .imp < f := by simp [rank] at hf ⊢; omega
 have c1 := hi p o a _ (h.alloc (.cells zero5 27)) ha ho hf1
 have hen := enough s f .imp o a ha hf1
 rw [PA]
 cases hq : PA s f .imp o a with
 | out => rw [hq] at hen; exact hen.elim
 | err e w =>
  rw [hq] at c1
  refine form_no p s a o 0 0 W h hs _ _ c1 fun t a' o' er wh hz => ⟨hz, hz.2.1, ?_⟩
  rw [nT_dead (by rw [hz.2.2.1]; exact hz.2.2.2.2)]
  decide
 | ok l a1 =>
  rw [hq] at c1 hen
  obtain ⟨g1, g2, g3⟩ := hen
  have g2 := g2 rfl
  show Calls Tryz.prog 21 _ W (Ret1 p s (ZR s a o (if T s a1 = [60, 61, 62] then _ else _)) W)
  by_cases ht : T s a1 = [60, 61, 62]
  ·rw [if_pos ht]
   obtain ⟨n1, n2⟩ := nxt_lt g3 ht (by decide)
   by_cases hl : 90 < o + 1
   ·refine form_yes p s a a1 o 0 0 W h hs _ (ZD (nxt s a1) (o + 1) 2 0) _ 2 0 c1 (fun t a' o' er wh hz => hz.2.2.2) g3 ht
     (fun W' hp => open_lim p s _ o 0 W' hp (by omega) (by omega)) (fun W' hp => dead_form.ret hp n2 hs (by decide)) ?_
    rintro t u b b' o' er' wh' hz ⟨rfl, rfl, rfl, rfl⟩
    refine ⟨by omega, n2, ?_⟩
    rw [opn, if_pos hl]
    exact ⟨rfl, rfl, by decide⟩
   ·have hf2 : 32 * (s.size - nxt s a1) + rank .form < f := by simp [rank] at hf ⊢; omega
    have hen2 := enough s f .form (o + 1) _ n2 hf2
    refine form_yes p s a a1 o 0 0 W h hs _ (ZR s (nxt s a1) (o + 1) (PA s f .form (o + 1) (nxt s a1))) _ 0 0 c1 (fun t a' o' er wh hz => hz.2.2.2) g3 ht
     (fun W' hp => open_live p s _ o 0 W' hp (by omega) (by omega)) (fun W' hp => hr p (o + 1) (nxt s a1) W' hp n2 (by omega) hf2) ?_
    rintro t u b b' o' er' wh' hz ⟨k1, k2, k3⟩
    refine ⟨by omega, k2, ?_⟩
    rw [opn, if_neg hl]
    cases hq2 : PA s f .form (o + 1) (nxt s a1) with
    | out => rw [hq2] at hen2; exact hen2.elim
    | err e w => rw [hq2] at k3; exact k3
    | ok r a2 =>
     rw [hq2] at k3
     obtain ⟨rfl, rfl, rfl, rfl, rfl⟩ := k3
     exact ⟨by rw [hz.2.2.1], rfl, wrap_back o (by omega), rfl, rfl⟩
  ·rw [if_neg ht]
   refine form_no p s a o 0 0 W h hs _ _ c1 fun t a' o' er wh hz => ⟨hz, hz.2.1, ?_⟩
   obtain ⟨_, _, _, rfl, _, rfl, _⟩ := hz
   simpa [nT] using ht
theorem imp_step (s : ByteArray) (hs : s.size ≤ 9223372036854775000) (f : Nat) (hi : LiveOk s f .or 73) (hr : LiveOk s f .imp 36) : LiveOk s (f + 1) .imp 36 := by
 intro p o a W h ha ho hf
 have hf1 : 32 * (s.size - a) + rank .or < f := by simp [rank] at hf ⊢; omega
 have c1 := hi p o a _ (h.alloc (.cells zero5 27)) ha ho hf1
 have hen := enough s f .or o a ha hf1
 rw [PA]
 cases hq : PA s f .or o a with
 | out => rw [hq] at hen; exact hen.elim
 | err e w =>
  rw [hq] at c1
  refine imp_no p s a o 0 0 W h hs _ _ c1 fun t a' o' er wh hz => ⟨hz, hz.2.1, ?_⟩
  rw [nT_dead (by rw [hz.2.2.1]; exact hz.2.2.2.2)]
  decide
 | ok l a1 =>
  rw [hq] at c1 hen
  obtain ⟨g1, g2, g3⟩ := hen
  have g2 := g2 rfl
  show Calls Tryz.prog 36 _ W (Ret1 p s (ZR s a o (if T s a1 = [61, 62] then _ else _)) W)
  by_cases ht : T s a1 = [61, 62]
  ·rw [if_pos ht]
   obtain ⟨n1, n2⟩ := nxt_lt g3 ht (by decide)
   by_cases hl : 90 < o + 1
   ·refine imp_yes p s a a1 o 0 0 W h hs _ (ZD (nxt s a1) (o + 1) 2 0) _ 2 0 c1 (fun t a' o' er wh hz => hz.2.2.2) g3 ht
     (fun W' hp => open_lim p s _ o 0 W' hp (by omega) (by omega)) (fun W' hp => dead_imp.ret hp n2 hs (by decide)) ?_
    rintro t u b b' o' er' wh' hz ⟨rfl, rfl, rfl, rfl⟩
    refine ⟨by omega, n2, ?_⟩
    rw [opn, if_pos hl]
    exact ⟨rfl, rfl, by decide⟩
   ·have hf2 : 32 * (s.size - nxt s a1) + rank .imp < f := by simp [rank] at hf ⊢; omega
    have hen2 := enough s f .imp (o + 1) _ n2 hf2
    refine imp_yes p s a a1 o 0 0 W h hs _ (ZR s (nxt s a1) (o + 1) (PA s f .imp (o + 1) (nxt s a1))) _ 0 0 c1 (fun t a' o' er wh hz => hz.2.2.2) g3 ht
     (fun W' hp => open_live p s _ o 0 W' hp (by omega) (by omega)) (fun W' hp => hr p (o + 1) (nxt s a1) W' hp n2 (by omega) hf2) ?_
    rintro t u b b' o' er' wh' hz ⟨k1, k2, k3⟩
    refine ⟨by omega, k2, ?_⟩
    rw [opn, if_neg hl]
    cases hq2 : PA s f .imp (o + 1) (nxt s a1) with
    | out => rw [hq2] at hen2; exact hen2.elim
    | err e w => rw [hq2] at k3; exact k3
    | ok r a2 =>
     rw [hq2] at k3
     obtain ⟨rfl, rfl, rfl, rfl, rfl⟩ := k3
     exact ⟨by rw [hz.2.2.1], rfl, wrap_back o (by omega), rfl, rfl⟩
  ·rw [if_neg ht]
   refine imp_no p s a o 0 0 W h hs _ _ c1 fun t a' o' er wh hz => ⟨hz, hz.2.1, ?_⟩
   obtain ⟨_, _, _, rfl, _, rfl, _⟩ := hz
   simpa [nT] using ht
end Go.Proofs.YtgkjcimgghflmaaGreatDoor
namespace Go.Proofs.YtgkjcimgghflmaaGreatDoor
set_option maxRecDepth 100000
set_option maxHeartbeats 8000000
open Go.RowKit Go.Shelf
attribute [local go_sem] Oper.semAt_some
theorem Rob.weak {n0 : Nat} {w : World} {row : Option Nat} {A : Option Addr} {cap : Nat} {ks : List Nd} (h : Rob n0 w row A cap ks) : Rob n0 w none A cap ks :=
 fun W hW => h W fun k h1 h2 _ => hW k h1 h2 (by simp)
theorem Rob.except {n0 n1 l : Nat} {w : World} {A : Option Addr} {cap : Nat} {ks : List Nd} (h : Rob n0 w none A cap ks) (hl : l < n0) (hn : n1 ≤ n0) : Rob n1 w (some l) A cap ks :=
 fun W hW => h W fun k h1 h2 _ => hW k (by omega) h2 (by simp; omega)
theorem Rob.born {n0 : Nat} {w : World} {A : Option Addr} {cap : Nat} {ks : List Nd} (h : Rob n0 w none A cap ks) (ob : Obj) : Rob n0 (w.alloc ob) (some w.heap.size) A cap ks :=
 fun W hW => h W fun k h1 h2 _ => (hW k h1 (by simp; omega) (by simp; omega)).trans (Lib.alloc_old w ob k h2)
theorem Rob.setrow {n0 b : Nat} {w : World} {A : Option Addr} {cap : Nat} {ks : List Nd} (h : Rob n0 w (some b) A cap ks) (c0 c1 c2 c3 c4 : Value) : Rob n0 (Go.Proofs.YtgkjcimgghflmaaGreatDoor.set5 w b c0 c1 c2 c3 c4) (some b) A cap ks :=
 fun W hW => h W fun k h1 h2 h3 => (hW k h1 (by rw [set5_size]; exact h2) h3).trans (set5_other c0 c1 c2 c3 c4 (fun e => h3 (by rw [e])))
theorem rob_twoR {n0 g : Nat} {row : Option Nat} {w : World} {t u : Nd} {A B : Option Addr} {ca cb : Nat} (hg : n0 ≤ g) (hgr : some g ≠ row)
  (h : w.heap[g]? = some (.cells #[.int .i64 t.op, .int .i64 t.so, .string t.nm, .int .i64 t.nu, .slice A t.ks.length ca, .int .i64 u.op, .int .i64 u.so, .string u.nm, .int .i64 u.nu, .slice B u.ks.length cb] 27 (0, 0)))
  (hr : Rob n0 w row A ca t.ks) (hs : Rob n0 w row B cb u.ks) (hf : Fine t) (hf' : Fine u) : Rob n0 w row (some ⟨g, 0, none⟩) 2 [t, u] := fun W hW => by
 have hgW : W.heap[g]? = some _ := (hW g hg (Array.getElem?_eq_some_iff.1 h).1 hgr).trans h
 have c := fun (i : Nat) (v : Value) (hv : (#[Value.int .i64 t.op, .int .i64 t.so, .string t.nm, .int .i64 t.nu, .slice A t.ks.length ca, .int .i64 u.op, .int .i64 u.so, .string u.nm, .int .i64 u.nu, .slice B u.ks.length cb] : Array Value)[i]? = some v) => cell_row hgW (i := i) hv
 refine .mk _ _ _ (by unfold maxLen; simp) g 0 (fun i => if i = 0 then A else B) (fun i => if i = 0 then ca else cb) (fun _ => rfl) (fun i hi => ?_) (fun i hi => ?_) (fun i hi => ?_)
 all_goals
  obtain rfl | rfl : i = 0 ∨ i = 1 := by simp at hi; omega
 ·exact ⟨c 0 _ rfl, c 1 _ rfl, c 2 _ rfl, c 3 _ rfl, c 4 _ rfl⟩
 ·exact ⟨c 5 _ rfl, c 6 _ rfl, c 7 _ rfl, c 8 _ rfl, c 9 _ rfl⟩
 ·exact hr W hW
 ·exact hs W hW
 ·exact hf
 ·exact hf'
theorem Rob.laterR {n0 : Nat} {row : Option Nat} {w w' : World} {A : Option Addr} {cap : Nat} {ks : List Nd} (h : Rob n0 w row A cap ks) (hb : Below w.heap.size w w') : Rob n0 w' row A cap ks :=
 fun W hW => h W fun k h1 h2 h3 => (hW k h1 (Nat.lt_of_lt_of_le h2 hb.size) h3).trans (hb.block k h2)
theorem two_row (op : Int) (n0 l : Nat) (t u : Nd) (A B : Option Addr) (ca cb : Nat) (W : World) (hr : Rob n0 W (some l) A ca t.ks) (hs : Rob n0 W (some l) B cb u.ks) (hf : Fine t) (hf' : Fine u) (hn : n0 ≤ W.heap.size) (hl : l < W.heap.size) :
  Calls Tryz.prog 39 #[.int .i64 op, nv t.op t.so t.nm t.nu (.slice A t.ks.length ca), nv u.op u.so u.nm u.nu (.slice B u.ks.length cb)] W fun e W' => ∃ D cd, e = .returned (nv op 0 noNm 0 (.slice D 2 cd)) ∧ Rob n0 W' (some l) D cd [t, u] ∧ Below W.heap.size W W' := by
 go_enter Tryz.func39, Tryz.ntmps39
 go_wp2_with fail
 refine bodyPost_ret (v := nv op 0 ⟨#[]⟩ 0 (.slice (some ⟨W.heap.size + 1 + 1 + 1, 0, none⟩) 2 2)) (by simp [results, Tryz.results39, go_sem]) rfl ⟨some ⟨W.heap.size + 1 + 1 + 1, 0, none⟩, 2, rfl, ?_, ?_⟩
 ·refine rob_twoR (by omega) (by simp; omega) (new_at (by simp)) (hr.laterR ?_) (hs.laterR ?_) hf hf'
  all_goals exact ((((Below.refl _ _).alloc (Nat.le_refl _) _).alloc (by simp) _).alloc (by simp; omega) _).alloc (by simp; omega) _
 ·exact ((((Below.refl _ _).alloc (Nat.le_refl _) _).alloc (by simp) _).alloc (by simp; omega) _).alloc (by simp; omega) _
structure CarryL (p : Nat) (s : ByteArray) (W : World) (x l : Nat) (t : Nd) (A : Option Addr) (cap : Nat) (w : World) : Prop where
 fr : Fr p W w
 px : p < x
 xl : x < l
 xs : x = W.heap.size
 box : w.heap[x]? = some (.cells zero5 27 (0, 0))
 lbox : w.heap[l]? = some (.cells #[.int .i64 t.op, .int .i64 t.so, .string t.nm, .int .i64 t.nu, .slice A t.ks.length cap] 27 (0, 0))
 rob : Rob (x + 1) w (some l) A cap t.ks
 fine : Fine t
theorem CarryL.step {p : Nat} {s : ByteArray} {W w w' : World} {x l : Nat} {t : Nd} {A : Option Addr} {cap : Nat} (h : CarryL p s W x l t A cap w) (hf : Fr p w w') : CarryL p s W x l t A cap w' :=
 ⟨h.fr.trans hf, h.px, h.xl, h.xs, hf.at h.box (by have := h.px; omega), hf.at h.lbox (by have := h.px; have := h.xl; omega), h.rob.fr hf (by have := h.px; omega), h.fine⟩
theorem CarryL.start {p : Nat} {s : ByteArray} {W w1 : World} {a : Nat} {o e : Int} {wh : Nat} (h : PSt W p s a o e wh) {t : Nd} {A : Option Addr} {cap : Nat} (hr : Rob (W.alloc (.cells zero5 27)).heap.size w1 none A cap t.ks) (hf : Fine t) (hfr : Fr p (W.alloc (.cells zero5 27)) w1) :
  CarryL p s W W.heap.size w1.heap.size t A cap (w1.alloc (boxN t A cap)) := by
 have k := Carry.start h hr hf hfr
 have hr' : Rob (W.heap.size + 1) w1 none A cap t.ks := by simpa using hr
 exact ⟨k.fr, k.px, k.xl, k.xs, k.box, k.lbox, hr'.born _, hf⟩
theorem CarryL.join {p : Nat} {s : ByteArray} {W w : World} {x l : Nat} {t : Nd} {A : Option Addr} {cap : Nat} (h : CarryL p s W x l t A cap w) {op : Int} {ks : List Nd} {D : Option Addr} {cd : Nat} (hr : Rob (x + 1) w (some l) D cd ks) (hf : Fine (.mk op 0 noNm 0 ks)) :
  CarryL p s W x l (.mk op 0 noNm 0 ks) D cd (set5 w l (.int .i64 op) (.int .i64 0) (.string noNm) (.int .i64 0) (.slice D ks.length cd)) :=
 ⟨h.fr.set5 (by have := h.xs; have := h.xl; omega) _ _ _ _ _, h.px, h.xl, h.xs, (set5_other _ _ _ _ _ (by have := h.xl; omega)).trans h.box, set5_same _ _ _ _ _ h.lbox, hr.setrow _ _ _ _ _, hf⟩
def atOf (p : Nat) (w : World) : Nat := (intOf ((w.cell? ⟨p, 1, none⟩).getD undef)).toNat
theorem PSt.atOf {W : World} {p : Nat} {s : ByteArray} {a : Nat} {o e : Int} {wh : Nat} (h : PSt W p s a o e wh) : atOf p W = a := by
 unfold Go.Proofs.YtgkjcimgghflmaaGreatDoor.atOf
 rw [h.cells.c1]
 rfl
theorem or_loop (p : Nat) (s : ByteArray) (a : Nat) (o e : Int) (wh : Nat) (W : World) (h : PSt W p s a o e wh) (hs : s.size ≤ 9223372036854775000) (Z1 J Z : Nd → Nat → Int → Int → Nat → Prop) (Z3 : Nd → Nat → Nd → Nat → Int → Int → Nat → Prop)
  (c1 : Calls Tryz.prog 111 #[.pointer (some ⟨p, 0, none⟩)] (W.alloc (.cells zero5 27)) (Ret1 p s Z1 (W.alloc (.cells zero5 27))))
  (h1 : ∀ t a o er wh, Z1 t a o er wh → J t a o er wh)
  (hJ : ∀ t a o er wh, J t a o er wh → a ≤ s.size)
  (c3 : ∀ t a o wh W', J t a o 0 wh → T s a = [124, 124] → PSt W' p s (nxt s a) o 0 wh → Calls Tryz.prog 111 #[.pointer (some ⟨p, 0, none⟩)] W' (Ret1 p s (Z3 t a) W'))
  (h3 : ∀ t a o wh u b o' er' wh', J t a o 0 wh → T s a = [124, 124] → Z3 t a u b o' er' wh' → a < b ∧ J (twoN 34 t u) b o' er' wh')
  (hz : ∀ t a o er wh, J t a o er wh → nT s a er ≠ [124, 124] → Z t a o er wh) :
  Calls Tryz.prog 73 #[.pointer (some ⟨p, 0, none⟩)] W (Ret1 p s Z W) := by
 have H := Lib.hid h
 have H1 := Lib.hid h1
 have HJ := Lib.hid hJ
 have H3 := Lib.hid h3
 have HZ := Lib.hid hz
 have HC3 := Lib.hid c3
 clear h h1 hJ h3 hz c3
 go_enter Tryz.func73, Tryz.ntmps73
 go_wp2_with fail
 refine c1.mono ?_
 rintro e w1 ⟨t, A, cap, a1, o1, er, wh1, rfl, hr, hf, hfr, hp1, hz1⟩
 have CA := Lib.hid (CarryL.start H.out hr hf hfr)
 have HP := Lib.hid (hp1.alloc (boxN t A cap))
 have HJ1 := Lib.hid (H1.out _ _ _ _ _ hz1)
 clear hr hf hfr hp1 hz1 c1
 go_wp2_with fail
 generalize w1.heap.size = l at *
 go_loopw [8] (fun _ wr => ∃ t A cap a o er wh, Hid (CarryL p s W W.heap.size l t A cap wr) ∧ Hid (PSt wr p s a o er wh) ∧ Hid (J t a o er wh)) (fun _ wr => s.size - atOf p wr)
 case atStart => exact ⟨t, A, cap, a1, o1, er, wh1, CA, HP, HJ1⟩
 case round =>
  obtain ⟨t, A, cap, a, o, er, wh, CA, HP, HJ1⟩ := hrel
  have ha := HJ.out _ _ _ _ _ HJ1.out
  by_cases ht : nT s a er = [124, 124]
  ·obtain rfl : er = 0 := by
    by_cases he : er = 0
    ·exact he
    ·rw [nT_dead he] at ht
     exact absurd ht (by decide)
   have ht : T s a = [124, 124] := by simpa [nT] using ht
   have ct := take_yes [124, 124] p s a o wh _ HP.out ha hs ht
   have ec : bs [124, 124] = ⟨#[124, 124]⟩ := rfl
   rw [ec] at ct
   have HT := Lib.hid ht
   clear ec ht
   go_wp2_with fail
   refine ct.mono ?_
   rintro e w2 ⟨rfl, h2, f2⟩
   have CA2 := Lib.hid (CA.out.step f2)
   have c3 := HC3.out _ _ _ _ _ HJ1.out HT.out h2
   clear h2 f2 ct
   go_wp2_with fail
   refine c3.mono ?_
   rintro e w4 ⟨u, B, cb, a4, o4, er4, wh4, rfl, hr4, hf4, hfr4, hp4, hz4⟩
   have hux : (w4.alloc (boxN u B cb)).heap[w4.heap.size]? = some (.cells #[.int .i64 u.op, .int .i64 u.so, .string u.nm, .int .i64 u.nu, .slice B u.ks.length cb] 27 (0, 0)) := World.alloc_heap_new w4 _
   have FS : Fr p w4 (w4.alloc (boxN u B cb)) := Fr.of ((Below.refl w4.heap.size w4).alloc (Nat.le_refl _) (boxN u B cb))
   have CA5 := Lib.hid ((CA2.out.step hfr4).step FS)
   have hlw : l < w2.heap.size := (Array.getElem?_eq_some_iff.1 CA2.out.lbox).1
   have UB := Lib.hid hux
   have UR := Lib.hid ((hr4.fr FS (Nat.lt_trans (Nat.lt_trans CA2.out.px CA2.out.xl) hlw)).except hlw (Nat.le_trans (Nat.succ_le_of_lt CA2.out.xl) (Nat.le_of_lt hlw)) : Rob (W.heap.size + 1) _ (some l) B cb u.ks)
   have HF4 := Lib.hid hf4
   have HPU := Lib.hid (hp4.alloc (boxN u B cb))
   have HZ4 := Lib.hid (H3.out _ _ _ _ _ _ _ _ _ HJ1.out HT.out hz4)
   clear hz4 c3 HT HC3 H3 hr4 hf4 hfr4 hp4 hux FS hlw
   go_upto_region 4 with fail
   generalize w4.alloc (boxN u B cb) = w5 at *
   generalize w4.heap.size = ub at *
   have hx := CA5.out
   have c5 := two_row 34 (W.heap.size + 1) l t u A B cap cb w5 hx.rob UR.out hx.fine HF4.out (by have := (Array.getElem?_eq_some_iff.1 hx.box).1; omega) (Array.getElem?_eq_some_iff.1 hx.lbox).1
   obtain ⟨l0, l1, l2, l3, l4, _, _, _, _, _⟩ := box_facts hx.lbox
   obtain ⟨u0, u1, u2, u3, u4, _, _, _, _, _⟩ := box_facts UB.out
   clear hx UB UR HF4
   go_wp2_with fail
   refine c5.mono ?_
   rintro e w6 ⟨D, cd, rfl, r6, b6⟩
   have CA6 := Lib.hid (CA5.out.step (Fr.of b6))
   have HP6 := Lib.hid (HPU.out.later b6)
   have R6 := Lib.hid r6
   obtain ⟨z0, z1, z2, z3, z4, f0, f1, f2, f3, f4⟩ := box_facts CA6.out.lbox
   clear b6 r6 c5
   go_wp2_with fail
   have hx := CA6.out
   have hp := HP6.out.set5 (x := l) (by have := hx.px; have := hx.xl; omega) (.int .i64 34) (.int .i64 0) (.string noNm) (.int .i64 0) (.slice D 2 cd)
   refine ⟨⟨twoN 34 t u, D, cd, a4, o4, er4, wh4, Lib.hid (hx.join R6.out (fine_op (by decide))), Lib.hid hp, Lib.hid HZ4.out.2⟩, ?_⟩
   have e1 := HP.out.atOf
   have e2 := hp.atOf
   have := HZ4.out.1
   have := HJ.out _ _ _ _ _ HZ4.out.2
   exact Nat.lt_of_le_of_lt (Nat.le_of_eq (congrArg (s.size - ·) e2)) (by rw [e1]; omega)
  ·have ct := take_no [124, 124] p s a o er wh _ HP.out ha hs ht
   have ec : bs [124, 124] = ⟨#[124, 124]⟩ := rfl
   rw [ec] at ct
   have HZ2 := Lib.hid (HZ.out _ _ _ _ _ HJ1.out ht)
   clear ec ht HJ1 HZ
   go_wp2_with fail
   refine ct.mono ?_
   rintro e w2 ⟨rfl, b2⟩
   have CA2 := Lib.hid (CA.out.step (Fr.of b2))
   have HP2 := Lib.hid (HP.out.later b2)
   clear b2 ct
   obtain ⟨z0, z1, z2, z3, z4, f0, f1, f2, f3, f4⟩ := box_facts CA2.out.box
   obtain ⟨l0, l1, l2, l3, l4, _, _, _, _, _⟩ := box_facts CA2.out.lbox
   go_wp2_with fail
   have hx := CA2.out
   exact bodyPost_ret (res27 Tryz.results73 _ _ W.heap.size _ _ _ _ _ rfl (set5_same _ _ _ _ _ hx.box)) rfl
    ⟨t, A, cap, a, o, er, wh, rfl, hx.rob.weak.set5 (by omega) (by omega) _ _ _ _ _, hx.fine, hx.fr.set5 (Nat.le_refl _) _ _ _ _ _, HP2.out.set5 (by have := hx.px; omega) _ _ _ _ _, HZ2.out⟩
theorem and_loop (p : Nat) (s : ByteArray) (a : Nat) (o e : Int) (wh : Nat) (W : World) (h : PSt W p s a o e wh) (hs : s.size ≤ 9223372036854775000) (Z1 J Z : Nd → Nat → Int → Int → Nat → Prop) (Z3 : Nd → Nat → Nd → Nat → Int → Int → Nat → Prop)
  (c1 : Calls Tryz.prog 129 #[.pointer (some ⟨p, 0, none⟩)] (W.alloc (.cells zero5 27)) (Ret1 p s Z1 (W.alloc (.cells zero5 27))))
  (h1 : ∀ t a o er wh, Z1 t a o er wh → J t a o er wh)
  (hJ : ∀ t a o er wh, J t a o er wh → a ≤ s.size)
  (c3 : ∀ t a o wh W', J t a o 0 wh → T s a = [38, 38] → PSt W' p s (nxt s a) o 0 wh → Calls Tryz.prog 129 #[.pointer (some ⟨p, 0, none⟩)] W' (Ret1 p s (Z3 t a) W'))
  (h3 : ∀ t a o wh u b o' er' wh', J t a o 0 wh → T s a = [38, 38] → Z3 t a u b o' er' wh' → a < b ∧ J (twoN 33 t u) b o' er' wh')
  (hz : ∀ t a o er wh, J t a o er wh → nT s a er ≠ [38, 38] → Z t a o er wh) :
  Calls Tryz.prog 111 #[.pointer (some ⟨p, 0, none⟩)] W (Ret1 p s Z W) := by
 have H := Lib.hid h
 have H1 := Lib.hid h1
 have HJ := Lib.hid hJ
 have H3 := Lib.hid h3
 have HZ := Lib.hid hz
 have HC3 := Lib.hid c3
 clear h h1 hJ h3 hz c3
 go_enter Tryz.func111, Tryz.ntmps111
 go_wp2_with fail
 refine c1.mono ?_
 rintro e w1 ⟨t, A, cap, a1, o1, er, wh1, rfl, hr, hf, hfr, hp1, hz1⟩
 have CA := Lib.hid (CarryL.start H.out hr hf hfr)
 have HP := Lib.hid (hp1.alloc (boxN t A cap))
 have HJ1 := Lib.hid (H1.out _ _ _ _ _ hz1)
 clear hr hf hfr hp1 hz1 c1
 go_wp2_with fail
 generalize w1.heap.size = l at *
 go_loopw [8] (fun _ wr => ∃ t A cap a o er wh, Hid (CarryL p s W W.heap.size l t A cap wr) ∧ Hid (PSt wr p s a o er wh) ∧ Hid (J t a o er wh)) (fun _ wr => s.size - atOf p wr)
 case atStart => exact ⟨t, A, cap, a1, o1, er, wh1, CA, HP, HJ1⟩
 case round =>
  obtain ⟨t, A, cap, a, o, er, wh, CA, HP, HJ1⟩ := hrel
  have ha := HJ.out _ _ _ _ _ HJ1.out
  by_cases ht : nT s a er = [38, 38]
  ·obtain rfl : er = 0 := by
    by_cases he : er = 0
    ·exact he
    ·rw [nT_dead he] at ht
     exact absurd ht (by decide)
   have ht : T s a = [38, 38] := by simpa [nT] using ht
   have ct := take_yes [38, 38] p s a o wh _ HP.out ha hs ht
   have ec : bs [38, 38] = ⟨#[38, 38]⟩ := rfl
   rw [ec] at ct
   have HT := Lib.hid ht
   clear ec ht
   go_wp2_with fail
   refine ct.mono ?_
   rintro e w2 ⟨rfl, h2, f2⟩
   have CA2 := Lib.hid (CA.out.step f2)
   have c3 := HC3.out _ _ _ _ _ HJ1.out HT.out h2
   clear h2 f2 ct
   go_wp2_with fail
   refine c3.mono ?_
   rintro e w4 ⟨u, B, cb, a4, o4, er4, wh4, rfl, hr4, hf4, hfr4, hp4, hz4⟩
   have hux : (w4.alloc (boxN u B cb)).heap[w4.heap.size]? = some (.cells #[.int .i64 u.op, .int .i64 u.so, .string u.nm, .int .i64 u.nu, .slice B u.ks.length cb] 27 (0, 0)) := World.alloc_heap_new w4 _
   have FS : Fr p w4 (w4.alloc (boxN u B cb)) := Fr.of ((Below.refl w4.heap.size w4).alloc (Nat.le_refl _) (boxN u B cb))
   have CA5 := Lib.hid ((CA2.out.step hfr4).step FS)
   have hlw : l < w2.heap.size := (Array.getElem?_eq_some_iff.1 CA2.out.lbox).1
   have UB := Lib.hid hux
   have UR := Lib.hid ((hr4.fr FS (Nat.lt_trans (Nat.lt_trans CA2.out.px CA2.out.xl) hlw)).except hlw (Nat.le_trans (Nat.succ_le_of_lt CA2.out.xl) (Nat.le_of_lt hlw)) : Rob (W.heap.size + 1) _ (some l) B cb u.ks)
   have HF4 := Lib.hid hf4
   have HPU := Lib.hid (hp4.alloc (boxN u B cb))
   have HZ4 := Lib.hid (H3.out _ _ _ _ _ _ _ _ _ HJ1.out HT.out hz4)
   clear hz4 c3 HT HC3 H3 hr4 hf4 hfr4 hp4 hux FS hlw
   go_upto_region 4 with fail
   generalize w4.alloc (boxN u B cb) = w5 at *
   generalize w4.heap.size = ub at *
   have hx := CA5.out
   have c5 := two_row 33 (W.heap.size + 1) l t u A B cap cb w5 hx.rob UR.out hx.fine HF4.out (by have := (Array.getElem?_eq_some_iff.1 hx.box).1; omega) (Array.getElem?_eq_some_iff.1 hx.lbox).1
   obtain ⟨l0, l1, l2, l3, l4, _, _, _, _, _⟩ := box_facts hx.lbox
   obtain ⟨u0, u1, u2, u3, u4, _, _, _, _, _⟩ := box_facts UB.out
   clear hx UB UR HF4
   go_wp2_with fail
   refine c5.mono ?_
   rintro e w6 ⟨D, cd, rfl, r6, b6⟩
   have CA6 := Lib.hid (CA5.out.step (Fr.of b6))
   have HP6 := Lib.hid (HPU.out.later b6)
   have R6 := Lib.hid r6
   obtain ⟨z0, z1, z2, z3, z4, f0, f1, f2, f3, f4⟩ := box_facts CA6.out.lbox
   clear b6 r6 c5
   go_wp2_with fail
   have hx := CA6.out
   have hp := HP6.out.set5 (x := l) (by have := hx.px; have := hx.xl; omega) (.int .i64 33) (.int .i64 0) (.string noNm) (.int .i64 0) (.slice D 2 cd)
   refine ⟨⟨twoN 33 t u, D, cd, a4, o4, er4, wh4, Lib.hid (hx.join R6.out (fine_op (by decide))), Lib.hid hp, Lib.hid HZ4.out.2⟩, ?_⟩
   have e1 := HP.out.atOf
   have e2 := hp.atOf
   have := HZ4.out.1
   have := HJ.out _ _ _ _ _ HZ4.out.2
   exact Nat.lt_of_le_of_lt (Nat.le_of_eq (congrArg (s.size - ·) e2)) (by rw [e1]; omega)
  ·have ct := take_no [38, 38] p s a o er wh _ HP.out ha hs ht
   have ec : bs [38, 38] = ⟨#[38, 38]⟩ := rfl
   rw [ec] at ct
   have HZ2 := Lib.hid (HZ.out _ _ _ _ _ HJ1.out ht)
   clear ec ht HJ1 HZ
   go_wp2_with fail
   refine ct.mono ?_
   rintro e w2 ⟨rfl, b2⟩
   have CA2 := Lib.hid (CA.out.step (Fr.of b2))
   have HP2 := Lib.hid (HP.out.later b2)
   clear b2 ct
   obtain ⟨z0, z1, z2, z3, z4, f0, f1, f2, f3, f4⟩ := box_facts CA2.out.box
   obtain ⟨l0, l1, l2, l3, l4, _, _, _, _, _⟩ := box_facts CA2.out.lbox
   go_wp2_with fail
   have hx := CA2.out
   exact bodyPost_ret (res27 Tryz.results111 _ _ W.heap.size _ _ _ _ _ rfl (set5_same _ _ _ _ _ hx.box)) rfl
    ⟨t, A, cap, a, o, er, wh, rfl, hx.rob.weak.set5 (by omega) (by omega) _ _ _ _ _, hx.fine, hx.fr.set5 (Nat.le_refl _) _ _ _ _ _, HP2.out.set5 (by have := hx.px; omega) _ _ _ _ _, HZ2.out⟩
end Go.Proofs.YtgkjcimgghflmaaGreatDoor
