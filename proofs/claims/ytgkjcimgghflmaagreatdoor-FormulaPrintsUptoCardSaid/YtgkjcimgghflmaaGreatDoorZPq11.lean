/-
  The phrase comparison of the program's parser answers as the grammar says, when those within do; conditions: the text is no longer than a string can be, and the program's tables hold what its text lays.
-/
import Derived.Test.YtgkjcimgghflmaaGreatDoorZPq10
namespace Go.Proofs.YtgkjcimgghflmaaGreatDoor
open Go.RowKit Go.Shelf

attribute [local go_sem] Oper.semAt_some
def noCmpP (t : List UInt8) : Prop := t ≠ [61] ∧ t ≠ [33, 61] ∧ t ≠ [60] ∧ t ≠ [60, 61] ∧ t ≠ [62] ∧ t ≠ [62, 61] ∧ t ≠ [105, 110] ∧ t ≠ [115, 117, 98]
/-- A token in its box. -/
structure TB (W : World) (b : Nat) (k na : Int) (t : ByteArray) (w : World) : Prop where
  gt : W.heap.size < b
  box : w.heap[b]? = some (.cells #[.int .i64 k, .int .i64 na, .string t] 41 (0, 0))
theorem TB.step {p : Nat} {W w w' : World} {b : Nat} {k na : Int} {t : ByteArray} (h : TB W b k na t w) (hp : p < W.heap.size) (hf : Fr p w w') : TB W b k na t w' := ⟨h.gt, hf.at h.box (by have := h.gt; omega)⟩
/-- The first operand and the token behind it. -/
structure CmpA (p : Nat) (s : ByteArray) (a o : Nat) (W : World) (lb tb : Nat) (t : Nd) (A : Option Addr) (ca : Nat) (w : World) : Prop where
  cx : CX p W w
  l : NB p W lb t A ca w
  tok : TB W tb (kd s a) a (bs (T s a)) w
  sc : Sca w p s a (some o)
  env : Env w p

set_option maxRecDepth 100000 in
set_option maxHeartbeats 8000000 in
theorem cmp_noP (p : Nat) (s : ByteArray) (a a1 o : Nat) (t : Nd) (W : World) (h : Sca W p s a (some o)) (hE : Env W p) (hs : s.size ≤ 9223372036854775000)
    (c1 : ∀ W', Sca W' p s a (some o) → Env W' p → Calls Tryz.prog 153 #[.pointer (some ⟨p, 0, none⟩)] W' (Ans p s o W' (.ok t a1))) (hno : isCmp (T s a1) = false) :
    Calls Tryz.prog 149 #[.pointer (some ⟨p, 0, none⟩)] W (Ans p s o W (.ok t a1)) := by
  have hn : noCmpP (T s a1) := by simpa [isCmp, noCmpP] using hno
  have hq0 : ((bs (T s a1)).toList == [61]) = false := by rw [bs_toList]; simpa using hn.1
  have hq1 : ((bs (T s a1)).toList == [33, 61]) = false := by rw [bs_toList]; simpa using hn.2.1
  have hq2 : ((bs (T s a1)).toList == [60]) = false := by rw [bs_toList]; simpa using hn.2.2.1
  have hq3 : ((bs (T s a1)).toList == [60, 61]) = false := by rw [bs_toList]; simpa using hn.2.2.2.1
  have hq4 : ((bs (T s a1)).toList == [62]) = false := by rw [bs_toList]; simpa using hn.2.2.2.2.1
  have hq5 : ((bs (T s a1)).toList == [62, 61]) = false := by rw [bs_toList]; simpa using hn.2.2.2.2.2.1
  have hq6 : ((bs (T s a1)).toList == [105, 110]) = false := by rw [bs_toList]; simpa using hn.2.2.2.2.2.2.1
  have hq7 : ((bs (T s a1)).toList == [115, 117, 98]) = false := by rw [bs_toList]; simpa using hn.2.2.2.2.2.2.2
  clear hn hno
  have X1 := Lib.hid (CX.start h.lt)
  have S1 := Lib.hid (h.alloc (.cells zero5 27))
  have E1 := Lib.hid (hE.alloc (.cells zero5 27))
  have HC := Lib.hid c1
  clear h hE c1
  go_enter Tryz.func149, Tryz.ntmps149
  go_upto_region 1 with fail
  generalize W.alloc (.cells zero5 27) = w1 at *
  go_wp2_with fail
  refine (HC.out _ S1.out E1.out).mono ?_
  rintro e w3 ⟨A, ca, rfl, hr, hf, hfr, hs3⟩
  have hB := (Below.refl w3.heap.size w3).alloc (Nat.le_refl _) (boxN t A ca)
  have N3 := Lib.hid (NB.start X1.out hr hf hfr)
  have X3 := Lib.hid ((X1.out.step hfr).step (Fr.of hB))
  have S3 := Lib.hid (hs3.later hB)
  have E3 := Lib.hid ((E1.out.fr hfr).later hB)
  have ha := hs3.le
  clear hr hf hfr hs3 hB S1 E1 X1 HC
  go_upto_region 2 with fail
  generalize w3.alloc (boxN t A ca) = w4 at *
  generalize w3.heap.size = lb at *
  have cp := peek_any p s a1 (some o) w4 S3.out hs E3.out.sig
  go_wp2_with fail
  refine cp.mono ?_
  rintro e w5 ⟨rfl, h5, f5⟩
  have hB := (Below.refl w5.heap.size w5).alloc (Nat.le_refl _) (.cells #[.int .i64 (kd s a1), .int .i64 a1, .string (bs (T s a1))] 41)
  have CM := Lib.hid (show CmpA p s a1 o W lb w5.heap.size t A ca (w5.alloc (.cells #[.int .i64 (kd s a1), .int .i64 a1, .string (bs (T s a1))] 41)) from
    ⟨(X3.out.step f5).step (Fr.of hB), (N3.out.step X3.out.px f5).step X3.out.px (Fr.of hB), ⟨(X3.out.step f5).lt, World.alloc_heap_new _ _⟩, (Rdy.sca h5 ha).later hB, (E3.out.fr f5).later hB⟩)
  clear hB cp h5 f5 N3 X3 S3 E3
  go_upto_region 3 with fail
  generalize w5.alloc (.cells #[.int .i64 (kd s a1), .int .i64 a1, .string (bs (T s a1))] 41) = w6 at *
  generalize w5.heap.size = tb at *
  obtain ⟨t0, t1, t2, _, _, _⟩ := boxT_facts CM.out.tok.box
  obtain ⟨z0, z1, z2, z3, z4, f0, f1, f2, f3, f4⟩ := box_facts CM.out.l.box
  obtain ⟨y0, y1, y2, y3, y4, g0, g1, g2, g3, g4⟩ := box_facts CM.out.cx.box
  go_wp2_with fail
  exact CM.out.l.ret CM.out.cx CM.out.sc Tryz.results149 _ rfl rfl

set_option maxRecDepth 100000 in
set_option maxHeartbeats 8000000 in
theorem cmp_yes_eq (p : Nat) (s : ByteArray) (a a1 o : Nat) (t : Nd) (r : PR) (W : World) (h : Sca W p s a (some o)) (hE : Env W p) (hs : s.size ≤ 9223372036854775000)
    (c1 : ∀ W', Sca W' p s a (some o) → Env W' p → Calls Tryz.prog 153 #[.pointer (some ⟨p, 0, none⟩)] W' (Ans p s o W' (.ok t a1))) (ht : T s a1 = [61])
    (c2 : ∀ W', Sca W' p s (nxt s a1) (some o) → Env W' p → Calls Tryz.prog 153 #[.pointer (some ⟨p, 0, none⟩)] W' (Ans p s o W' r)) :
    Calls Tryz.prog 149 #[.pointer (some ⟨p, 0, none⟩)] W (Ans p s o W (r.bind fun u a2 => .ok (cmpN2 (T s a1) t u) a2)) := by
  have hq0 : ((bs (T s a1)).toList == [61]) = true := by rw [bs_toList, ht]; rfl
  have hcm := Lib.hid (show isCmp (T s a1) = true by rw [ht]; rfl)
  have HC2 := Lib.hid c2
  clear ht c2
  have X1 := Lib.hid (CX.start h.lt)
  have S1 := Lib.hid (h.alloc (.cells zero5 27))
  have E1 := Lib.hid (hE.alloc (.cells zero5 27))
  have HC := Lib.hid c1
  clear h hE c1
  go_enter Tryz.func149, Tryz.ntmps149
  go_upto_region 1 with fail
  generalize W.alloc (.cells zero5 27) = w1 at *
  go_wp2_with fail
  refine (HC.out _ S1.out E1.out).mono ?_
  rintro e w3 ⟨A, ca, rfl, hr, hf, hfr, hs3⟩
  have hB := (Below.refl w3.heap.size w3).alloc (Nat.le_refl _) (boxN t A ca)
  have N3 := Lib.hid (NB.start X1.out hr hf hfr)
  have X3 := Lib.hid ((X1.out.step hfr).step (Fr.of hB))
  have S3 := Lib.hid (hs3.later hB)
  have E3 := Lib.hid ((E1.out.fr hfr).later hB)
  have ha := hs3.le
  clear hr hf hfr hs3 hB S1 E1 X1 HC
  go_upto_region 2 with fail
  generalize w3.alloc (boxN t A ca) = w4 at *
  generalize w3.heap.size = lb at *
  have cp := peek_any p s a1 (some o) w4 S3.out hs E3.out.sig
  go_wp2_with fail
  refine cp.mono ?_
  rintro e w5 ⟨rfl, h5, f5⟩
  have hB := (Below.refl w5.heap.size w5).alloc (Nat.le_refl _) (.cells #[.int .i64 (kd s a1), .int .i64 a1, .string (bs (T s a1))] 41)
  have CM := Lib.hid (show CmpA p s a1 o W lb w5.heap.size t A ca (w5.alloc (.cells #[.int .i64 (kd s a1), .int .i64 a1, .string (bs (T s a1))] 41)) from
    ⟨(X3.out.step f5).step (Fr.of hB), (N3.out.step X3.out.px f5).step X3.out.px (Fr.of hB), ⟨(X3.out.step f5).lt, World.alloc_heap_new _ _⟩, (Rdy.sca h5 ha).later hB, (E3.out.fr f5).later hB⟩)
  clear hB cp h5 f5 N3 X3 S3 E3
  go_upto_region 3 with fail
  generalize w5.alloc (.cells #[.int .i64 (kd s a1), .int .i64 a1, .string (bs (T s a1))] 41) = w6 at *
  generalize w5.heap.size = tb at *
  obtain ⟨t0, t1, t2, _, _, _⟩ := boxT_facts CM.out.tok.box
  have ct := ptake_any p s a1 (some o) w6 CM.out.sc hs CM.out.env.sig
  go_wp2_with fail
  refine ct.mono ?_
  rintro e w7 ⟨rfl, h7, f7⟩
  have hpx := CM.out.cx.px
  have X7 := Lib.hid (CM.out.cx.step f7)
  have N7 := Lib.hid (CM.out.l.step hpx f7)
  have T7 := Lib.hid (CM.out.tok.step hpx f7)
  have E7 := Lib.hid (CM.out.env.fr f7)
  have c2 := HC2.out w7 h7 E7.out
  clear f7 h7 ct CM HC2 t0 t1 t2
  go_wp2_with fail
  refine c2.mono ?_
  cases r with
  | out => exact fun _ _ h => h.elim
  | err er wh =>
    rintro e w8 ⟨rfl, f8⟩
    have F8 := Lib.hid (X7.out.fr.trans f8)
    clear f8 c2
    go_wp2_with fail
    exact ⟨rfl, rfl, F8.out⟩
  | ok u a2 =>
    rintro e w8 ⟨B, cb, rfl, hr, hf, hfr, hs8⟩
    have hB := (Below.refl w8.heap.size w8).alloc (Nat.le_refl _) (boxN u B cb)
    have N9 := Lib.hid ((N7.out.step hpx hfr).step hpx (Fr.of hB))
    have T9 := Lib.hid ((T7.out.step hpx hfr).step hpx (Fr.of hB))
    have M9 := Lib.hid (NB.start X7.out hr hf hfr)
    have X9 := Lib.hid ((X7.out.step hfr).step (Fr.of hB))
    have S9 := Lib.hid (hs8.later hB)
    have E9 := Lib.hid ((E7.out.fr hfr).later hB)
    clear hr hf hfr hs8 hB c2 X7 N7 T7 E7
    go_upto_region 14 with fail
    · generalize w8.alloc (boxN u B cb) = w9 at *
      generalize w8.heap.size = rb at *
      obtain ⟨t0, t1, t2, _, _, _⟩ := boxT_facts T9.out.box
      obtain ⟨l0, l1, l2, l3, l4, _, _, _, _, _⟩ := box_facts N9.out.box
      obtain ⟨u0, u1, u2, u3, u4, _, _, _, _, _⟩ := box_facts M9.out.box
      have c3 := compared_any (T s a1) hcm.out (W.heap.size + 1) t u A B ca cb w9 N9.out.rob M9.out.rob N9.out.fine M9.out.fine (Nat.succ_le_of_lt X9.out.lt) E9.out.tabs
      go_wp2_with fail
      refine c3.mono ?_
      rintro e w10 ⟨D, cd, rfl, hr, hf, b10⟩
      have X10 := Lib.hid (X9.out.step (Fr.of b10))
      have S10 := Lib.hid (S9.out.later b10)
      have R10 := Lib.hid hr
      have F10 := Lib.hid hf
      clear hr hf b10 c3 X9 S9 E9 N9 M9 T9 t0 t1 t2 l0 l1 l2 l3 l4 u0 u1 u2 u3 u4
      obtain ⟨y0, y1, y2, y3, y4, g0, g1, g2, g3, g4⟩ := box_facts X10.out.box
      go_wp2_with fail
      exact pass_ret X10.out R10.out F10.out S10.out Tryz.results149 _ rfl rfl

set_option maxRecDepth 100000 in
set_option maxHeartbeats 8000000 in
theorem cmp_yes_ne (p : Nat) (s : ByteArray) (a a1 o : Nat) (t : Nd) (r : PR) (W : World) (h : Sca W p s a (some o)) (hE : Env W p) (hs : s.size ≤ 9223372036854775000)
    (c1 : ∀ W', Sca W' p s a (some o) → Env W' p → Calls Tryz.prog 153 #[.pointer (some ⟨p, 0, none⟩)] W' (Ans p s o W' (.ok t a1))) (ht : T s a1 = [33, 61])
    (c2 : ∀ W', Sca W' p s (nxt s a1) (some o) → Env W' p → Calls Tryz.prog 153 #[.pointer (some ⟨p, 0, none⟩)] W' (Ans p s o W' r)) :
    Calls Tryz.prog 149 #[.pointer (some ⟨p, 0, none⟩)] W (Ans p s o W (r.bind fun u a2 => .ok (cmpN2 (T s a1) t u) a2)) := by
  have hq0 : ((bs (T s a1)).toList == [61]) = false := by rw [bs_toList, ht]; rfl
  have hq1 : ((bs (T s a1)).toList == [33, 61]) = true := by rw [bs_toList, ht]; rfl
  have hcm := Lib.hid (show isCmp (T s a1) = true by rw [ht]; rfl)
  have HC2 := Lib.hid c2
  clear ht c2
  have X1 := Lib.hid (CX.start h.lt)
  have S1 := Lib.hid (h.alloc (.cells zero5 27))
  have E1 := Lib.hid (hE.alloc (.cells zero5 27))
  have HC := Lib.hid c1
  clear h hE c1
  go_enter Tryz.func149, Tryz.ntmps149
  go_upto_region 1 with fail
  generalize W.alloc (.cells zero5 27) = w1 at *
  go_wp2_with fail
  refine (HC.out _ S1.out E1.out).mono ?_
  rintro e w3 ⟨A, ca, rfl, hr, hf, hfr, hs3⟩
  have hB := (Below.refl w3.heap.size w3).alloc (Nat.le_refl _) (boxN t A ca)
  have N3 := Lib.hid (NB.start X1.out hr hf hfr)
  have X3 := Lib.hid ((X1.out.step hfr).step (Fr.of hB))
  have S3 := Lib.hid (hs3.later hB)
  have E3 := Lib.hid ((E1.out.fr hfr).later hB)
  have ha := hs3.le
  clear hr hf hfr hs3 hB S1 E1 X1 HC
  go_upto_region 2 with fail
  generalize w3.alloc (boxN t A ca) = w4 at *
  generalize w3.heap.size = lb at *
  have cp := peek_any p s a1 (some o) w4 S3.out hs E3.out.sig
  go_wp2_with fail
  refine cp.mono ?_
  rintro e w5 ⟨rfl, h5, f5⟩
  have hB := (Below.refl w5.heap.size w5).alloc (Nat.le_refl _) (.cells #[.int .i64 (kd s a1), .int .i64 a1, .string (bs (T s a1))] 41)
  have CM := Lib.hid (show CmpA p s a1 o W lb w5.heap.size t A ca (w5.alloc (.cells #[.int .i64 (kd s a1), .int .i64 a1, .string (bs (T s a1))] 41)) from
    ⟨(X3.out.step f5).step (Fr.of hB), (N3.out.step X3.out.px f5).step X3.out.px (Fr.of hB), ⟨(X3.out.step f5).lt, World.alloc_heap_new _ _⟩, (Rdy.sca h5 ha).later hB, (E3.out.fr f5).later hB⟩)
  clear hB cp h5 f5 N3 X3 S3 E3
  go_upto_region 3 with fail
  generalize w5.alloc (.cells #[.int .i64 (kd s a1), .int .i64 a1, .string (bs (T s a1))] 41) = w6 at *
  generalize w5.heap.size = tb at *
  obtain ⟨t0, t1, t2, _, _, _⟩ := boxT_facts CM.out.tok.box
  have ct := ptake_any p s a1 (some o) w6 CM.out.sc hs CM.out.env.sig
  go_wp2_with fail
  refine ct.mono ?_
  rintro e w7 ⟨rfl, h7, f7⟩
  have hpx := CM.out.cx.px
  have X7 := Lib.hid (CM.out.cx.step f7)
  have N7 := Lib.hid (CM.out.l.step hpx f7)
  have T7 := Lib.hid (CM.out.tok.step hpx f7)
  have E7 := Lib.hid (CM.out.env.fr f7)
  have c2 := HC2.out w7 h7 E7.out
  clear f7 h7 ct CM HC2 t0 t1 t2
  go_wp2_with fail
  refine c2.mono ?_
  cases r with
  | out => exact fun _ _ h => h.elim
  | err er wh =>
    rintro e w8 ⟨rfl, f8⟩
    have F8 := Lib.hid (X7.out.fr.trans f8)
    clear f8 c2
    go_wp2_with fail
    exact ⟨rfl, rfl, F8.out⟩
  | ok u a2 =>
    rintro e w8 ⟨B, cb, rfl, hr, hf, hfr, hs8⟩
    have hB := (Below.refl w8.heap.size w8).alloc (Nat.le_refl _) (boxN u B cb)
    have N9 := Lib.hid ((N7.out.step hpx hfr).step hpx (Fr.of hB))
    have T9 := Lib.hid ((T7.out.step hpx hfr).step hpx (Fr.of hB))
    have M9 := Lib.hid (NB.start X7.out hr hf hfr)
    have X9 := Lib.hid ((X7.out.step hfr).step (Fr.of hB))
    have S9 := Lib.hid (hs8.later hB)
    have E9 := Lib.hid ((E7.out.fr hfr).later hB)
    clear hr hf hfr hs8 hB c2 X7 N7 T7 E7
    go_upto_region 14 with fail
    · generalize w8.alloc (boxN u B cb) = w9 at *
      generalize w8.heap.size = rb at *
      obtain ⟨t0, t1, t2, _, _, _⟩ := boxT_facts T9.out.box
      obtain ⟨l0, l1, l2, l3, l4, _, _, _, _, _⟩ := box_facts N9.out.box
      obtain ⟨u0, u1, u2, u3, u4, _, _, _, _, _⟩ := box_facts M9.out.box
      have c3 := compared_any (T s a1) hcm.out (W.heap.size + 1) t u A B ca cb w9 N9.out.rob M9.out.rob N9.out.fine M9.out.fine (Nat.succ_le_of_lt X9.out.lt) E9.out.tabs
      go_wp2_with fail
      refine c3.mono ?_
      rintro e w10 ⟨D, cd, rfl, hr, hf, b10⟩
      have X10 := Lib.hid (X9.out.step (Fr.of b10))
      have S10 := Lib.hid (S9.out.later b10)
      have R10 := Lib.hid hr
      have F10 := Lib.hid hf
      clear hr hf b10 c3 X9 S9 E9 N9 M9 T9 t0 t1 t2 l0 l1 l2 l3 l4 u0 u1 u2 u3 u4
      obtain ⟨y0, y1, y2, y3, y4, g0, g1, g2, g3, g4⟩ := box_facts X10.out.box
      go_wp2_with fail
      exact pass_ret X10.out R10.out F10.out S10.out Tryz.results149 _ rfl rfl

set_option maxRecDepth 100000 in
set_option maxHeartbeats 8000000 in
theorem cmp_yes_lt (p : Nat) (s : ByteArray) (a a1 o : Nat) (t : Nd) (r : PR) (W : World) (h : Sca W p s a (some o)) (hE : Env W p) (hs : s.size ≤ 9223372036854775000)
    (c1 : ∀ W', Sca W' p s a (some o) → Env W' p → Calls Tryz.prog 153 #[.pointer (some ⟨p, 0, none⟩)] W' (Ans p s o W' (.ok t a1))) (ht : T s a1 = [60])
    (c2 : ∀ W', Sca W' p s (nxt s a1) (some o) → Env W' p → Calls Tryz.prog 153 #[.pointer (some ⟨p, 0, none⟩)] W' (Ans p s o W' r)) :
    Calls Tryz.prog 149 #[.pointer (some ⟨p, 0, none⟩)] W (Ans p s o W (r.bind fun u a2 => .ok (cmpN2 (T s a1) t u) a2)) := by
  have hq0 : ((bs (T s a1)).toList == [61]) = false := by rw [bs_toList, ht]; rfl
  have hq1 : ((bs (T s a1)).toList == [33, 61]) = false := by rw [bs_toList, ht]; rfl
  have hq2 : ((bs (T s a1)).toList == [60]) = true := by rw [bs_toList, ht]; rfl
  have hcm := Lib.hid (show isCmp (T s a1) = true by rw [ht]; rfl)
  have HC2 := Lib.hid c2
  clear ht c2
  have X1 := Lib.hid (CX.start h.lt)
  have S1 := Lib.hid (h.alloc (.cells zero5 27))
  have E1 := Lib.hid (hE.alloc (.cells zero5 27))
  have HC := Lib.hid c1
  clear h hE c1
  go_enter Tryz.func149, Tryz.ntmps149
  go_upto_region 1 with fail
  generalize W.alloc (.cells zero5 27) = w1 at *
  go_wp2_with fail
  refine (HC.out _ S1.out E1.out).mono ?_
  rintro e w3 ⟨A, ca, rfl, hr, hf, hfr, hs3⟩
  have hB := (Below.refl w3.heap.size w3).alloc (Nat.le_refl _) (boxN t A ca)
  have N3 := Lib.hid (NB.start X1.out hr hf hfr)
  have X3 := Lib.hid ((X1.out.step hfr).step (Fr.of hB))
  have S3 := Lib.hid (hs3.later hB)
  have E3 := Lib.hid ((E1.out.fr hfr).later hB)
  have ha := hs3.le
  clear hr hf hfr hs3 hB S1 E1 X1 HC
  go_upto_region 2 with fail
  generalize w3.alloc (boxN t A ca) = w4 at *
  generalize w3.heap.size = lb at *
  have cp := peek_any p s a1 (some o) w4 S3.out hs E3.out.sig
  go_wp2_with fail
  refine cp.mono ?_
  rintro e w5 ⟨rfl, h5, f5⟩
  have hB := (Below.refl w5.heap.size w5).alloc (Nat.le_refl _) (.cells #[.int .i64 (kd s a1), .int .i64 a1, .string (bs (T s a1))] 41)
  have CM := Lib.hid (show CmpA p s a1 o W lb w5.heap.size t A ca (w5.alloc (.cells #[.int .i64 (kd s a1), .int .i64 a1, .string (bs (T s a1))] 41)) from
    ⟨(X3.out.step f5).step (Fr.of hB), (N3.out.step X3.out.px f5).step X3.out.px (Fr.of hB), ⟨(X3.out.step f5).lt, World.alloc_heap_new _ _⟩, (Rdy.sca h5 ha).later hB, (E3.out.fr f5).later hB⟩)
  clear hB cp h5 f5 N3 X3 S3 E3
  go_upto_region 3 with fail
  generalize w5.alloc (.cells #[.int .i64 (kd s a1), .int .i64 a1, .string (bs (T s a1))] 41) = w6 at *
  generalize w5.heap.size = tb at *
  obtain ⟨t0, t1, t2, _, _, _⟩ := boxT_facts CM.out.tok.box
  have ct := ptake_any p s a1 (some o) w6 CM.out.sc hs CM.out.env.sig
  go_wp2_with fail
  refine ct.mono ?_
  rintro e w7 ⟨rfl, h7, f7⟩
  have hpx := CM.out.cx.px
  have X7 := Lib.hid (CM.out.cx.step f7)
  have N7 := Lib.hid (CM.out.l.step hpx f7)
  have T7 := Lib.hid (CM.out.tok.step hpx f7)
  have E7 := Lib.hid (CM.out.env.fr f7)
  have c2 := HC2.out w7 h7 E7.out
  clear f7 h7 ct CM HC2 t0 t1 t2
  go_wp2_with fail
  refine c2.mono ?_
  cases r with
  | out => exact fun _ _ h => h.elim
  | err er wh =>
    rintro e w8 ⟨rfl, f8⟩
    have F8 := Lib.hid (X7.out.fr.trans f8)
    clear f8 c2
    go_wp2_with fail
    exact ⟨rfl, rfl, F8.out⟩
  | ok u a2 =>
    rintro e w8 ⟨B, cb, rfl, hr, hf, hfr, hs8⟩
    have hB := (Below.refl w8.heap.size w8).alloc (Nat.le_refl _) (boxN u B cb)
    have N9 := Lib.hid ((N7.out.step hpx hfr).step hpx (Fr.of hB))
    have T9 := Lib.hid ((T7.out.step hpx hfr).step hpx (Fr.of hB))
    have M9 := Lib.hid (NB.start X7.out hr hf hfr)
    have X9 := Lib.hid ((X7.out.step hfr).step (Fr.of hB))
    have S9 := Lib.hid (hs8.later hB)
    have E9 := Lib.hid ((E7.out.fr hfr).later hB)
    clear hr hf hfr hs8 hB c2 X7 N7 T7 E7
    go_upto_region 14 with fail
    · generalize w8.alloc (boxN u B cb) = w9 at *
      generalize w8.heap.size = rb at *
      obtain ⟨t0, t1, t2, _, _, _⟩ := boxT_facts T9.out.box
      obtain ⟨l0, l1, l2, l3, l4, _, _, _, _, _⟩ := box_facts N9.out.box
      obtain ⟨u0, u1, u2, u3, u4, _, _, _, _, _⟩ := box_facts M9.out.box
      have c3 := compared_any (T s a1) hcm.out (W.heap.size + 1) t u A B ca cb w9 N9.out.rob M9.out.rob N9.out.fine M9.out.fine (Nat.succ_le_of_lt X9.out.lt) E9.out.tabs
      go_wp2_with fail
      refine c3.mono ?_
      rintro e w10 ⟨D, cd, rfl, hr, hf, b10⟩
      have X10 := Lib.hid (X9.out.step (Fr.of b10))
      have S10 := Lib.hid (S9.out.later b10)
      have R10 := Lib.hid hr
      have F10 := Lib.hid hf
      clear hr hf b10 c3 X9 S9 E9 N9 M9 T9 t0 t1 t2 l0 l1 l2 l3 l4 u0 u1 u2 u3 u4
      obtain ⟨y0, y1, y2, y3, y4, g0, g1, g2, g3, g4⟩ := box_facts X10.out.box
      go_wp2_with fail
      exact pass_ret X10.out R10.out F10.out S10.out Tryz.results149 _ rfl rfl

set_option maxRecDepth 100000 in
set_option maxHeartbeats 8000000 in
theorem cmp_yes_le (p : Nat) (s : ByteArray) (a a1 o : Nat) (t : Nd) (r : PR) (W : World) (h : Sca W p s a (some o)) (hE : Env W p) (hs : s.size ≤ 9223372036854775000)
    (c1 : ∀ W', Sca W' p s a (some o) → Env W' p → Calls Tryz.prog 153 #[.pointer (some ⟨p, 0, none⟩)] W' (Ans p s o W' (.ok t a1))) (ht : T s a1 = [60, 61])
    (c2 : ∀ W', Sca W' p s (nxt s a1) (some o) → Env W' p → Calls Tryz.prog 153 #[.pointer (some ⟨p, 0, none⟩)] W' (Ans p s o W' r)) :
    Calls Tryz.prog 149 #[.pointer (some ⟨p, 0, none⟩)] W (Ans p s o W (r.bind fun u a2 => .ok (cmpN2 (T s a1) t u) a2)) := by
  have hq0 : ((bs (T s a1)).toList == [61]) = false := by rw [bs_toList, ht]; rfl
  have hq1 : ((bs (T s a1)).toList == [33, 61]) = false := by rw [bs_toList, ht]; rfl
  have hq2 : ((bs (T s a1)).toList == [60]) = false := by rw [bs_toList, ht]; rfl
  have hq3 : ((bs (T s a1)).toList == [60, 61]) = true := by rw [bs_toList, ht]; rfl
  have hcm := Lib.hid (show isCmp (T s a1) = true by rw [ht]; rfl)
  have HC2 := Lib.hid c2
  clear ht c2
  have X1 := Lib.hid (CX.start h.lt)
  have S1 := Lib.hid (h.alloc (.cells zero5 27))
  have E1 := Lib.hid (hE.alloc (.cells zero5 27))
  have HC := Lib.hid c1
  clear h hE c1
  go_enter Tryz.func149, Tryz.ntmps149
  go_upto_region 1 with fail
  generalize W.alloc (.cells zero5 27) = w1 at *
  go_wp2_with fail
  refine (HC.out _ S1.out E1.out).mono ?_
  rintro e w3 ⟨A, ca, rfl, hr, hf, hfr, hs3⟩
  have hB := (Below.refl w3.heap.size w3).alloc (Nat.le_refl _) (boxN t A ca)
  have N3 := Lib.hid (NB.start X1.out hr hf hfr)
  have X3 := Lib.hid ((X1.out.step hfr).step (Fr.of hB))
  have S3 := Lib.hid (hs3.later hB)
  have E3 := Lib.hid ((E1.out.fr hfr).later hB)
  have ha := hs3.le
  clear hr hf hfr hs3 hB S1 E1 X1 HC
  go_upto_region 2 with fail
  generalize w3.alloc (boxN t A ca) = w4 at *
  generalize w3.heap.size = lb at *
  have cp := peek_any p s a1 (some o) w4 S3.out hs E3.out.sig
  go_wp2_with fail
  refine cp.mono ?_
  rintro e w5 ⟨rfl, h5, f5⟩
  have hB := (Below.refl w5.heap.size w5).alloc (Nat.le_refl _) (.cells #[.int .i64 (kd s a1), .int .i64 a1, .string (bs (T s a1))] 41)
  have CM := Lib.hid (show CmpA p s a1 o W lb w5.heap.size t A ca (w5.alloc (.cells #[.int .i64 (kd s a1), .int .i64 a1, .string (bs (T s a1))] 41)) from
    ⟨(X3.out.step f5).step (Fr.of hB), (N3.out.step X3.out.px f5).step X3.out.px (Fr.of hB), ⟨(X3.out.step f5).lt, World.alloc_heap_new _ _⟩, (Rdy.sca h5 ha).later hB, (E3.out.fr f5).later hB⟩)
  clear hB cp h5 f5 N3 X3 S3 E3
  go_upto_region 3 with fail
  generalize w5.alloc (.cells #[.int .i64 (kd s a1), .int .i64 a1, .string (bs (T s a1))] 41) = w6 at *
  generalize w5.heap.size = tb at *
  obtain ⟨t0, t1, t2, _, _, _⟩ := boxT_facts CM.out.tok.box
  have ct := ptake_any p s a1 (some o) w6 CM.out.sc hs CM.out.env.sig
  go_wp2_with fail
  refine ct.mono ?_
  rintro e w7 ⟨rfl, h7, f7⟩
  have hpx := CM.out.cx.px
  have X7 := Lib.hid (CM.out.cx.step f7)
  have N7 := Lib.hid (CM.out.l.step hpx f7)
  have T7 := Lib.hid (CM.out.tok.step hpx f7)
  have E7 := Lib.hid (CM.out.env.fr f7)
  have c2 := HC2.out w7 h7 E7.out
  clear f7 h7 ct CM HC2 t0 t1 t2
  go_wp2_with fail
  refine c2.mono ?_
  cases r with
  | out => exact fun _ _ h => h.elim
  | err er wh =>
    rintro e w8 ⟨rfl, f8⟩
    have F8 := Lib.hid (X7.out.fr.trans f8)
    clear f8 c2
    go_wp2_with fail
    exact ⟨rfl, rfl, F8.out⟩
  | ok u a2 =>
    rintro e w8 ⟨B, cb, rfl, hr, hf, hfr, hs8⟩
    have hB := (Below.refl w8.heap.size w8).alloc (Nat.le_refl _) (boxN u B cb)
    have N9 := Lib.hid ((N7.out.step hpx hfr).step hpx (Fr.of hB))
    have T9 := Lib.hid ((T7.out.step hpx hfr).step hpx (Fr.of hB))
    have M9 := Lib.hid (NB.start X7.out hr hf hfr)
    have X9 := Lib.hid ((X7.out.step hfr).step (Fr.of hB))
    have S9 := Lib.hid (hs8.later hB)
    have E9 := Lib.hid ((E7.out.fr hfr).later hB)
    clear hr hf hfr hs8 hB c2 X7 N7 T7 E7
    go_upto_region 14 with fail
    · generalize w8.alloc (boxN u B cb) = w9 at *
      generalize w8.heap.size = rb at *
      obtain ⟨t0, t1, t2, _, _, _⟩ := boxT_facts T9.out.box
      obtain ⟨l0, l1, l2, l3, l4, _, _, _, _, _⟩ := box_facts N9.out.box
      obtain ⟨u0, u1, u2, u3, u4, _, _, _, _, _⟩ := box_facts M9.out.box
      have c3 := compared_any (T s a1) hcm.out (W.heap.size + 1) t u A B ca cb w9 N9.out.rob M9.out.rob N9.out.fine M9.out.fine (Nat.succ_le_of_lt X9.out.lt) E9.out.tabs
      go_wp2_with fail
      refine c3.mono ?_
      rintro e w10 ⟨D, cd, rfl, hr, hf, b10⟩
      have X10 := Lib.hid (X9.out.step (Fr.of b10))
      have S10 := Lib.hid (S9.out.later b10)
      have R10 := Lib.hid hr
      have F10 := Lib.hid hf
      clear hr hf b10 c3 X9 S9 E9 N9 M9 T9 t0 t1 t2 l0 l1 l2 l3 l4 u0 u1 u2 u3 u4
      obtain ⟨y0, y1, y2, y3, y4, g0, g1, g2, g3, g4⟩ := box_facts X10.out.box
      go_wp2_with fail
      exact pass_ret X10.out R10.out F10.out S10.out Tryz.results149 _ rfl rfl

set_option maxRecDepth 100000 in
set_option maxHeartbeats 8000000 in
theorem cmp_yes_gt (p : Nat) (s : ByteArray) (a a1 o : Nat) (t : Nd) (r : PR) (W : World) (h : Sca W p s a (some o)) (hE : Env W p) (hs : s.size ≤ 9223372036854775000)
    (c1 : ∀ W', Sca W' p s a (some o) → Env W' p → Calls Tryz.prog 153 #[.pointer (some ⟨p, 0, none⟩)] W' (Ans p s o W' (.ok t a1))) (ht : T s a1 = [62])
    (c2 : ∀ W', Sca W' p s (nxt s a1) (some o) → Env W' p → Calls Tryz.prog 153 #[.pointer (some ⟨p, 0, none⟩)] W' (Ans p s o W' r)) :
    Calls Tryz.prog 149 #[.pointer (some ⟨p, 0, none⟩)] W (Ans p s o W (r.bind fun u a2 => .ok (cmpN2 (T s a1) t u) a2)) := by
  have hq0 : ((bs (T s a1)).toList == [61]) = false := by rw [bs_toList, ht]; rfl
  have hq1 : ((bs (T s a1)).toList == [33, 61]) = false := by rw [bs_toList, ht]; rfl
  have hq2 : ((bs (T s a1)).toList == [60]) = false := by rw [bs_toList, ht]; rfl
  have hq3 : ((bs (T s a1)).toList == [60, 61]) = false := by rw [bs_toList, ht]; rfl
  have hq4 : ((bs (T s a1)).toList == [62]) = true := by rw [bs_toList, ht]; rfl
  have hcm := Lib.hid (show isCmp (T s a1) = true by rw [ht]; rfl)
  have HC2 := Lib.hid c2
  clear ht c2
  have X1 := Lib.hid (CX.start h.lt)
  have S1 := Lib.hid (h.alloc (.cells zero5 27))
  have E1 := Lib.hid (hE.alloc (.cells zero5 27))
  have HC := Lib.hid c1
  clear h hE c1
  go_enter Tryz.func149, Tryz.ntmps149
  go_upto_region 1 with fail
  generalize W.alloc (.cells zero5 27) = w1 at *
  go_wp2_with fail
  refine (HC.out _ S1.out E1.out).mono ?_
  rintro e w3 ⟨A, ca, rfl, hr, hf, hfr, hs3⟩
  have hB := (Below.refl w3.heap.size w3).alloc (Nat.le_refl _) (boxN t A ca)
  have N3 := Lib.hid (NB.start X1.out hr hf hfr)
  have X3 := Lib.hid ((X1.out.step hfr).step (Fr.of hB))
  have S3 := Lib.hid (hs3.later hB)
  have E3 := Lib.hid ((E1.out.fr hfr).later hB)
  have ha := hs3.le
  clear hr hf hfr hs3 hB S1 E1 X1 HC
  go_upto_region 2 with fail
  generalize w3.alloc (boxN t A ca) = w4 at *
  generalize w3.heap.size = lb at *
  have cp := peek_any p s a1 (some o) w4 S3.out hs E3.out.sig
  go_wp2_with fail
  refine cp.mono ?_
  rintro e w5 ⟨rfl, h5, f5⟩
  have hB := (Below.refl w5.heap.size w5).alloc (Nat.le_refl _) (.cells #[.int .i64 (kd s a1), .int .i64 a1, .string (bs (T s a1))] 41)
  have CM := Lib.hid (show CmpA p s a1 o W lb w5.heap.size t A ca (w5.alloc (.cells #[.int .i64 (kd s a1), .int .i64 a1, .string (bs (T s a1))] 41)) from
    ⟨(X3.out.step f5).step (Fr.of hB), (N3.out.step X3.out.px f5).step X3.out.px (Fr.of hB), ⟨(X3.out.step f5).lt, World.alloc_heap_new _ _⟩, (Rdy.sca h5 ha).later hB, (E3.out.fr f5).later hB⟩)
  clear hB cp h5 f5 N3 X3 S3 E3
  go_upto_region 3 with fail
  generalize w5.alloc (.cells #[.int .i64 (kd s a1), .int .i64 a1, .string (bs (T s a1))] 41) = w6 at *
  generalize w5.heap.size = tb at *
  obtain ⟨t0, t1, t2, _, _, _⟩ := boxT_facts CM.out.tok.box
  have ct := ptake_any p s a1 (some o) w6 CM.out.sc hs CM.out.env.sig
  go_wp2_with fail
  refine ct.mono ?_
  rintro e w7 ⟨rfl, h7, f7⟩
  have hpx := CM.out.cx.px
  have X7 := Lib.hid (CM.out.cx.step f7)
  have N7 := Lib.hid (CM.out.l.step hpx f7)
  have T7 := Lib.hid (CM.out.tok.step hpx f7)
  have E7 := Lib.hid (CM.out.env.fr f7)
  have c2 := HC2.out w7 h7 E7.out
  clear f7 h7 ct CM HC2 t0 t1 t2
  go_wp2_with fail
  refine c2.mono ?_
  cases r with
  | out => exact fun _ _ h => h.elim
  | err er wh =>
    rintro e w8 ⟨rfl, f8⟩
    have F8 := Lib.hid (X7.out.fr.trans f8)
    clear f8 c2
    go_wp2_with fail
    exact ⟨rfl, rfl, F8.out⟩
  | ok u a2 =>
    rintro e w8 ⟨B, cb, rfl, hr, hf, hfr, hs8⟩
    have hB := (Below.refl w8.heap.size w8).alloc (Nat.le_refl _) (boxN u B cb)
    have N9 := Lib.hid ((N7.out.step hpx hfr).step hpx (Fr.of hB))
    have T9 := Lib.hid ((T7.out.step hpx hfr).step hpx (Fr.of hB))
    have M9 := Lib.hid (NB.start X7.out hr hf hfr)
    have X9 := Lib.hid ((X7.out.step hfr).step (Fr.of hB))
    have S9 := Lib.hid (hs8.later hB)
    have E9 := Lib.hid ((E7.out.fr hfr).later hB)
    clear hr hf hfr hs8 hB c2 X7 N7 T7 E7
    go_upto_region 14 with fail
    · generalize w8.alloc (boxN u B cb) = w9 at *
      generalize w8.heap.size = rb at *
      obtain ⟨t0, t1, t2, _, _, _⟩ := boxT_facts T9.out.box
      obtain ⟨l0, l1, l2, l3, l4, _, _, _, _, _⟩ := box_facts N9.out.box
      obtain ⟨u0, u1, u2, u3, u4, _, _, _, _, _⟩ := box_facts M9.out.box
      have c3 := compared_any (T s a1) hcm.out (W.heap.size + 1) t u A B ca cb w9 N9.out.rob M9.out.rob N9.out.fine M9.out.fine (Nat.succ_le_of_lt X9.out.lt) E9.out.tabs
      go_wp2_with fail
      refine c3.mono ?_
      rintro e w10 ⟨D, cd, rfl, hr, hf, b10⟩
      have X10 := Lib.hid (X9.out.step (Fr.of b10))
      have S10 := Lib.hid (S9.out.later b10)
      have R10 := Lib.hid hr
      have F10 := Lib.hid hf
      clear hr hf b10 c3 X9 S9 E9 N9 M9 T9 t0 t1 t2 l0 l1 l2 l3 l4 u0 u1 u2 u3 u4
      obtain ⟨y0, y1, y2, y3, y4, g0, g1, g2, g3, g4⟩ := box_facts X10.out.box
      go_wp2_with fail
      exact pass_ret X10.out R10.out F10.out S10.out Tryz.results149 _ rfl rfl

set_option maxRecDepth 100000 in
set_option maxHeartbeats 8000000 in
theorem cmp_yes_ge (p : Nat) (s : ByteArray) (a a1 o : Nat) (t : Nd) (r : PR) (W : World) (h : Sca W p s a (some o)) (hE : Env W p) (hs : s.size ≤ 9223372036854775000)
    (c1 : ∀ W', Sca W' p s a (some o) → Env W' p → Calls Tryz.prog 153 #[.pointer (some ⟨p, 0, none⟩)] W' (Ans p s o W' (.ok t a1))) (ht : T s a1 = [62, 61])
    (c2 : ∀ W', Sca W' p s (nxt s a1) (some o) → Env W' p → Calls Tryz.prog 153 #[.pointer (some ⟨p, 0, none⟩)] W' (Ans p s o W' r)) :
    Calls Tryz.prog 149 #[.pointer (some ⟨p, 0, none⟩)] W (Ans p s o W (r.bind fun u a2 => .ok (cmpN2 (T s a1) t u) a2)) := by
  have hq0 : ((bs (T s a1)).toList == [61]) = false := by rw [bs_toList, ht]; rfl
  have hq1 : ((bs (T s a1)).toList == [33, 61]) = false := by rw [bs_toList, ht]; rfl
  have hq2 : ((bs (T s a1)).toList == [60]) = false := by rw [bs_toList, ht]; rfl
  have hq3 : ((bs (T s a1)).toList == [60, 61]) = false := by rw [bs_toList, ht]; rfl
  have hq4 : ((bs (T s a1)).toList == [62]) = false := by rw [bs_toList, ht]; rfl
  have hq5 : ((bs (T s a1)).toList == [62, 61]) = true := by rw [bs_toList, ht]; rfl
  have hcm := Lib.hid (show isCmp (T s a1) = true by rw [ht]; rfl)
  have HC2 := Lib.hid c2
  clear ht c2
  have X1 := Lib.hid (CX.start h.lt)
  have S1 := Lib.hid (h.alloc (.cells zero5 27))
  have E1 := Lib.hid (hE.alloc (.cells zero5 27))
  have HC := Lib.hid c1
  clear h hE c1
  go_enter Tryz.func149, Tryz.ntmps149
  go_upto_region 1 with fail
  generalize W.alloc (.cells zero5 27) = w1 at *
  go_wp2_with fail
  refine (HC.out _ S1.out E1.out).mono ?_
  rintro e w3 ⟨A, ca, rfl, hr, hf, hfr, hs3⟩
  have hB := (Below.refl w3.heap.size w3).alloc (Nat.le_refl _) (boxN t A ca)
  have N3 := Lib.hid (NB.start X1.out hr hf hfr)
  have X3 := Lib.hid ((X1.out.step hfr).step (Fr.of hB))
  have S3 := Lib.hid (hs3.later hB)
  have E3 := Lib.hid ((E1.out.fr hfr).later hB)
  have ha := hs3.le
  clear hr hf hfr hs3 hB S1 E1 X1 HC
  go_upto_region 2 with fail
  generalize w3.alloc (boxN t A ca) = w4 at *
  generalize w3.heap.size = lb at *
  have cp := peek_any p s a1 (some o) w4 S3.out hs E3.out.sig
  go_wp2_with fail
  refine cp.mono ?_
  rintro e w5 ⟨rfl, h5, f5⟩
  have hB := (Below.refl w5.heap.size w5).alloc (Nat.le_refl _) (.cells #[.int .i64 (kd s a1), .int .i64 a1, .string (bs (T s a1))] 41)
  have CM := Lib.hid (show CmpA p s a1 o W lb w5.heap.size t A ca (w5.alloc (.cells #[.int .i64 (kd s a1), .int .i64 a1, .string (bs (T s a1))] 41)) from
    ⟨(X3.out.step f5).step (Fr.of hB), (N3.out.step X3.out.px f5).step X3.out.px (Fr.of hB), ⟨(X3.out.step f5).lt, World.alloc_heap_new _ _⟩, (Rdy.sca h5 ha).later hB, (E3.out.fr f5).later hB⟩)
  clear hB cp h5 f5 N3 X3 S3 E3
  go_upto_region 3 with fail
  generalize w5.alloc (.cells #[.int .i64 (kd s a1), .int .i64 a1, .string (bs (T s a1))] 41) = w6 at *
  generalize w5.heap.size = tb at *
  obtain ⟨t0, t1, t2, _, _, _⟩ := boxT_facts CM.out.tok.box
  have ct := ptake_any p s a1 (some o) w6 CM.out.sc hs CM.out.env.sig
  go_wp2_with fail
  refine ct.mono ?_
  rintro e w7 ⟨rfl, h7, f7⟩
  have hpx := CM.out.cx.px
  have X7 := Lib.hid (CM.out.cx.step f7)
  have N7 := Lib.hid (CM.out.l.step hpx f7)
  have T7 := Lib.hid (CM.out.tok.step hpx f7)
  have E7 := Lib.hid (CM.out.env.fr f7)
  have c2 := HC2.out w7 h7 E7.out
  clear f7 h7 ct CM HC2 t0 t1 t2
  go_wp2_with fail
  refine c2.mono ?_
  cases r with
  | out => exact fun _ _ h => h.elim
  | err er wh =>
    rintro e w8 ⟨rfl, f8⟩
    have F8 := Lib.hid (X7.out.fr.trans f8)
    clear f8 c2
    go_wp2_with fail
    exact ⟨rfl, rfl, F8.out⟩
  | ok u a2 =>
    rintro e w8 ⟨B, cb, rfl, hr, hf, hfr, hs8⟩
    have hB := (Below.refl w8.heap.size w8).alloc (Nat.le_refl _) (boxN u B cb)
    have N9 := Lib.hid ((N7.out.step hpx hfr).step hpx (Fr.of hB))
    have T9 := Lib.hid ((T7.out.step hpx hfr).step hpx (Fr.of hB))
    have M9 := Lib.hid (NB.start X7.out hr hf hfr)
    have X9 := Lib.hid ((X7.out.step hfr).step (Fr.of hB))
    have S9 := Lib.hid (hs8.later hB)
    have E9 := Lib.hid ((E7.out.fr hfr).later hB)
    clear hr hf hfr hs8 hB c2 X7 N7 T7 E7
    go_upto_region 14 with fail
    · generalize w8.alloc (boxN u B cb) = w9 at *
      generalize w8.heap.size = rb at *
      obtain ⟨t0, t1, t2, _, _, _⟩ := boxT_facts T9.out.box
      obtain ⟨l0, l1, l2, l3, l4, _, _, _, _, _⟩ := box_facts N9.out.box
      obtain ⟨u0, u1, u2, u3, u4, _, _, _, _, _⟩ := box_facts M9.out.box
      have c3 := compared_any (T s a1) hcm.out (W.heap.size + 1) t u A B ca cb w9 N9.out.rob M9.out.rob N9.out.fine M9.out.fine (Nat.succ_le_of_lt X9.out.lt) E9.out.tabs
      go_wp2_with fail
      refine c3.mono ?_
      rintro e w10 ⟨D, cd, rfl, hr, hf, b10⟩
      have X10 := Lib.hid (X9.out.step (Fr.of b10))
      have S10 := Lib.hid (S9.out.later b10)
      have R10 := Lib.hid hr
      have F10 := Lib.hid hf
      clear hr hf b10 c3 X9 S9 E9 N9 M9 T9 t0 t1 t2 l0 l1 l2 l3 l4 u0 u1 u2 u3 u4
      obtain ⟨y0, y1, y2, y3, y4, g0, g1, g2, g3, g4⟩ := box_facts X10.out.box
      go_wp2_with fail
      exact pass_ret X10.out R10.out F10.out S10.out Tryz.results149 _ rfl rfl

set_option maxRecDepth 100000 in
set_option maxHeartbeats 8000000 in
theorem cmp_yes_in (p : Nat) (s : ByteArray) (a a1 o : Nat) (t : Nd) (r : PR) (W : World) (h : Sca W p s a (some o)) (hE : Env W p) (hs : s.size ≤ 9223372036854775000)
    (c1 : ∀ W', Sca W' p s a (some o) → Env W' p → Calls Tryz.prog 153 #[.pointer (some ⟨p, 0, none⟩)] W' (Ans p s o W' (.ok t a1))) (ht : T s a1 = [105, 110])
    (c2 : ∀ W', Sca W' p s (nxt s a1) (some o) → Env W' p → Calls Tryz.prog 153 #[.pointer (some ⟨p, 0, none⟩)] W' (Ans p s o W' r)) :
    Calls Tryz.prog 149 #[.pointer (some ⟨p, 0, none⟩)] W (Ans p s o W (r.bind fun u a2 => .ok (cmpN2 (T s a1) t u) a2)) := by
  have hq0 : ((bs (T s a1)).toList == [61]) = false := by rw [bs_toList, ht]; rfl
  have hq1 : ((bs (T s a1)).toList == [33, 61]) = false := by rw [bs_toList, ht]; rfl
  have hq2 : ((bs (T s a1)).toList == [60]) = false := by rw [bs_toList, ht]; rfl
  have hq3 : ((bs (T s a1)).toList == [60, 61]) = false := by rw [bs_toList, ht]; rfl
  have hq4 : ((bs (T s a1)).toList == [62]) = false := by rw [bs_toList, ht]; rfl
  have hq5 : ((bs (T s a1)).toList == [62, 61]) = false := by rw [bs_toList, ht]; rfl
  have hq6 : ((bs (T s a1)).toList == [105, 110]) = true := by rw [bs_toList, ht]; rfl
  have hcm := Lib.hid (show isCmp (T s a1) = true by rw [ht]; rfl)
  have HC2 := Lib.hid c2
  clear ht c2
  have X1 := Lib.hid (CX.start h.lt)
  have S1 := Lib.hid (h.alloc (.cells zero5 27))
  have E1 := Lib.hid (hE.alloc (.cells zero5 27))
  have HC := Lib.hid c1
  clear h hE c1
  go_enter Tryz.func149, Tryz.ntmps149
  go_upto_region 1 with fail
  generalize W.alloc (.cells zero5 27) = w1 at *
  go_wp2_with fail
  refine (HC.out _ S1.out E1.out).mono ?_
  rintro e w3 ⟨A, ca, rfl, hr, hf, hfr, hs3⟩
  have hB := (Below.refl w3.heap.size w3).alloc (Nat.le_refl _) (boxN t A ca)
  have N3 := Lib.hid (NB.start X1.out hr hf hfr)
  have X3 := Lib.hid ((X1.out.step hfr).step (Fr.of hB))
  have S3 := Lib.hid (hs3.later hB)
  have E3 := Lib.hid ((E1.out.fr hfr).later hB)
  have ha := hs3.le
  clear hr hf hfr hs3 hB S1 E1 X1 HC
  go_upto_region 2 with fail
  generalize w3.alloc (boxN t A ca) = w4 at *
  generalize w3.heap.size = lb at *
  have cp := peek_any p s a1 (some o) w4 S3.out hs E3.out.sig
  go_wp2_with fail
  refine cp.mono ?_
  rintro e w5 ⟨rfl, h5, f5⟩
  have hB := (Below.refl w5.heap.size w5).alloc (Nat.le_refl _) (.cells #[.int .i64 (kd s a1), .int .i64 a1, .string (bs (T s a1))] 41)
  have CM := Lib.hid (show CmpA p s a1 o W lb w5.heap.size t A ca (w5.alloc (.cells #[.int .i64 (kd s a1), .int .i64 a1, .string (bs (T s a1))] 41)) from
    ⟨(X3.out.step f5).step (Fr.of hB), (N3.out.step X3.out.px f5).step X3.out.px (Fr.of hB), ⟨(X3.out.step f5).lt, World.alloc_heap_new _ _⟩, (Rdy.sca h5 ha).later hB, (E3.out.fr f5).later hB⟩)
  clear hB cp h5 f5 N3 X3 S3 E3
  go_upto_region 3 with fail
  generalize w5.alloc (.cells #[.int .i64 (kd s a1), .int .i64 a1, .string (bs (T s a1))] 41) = w6 at *
  generalize w5.heap.size = tb at *
  obtain ⟨t0, t1, t2, _, _, _⟩ := boxT_facts CM.out.tok.box
  have ct := ptake_any p s a1 (some o) w6 CM.out.sc hs CM.out.env.sig
  go_wp2_with fail
  refine ct.mono ?_
  rintro e w7 ⟨rfl, h7, f7⟩
  have hpx := CM.out.cx.px
  have X7 := Lib.hid (CM.out.cx.step f7)
  have N7 := Lib.hid (CM.out.l.step hpx f7)
  have T7 := Lib.hid (CM.out.tok.step hpx f7)
  have E7 := Lib.hid (CM.out.env.fr f7)
  have c2 := HC2.out w7 h7 E7.out
  clear f7 h7 ct CM HC2 t0 t1 t2
  go_wp2_with fail
  refine c2.mono ?_
  cases r with
  | out => exact fun _ _ h => h.elim
  | err er wh =>
    rintro e w8 ⟨rfl, f8⟩
    have F8 := Lib.hid (X7.out.fr.trans f8)
    clear f8 c2
    go_wp2_with fail
    exact ⟨rfl, rfl, F8.out⟩
  | ok u a2 =>
    rintro e w8 ⟨B, cb, rfl, hr, hf, hfr, hs8⟩
    have hB := (Below.refl w8.heap.size w8).alloc (Nat.le_refl _) (boxN u B cb)
    have N9 := Lib.hid ((N7.out.step hpx hfr).step hpx (Fr.of hB))
    have T9 := Lib.hid ((T7.out.step hpx hfr).step hpx (Fr.of hB))
    have M9 := Lib.hid (NB.start X7.out hr hf hfr)
    have X9 := Lib.hid ((X7.out.step hfr).step (Fr.of hB))
    have S9 := Lib.hid (hs8.later hB)
    have E9 := Lib.hid ((E7.out.fr hfr).later hB)
    clear hr hf hfr hs8 hB c2 X7 N7 T7 E7
    go_upto_region 14 with fail
    · generalize w8.alloc (boxN u B cb) = w9 at *
      generalize w8.heap.size = rb at *
      obtain ⟨t0, t1, t2, _, _, _⟩ := boxT_facts T9.out.box
      obtain ⟨l0, l1, l2, l3, l4, _, _, _, _, _⟩ := box_facts N9.out.box
      obtain ⟨u0, u1, u2, u3, u4, _, _, _, _, _⟩ := box_facts M9.out.box
      have c3 := compared_any (T s a1) hcm.out (W.heap.size + 1) t u A B ca cb w9 N9.out.rob M9.out.rob N9.out.fine M9.out.fine (Nat.succ_le_of_lt X9.out.lt) E9.out.tabs
      go_wp2_with fail
      refine c3.mono ?_
      rintro e w10 ⟨D, cd, rfl, hr, hf, b10⟩
      have X10 := Lib.hid (X9.out.step (Fr.of b10))
      have S10 := Lib.hid (S9.out.later b10)
      have R10 := Lib.hid hr
      have F10 := Lib.hid hf
      clear hr hf b10 c3 X9 S9 E9 N9 M9 T9 t0 t1 t2 l0 l1 l2 l3 l4 u0 u1 u2 u3 u4
      obtain ⟨y0, y1, y2, y3, y4, g0, g1, g2, g3, g4⟩ := box_facts X10.out.box
      go_wp2_with fail
      exact pass_ret X10.out R10.out F10.out S10.out Tryz.results149 _ rfl rfl

set_option maxRecDepth 100000 in
set_option maxHeartbeats 8000000 in
theorem cmp_yes_sub (p : Nat) (s : ByteArray) (a a1 o : Nat) (t : Nd) (r : PR) (W : World) (h : Sca W p s a (some o)) (hE : Env W p) (hs : s.size ≤ 9223372036854775000)
    (c1 : ∀ W', Sca W' p s a (some o) → Env W' p → Calls Tryz.prog 153 #[.pointer (some ⟨p, 0, none⟩)] W' (Ans p s o W' (.ok t a1))) (ht : T s a1 = [115, 117, 98])
    (c2 : ∀ W', Sca W' p s (nxt s a1) (some o) → Env W' p → Calls Tryz.prog 153 #[.pointer (some ⟨p, 0, none⟩)] W' (Ans p s o W' r)) :
    Calls Tryz.prog 149 #[.pointer (some ⟨p, 0, none⟩)] W (Ans p s o W (r.bind fun u a2 => .ok (cmpN2 (T s a1) t u) a2)) := by
  have hq0 : ((bs (T s a1)).toList == [61]) = false := by rw [bs_toList, ht]; rfl
  have hq1 : ((bs (T s a1)).toList == [33, 61]) = false := by rw [bs_toList, ht]; rfl
  have hq2 : ((bs (T s a1)).toList == [60]) = false := by rw [bs_toList, ht]; rfl
  have hq3 : ((bs (T s a1)).toList == [60, 61]) = false := by rw [bs_toList, ht]; rfl
  have hq4 : ((bs (T s a1)).toList == [62]) = false := by rw [bs_toList, ht]; rfl
  have hq5 : ((bs (T s a1)).toList == [62, 61]) = false := by rw [bs_toList, ht]; rfl
  have hq6 : ((bs (T s a1)).toList == [105, 110]) = false := by rw [bs_toList, ht]; rfl
  have hq7 : ((bs (T s a1)).toList == [115, 117, 98]) = true := by rw [bs_toList, ht]; rfl
  have hcm := Lib.hid (show isCmp (T s a1) = true by rw [ht]; rfl)
  have HC2 := Lib.hid c2
  clear ht c2
  have X1 := Lib.hid (CX.start h.lt)
  have S1 := Lib.hid (h.alloc (.cells zero5 27))
  have E1 := Lib.hid (hE.alloc (.cells zero5 27))
  have HC := Lib.hid c1
  clear h hE c1
  go_enter Tryz.func149, Tryz.ntmps149
  go_upto_region 1 with fail
  generalize W.alloc (.cells zero5 27) = w1 at *
  go_wp2_with fail
  refine (HC.out _ S1.out E1.out).mono ?_
  rintro e w3 ⟨A, ca, rfl, hr, hf, hfr, hs3⟩
  have hB := (Below.refl w3.heap.size w3).alloc (Nat.le_refl _) (boxN t A ca)
  have N3 := Lib.hid (NB.start X1.out hr hf hfr)
  have X3 := Lib.hid ((X1.out.step hfr).step (Fr.of hB))
  have S3 := Lib.hid (hs3.later hB)
  have E3 := Lib.hid ((E1.out.fr hfr).later hB)
  have ha := hs3.le
  clear hr hf hfr hs3 hB S1 E1 X1 HC
  go_upto_region 2 with fail
  generalize w3.alloc (boxN t A ca) = w4 at *
  generalize w3.heap.size = lb at *
  have cp := peek_any p s a1 (some o) w4 S3.out hs E3.out.sig
  go_wp2_with fail
  refine cp.mono ?_
  rintro e w5 ⟨rfl, h5, f5⟩
  have hB := (Below.refl w5.heap.size w5).alloc (Nat.le_refl _) (.cells #[.int .i64 (kd s a1), .int .i64 a1, .string (bs (T s a1))] 41)
  have CM := Lib.hid (show CmpA p s a1 o W lb w5.heap.size t A ca (w5.alloc (.cells #[.int .i64 (kd s a1), .int .i64 a1, .string (bs (T s a1))] 41)) from
    ⟨(X3.out.step f5).step (Fr.of hB), (N3.out.step X3.out.px f5).step X3.out.px (Fr.of hB), ⟨(X3.out.step f5).lt, World.alloc_heap_new _ _⟩, (Rdy.sca h5 ha).later hB, (E3.out.fr f5).later hB⟩)
  clear hB cp h5 f5 N3 X3 S3 E3
  go_upto_region 3 with fail
  generalize w5.alloc (.cells #[.int .i64 (kd s a1), .int .i64 a1, .string (bs (T s a1))] 41) = w6 at *
  generalize w5.heap.size = tb at *
  obtain ⟨t0, t1, t2, _, _, _⟩ := boxT_facts CM.out.tok.box
  have ct := ptake_any p s a1 (some o) w6 CM.out.sc hs CM.out.env.sig
  go_wp2_with fail
  refine ct.mono ?_
  rintro e w7 ⟨rfl, h7, f7⟩
  have hpx := CM.out.cx.px
  have X7 := Lib.hid (CM.out.cx.step f7)
  have N7 := Lib.hid (CM.out.l.step hpx f7)
  have T7 := Lib.hid (CM.out.tok.step hpx f7)
  have E7 := Lib.hid (CM.out.env.fr f7)
  have c2 := HC2.out w7 h7 E7.out
  clear f7 h7 ct CM HC2 t0 t1 t2
  go_wp2_with fail
  refine c2.mono ?_
  cases r with
  | out => exact fun _ _ h => h.elim
  | err er wh =>
    rintro e w8 ⟨rfl, f8⟩
    have F8 := Lib.hid (X7.out.fr.trans f8)
    clear f8 c2
    go_wp2_with fail
    exact ⟨rfl, rfl, F8.out⟩
  | ok u a2 =>
    rintro e w8 ⟨B, cb, rfl, hr, hf, hfr, hs8⟩
    have hB := (Below.refl w8.heap.size w8).alloc (Nat.le_refl _) (boxN u B cb)
    have N9 := Lib.hid ((N7.out.step hpx hfr).step hpx (Fr.of hB))
    have T9 := Lib.hid ((T7.out.step hpx hfr).step hpx (Fr.of hB))
    have M9 := Lib.hid (NB.start X7.out hr hf hfr)
    have X9 := Lib.hid ((X7.out.step hfr).step (Fr.of hB))
    have S9 := Lib.hid (hs8.later hB)
    have E9 := Lib.hid ((E7.out.fr hfr).later hB)
    clear hr hf hfr hs8 hB c2 X7 N7 T7 E7
    go_upto_region 14 with fail
    · generalize w8.alloc (boxN u B cb) = w9 at *
      generalize w8.heap.size = rb at *
      obtain ⟨t0, t1, t2, _, _, _⟩ := boxT_facts T9.out.box
      obtain ⟨l0, l1, l2, l3, l4, _, _, _, _, _⟩ := box_facts N9.out.box
      obtain ⟨u0, u1, u2, u3, u4, _, _, _, _, _⟩ := box_facts M9.out.box
      have c3 := compared_any (T s a1) hcm.out (W.heap.size + 1) t u A B ca cb w9 N9.out.rob M9.out.rob N9.out.fine M9.out.fine (Nat.succ_le_of_lt X9.out.lt) E9.out.tabs
      go_wp2_with fail
      refine c3.mono ?_
      rintro e w10 ⟨D, cd, rfl, hr, hf, b10⟩
      have X10 := Lib.hid (X9.out.step (Fr.of b10))
      have S10 := Lib.hid (S9.out.later b10)
      have R10 := Lib.hid hr
      have F10 := Lib.hid hf
      clear hr hf b10 c3 X9 S9 E9 N9 M9 T9 t0 t1 t2 l0 l1 l2 l3 l4 u0 u1 u2 u3 u4
      obtain ⟨y0, y1, y2, y3, y4, g0, g1, g2, g3, g4⟩ := box_facts X10.out.box
      go_wp2_with fail
      exact pass_ret X10.out R10.out F10.out S10.out Tryz.results149 _ rfl rfl

theorem cmp_errP (p : Nat) (s : ByteArray) (a o : Nat) (er : Int) (wh : Nat) (W : World) (h : Sca W p s a (some o)) (hE : Env W p)
    (c1 : ∀ W', Sca W' p s a (some o) → Env W' p → Calls Tryz.prog 153 #[.pointer (some ⟨p, 0, none⟩)] W' (Ans p s o W' (.err er wh))) :
    Calls Tryz.prog 149 #[.pointer (some ⟨p, 0, none⟩)] W (Ans p s o W (.err er wh)) := by
  have X1 := Lib.hid (CX.start h.lt)
  have c := c1 _ (h.alloc (.cells zero5 27)) (hE.alloc (.cells zero5 27))
  clear h hE c1
  go_enter Tryz.func149, Tryz.ntmps149
  go_upto_region 1 with fail
  generalize W.alloc (.cells zero5 27) = w1 at *
  go_wp2_with fail
  refine c.mono ?_
  rintro e w3 ⟨rfl, f3⟩
  have F3 := Lib.hid (X1.out.fr.trans f3)
  clear f3 c
  go_wp2_with fail
  exact ⟨rfl, rfl, F3.out⟩
theorem cmp_stepP (s : ByteArray) (hs : s.size ≤ 9223372036854775000) (f : Nat) (hi : LiveP s f .sum 153) : LiveP s (f + 1) .cmp 149 := by
  intro p o a W h hE ho hf
  rw [PA]
  have ha := h.le
  have hf1 : 32 * (s.size - a) + rank .sum < f := by simp [rank] at hf ⊢; omega
  have hen := enough s f .sum o a ha hf1
  have c1 : ∀ W', Sca W' p s a (some o) → Env W' p → Calls Tryz.prog 153 #[.pointer (some ⟨p, 0, none⟩)] W' (Ans p s o W' (PA s f .sum o a)) := fun W' h' hE' => hi p o a W' h' hE' ho hf1
  cases hq : PA s f .sum o a with
  | out => rw [hq] at hen; exact hen.elim
  | err er wh => rw [hq] at c1; exact cmp_errP p s a o er wh W h hE c1
  | ok t a1 =>
    rw [hq] at hen c1
    obtain ⟨k1, k2, k3⟩ := hen
    have k2 := k2 rfl
    show Calls Tryz.prog 149 _ W (Ans p s o W (if isCmp (T s a1) = true then _ else _))
    by_cases hc : isCmp (T s a1) = true
    · rw [if_pos hc]
      have hT : T s a1 ≠ [] := fun e => by rw [e] at hc; exact absurd hc (by decide)
      obtain ⟨n1, n2⟩ := nxt_lt k3 rfl hT
      have c2 : ∀ W', Sca W' p s (nxt s a1) (some o) → Env W' p → Calls Tryz.prog 153 #[.pointer (some ⟨p, 0, none⟩)] W' (Ans p s o W' (PA s f .sum o (nxt s a1))) := fun W' h' hE' => hi p o _ W' h' hE' ho (by simp [rank] at hf ⊢; omega)
      have hh : T s a1 = [61] ∨ T s a1 = [33, 61] ∨ T s a1 = [60] ∨ T s a1 = [60, 61] ∨ T s a1 = [62] ∨ T s a1 = [62, 61] ∨ T s a1 = [105, 110] ∨ T s a1 = [115, 117, 98] := by simpa [isCmp] using hc
      rcases hh with e | e | e | e | e | e | e | e
      · exact cmp_yes_eq p s a a1 o t _ W h hE hs c1 e c2
      · exact cmp_yes_ne p s a a1 o t _ W h hE hs c1 e c2
      · exact cmp_yes_lt p s a a1 o t _ W h hE hs c1 e c2
      · exact cmp_yes_le p s a a1 o t _ W h hE hs c1 e c2
      · exact cmp_yes_gt p s a a1 o t _ W h hE hs c1 e c2
      · exact cmp_yes_ge p s a a1 o t _ W h hE hs c1 e c2
      · exact cmp_yes_in p s a a1 o t _ W h hE hs c1 e c2
      · exact cmp_yes_sub p s a a1 o t _ W h hE hs c1 e c2
    · rw [if_neg hc]
      exact cmp_noP p s a a1 o t W h hE hs c1 (by simpa using hc)
end Go.Proofs.YtgkjcimgghflmaaGreatDoor
