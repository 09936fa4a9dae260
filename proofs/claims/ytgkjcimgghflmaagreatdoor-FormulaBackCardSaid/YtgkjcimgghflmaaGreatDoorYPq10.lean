/-
  The phrase comparison of the program's parser answers as the grammar says, when those within do; conditions: the text is no longer than a string can be, and the program's tables hold what its text lays.
-/
import Derived.Test.YtgkjcimgghflmaaGreatDoorYPq8
namespace Go.Proofs.YtgkjcimgghflmaaGreatDoor
open Go.RowKit Go.Shelf
attribute [local go_sem] Oper.semAt_some
theorem Rob.past {n0 x : Nat} {W w : World} {A : Option Addr} {cap : Nat} {ks : List Nd} (h : Rob n0 W none A cap ks) (hb : Below W.heap.size W w) (hx : W.heap.size ≤ x) : Rob n0 w (some x) A cap ks :=
  fun W2 hW => h W2 fun k h1 h2 _ => (hW k h1 (Nat.lt_of_lt_of_le h2 hb.size) (by simp; omega)).trans (hb.block k h2)
theorem rob_oneR {n0 g : Nat} {row : Option Nat} {w : World} {t : Nd} {A : Option Addr} {cap : Nat} (hg : n0 ≤ g) (hgr : some g ≠ row) (h : w.heap[g]? = some (.cells #[.int .i64 t.op, .int .i64 t.so, .string t.nm, .int .i64 t.nu, .slice A t.ks.length cap] 27 (0, 0))) (hr : Rob n0 w row A cap t.ks) (hf : Fine t) :
    Rob n0 w row (some ⟨g, 0, none⟩) 1 [t] := fun W hW => by
  have hgW : W.heap[g]? = some _ := (hW g hg (Array.getElem?_eq_some_iff.1 h).1 hgr).trans h
  have c := fun (i : Nat) (v : Value) (hv : (#[Value.int .i64 t.op, .int .i64 t.so, .string t.nm, .int .i64 t.nu, .slice A t.ks.length cap] : Array Value)[i]? = some v) => cell_row hgW (i := i) hv
  refine .mk _ _ _ (by unfold maxLen; simp) g 0 (fun _ => A) (fun _ => cap) (fun _ => rfl) (fun i hi => ?_) (fun i hi => ?_) (fun i hi => ?_)
  all_goals
    obtain rfl : i = 0 := by simp at hi; omega
  · exact ⟨c 0 _ rfl, c 1 _ rfl, c 2 _ rfl, c 3 _ rfl, c 4 _ rfl⟩
  · exact hr W hW
  · exact hf
/-- The two nodes in their boxes and the result's block. -/
structure Bx (n0 : Nat) (W : World) (t u : Nd) (A B : Option Addr) (ca cb : Nat) (w : World) : Prop where
  below : Below W.heap.size W w
  l : w.heap[W.heap.size]? = some (.cells #[.int .i64 t.op, .int .i64 t.so, .string t.nm, .int .i64 t.nu, .slice A t.ks.length ca] 27 (0, 0))
  r : w.heap[W.heap.size + 1]? = some (.cells #[.int .i64 u.op, .int .i64 u.so, .string u.nm, .int .i64 u.nu, .slice B u.ks.length cb] 27 (0, 0))
  x : w.heap[W.heap.size + 1 + 1]? = some (.cells zero5 27 (0, 0))
  lr : Rob n0 w (some (W.heap.size + 1 + 1)) A ca t.ks
  rr : Rob n0 w (some (W.heap.size + 1 + 1)) B cb u.ks
  ft : Fine t
  fu : Fine u
  hn : n0 ≤ W.heap.size
theorem Bx.step {n0 : Nat} {W : World} {t u : Nd} {A B : Option Addr} {ca cb : Nat} {w w' : World} (h : Bx n0 W t u A B ca cb w) (hb : Below w.heap.size w w') : Bx n0 W t u A B ca cb w' :=
  have at' := fun (k : Nat) (o : Obj) (hk : w.heap[k]? = some o) => (show w'.heap[k]? = some o from (hb.block k (Array.getElem?_eq_some_iff.1 hk).1).trans hk)
  ⟨h.below.trans (hb.mono h.below.size), at' _ _ h.l, at' _ _ h.r, at' _ _ h.x, h.lr.laterR hb, h.rr.laterR hb, h.ft, h.fu, h.hn⟩
theorem Bx.drew {n0 : Nat} {W : World} {t u : Nd} {A B : Option Addr} {ca cb : Nat} {w : World} (h : Bx n0 W t u A B ca cb w) : Bx n0 W t u A B ca cb w.drew := h.step ⟨rfl, rfl, rfl, Nat.le_refl _, fun _ _ => rfl⟩
theorem Bx.lt {n0 : Nat} {W : World} {t u : Nd} {A B : Option Addr} {ca cb : Nat} {w : World} (h : Bx n0 W t u A B ca cb w) : W.heap.size + 1 + 1 < w.heap.size := (Array.getElem?_eq_some_iff.1 h.x).1
theorem Bx.start {n0 : Nat} {W : World} {t u : Nd} {A B : Option Addr} {ca cb : Nat} (hr : Rob n0 W none A ca t.ks) (hs : Rob n0 W none B cb u.ks) (hf : Fine t) (hf' : Fine u) (hn : n0 ≤ W.heap.size) :
    Bx n0 W t u A B ca cb (((W.alloc (boxN t A ca)).alloc (boxN u B cb)).alloc (.cells zero5 27)) := by
  have b1 := (Below.refl W.heap.size W).alloc (Nat.le_refl _) (boxN t A ca)
  have b2 := (Below.refl (W.alloc (boxN t A ca)).heap.size (W.alloc (boxN t A ca))).alloc (Nat.le_refl _) (boxN u B cb)
  have b3 := (Below.refl ((W.alloc (boxN t A ca)).alloc (boxN u B cb)).heap.size ((W.alloc (boxN t A ca)).alloc (boxN u B cb))).alloc (Nat.le_refl _) (.cells zero5 27)
  have s1 : (W.alloc (boxN t A ca)).heap.size = W.heap.size + 1 := by simp
  have s2 : ((W.alloc (boxN t A ca)).alloc (boxN u B cb)).heap.size = W.heap.size + 1 + 1 := by simp
  have B3 := (b1.trans (b2.mono (by omega))).trans (b3.mono (by omega))
  refine ⟨B3, (b3.block _ (by omega)).trans ((b2.block _ (by omega)).trans (World.alloc_heap_new W _)), ?_, ?_, hr.past B3 (by omega), hs.past B3 (by omega), hf, hf', hn⟩
  · have := World.alloc_heap_new (W.alloc (boxN t A ca)) (boxN u B cb)
    rw [s1] at this
    exact (b3.block _ (by omega)).trans this
  · have := World.alloc_heap_new ((W.alloc (boxN t A ca)).alloc (boxN u B cb)) (.cells zero5 27)
    rw [s2] at this
    exact this
/-- A node comes back, its lists in blocks from n0 on. -/
def NewQ (n0 : Nat) (W : World) (u : Nd) (e : Ending) (W' : World) : Prop := ∃ D cd, e = .returned (nv u.op u.so u.nm u.nu (.slice D u.ks.length cd)) ∧ Rob n0 W' none D cd u.ks ∧ Fine u ∧ Below W.heap.size W W'
theorem Bx.ret {n0 : Nat} {W : World} {t u : Nd} {A B : Option Addr} {ca cb : Nat} {w : World} (h : Bx n0 W t u A B ca cb w) {v : Nd} {D : Option Addr} {cd : Nat} (hr : Rob n0 w (some (W.heap.size + 1 + 1)) D cd v.ks) (hf : Fine v) (act : Act)
    (hq : act.tmps.getD 6 undef = .pointer (some ⟨W.heap.size + 1 + 1, 0, none⟩)) (hd : act.defers = []) :
    bodyPost Tryz.prog Tryz.f154 (NewQ n0 W v) .ret act (set5 w (W.heap.size + 1 + 1) (.int .i64 v.op) (.int .i64 v.so) (.string v.nm) (.int .i64 v.nu) (.slice D v.ks.length cd)) :=
  bodyPost_ret (res27 Tryz.results154 act.tmps _ (W.heap.size + 1 + 1) _ _ _ _ _ hq (set5_same _ _ _ _ _ h.x)) hd
    ⟨D, cd, rfl, (hr.setrow _ _ _ _ _).weak, hf, Below.set5 h.below (by omega) _ _ _ _ _⟩
theorem Bx.pair {n0 : Nat} {W : World} {t u : Nd} {A B : Option Addr} {ca cb : Nat} {w w' : World} (h : Bx n0 W t u A B ca cb w) (hb : Below (w.alloc (pairN t u A B ca cb)).heap.size (w.alloc (pairN t u A B ca cb)) w') :
    Bx n0 W t u A B ca cb w' ∧ Rob n0 w' (some (W.heap.size + 1 + 1)) (some ⟨w.heap.size, 0, none⟩) 2 [t, u] := by
  have hB := (Below.refl w.heap.size w).alloc (Nat.le_refl _) (pairN t u A B ca cb)
  have h1 := h.step hB
  have := h.lt
  have := h.hn
  exact ⟨h1.step hb, (rob_twoR (by omega) (by simp; omega) (World.alloc_heap_new w _) h1.lr h1.rr h.ft h.fu).laterR hb⟩
theorem Bx.pairR {n0 : Nat} {W : World} {t u : Nd} {A B : Option Addr} {ca cb : Nat} {w w' : World} (h : Bx n0 W t u A B ca cb w) (hb : Below (w.alloc (pairN u t B A cb ca)).heap.size (w.alloc (pairN u t B A cb ca)) w') :
    Bx n0 W t u A B ca cb w' ∧ Rob n0 w' (some (W.heap.size + 1 + 1)) (some ⟨w.heap.size, 0, none⟩) 2 [u, t] := by
  have hB := (Below.refl w.heap.size w).alloc (Nat.le_refl _) (pairN u t B A cb ca)
  have h1 := h.step hB
  have := h.lt
  have := h.hn
  exact ⟨h1.step hb, (rob_twoR (by omega) (by simp; omega) (World.alloc_heap_new w _) h1.rr h1.lr h.fu h.ft).laterR hb⟩
theorem Bx.pairB {n0 : Nat} {W : World} {t u : Nd} {A B : Option Addr} {ca cb g : Nat} {w w' : World} (h : Bx n0 W t u A B ca cb w) (hg : W.heap.size + 1 + 1 < g) (hk : w.heap[g]? = some (.cells #[.int .i64 t.op, .int .i64 t.so, .string t.nm, .int .i64 t.nu, .slice A t.ks.length ca, .int .i64 u.op, .int .i64 u.so, .string u.nm, .int .i64 u.nu, .slice B u.ks.length cb] 27 (0, 0))) (hb : Below w.heap.size w w') :
    Bx n0 W t u A B ca cb w' ∧ Rob n0 w' (some (W.heap.size + 1 + 1)) (some ⟨g, 0, none⟩) 2 [t, u] := by
  have := h.hn
  exact ⟨h.step hb, (rob_twoR (by omega) (by simp; omega) hk h.lr h.rr h.ft h.fu).laterR hb⟩
set_option maxRecDepth 100000 in
set_option maxHeartbeats 4000000 in
theorem compared_ne (n0 : Nat) (t u : Nd) (A B : Option Addr) (ca cb : Nat) (W : World) (hr : Rob n0 W none A ca t.ks) (hs : Rob n0 W none B cb u.ks) (hf : Fine t) (hf' : Fine u) (hn : n0 ≤ W.heap.size) :
    Calls Tryz.prog 154 #[.string (bs [33, 61]), nv t.op t.so t.nm t.nu (.slice A t.ks.length ca), nv u.op u.so u.nm u.nu (.slice B u.ks.length cb)] W (NewQ n0 W (oneN 32 (twoN 37 t u))) := by
  have B1 := Lib.hid (Bx.start hr hs hf hf' hn)
  have hq0 : ((bs [33, 61]).toList == [33, 61]) = true := by rw [bs_toList]; rfl
  skip
  obtain ⟨l0, l1, l2, l3, l4, _, _, _, _, _⟩ := box_facts B1.out.l
  obtain ⟨u0, u1, u2, u3, u4, _, _, _, _, _⟩ := box_facts B1.out.r
  obtain ⟨y0, y1, y2, y3, y4, g0, g1, g2, g3, g4⟩ := box_facts B1.out.x
  generalize bs [33, 61] = st at *
  clear hr hs hf hf' hn
  go_enter Tryz.func154, Tryz.ntmps154
  go_upto_region 1 with fail
  generalize ((W.alloc (boxN t A ca)).alloc (boxN u B cb)).alloc (.cells zero5 27) = w1 at *
  go_wp2_with fail
  refine (node_any _ _ (some ⟨w1.heap.size, 0, none⟩) 2 2 _ rfl).mono ?_
  rintro e w2 ⟨rfl, b2⟩
  obtain ⟨B2, R2⟩ := B1.out.pair b2
  have B2 := Lib.hid B2
  have R2 := Lib.hid R2
  clear b2 B1 l0 l1 l2 l3 l4 u0 u1 u2 u3 u4 y0 y1 y2 y3 y4 g0 g1 g2 g3 g4
  generalize w1.heap.size = g at *
  go_wp2_with fail
  refine (node_any _ _ (some ⟨w2.heap.size, 0, none⟩) 1 1 _ rfl).mono ?_
  rintro e w3 ⟨rfl, b3⟩
  have hB := (Below.refl w2.heap.size w2).alloc (Nat.le_refl _) (boxN (twoN 37 t u) (some ⟨g, 0, none⟩) 2)
  have B3 := Lib.hid ((B2.out.step hB).step b3)
  have R3 := Lib.hid ((rob_oneR (t := twoN 37 t u) (row := some (W.heap.size + 1 + 1)) (n0 := n0) (by have := B2.out.lt; have := B2.out.hn; omega) (by have := B2.out.lt; simp; omega) (World.alloc_heap_new w2 (boxN (twoN 37 t u) (some ⟨g, 0, none⟩) 2)) (R2.out.laterR hB) (fine_op (by decide))).laterR b3)
  clear b3 hB B2 R2
  generalize w2.heap.size = g2 at *
  obtain ⟨y0, y1, y2, y3, y4, g0, g1, g2, g3, g4⟩ := box_facts B3.out.x
  go_wp2_with fail
  exact B3.out.ret (v := oneN 32 (twoN 37 t u)) R3.out (fine_op (by decide)) _ rfl rfl
set_option maxRecDepth 100000 in
set_option maxHeartbeats 4000000 in
theorem compared_gt (n0 : Nat) (t u : Nd) (A B : Option Addr) (ca cb : Nat) (W : World) (hr : Rob n0 W none A ca t.ks) (hs : Rob n0 W none B cb u.ks) (hf : Fine t) (hf' : Fine u) (hn : n0 ≤ W.heap.size) :
    Calls Tryz.prog 154 #[.string (bs [62]), nv t.op t.so t.nm t.nu (.slice A t.ks.length ca), nv u.op u.so u.nm u.nu (.slice B u.ks.length cb)] W (NewQ n0 W (twoN 39 u t)) := by
  have B1 := Lib.hid (Bx.start hr hs hf hf' hn)
  have hq0 : ((bs [62]).toList == [33, 61]) = false := by rw [bs_toList]; rfl
  have hq1 : ((bs [62]).toList == [62]) = true := by rw [bs_toList]; rfl
  skip
  obtain ⟨l0, l1, l2, l3, l4, _, _, _, _, _⟩ := box_facts B1.out.l
  obtain ⟨u0, u1, u2, u3, u4, _, _, _, _, _⟩ := box_facts B1.out.r
  obtain ⟨y0, y1, y2, y3, y4, g0, g1, g2, g3, g4⟩ := box_facts B1.out.x
  generalize bs [62] = st at *
  clear hr hs hf hf' hn
  go_enter Tryz.func154, Tryz.ntmps154
  go_upto_region 1 with fail
  generalize ((W.alloc (boxN t A ca)).alloc (boxN u B cb)).alloc (.cells zero5 27) = w1 at *
  go_wp2_with fail
  refine (node_any _ _ (some ⟨w1.heap.size, 0, none⟩) 2 2 _ rfl).mono ?_
  rintro e w2 ⟨rfl, b2⟩
  obtain ⟨B2, R2⟩ := B1.out.pairR b2
  have B2 := Lib.hid B2
  have R2 := Lib.hid R2
  clear b2 B1 l0 l1 l2 l3 l4 u0 u1 u2 u3 u4 y0 y1 y2 y3 y4 g0 g1 g2 g3 g4
  generalize w1.heap.size = g at *
  obtain ⟨y0, y1, y2, y3, y4, g0, g1, g2, g3, g4⟩ := box_facts B2.out.x
  go_wp2_with fail
  exact B2.out.ret (v := twoN 39 u t) R2.out (fine_op (by decide)) _ rfl rfl
set_option maxRecDepth 100000 in
set_option maxHeartbeats 4000000 in
theorem compared_ge (n0 : Nat) (t u : Nd) (A B : Option Addr) (ca cb : Nat) (W : World) (hr : Rob n0 W none A ca t.ks) (hs : Rob n0 W none B cb u.ks) (hf : Fine t) (hf' : Fine u) (hn : n0 ≤ W.heap.size) :
    Calls Tryz.prog 154 #[.string (bs [62, 61]), nv t.op t.so t.nm t.nu (.slice A t.ks.length ca), nv u.op u.so u.nm u.nu (.slice B u.ks.length cb)] W (NewQ n0 W (twoN 38 u t)) := by
  have B1 := Lib.hid (Bx.start hr hs hf hf' hn)
  have hq0 : ((bs [62, 61]).toList == [33, 61]) = false := by rw [bs_toList]; rfl
  have hq1 : ((bs [62, 61]).toList == [62]) = false := by rw [bs_toList]; rfl
  have hq2 : ((bs [62, 61]).toList == [62, 61]) = true := by rw [bs_toList]; rfl
  skip
  obtain ⟨l0, l1, l2, l3, l4, _, _, _, _, _⟩ := box_facts B1.out.l
  obtain ⟨u0, u1, u2, u3, u4, _, _, _, _, _⟩ := box_facts B1.out.r
  obtain ⟨y0, y1, y2, y3, y4, g0, g1, g2, g3, g4⟩ := box_facts B1.out.x
  generalize bs [62, 61] = st at *
  clear hr hs hf hf' hn
  go_enter Tryz.func154, Tryz.ntmps154
  go_upto_region 1 with fail
  generalize ((W.alloc (boxN t A ca)).alloc (boxN u B cb)).alloc (.cells zero5 27) = w1 at *
  go_wp2_with fail
  refine (node_any _ _ (some ⟨w1.heap.size, 0, none⟩) 2 2 _ rfl).mono ?_
  rintro e w2 ⟨rfl, b2⟩
  obtain ⟨B2, R2⟩ := B1.out.pairR b2
  have B2 := Lib.hid B2
  have R2 := Lib.hid R2
  clear b2 B1 l0 l1 l2 l3 l4 u0 u1 u2 u3 u4 y0 y1 y2 y3 y4 g0 g1 g2 g3 g4
  generalize w1.heap.size = g at *
  obtain ⟨y0, y1, y2, y3, y4, g0, g1, g2, g3, g4⟩ := box_facts B2.out.x
  go_wp2_with fail
  exact B2.out.ret (v := twoN 38 u t) R2.out (fine_op (by decide)) _ rfl rfl
set_option maxRecDepth 100000 in
set_option maxHeartbeats 8000000 in
theorem compared_plain (sg : List UInt8) (n1 : sg ≠ [33, 61]) (n2 : sg ≠ [62]) (n3 : sg ≠ [62, 61]) (hop : (Lit.int .i64 (opT sg)).wf = true) (n0 : Nat) (t u : Nd) (A B : Option Addr) (ca cb : Nat) (W : World) (hr : Rob n0 W none A ca t.ks) (hs : Rob n0 W none B cb u.ks) (hf : Fine t) (hf' : Fine u) (hn : n0 ≤ W.heap.size) (hT : Tabs W) :
    Calls Tryz.prog 154 #[.string (bs sg), nv t.op t.so t.nm t.nu (.slice A t.ks.length ca), nv u.op u.so u.nm u.nu (.slice B u.ks.length cb)] W (NewQ n0 W (twoN (opT sg) t u)) := by
  have B1 := Lib.hid (Bx.start hr hs hf hf' hn)
  have hq0 : ((bs sg).toList == [33, 61]) = false := by rw [bs_toList]; simpa using n1
  have hq1 : ((bs sg).toList == [62]) = false := by rw [bs_toList]; simpa using n2
  have hq2 : ((bs sg).toList == [62, 61]) = false := by rw [bs_toList]; simpa using n3
  have HT := Lib.hid (hT.later B1.out.below)
  clear hr hs hf hf' hn hT n1 n2 n3
  go_enter Tryz.func154, Tryz.ntmps154
  go_upto_region 1 with fail
  generalize ((W.alloc (boxN t A ca)).alloc (boxN u B cb)).alloc (.cells zero5 27) = w1 at *
  have TD := Lib.hid (show Bx n0 W t u A B ca cb w1.drew ∧ Tabs w1.drew from ⟨B1.out.drew, HT.out.later ⟨rfl, rfl, rfl, Nat.le_refl _, fun _ _ => rfl⟩⟩)
  have hB := (Below.refl w1.heap.size w1).alloc (Nat.le_refl _) (pairN t u A B ca cb)
  have TK := Lib.hid (show Bx n0 W t u A B ca cb (w1.alloc (pairN t u A B ca cb)).drew ∧ Tabs (w1.alloc (pairN t u A B ca cb)).drew from ⟨(B1.out.step hB).drew, HT.out.later hB.drew⟩)
  have KK := Lib.hid (World.alloc_heap_new w1 (pairN t u A B ca cb))
  have HG := Lib.hid B1.out.lt
  obtain ⟨l0, l1, l2, l3, l4, _, _, _, _, _⟩ := box_facts B1.out.l
  obtain ⟨u0, u1, u2, u3, u4, _, _, _, _, _⟩ := box_facts B1.out.r
  clear hB B1 HT
  go_wp2_with fail
  go_region_with (first
    | (go_at_call 101; first
        | ((with_reducible refine (operator_any sg _ TD.out.2).mono ?_); rintro e w8 ⟨rfl, b8⟩; have T8 := Lib.hid (TD.out.1.step b8); have K8 := Lib.hid True.intro; obtain ⟨l0, l1, l2, l3, l4, _, _, _, _, _⟩ := box_facts T8.out.l; obtain ⟨u0, u1, u2, u3, u4, _, _, _, _, _⟩ := box_facts T8.out.r; clear b8)
        | ((with_reducible refine (operator_any sg _ TK.out.2).mono ?_); rintro e w8 ⟨rfl, b8⟩; have T8 := Lib.hid (TK.out.1.step b8); have K8 := Lib.hid ((b8.block _ (Array.getElem?_eq_some_iff.1 KK.out).1).trans KK.out); clear b8))
    | (go_at_call 100; ((with_reducible refine (node_any _ _ _ 2 2 _ rfl).mono ?_); rintro e w9 ⟨rfl, b9⟩; first
        | (have J9 := Lib.hid (T8.out.pair b9); obtain ⟨y0, y1, y2, y3, y4, g0, g1, g2, g3, g4⟩ := box_facts J9.out.1.x; clear b9)
        | (have J9 := Lib.hid (T8.out.pairB HG.out K8.out b9); obtain ⟨y0, y1, y2, y3, y4, g0, g1, g2, g3, g4⟩ := box_facts J9.out.1.x; clear b9))))
  all_goals
    go_wp2_with fail
    exact J9.out.1.ret (v := twoN (opT sg) t u) J9.out.2 (fine_op hop) _ rfl rfl
/-- compared, whatever the sign. -/
theorem compared_any (sg : List UInt8) (hsg : isCmp sg = true) (n0 : Nat) (t u : Nd) (A B : Option Addr) (ca cb : Nat) (W : World) (hr : Rob n0 W none A ca t.ks) (hs : Rob n0 W none B cb u.ks) (hf : Fine t) (hf' : Fine u) (hn : n0 ≤ W.heap.size) (hT : Tabs W) :
    Calls Tryz.prog 154 #[.string (bs sg), nv t.op t.so t.nm t.nu (.slice A t.ks.length ca), nv u.op u.so u.nm u.nu (.slice B u.ks.length cb)] W (NewQ n0 W (cmpN2 sg t u)) := by
  have h : sg = [61] ∨ sg = [33, 61] ∨ sg = [60] ∨ sg = [60, 61] ∨ sg = [62] ∨ sg = [62, 61] ∨ sg = [105, 110] ∨ sg = [115, 117, 98] := by simpa [isCmp] using hsg
  rcases h with rfl | rfl | rfl | rfl | rfl | rfl | rfl | rfl
  · exact compared_plain [61] (by decide) (by decide) (by decide) (by decide) n0 t u A B ca cb W hr hs hf hf' hn hT
  · exact compared_ne n0 t u A B ca cb W hr hs hf hf' hn
  · exact compared_plain [60] (by decide) (by decide) (by decide) (by decide) n0 t u A B ca cb W hr hs hf hf' hn hT
  · exact compared_plain [60, 61] (by decide) (by decide) (by decide) (by decide) n0 t u A B ca cb W hr hs hf hf' hn hT
  · exact compared_gt n0 t u A B ca cb W hr hs hf hf' hn
  · exact compared_ge n0 t u A B ca cb W hr hs hf hf' hn
  · exact compared_plain [105, 110] (by decide) (by decide) (by decide) (by decide) n0 t u A B ca cb W hr hs hf hf' hn hT
  · exact compared_plain [115, 117, 98] (by decide) (by decide) (by decide) (by decide) n0 t u A B ca cb W hr hs hf hf' hn hT
end Go.Proofs.YtgkjcimgghflmaaGreatDoor
namespace Go.Proofs.YtgkjcimgghflmaaGreatDoor
open Go.RowKit Go.Shelf
attribute [local go_sem] Oper.semAt_some
def noCmpP (t : List UInt8) : Prop := t ≠ [61] ∧ t ≠ [33, 61] ∧ t ≠ [60] ∧ t ≠ [60, 61] ∧ t ≠ [62] ∧ t ≠ [62, 61] ∧ t ≠ [105, 110] ∧ t ≠ [115, 117, 98]
/-- A token in its box. -/
structure TB (W : World) (b : Nat) (k na : Int) (t : ByteArray) (w : World) : Prop where
  gt : W.heap.size < b
  box : w.heap[b]? = some (.cells #[.int .i64 k, .int .i64 na, .string t] 41 (0, 0))
theorem TB.step {p : Nat} {W w w' : World} {b : Nat} {k na : Int} {t : ByteArray} (h : TB W b k na t w) (hp : p < W.heap.size) (hf : Fr p w w') : TB W b k na t w' := ⟨h.gt, hf.at h.box (by have := h.gt; omega)⟩
/-- The first operand and the token behind it. -/
structure CmpA (p : Nat) (s : ByteArray) (a o : Nat) (W : World) (lb tb : Nat) (t : Nd) (A : Option Addr) (ca : Nat) (w : World) : Prop where
  cx : CX p W w
  l : NB p W lb t A ca w
  tok : TB W tb (kd s a) a (bs (T s a)) w
  sc : Sca w p s a (some o)
  env : Env w p
set_option maxRecDepth 100000 in
set_option maxHeartbeats 8000000 in
theorem cmp_noP (p : Nat) (s : ByteArray) (a a1 o : Nat) (t : Nd) (W : World) (h : Sca W p s a (some o)) (hE : Env W p) (hs : s.size ≤ 9223372036854775000)
    (c1 : ∀ W', Sca W' p s a (some o) → Env W' p → Calls Tryz.prog 153 #[.pointer (some ⟨p, 0, none⟩)] W' (Ans p s o W' (.ok t a1))) (hno : isCmp (T s a1) = false) :
    Calls Tryz.prog 149 #[.pointer (some ⟨p, 0, none⟩)] W (Ans p s o W (.ok t a1)) := by
  have hn : noCmpP (T s a1) := by simpa [isCmp, noCmpP] using hno
  have hq0 : ((bs (T s a1)).toList == [61]) = false := by rw [bs_toList]; simpa using hn.1
  have hq1 : ((bs (T s a1)).toList == [33, 61]) = false := by rw [bs_toList]; simpa using hn.2.1
  have hq2 : ((bs (T s a1)).toList == [60]) = false := by rw [bs_toList]; simpa using hn.2.2.1
  have hq3 : ((bs (T s a1)).toList == [60, 61]) = false := by rw [bs_toList]; simpa using hn.2.2.2.1
  have hq4 : ((bs (T s a1)).toList == [62]) = false := by rw [bs_toList]; simpa using hn.2.2.2.2.1
  have hq5 : ((bs (T s a1)).toList == [62, 61]) = false := by rw [bs_toList]; simpa using hn.2.2.2.2.2.1
  have hq6 : ((bs (T s a1)).toList == [105, 110]) = false := by rw [bs_toList]; simpa using hn.2.2.2.2.2.2.1
  have hq7 : ((bs (T s a1)).toList == [115, 117, 98]) = false := by rw [bs_toList]; simpa using hn.2.2.2.2.2.2.2
  clear hn hno
  have X1 := Lib.hid (CX.start h.lt)
  have S1 := Lib.hid (h.alloc (.cells zero5 27))
  have E1 := Lib.hid (hE.alloc (.cells zero5 27))
  have HC := Lib.hid c1
  clear h hE c1
  go_enter Tryz.func149, Tryz.ntmps149
  go_upto_region 1 with fail
  generalize W.alloc (.cells zero5 27) = w1 at *
  go_wp2_with fail
  refine (HC.out _ S1.out E1.out).mono ?_
  rintro e w3 ⟨A, ca, rfl, hr, hf, hfr, hs3⟩
  have hB := (Below.refl w3.heap.size w3).alloc (Nat.le_refl _) (boxN t A ca)
  have N3 := Lib.hid (NB.start X1.out hr hf hfr)
  have X3 := Lib.hid ((X1.out.step hfr).step (Fr.of hB))
  have S3 := Lib.hid (hs3.later hB)
  have E3 := Lib.hid ((E1.out.fr hfr).later hB)
  have ha := hs3.le
  clear hr hf hfr hs3 hB S1 E1 X1 HC
  go_upto_region 2 with fail
  generalize w3.alloc (boxN t A ca) = w4 at *
  generalize w3.heap.size = lb at *
  have cp := peek_any p s a1 (some o) w4 S3.out hs E3.out.sig
  go_wp2_with fail
  refine cp.mono ?_
  rintro e w5 ⟨rfl, h5, f5⟩
  have hB := (Below.refl w5.heap.size w5).alloc (Nat.le_refl _) (.cells #[.int .i64 (kd s a1), .int .i64 a1, .string (bs (T s a1))] 41)
  have CM := Lib.hid (show CmpA p s a1 o W lb w5.heap.size t A ca (w5.alloc (.cells #[.int .i64 (kd s a1), .int .i64 a1, .string (bs (T s a1))] 41)) from
    ⟨(X3.out.step f5).step (Fr.of hB), (N3.out.step X3.out.px f5).step X3.out.px (Fr.of hB), ⟨(X3.out.step f5).lt, World.alloc_heap_new _ _⟩, (Rdy.sca h5 ha).later hB, (E3.out.fr f5).later hB⟩)
  clear hB cp h5 f5 N3 X3 S3 E3
  go_upto_region 3 with fail
  generalize w5.alloc (.cells #[.int .i64 (kd s a1), .int .i64 a1, .string (bs (T s a1))] 41) = w6 at *
  generalize w5.heap.size = tb at *
  obtain ⟨t0, t1, t2, _, _, _⟩ := boxT_facts CM.out.tok.box
  obtain ⟨z0, z1, z2, z3, z4, f0, f1, f2, f3, f4⟩ := box_facts CM.out.l.box
  obtain ⟨y0, y1, y2, y3, y4, g0, g1, g2, g3, g4⟩ := box_facts CM.out.cx.box
  go_wp2_with fail
  exact CM.out.l.ret CM.out.cx CM.out.sc Tryz.results149 _ rfl rfl
set_option maxRecDepth 100000 in
set_option maxHeartbeats 8000000 in
theorem cmp_yes_eq (p : Nat) (s : ByteArray) (a a1 o : Nat) (t : Nd) (r : PR) (W : World) (h : Sca W p s a (some o)) (hE : Env W p) (hs : s.size ≤ 9223372036854775000)
    (c1 : ∀ W', Sca W' p s a (some o) → Env W' p → Calls Tryz.prog 153 #[.pointer (some ⟨p, 0, none⟩)] W' (Ans p s o W' (.ok t a1))) (ht : T s a1 = [61])
    (c2 : ∀ W', Sca W' p s (nxt s a1) (some o) → Env W' p → Calls Tryz.prog 153 #[.pointer (some ⟨p, 0, none⟩)] W' (Ans p s o W' r)) :
    Calls Tryz.prog 149 #[.pointer (some ⟨p, 0, none⟩)] W (Ans p s o W (r.bind fun u a2 => .ok (cmpN2 (T s a1) t u) a2)) := by
  have hq0 : ((bs (T s a1)).toList == [61]) = true := by rw [bs_toList, ht]; rfl
  have hcm := Lib.hid (show isCmp (T s a1) = true by rw [ht]; rfl)
  have HC2 := Lib.hid c2
  clear ht c2
  have X1 := Lib.hid (CX.start h.lt)
  have S1 := Lib.hid (h.alloc (.cells zero5 27))
  have E1 := Lib.hid (hE.alloc (.cells zero5 27))
  have HC := Lib.hid c1
  clear h hE c1
  go_enter Tryz.func149, Tryz.ntmps149
  go_upto_region 1 with fail
  generalize W.alloc (.cells zero5 27) = w1 at *
  go_wp2_with fail
  refine (HC.out _ S1.out E1.out).mono ?_
  rintro e w3 ⟨A, ca, rfl, hr, hf, hfr, hs3⟩
  have hB := (Below.refl w3.heap.size w3).alloc (Nat.le_refl _) (boxN t A ca)
  have N3 := Lib.hid (NB.start X1.out hr hf hfr)
  have X3 := Lib.hid ((X1.out.step hfr).step (Fr.of hB))
  have S3 := Lib.hid (hs3.later hB)
  have E3 := Lib.hid ((E1.out.fr hfr).later hB)
  have ha := hs3.le
  clear hr hf hfr hs3 hB S1 E1 X1 HC
  go_upto_region 2 with fail
  generalize w3.alloc (boxN t A ca) = w4 at *
  generalize w3.heap.size = lb at *
  have cp := peek_any p s a1 (some o) w4 S3.out hs E3.out.sig
  go_wp2_with fail
  refine cp.mono ?_
  rintro e w5 ⟨rfl, h5, f5⟩
  have hB := (Below.refl w5.heap.size w5).alloc (Nat.le_refl _) (.cells #[.int .i64 (kd s a1), .int .i64 a1, .string (bs (T s a1))] 41)
  have CM := Lib.hid (show CmpA p s a1 o W lb w5.heap.size t A ca (w5.alloc (.cells #[.int .i64 (kd s a1), .int .i64 a1, .string (bs (T s a1))] 41)) from
    ⟨(X3.out.step f5).step (Fr.of hB), (N3.out.step X3.out.px f5).step X3.out.px (Fr.of hB), ⟨(X3.out.step f5).lt, World.alloc_heap_new _ _⟩, (Rdy.sca h5 ha).later hB, (E3.out.fr f5).later hB⟩)
  clear hB cp h5 f5 N3 X3 S3 E3
  go_upto_region 3 with fail
  generalize w5.alloc (.cells #[.int .i64 (kd s a1), .int .i64 a1, .string (bs (T s a1))] 41) = w6 at *
  generalize w5.heap.size = tb at *
  obtain ⟨t0, t1, t2, _, _, _⟩ := boxT_facts CM.out.tok.box
  have ct := ptake_any p s a1 (some o) w6 CM.out.sc hs CM.out.env.sig
  go_wp2_with fail
  refine ct.mono ?_
  rintro e w7 ⟨rfl, h7, f7⟩
  have hpx := CM.out.cx.px
  have X7 := Lib.hid (CM.out.cx.step f7)
  have N7 := Lib.hid (CM.out.l.step hpx f7)
  have T7 := Lib.hid (CM.out.tok.step hpx f7)
  have E7 := Lib.hid (CM.out.env.fr f7)
  have c2 := HC2.out w7 h7 E7.out
  clear f7 h7 ct CM HC2 t0 t1 t2
  go_wp2_with fail
  refine c2.mono ?_
  cases r with
  | out => exact fun _ _ h => h.elim
  | err er wh =>
    rintro e w8 ⟨rfl, f8⟩
    have F8 := Lib.hid (X7.out.fr.trans f8)
    clear f8 c2
    go_wp2_with fail
    exact ⟨rfl, rfl, F8.out⟩
  | ok u a2 =>
    rintro e w8 ⟨B, cb, rfl, hr, hf, hfr, hs8⟩
    have hB := (Below.refl w8.heap.size w8).alloc (Nat.le_refl _) (boxN u B cb)
    have N9 := Lib.hid ((N7.out.step hpx hfr).step hpx (Fr.of hB))
    have T9 := Lib.hid ((T7.out.step hpx hfr).step hpx (Fr.of hB))
    have M9 := Lib.hid (NB.start X7.out hr hf hfr)
    have X9 := Lib.hid ((X7.out.step hfr).step (Fr.of hB))
    have S9 := Lib.hid (hs8.later hB)
    have E9 := Lib.hid ((E7.out.fr hfr).later hB)
    clear hr hf hfr hs8 hB c2 X7 N7 T7 E7
    go_upto_region 14 with fail
    · generalize w8.alloc (boxN u B cb) = w9 at *
      generalize w8.heap.size = rb at *
      obtain ⟨t0, t1, t2, _, _, _⟩ := boxT_facts T9.out.box
      obtain ⟨l0, l1, l2, l3, l4, _, _, _, _, _⟩ := box_facts N9.out.box
      obtain ⟨u0, u1, u2, u3, u4, _, _, _, _, _⟩ := box_facts M9.out.box
      have c3 := compared_any (T s a1) hcm.out (W.heap.size + 1) t u A B ca cb w9 N9.out.rob M9.out.rob N9.out.fine M9.out.fine (Nat.succ_le_of_lt X9.out.lt) E9.out.tabs
      go_wp2_with fail
      refine c3.mono ?_
      rintro e w10 ⟨D, cd, rfl, hr, hf, b10⟩
      have X10 := Lib.hid (X9.out.step (Fr.of b10))
      have S10 := Lib.hid (S9.out.later b10)
      have R10 := Lib.hid hr
      have F10 := Lib.hid hf
      clear hr hf b10 c3 X9 S9 E9 N9 M9 T9 t0 t1 t2 l0 l1 l2 l3 l4 u0 u1 u2 u3 u4
      obtain ⟨y0, y1, y2, y3, y4, g0, g1, g2, g3, g4⟩ := box_facts X10.out.box
      go_wp2_with fail
      exact pass_ret X10.out R10.out F10.out S10.out Tryz.results149 _ rfl rfl
set_option maxRecDepth 100000 in
set_option maxHeartbeats 8000000 in
theorem cmp_yes_ne (p : Nat) (s : ByteArray) (a a1 o : Nat) (t : Nd) (r : PR) (W : World) (h : Sca W p s a (some o)) (hE : Env W p) (hs : s.size ≤ 9223372036854775000)
    (c1 : ∀ W', Sca W' p s a (some o) → Env W' p → Calls Tryz.prog 153 #[.pointer (some ⟨p, 0, none⟩)] W' (Ans p s o W' (.ok t a1))) (ht : T s a1 = [33, 61])
    (c2 : ∀ W', Sca W' p s (nxt s a1) (some o) → Env W' p → Calls Tryz.prog 153 #[.pointer (some ⟨p, 0, none⟩)] W' (Ans p s o W' r)) :
    Calls Tryz.prog 149 #[.pointer (some ⟨p, 0, none⟩)] W (Ans p s o W (r.bind fun u a2 => .ok (cmpN2 (T s a1) t u) a2)) := by
  have hq0 : ((bs (T s a1)).toList == [61]) = false := by rw [bs_toList, ht]; rfl
  have hq1 : ((bs (T s a1)).toList == [33, 61]) = true := by rw [bs_toList, ht]; rfl
  have hcm := Lib.hid (show isCmp (T s a1) = true by rw [ht]; rfl)
  have HC2 := Lib.hid c2
  clear ht c2
  have X1 := Lib.hid (CX.start h.lt)
  have S1 := Lib.hid (h.alloc (.cells zero5 27))
  have E1 := Lib.hid (hE.alloc (.cells zero5 27))
  have HC := Lib.hid c1
  clear h hE c1
  go_enter Tryz.func149, Tryz.ntmps149
  go_upto_region 1 with fail
  generalize W.alloc (.cells zero5 27) = w1 at *
  go_wp2_with fail
  refine (HC.out _ S1.out E1.out).mono ?_
  rintro e w3 ⟨A, ca, rfl, hr, hf, hfr, hs3⟩
  have hB := (Below.refl w3.heap.size w3).alloc (Nat.le_refl _) (boxN t A ca)
  have N3 := Lib.hid (NB.start X1.out hr hf hfr)
  have X3 := Lib.hid ((X1.out.step hfr).step (Fr.of hB))
  have S3 := Lib.hid (hs3.later hB)
  have E3 := Lib.hid ((E1.out.fr hfr).later hB)
  have ha := hs3.le
  clear hr hf hfr hs3 hB S1 E1 X1 HC
  go_upto_region 2 with fail
  generalize w3.alloc (boxN t A ca) = w4 at *
  generalize w3.heap.size = lb at *
  have cp := peek_any p s a1 (some o) w4 S3.out hs E3.out.sig
  go_wp2_with fail
  refine cp.mono ?_
  rintro e w5 ⟨rfl, h5, f5⟩
  have hB := (Below.refl w5.heap.size w5).alloc (Nat.le_refl _) (.cells #[.int .i64 (kd s a1), .int .i64 a1, .string (bs (T s a1))] 41)
  have CM := Lib.hid (show CmpA p s a1 o W lb w5.heap.size t A ca (w5.alloc (.cells #[.int .i64 (kd s a1), .int .i64 a1, .string (bs (T s a1))] 41)) from
    ⟨(X3.out.step f5).step (Fr.of hB), (N3.out.step X3.out.px f5).step X3.out.px (Fr.of hB), ⟨(X3.out.step f5).lt, World.alloc_heap_new _ _⟩, (Rdy.sca h5 ha).later hB, (E3.out.fr f5).later hB⟩)
  clear hB cp h5 f5 N3 X3 S3 E3
  go_upto_region 3 with fail
  generalize w5.alloc (.cells #[.int .i64 (kd s a1), .int .i64 a1, .string (bs (T s a1))] 41) = w6 at *
  generalize w5.heap.size = tb at *
  obtain ⟨t0, t1, t2, _, _, _⟩ := boxT_facts CM.out.tok.box
  have ct := ptake_any p s a1 (some o) w6 CM.out.sc hs CM.out.env.sig
  go_wp2_with fail
  refine ct.mono ?_
  rintro e w7 ⟨rfl, h7, f7⟩
  have hpx := CM.out.cx.px
  have X7 := Lib.hid (CM.out.cx.step f7)
  have N7 := Lib.hid (CM.out.l.step hpx f7)
  have T7 := Lib.hid (CM.out.tok.step hpx f7)
  have E7 := Lib.hid (CM.out.env.fr f7)
  have c2 := HC2.out w7 h7 E7.out
  clear f7 h7 ct CM HC2 t0 t1 t2
  go_wp2_with fail
  refine c2.mono ?_
  cases r with
  | out => exact fun _ _ h => h.elim
  | err er wh =>
    rintro e w8 ⟨rfl, f8⟩
    have F8 := Lib.hid (X7.out.fr.trans f8)
    clear f8 c2
    go_wp2_with fail
    exact ⟨rfl, rfl, F8.out⟩
  | ok u a2 =>
    rintro e w8 ⟨B, cb, rfl, hr, hf, hfr, hs8⟩
    have hB := (Below.refl w8.heap.size w8).alloc (Nat.le_refl _) (boxN u B cb)
    have N9 := Lib.hid ((N7.out.step hpx hfr).step hpx (Fr.of hB))
    have T9 := Lib.hid ((T7.out.step hpx hfr).step hpx (Fr.of hB))
    have M9 := Lib.hid (NB.start X7.out hr hf hfr)
    have X9 := Lib.hid ((X7.out.step hfr).step (Fr.of hB))
    have S9 := Lib.hid (hs8.later hB)
    have E9 := Lib.hid ((E7.out.fr hfr).later hB)
    clear hr hf hfr hs8 hB c2 X7 N7 T7 E7
    go_upto_region 14 with fail
    · generalize w8.alloc (boxN u B cb) = w9 at *
      generalize w8.heap.size = rb at *
      obtain ⟨t0, t1, t2, _, _, _⟩ := boxT_facts T9.out.box
      obtain ⟨l0, l1, l2, l3, l4, _, _, _, _, _⟩ := box_facts N9.out.box
      obtain ⟨u0, u1, u2, u3, u4, _, _, _, _, _⟩ := box_facts M9.out.box
      have c3 := compared_any (T s a1) hcm.out (W.heap.size + 1) t u A B ca cb w9 N9.out.rob M9.out.rob N9.out.fine M9.out.fine (Nat.succ_le_of_lt X9.out.lt) E9.out.tabs
      go_wp2_with fail
      refine c3.mono ?_
      rintro e w10 ⟨D, cd, rfl, hr, hf, b10⟩
      have X10 := Lib.hid (X9.out.step (Fr.of b10))
      have S10 := Lib.hid (S9.out.later b10)
      have R10 := Lib.hid hr
      have F10 := Lib.hid hf
      clear hr hf b10 c3 X9 S9 E9 N9 M9 T9 t0 t1 t2 l0 l1 l2 l3 l4 u0 u1 u2 u3 u4
      obtain ⟨y0, y1, y2, y3, y4, g0, g1, g2, g3, g4⟩ := box_facts X10.out.box
      go_wp2_with fail
      exact pass_ret X10.out R10.out F10.out S10.out Tryz.results149 _ rfl rfl
set_option maxRecDepth 100000 in
set_option maxHeartbeats 8000000 in
theorem cmp_yes_lt (p : Nat) (s : ByteArray) (a a1 o : Nat) (t : Nd) (r : PR) (W : World) (h : Sca W p s a (some o)) (hE : Env W p) (hs : s.size ≤ 9223372036854775000)
    (c1 : ∀ W', Sca W' p s a (some o) → Env W' p → Calls Tryz.prog 153 #[.pointer (some ⟨p, 0, none⟩)] W' (Ans p s o W' (.ok t a1))) (ht : T s a1 = [60])
    (c2 : ∀ W', Sca W' p s (nxt s a1) (some o) → Env W' p → Calls Tryz.prog 153 #[.pointer (some ⟨p, 0, none⟩)] W' (Ans p s o W' r)) :
    Calls Tryz.prog 149 #[.pointer (some ⟨p, 0, none⟩)] W (Ans p s o W (r.bind fun u a2 => .ok (cmpN2 (T s a1) t u) a2)) := by
  have hq0 : ((bs (T s a1)).toList == [61]) = false := by rw [bs_toList, ht]; rfl
  have hq1 : ((bs (T s a1)).toList == [33, 61]) = false := by rw [bs_toList, ht]; rfl
  have hq2 : ((bs (T s a1)).toList == [60]) = true := by rw [bs_toList, ht]; rfl
  have hcm := Lib.hid (show isCmp (T s a1) = true by rw [ht]; rfl)
  have HC2 := Lib.hid c2
  clear ht c2
  have X1 := Lib.hid (CX.start h.lt)
  have S1 := Lib.hid (h.alloc (.cells zero5 27))
  have E1 := Lib.hid (hE.alloc (.cells zero5 27))
  have HC := Lib.hid c1
  clear h hE c1
  go_enter Tryz.func149, Tryz.ntmps149
  go_upto_region 1 with fail
  generalize W.alloc (.cells zero5 27) = w1 at *
  go_wp2_with fail
  refine (HC.out _ S1.out E1.out).mono ?_
  rintro e w3 ⟨A, ca, rfl, hr, hf, hfr, hs3⟩
  have hB := (Below.refl w3.heap.size w3).alloc (Nat.le_refl _) (boxN t A ca)
  have N3 := Lib.hid (NB.start X1.out hr hf hfr)
  have X3 := Lib.hid ((X1.out.step hfr).step (Fr.of hB))
  have S3 := Lib.hid (hs3.later hB)
  have E3 := Lib.hid ((E1.out.fr hfr).later hB)
  have ha := hs3.le
  clear hr hf hfr hs3 hB S1 E1 X1 HC
  go_upto_region 2 with fail
  generalize w3.alloc (boxN t A ca) = w4 at *
  generalize w3.heap.size = lb at *
  have cp := peek_any p s a1 (some o) w4 S3.out hs E3.out.sig
  go_wp2_with fail
  refine cp.mono ?_
  rintro e w5 ⟨rfl, h5, f5⟩
  have hB := (Below.refl w5.heap.size w5).alloc (Nat.le_refl _) (.cells #[.int .i64 (kd s a1), .int .i64 a1, .string (bs (T s a1))] 41)
  have CM := Lib.hid (show CmpA p s a1 o W lb w5.heap.size t A ca (w5.alloc (.cells #[.int .i64 (kd s a1), .int .i64 a1, .string (bs (T s a1))] 41)) from
    ⟨(X3.out.step f5).step (Fr.of hB), (N3.out.step X3.out.px f5).step X3.out.px (Fr.of hB), ⟨(X3.out.step f5).lt, World.alloc_heap_new _ _⟩, (Rdy.sca h5 ha).later hB, (E3.out.fr f5).later hB⟩)
  clear hB cp h5 f5 N3 X3 S3 E3
  go_upto_region 3 with fail
  generalize w5.alloc (.cells #[.int .i64 (kd s a1), .int .i64 a1, .string (bs (T s a1))] 41) = w6 at *
  generalize w5.heap.size = tb at *
  obtain ⟨t0, t1, t2, _, _, _⟩ := boxT_facts CM.out.tok.box
  have ct := ptake_any p s a1 (some o) w6 CM.out.sc hs CM.out.env.sig
  go_wp2_with fail
  refine ct.mono ?_
  rintro e w7 ⟨rfl, h7, f7⟩
  have hpx := CM.out.cx.px
  have X7 := Lib.hid (CM.out.cx.step f7)
  have N7 := Lib.hid (CM.out.l.step hpx f7)
  have T7 := Lib.hid (CM.out.tok.step hpx f7)
  have E7 := Lib.hid (CM.out.env.fr f7)
  have c2 := HC2.out w7 h7 E7.out
  clear f7 h7 ct CM HC2 t0 t1 t2
  go_wp2_with fail
  refine c2.mono ?_
  cases r with
  | out => exact fun _ _ h => h.elim
  | err er wh =>
    rintro e w8 ⟨rfl, f8⟩
    have F8 := Lib.hid (X7.out.fr.trans f8)
    clear f8 c2
    go_wp2_with fail
    exact ⟨rfl, rfl, F8.out⟩
  | ok u a2 =>
    rintro e w8 ⟨B, cb, rfl, hr, hf, hfr, hs8⟩
    have hB := (Below.refl w8.heap.size w8).alloc (Nat.le_refl _) (boxN u B cb)
    have N9 := Lib.hid ((N7.out.step hpx hfr).step hpx (Fr.of hB))
    have T9 := Lib.hid ((T7.out.step hpx hfr).step hpx (Fr.of hB))
    have M9 := Lib.hid (NB.start X7.out hr hf hfr)
    have X9 := Lib.hid ((X7.out.step hfr).step (Fr.of hB))
    have S9 := Lib.hid (hs8.later hB)
    have E9 := Lib.hid ((E7.out.fr hfr).later hB)
    clear hr hf hfr hs8 hB c2 X7 N7 T7 E7
    go_upto_region 14 with fail
    · generalize w8.alloc (boxN u B cb) = w9 at *
      generalize w8.heap.size = rb at *
      obtain ⟨t0, t1, t2, _, _, _⟩ := boxT_facts T9.out.box
      obtain ⟨l0, l1, l2, l3, l4, _, _, _, _, _⟩ := box_facts N9.out.box
      obtain ⟨u0, u1, u2, u3, u4, _, _, _, _, _⟩ := box_facts M9.out.box
      have c3 := compared_any (T s a1) hcm.out (W.heap.size + 1) t u A B ca cb w9 N9.out.rob M9.out.rob N9.out.fine M9.out.fine (Nat.succ_le_of_lt X9.out.lt) E9.out.tabs
      go_wp2_with fail
      refine c3.mono ?_
      rintro e w10 ⟨D, cd, rfl, hr, hf, b10⟩
      have X10 := Lib.hid (X9.out.step (Fr.of b10))
      have S10 := Lib.hid (S9.out.later b10)
      have R10 := Lib.hid hr
      have F10 := Lib.hid hf
      clear hr hf b10 c3 X9 S9 E9 N9 M9 T9 t0 t1 t2 l0 l1 l2 l3 l4 u0 u1 u2 u3 u4
      obtain ⟨y0, y1, y2, y3, y4, g0, g1, g2, g3, g4⟩ := box_facts X10.out.box
      go_wp2_with fail
      exact pass_ret X10.out R10.out F10.out S10.out Tryz.results149 _ rfl rfl
set_option maxRecDepth 100000 in
set_option maxHeartbeats 8000000 in
theorem cmp_yes_le (p : Nat) (s : ByteArray) (a a1 o : Nat) (t : Nd) (r : PR) (W : World) (h : Sca W p s a (some o)) (hE : Env W p) (hs : s.size ≤ 9223372036854775000)
    (c1 : ∀ W', Sca W' p s a (some o) → Env W' p → Calls Tryz.prog 153 #[.pointer (some ⟨p, 0, none⟩)] W' (Ans p s o W' (.ok t a1))) (ht : T s a1 = [60, 61])
    (c2 : ∀ W', Sca W' p s (nxt s a1) (some o) → Env W' p → Calls Tryz.prog 153 #[.pointer (some ⟨p, 0, none⟩)] W' (Ans p s o W' r)) :
    Calls Tryz.prog 149 #[.pointer (some ⟨p, 0, none⟩)] W (Ans p s o W (r.bind fun u a2 => .ok (cmpN2 (T s a1) t u) a2)) := by
  have hq0 : ((bs (T s a1)).toList == [61]) = false := by rw [bs_toList, ht]; rfl
  have hq1 : ((bs (T s a1)).toList == [33, 61]) = false := by rw [bs_toList, ht]; rfl
  have hq2 : ((bs (T s a1)).toList == [60]) = false := by rw [bs_toList, ht]; rfl
  have hq3 : ((bs (T s a1)).toList == [60, 61]) = true := by rw [bs_toList, ht]; rfl
  have hcm := Lib.hid (show isCmp (T s a1) = true by rw [ht]; rfl)
  have HC2 := Lib.hid c2
  clear ht c2
  have X1 := Lib.hid (CX.start h.lt)
  have S1 := Lib.hid (h.alloc (.cells zero5 27))
  have E1 := Lib.hid (hE.alloc (.cells zero5 27))
  have HC := Lib.hid c1
  clear h hE c1
  go_enter Tryz.func149, Tryz.ntmps149
  go_upto_region 1 with fail
  generalize W.alloc (.cells zero5 27) = w1 at *
  go_wp2_with fail
  refine (HC.out _ S1.out E1.out).mono ?_
  rintro e w3 ⟨A, ca, rfl, hr, hf, hfr, hs3⟩
  have hB := (Below.refl w3.heap.size w3).alloc (Nat.le_refl _) (boxN t A ca)
  have N3 := Lib.hid (NB.start X1.out hr hf hfr)
  have X3 := Lib.hid ((X1.out.step hfr).step (Fr.of hB))
  have S3 := Lib.hid (hs3.later hB)
  have E3 := Lib.hid ((E1.out.fr hfr).later hB)
  have ha := hs3.le
  clear hr hf hfr hs3 hB S1 E1 X1 HC
  go_upto_region 2 with fail
  generalize w3.alloc (boxN t A ca) = w4 at *
  generalize w3.heap.size = lb at *
  have cp := peek_any p s a1 (some o) w4 S3.out hs E3.out.sig
  go_wp2_with fail
  refine cp.mono ?_
  rintro e w5 ⟨rfl, h5, f5⟩
  have hB := (Below.refl w5.heap.size w5).alloc (Nat.le_refl _) (.cells #[.int .i64 (kd s a1), .int .i64 a1, .string (bs (T s a1))] 41)
  have CM := Lib.hid (show CmpA p s a1 o W lb w5.heap.size t A ca (w5.alloc (.cells #[.int .i64 (kd s a1), .int .i64 a1, .string (bs (T s a1))] 41)) from
    ⟨(X3.out.step f5).step (Fr.of hB), (N3.out.step X3.out.px f5).step X3.out.px (Fr.of hB), ⟨(X3.out.step f5).lt, World.alloc_heap_new _ _⟩, (Rdy.sca h5 ha).later hB, (E3.out.fr f5).later hB⟩)
  clear hB cp h5 f5 N3 X3 S3 E3
  go_upto_region 3 with fail
  generalize w5.alloc (.cells #[.int .i64 (kd s a1), .int .i64 a1, .string (bs (T s a1))] 41) = w6 at *
  generalize w5.heap.size = tb at *
  obtain ⟨t0, t1, t2, _, _, _⟩ := boxT_facts CM.out.tok.box
  have ct := ptake_any p s a1 (some o) w6 CM.out.sc hs CM.out.env.sig
  go_wp2_with fail
  refine ct.mono ?_
  rintro e w7 ⟨rfl, h7, f7⟩
  have hpx := CM.out.cx.px
  have X7 := Lib.hid (CM.out.cx.step f7)
  have N7 := Lib.hid (CM.out.l.step hpx f7)
  have T7 := Lib.hid (CM.out.tok.step hpx f7)
  have E7 := Lib.hid (CM.out.env.fr f7)
  have c2 := HC2.out w7 h7 E7.out
  clear f7 h7 ct CM HC2 t0 t1 t2
  go_wp2_with fail
  refine c2.mono ?_
  cases r with
  | out => exact fun _ _ h => h.elim
  | err er wh =>
    rintro e w8 ⟨rfl, f8⟩
    have F8 := Lib.hid (X7.out.fr.trans f8)
    clear f8 c2
    go_wp2_with fail
    exact ⟨rfl, rfl, F8.out⟩
  | ok u a2 =>
    rintro e w8 ⟨B, cb, rfl, hr, hf, hfr, hs8⟩
    have hB := (Below.refl w8.heap.size w8).alloc (Nat.le_refl _) (boxN u B cb)
    have N9 := Lib.hid ((N7.out.step hpx hfr).step hpx (Fr.of hB))
    have T9 := Lib.hid ((T7.out.step hpx hfr).step hpx (Fr.of hB))
    have M9 := Lib.hid (NB.start X7.out hr hf hfr)
    have X9 := Lib.hid ((X7.out.step hfr).step (Fr.of hB))
    have S9 := Lib.hid (hs8.later hB)
    have E9 := Lib.hid ((E7.out.fr hfr).later hB)
    clear hr hf hfr hs8 hB c2 X7 N7 T7 E7
    go_upto_region 14 with fail
    · generalize w8.alloc (boxN u B cb) = w9 at *
      generalize w8.heap.size = rb at *
      obtain ⟨t0, t1, t2, _, _, _⟩ := boxT_facts T9.out.box
      obtain ⟨l0, l1, l2, l3, l4, _, _, _, _, _⟩ := box_facts N9.out.box
      obtain ⟨u0, u1, u2, u3, u4, _, _, _, _, _⟩ := box_facts M9.out.box
      have c3 := compared_any (T s a1) hcm.out (W.heap.size + 1) t u A B ca cb w9 N9.out.rob M9.out.rob N9.out.fine M9.out.fine (Nat.succ_le_of_lt X9.out.lt) E9.out.tabs
      go_wp2_with fail
      refine c3.mono ?_
      rintro e w10 ⟨D, cd, rfl, hr, hf, b10⟩
      have X10 := Lib.hid (X9.out.step (Fr.of b10))
      have S10 := Lib.hid (S9.out.later b10)
      have R10 := Lib.hid hr
      have F10 := Lib.hid hf
      clear hr hf b10 c3 X9 S9 E9 N9 M9 T9 t0 t1 t2 l0 l1 l2 l3 l4 u0 u1 u2 u3 u4
      obtain ⟨y0, y1, y2, y3, y4, g0, g1, g2, g3, g4⟩ := box_facts X10.out.box
      go_wp2_with fail
      exact pass_ret X10.out R10.out F10.out S10.out Tryz.results149 _ rfl rfl
set_option maxRecDepth 100000 in
set_option maxHeartbeats 8000000 in
theorem cmp_yes_gt (p : Nat) (s : ByteArray) (a a1 o : Nat) (t : Nd) (r : PR) (W : World) (h : Sca W p s a (some o)) (hE : Env W p) (hs : s.size ≤ 9223372036854775000)
    (c1 : ∀ W', Sca W' p s a (some o) → Env W' p → Calls Tryz.prog 153 #[.pointer (some ⟨p, 0, none⟩)] W' (Ans p s o W' (.ok t a1))) (ht : T s a1 = [62])
    (c2 : ∀ W', Sca W' p s (nxt s a1) (some o) → Env W' p → Calls Tryz.prog 153 #[.pointer (some ⟨p, 0, none⟩)] W' (Ans p s o W' r)) :
    Calls Tryz.prog 149 #[.pointer (some ⟨p, 0, none⟩)] W (Ans p s o W (r.bind fun u a2 => .ok (cmpN2 (T s a1) t u) a2)) := by
  have hq0 : ((bs (T s a1)).toList == [61]) = false := by rw [bs_toList, ht]; rfl
  have hq1 : ((bs (T s a1)).toList == [33, 61]) = false := by rw [bs_toList, ht]; rfl
  have hq2 : ((bs (T s a1)).toList == [60]) = false := by rw [bs_toList, ht]; rfl
  have hq3 : ((bs (T s a1)).toList == [60, 61]) = false := by rw [bs_toList, ht]; rfl
  have hq4 : ((bs (T s a1)).toList == [62]) = true := by rw [bs_toList, ht]; rfl
  have hcm := Lib.hid (show isCmp (T s a1) = true by rw [ht]; rfl)
  have HC2 := Lib.hid c2
  clear ht c2
  have X1 := Lib.hid (CX.start h.lt)
  have S1 := Lib.hid (h.alloc (.cells zero5 27))
  have E1 := Lib.hid (hE.alloc (.cells zero5 27))
  have HC := Lib.hid c1
  clear h hE c1
  go_enter Tryz.func149, Tryz.ntmps149
  go_upto_region 1 with fail
  generalize W.alloc (.cells zero5 27) = w1 at *
  go_wp2_with fail
  refine (HC.out _ S1.out E1.out).mono ?_
  rintro e w3 ⟨A, ca, rfl, hr, hf, hfr, hs3⟩
  have hB := (Below.refl w3.heap.size w3).alloc (Nat.le_refl _) (boxN t A ca)
  have N3 := Lib.hid (NB.start X1.out hr hf hfr)
  have X3 := Lib.hid ((X1.out.step hfr).step (Fr.of hB))
  have S3 := Lib.hid (hs3.later hB)
  have E3 := Lib.hid ((E1.out.fr hfr).later hB)
  have ha := hs3.le
  clear hr hf hfr hs3 hB S1 E1 X1 HC
  go_upto_region 2 with fail
  generalize w3.alloc (boxN t A ca) = w4 at *
  generalize w3.heap.size = lb at *
  have cp := peek_any p s a1 (some o) w4 S3.out hs E3.out.sig
  go_wp2_with fail
  refine cp.mono ?_
  rintro e w5 ⟨rfl, h5, f5⟩
  have hB := (Below.refl w5.heap.size w5).alloc (Nat.le_refl _) (.cells #[.int .i64 (kd s a1), .int .i64 a1, .string (bs (T s a1))] 41)
  have CM := Lib.hid (show CmpA p s a1 o W lb w5.heap.size t A ca (w5.alloc (.cells #[.int .i64 (kd s a1), .int .i64 a1, .string (bs (T s a1))] 41)) from
    ⟨(X3.out.step f5).step (Fr.of hB), (N3.out.step X3.out.px f5).step X3.out.px (Fr.of hB), ⟨(X3.out.step f5).lt, World.alloc_heap_new _ _⟩, (Rdy.sca h5 ha).later hB, (E3.out.fr f5).later hB⟩)
  clear hB cp h5 f5 N3 X3 S3 E3
  go_upto_region 3 with fail
  generalize w5.alloc (.cells #[.int .i64 (kd s a1), .int .i64 a1, .string (bs (T s a1))] 41) = w6 at *
  generalize w5.heap.size = tb at *
  obtain ⟨t0, t1, t2, _, _, _⟩ := boxT_facts CM.out.tok.box
  have ct := ptake_any p s a1 (some o) w6 CM.out.sc hs CM.out.env.sig
  go_wp2_with fail
  refine ct.mono ?_
  rintro e w7 ⟨rfl, h7, f7⟩
  have hpx := CM.out.cx.px
  have X7 := Lib.hid (CM.out.cx.step f7)
  have N7 := Lib.hid (CM.out.l.step hpx f7)
  have T7 := Lib.hid (CM.out.tok.step hpx f7)
  have E7 := Lib.hid (CM.out.env.fr f7)
  have c2 := HC2.out w7 h7 E7.out
  clear f7 h7 ct CM HC2 t0 t1 t2
  go_wp2_with fail
  refine c2.mono ?_
  cases r with
  | out => exact fun _ _ h => h.elim
  | err er wh =>
    rintro e w8 ⟨rfl, f8⟩
    have F8 := Lib.hid (X7.out.fr.trans f8)
    clear f8 c2
    go_wp2_with fail
    exact ⟨rfl, rfl, F8.out⟩
  | ok u a2 =>
    rintro e w8 ⟨B, cb, rfl, hr, hf, hfr, hs8⟩
    have hB := (Below.refl w8.heap.size w8).alloc (Nat.le_refl _) (boxN u B cb)
    have N9 := Lib.hid ((N7.out.step hpx hfr).step hpx (Fr.of hB))
    have T9 := Lib.hid ((T7.out.step hpx hfr).step hpx (Fr.of hB))
    have M9 := Lib.hid (NB.start X7.out hr hf hfr)
    have X9 := Lib.hid ((X7.out.step hfr).step (Fr.of hB))
    have S9 := Lib.hid (hs8.later hB)
    have E9 := Lib.hid ((E7.out.fr hfr).later hB)
    clear hr hf hfr hs8 hB c2 X7 N7 T7 E7
    go_upto_region 14 with fail
    · generalize w8.alloc (boxN u B cb) = w9 at *
      generalize w8.heap.size = rb at *
      obtain ⟨t0, t1, t2, _, _, _⟩ := boxT_facts T9.out.box
      obtain ⟨l0, l1, l2, l3, l4, _, _, _, _, _⟩ := box_facts N9.out.box
      obtain ⟨u0, u1, u2, u3, u4, _, _, _, _, _⟩ := box_facts M9.out.box
      have c3 := compared_any (T s a1) hcm.out (W.heap.size + 1) t u A B ca cb w9 N9.out.rob M9.out.rob N9.out.fine M9.out.fine (Nat.succ_le_of_lt X9.out.lt) E9.out.tabs
      go_wp2_with fail
      refine c3.mono ?_
      rintro e w10 ⟨D, cd, rfl, hr, hf, b10⟩
      have X10 := Lib.hid (X9.out.step (Fr.of b10))
      have S10 := Lib.hid (S9.out.later b10)
      have R10 := Lib.hid hr
      have F10 := Lib.hid hf
      clear hr hf b10 c3 X9 S9 E9 N9 M9 T9 t0 t1 t2 l0 l1 l2 l3 l4 u0 u1 u2 u3 u4
      obtain ⟨y0, y1, y2, y3, y4, g0, g1, g2, g3, g4⟩ := box_facts X10.out.box
      go_wp2_with fail
      exact pass_ret X10.out R10.out F10.out S10.out Tryz.results149 _ rfl rfl
set_option maxRecDepth 100000 in
set_option maxHeartbeats 8000000 in
theorem cmp_yes_ge (p : Nat) (s : ByteArray) (a a1 o : Nat) (t : Nd) (r : PR) (W : World) (h : Sca W p s a (some o)) (hE : Env W p) (hs : s.size ≤ 9223372036854775000)
    (c1 : ∀ W', Sca W' p s a (some o) → Env W' p → Calls Tryz.prog 153 #[.pointer (some ⟨p, 0, none⟩)] W' (Ans p s o W' (.ok t a1))) (ht : T s a1 = [62, 61])
    (c2 : ∀ W', Sca W' p s (nxt s a1) (some o) → Env W' p → Calls Tryz.prog 153 #[.pointer (some ⟨p, 0, none⟩)] W' (Ans p s o W' r)) :
    Calls Tryz.prog 149 #[.pointer (some ⟨p, 0, none⟩)] W (Ans p s o W (r.bind fun u a2 => .ok (cmpN2 (T s a1) t u) a2)) := by
  have hq0 : ((bs (T s a1)).toList == [61]) = false := by rw [bs_toList, ht]; rfl
  have hq1 : ((bs (T s a1)).toList == [33, 61]) = false := by rw [bs_toList, ht]; rfl
  have hq2 : ((bs (T s a1)).toList == [60]) = false := by rw [bs_toList, ht]; rfl
  have hq3 : ((bs (T s a1)).toList == [60, 61]) = false := by rw [bs_toList, ht]; rfl
  have hq4 : ((bs (T s a1)).toList == [62]) = false := by rw [bs_toList, ht]; rfl
  have hq5 : ((bs (T s a1)).toList == [62, 61]) = true := by rw [bs_toList, ht]; rfl
  have hcm := Lib.hid (show isCmp (T s a1) = true by rw [ht]; rfl)
  have HC2 := Lib.hid c2
  clear ht c2
  have X1 := Lib.hid (CX.start h.lt)
  have S1 := Lib.hid (h.alloc (.cells zero5 27))
  have E1 := Lib.hid (hE.alloc (.cells zero5 27))
  have HC := Lib.hid c1
  clear h hE c1
  go_enter Tryz.func149, Tryz.ntmps149
  go_upto_region 1 with fail
  generalize W.alloc (.cells zero5 27) = w1 at *
  go_wp2_with fail
  refine (HC.out _ S1.out E1.out).mono ?_
  rintro e w3 ⟨A, ca, rfl, hr, hf, hfr, hs3⟩
  have hB := (Below.refl w3.heap.size w3).alloc (Nat.le_refl _) (boxN t A ca)
  have N3 := Lib.hid (NB.start X1.out hr hf hfr)
  have X3 := Lib.hid ((X1.out.step hfr).step (Fr.of hB))
  have S3 := Lib.hid (hs3.later hB)
  have E3 := Lib.hid ((E1.out.fr hfr).later hB)
  have ha := hs3.le
  clear hr hf hfr hs3 hB S1 E1 X1 HC
  go_upto_region 2 with fail
  generalize w3.alloc (boxN t A ca) = w4 at *
  generalize w3.heap.size = lb at *
  have cp := peek_any p s a1 (some o) w4 S3.out hs E3.out.sig
  go_wp2_with fail
  refine cp.mono ?_
  rintro e w5 ⟨rfl, h5, f5⟩
  have hB := (Below.refl w5.heap.size w5).alloc (Nat.le_refl _) (.cells #[.int .i64 (kd s a1), .int .i64 a1, .string (bs (T s a1))] 41)
  have CM := Lib.hid (show CmpA p s a1 o W lb w5.heap.size t A ca (w5.alloc (.cells #[.int .i64 (kd s a1), .int .i64 a1, .string (bs (T s a1))] 41)) from
    ⟨(X3.out.step f5).step (Fr.of hB), (N3.out.step X3.out.px f5).step X3.out.px (Fr.of hB), ⟨(X3.out.step f5).lt, World.alloc_heap_new _ _⟩, (Rdy.sca h5 ha).later hB, (E3.out.fr f5).later hB⟩)
  clear hB cp h5 f5 N3 X3 S3 E3
  go_upto_region 3 with fail
  generalize w5.alloc (.cells #[.int .i64 (kd s a1), .int .i64 a1, .string (bs (T s a1))] 41) = w6 at *
  generalize w5.heap.size = tb at *
  obtain ⟨t0, t1, t2, _, _, _⟩ := boxT_facts CM.out.tok.box
  have ct := ptake_any p s a1 (some o) w6 CM.out.sc hs CM.out.env.sig
  go_wp2_with fail
  refine ct.mono ?_
  rintro e w7 ⟨rfl, h7, f7⟩
  have hpx := CM.out.cx.px
  have X7 := Lib.hid (CM.out.cx.step f7)
  have N7 := Lib.hid (CM.out.l.step hpx f7)
  have T7 := Lib.hid (CM.out.tok.step hpx f7)
  have E7 := Lib.hid (CM.out.env.fr f7)
  have c2 := HC2.out w7 h7 E7.out
  clear f7 h7 ct CM HC2 t0 t1 t2
  go_wp2_with fail
  refine c2.mono ?_
  cases r with
  | out => exact fun _ _ h => h.elim
  | err er wh =>
    rintro e w8 ⟨rfl, f8⟩
    have F8 := Lib.hid (X7.out.fr.trans f8)
    clear f8 c2
    go_wp2_with fail
    exact ⟨rfl, rfl, F8.out⟩
  | ok u a2 =>
    rintro e w8 ⟨B, cb, rfl, hr, hf, hfr, hs8⟩
    have hB := (Below.refl w8.heap.size w8).alloc (Nat.le_refl _) (boxN u B cb)
    have N9 := Lib.hid ((N7.out.step hpx hfr).step hpx (Fr.of hB))
    have T9 := Lib.hid ((T7.out.step hpx hfr).step hpx (Fr.of hB))
    have M9 := Lib.hid (NB.start X7.out hr hf hfr)
    have X9 := Lib.hid ((X7.out.step hfr).step (Fr.of hB))
    have S9 := Lib.hid (hs8.later hB)
    have E9 := Lib.hid ((E7.out.fr hfr).later hB)
    clear hr hf hfr hs8 hB c2 X7 N7 T7 E7
    go_upto_region 14 with fail
    · generalize w8.alloc (boxN u B cb) = w9 at *
      generalize w8.heap.size = rb at *
      obtain ⟨t0, t1, t2, _, _, _⟩ := boxT_facts T9.out.box
      obtain ⟨l0, l1, l2, l3, l4, _, _, _, _, _⟩ := box_facts N9.out.box
      obtain ⟨u0, u1, u2, u3, u4, _, _, _, _, _⟩ := box_facts M9.out.box
      have c3 := compared_any (T s a1) hcm.out (W.heap.size + 1) t u A B ca cb w9 N9.out.rob M9.out.rob N9.out.fine M9.out.fine (Nat.succ_le_of_lt X9.out.lt) E9.out.tabs
      go_wp2_with fail
      refine c3.mono ?_
      rintro e w10 ⟨D, cd, rfl, hr, hf, b10⟩
      have X10 := Lib.hid (X9.out.step (Fr.of b10))
      have S10 := Lib.hid (S9.out.later b10)
      have R10 := Lib.hid hr
      have F10 := Lib.hid hf
      clear hr hf b10 c3 X9 S9 E9 N9 M9 T9 t0 t1 t2 l0 l1 l2 l3 l4 u0 u1 u2 u3 u4
      obtain ⟨y0, y1, y2, y3, y4, g0, g1, g2, g3, g4⟩ := box_facts X10.out.box
      go_wp2_with fail
      exact pass_ret X10.out R10.out F10.out S10.out Tryz.results149 _ rfl rfl
set_option maxRecDepth 100000 in
set_option maxHeartbeats 8000000 in
theorem cmp_yes_in (p : Nat) (s : ByteArray) (a a1 o : Nat) (t : Nd) (r : PR) (W : World) (h : Sca W p s a (some o)) (hE : Env W p) (hs : s.size ≤ 9223372036854775000)
    (c1 : ∀ W', Sca W' p s a (some o) → Env W' p → Calls Tryz.prog 153 #[.pointer (some ⟨p, 0, none⟩)] W' (Ans p s o W' (.ok t a1))) (ht : T s a1 = [105, 110])
    (c2 : ∀ W', Sca W' p s (nxt s a1) (some o) → Env W' p → Calls Tryz.prog 153 #[.pointer (some ⟨p, 0, none⟩)] W' (Ans p s o W' r)) :
    Calls Tryz.prog 149 #[.pointer (some ⟨p, 0, none⟩)] W (Ans p s o W (r.bind fun u a2 => .ok (cmpN2 (T s a1) t u) a2)) := by
  have hq0 : ((bs (T s a1)).toList == [61]) = false := by rw [bs_toList, ht]; rfl
  have hq1 : ((bs (T s a1)).toList == [33, 61]) = false := by rw [bs_toList, ht]; rfl
  have hq2 : ((bs (T s a1)).toList == [60]) = false := by rw [bs_toList, ht]; rfl
  have hq3 : ((bs (T s a1)).toList == [60, 61]) = false := by rw [bs_toList, ht]; rfl
  have hq4 : ((bs (T s a1)).toList == [62]) = false := by rw [bs_toList, ht]; rfl
  have hq5 : ((bs (T s a1)).toList == [62, 61]) = false := by rw [bs_toList, ht]; rfl
  have hq6 : ((bs (T s a1)).toList == [105, 110]) = true := by rw [bs_toList, ht]; rfl
  have hcm := Lib.hid (show isCmp (T s a1) = true by rw [ht]; rfl)
  have HC2 := Lib.hid c2
  clear ht c2
  have X1 := Lib.hid (CX.start h.lt)
  have S1 := Lib.hid (h.alloc (.cells zero5 27))
  have E1 := Lib.hid (hE.alloc (.cells zero5 27))
  have HC := Lib.hid c1
  clear h hE c1
  go_enter Tryz.func149, Tryz.ntmps149
  go_upto_region 1 with fail
  generalize W.alloc (.cells zero5 27) = w1 at *
  go_wp2_with fail
  refine (HC.out _ S1.out E1.out).mono ?_
  rintro e w3 ⟨A, ca, rfl, hr, hf, hfr, hs3⟩
  have hB := (Below.refl w3.heap.size w3).alloc (Nat.le_refl _) (boxN t A ca)
  have N3 := Lib.hid (NB.start X1.out hr hf hfr)
  have X3 := Lib.hid ((X1.out.step hfr).step (Fr.of hB))
  have S3 := Lib.hid (hs3.later hB)
  have E3 := Lib.hid ((E1.out.fr hfr).later hB)
  have ha := hs3.le
  clear hr hf hfr hs3 hB S1 E1 X1 HC
  go_upto_region 2 with fail
  generalize w3.alloc (boxN t A ca) = w4 at *
  generalize w3.heap.size = lb at *
  have cp := peek_any p s a1 (some o) w4 S3.out hs E3.out.sig
  go_wp2_with fail
  refine cp.mono ?_
  rintro e w5 ⟨rfl, h5, f5⟩
  have hB := (Below.refl w5.heap.size w5).alloc (Nat.le_refl _) (.cells #[.int .i64 (kd s a1), .int .i64 a1, .string (bs (T s a1))] 41)
  have CM := Lib.hid (show CmpA p s a1 o W lb w5.heap.size t A ca (w5.alloc (.cells #[.int .i64 (kd s a1), .int .i64 a1, .string (bs (T s a1))] 41)) from
    ⟨(X3.out.step f5).step (Fr.of hB), (N3.out.step X3.out.px f5).step X3.out.px (Fr.of hB), ⟨(X3.out.step f5).lt, World.alloc_heap_new _ _⟩, (Rdy.sca h5 ha).later hB, (E3.out.fr f5).later hB⟩)
  clear hB cp h5 f5 N3 X3 S3 E3
  go_upto_region 3 with fail
  generalize w5.alloc (.cells #[.int .i64 (kd s a1), .int .i64 a1, .string (bs (T s a1))] 41) = w6 at *
  generalize w5.heap.size = tb at *
  obtain ⟨t0, t1, t2, _, _, _⟩ := boxT_facts CM.out.tok.box
  have ct := ptake_any p s a1 (some o) w6 CM.out.sc hs CM.out.env.sig
  go_wp2_with fail
  refine ct.mono ?_
  rintro e w7 ⟨rfl, h7, f7⟩
  have hpx := CM.out.cx.px
  have X7 := Lib.hid (CM.out.cx.step f7)
  have N7 := Lib.hid (CM.out.l.step hpx f7)
  have T7 := Lib.hid (CM.out.tok.step hpx f7)
  have E7 := Lib.hid (CM.out.env.fr f7)
  have c2 := HC2.out w7 h7 E7.out
  clear f7 h7 ct CM HC2 t0 t1 t2
  go_wp2_with fail
  refine c2.mono ?_
  cases r with
  | out => exact fun _ _ h => h.elim
  | err er wh =>
    rintro e w8 ⟨rfl, f8⟩
    have F8 := Lib.hid (X7.out.fr.trans f8)
    clear f8 c2
    go_wp2_with fail
    exact ⟨rfl, rfl, F8.out⟩
  | ok u a2 =>
    rintro e w8 ⟨B, cb, rfl, hr, hf, hfr, hs8⟩
    have hB := (Below.refl w8.heap.size w8).alloc (Nat.le_refl _) (boxN u B cb)
    have N9 := Lib.hid ((N7.out.step hpx hfr).step hpx (Fr.of hB))
    have T9 := Lib.hid ((T7.out.step hpx hfr).step hpx (Fr.of hB))
    have M9 := Lib.hid (NB.start X7.out hr hf hfr)
    have X9 := Lib.hid ((X7.out.step hfr).step (Fr.of hB))
    have S9 := Lib.hid (hs8.later hB)
    have E9 := Lib.hid ((E7.out.fr hfr).later hB)
    clear hr hf hfr hs8 hB c2 X7 N7 T7 E7
    go_upto_region 14 with fail
    · generalize w8.alloc (boxN u B cb) = w9 at *
      generalize w8.heap.size = rb at *
      obtain ⟨t0, t1, t2, _, _, _⟩ := boxT_facts T9.out.box
      obtain ⟨l0, l1, l2, l3, l4, _, _, _, _, _⟩ := box_facts N9.out.box
      obtain ⟨u0, u1, u2, u3, u4, _, _, _, _, _⟩ := box_facts M9.out.box
      have c3 := compared_any (T s a1) hcm.out (W.heap.size + 1) t u A B ca cb w9 N9.out.rob M9.out.rob N9.out.fine M9.out.fine (Nat.succ_le_of_lt X9.out.lt) E9.out.tabs
      go_wp2_with fail
      refine c3.mono ?_
      rintro e w10 ⟨D, cd, rfl, hr, hf, b10⟩
      have X10 := Lib.hid (X9.out.step (Fr.of b10))
      have S10 := Lib.hid (S9.out.later b10)
      have R10 := Lib.hid hr
      have F10 := Lib.hid hf
      clear hr hf b10 c3 X9 S9 E9 N9 M9 T9 t0 t1 t2 l0 l1 l2 l3 l4 u0 u1 u2 u3 u4
      obtain ⟨y0, y1, y2, y3, y4, g0, g1, g2, g3, g4⟩ := box_facts X10.out.box
      go_wp2_with fail
      exact pass_ret X10.out R10.out F10.out S10.out Tryz.results149 _ rfl rfl
set_option maxRecDepth 100000 in
set_option maxHeartbeats 8000000 in
theorem cmp_yes_sub (p : Nat) (s : ByteArray) (a a1 o : Nat) (t : Nd) (r : PR) (W : World) (h : Sca W p s a (some o)) (hE : Env W p) (hs : s.size ≤ 9223372036854775000)
    (c1 : ∀ W', Sca W' p s a (some o) → Env W' p → Calls Tryz.prog 153 #[.pointer (some ⟨p, 0, none⟩)] W' (Ans p s o W' (.ok t a1))) (ht : T s a1 = [115, 117, 98])
    (c2 : ∀ W', Sca W' p s (nxt s a1) (some o) → Env W' p → Calls Tryz.prog 153 #[.pointer (some ⟨p, 0, none⟩)] W' (Ans p s o W' r)) :
    Calls Tryz.prog 149 #[.pointer (some ⟨p, 0, none⟩)] W (Ans p s o W (r.bind fun u a2 => .ok (cmpN2 (T s a1) t u) a2)) := by
  have hq0 : ((bs (T s a1)).toList == [61]) = false := by rw [bs_toList, ht]; rfl
  have hq1 : ((bs (T s a1)).toList == [33, 61]) = false := by rw [bs_toList, ht]; rfl
  have hq2 : ((bs (T s a1)).toList == [60]) = false := by rw [bs_toList, ht]; rfl
  have hq3 : ((bs (T s a1)).toList == [60, 61]) = false := by rw [bs_toList, ht]; rfl
  have hq4 : ((bs (T s a1)).toList == [62]) = false := by rw [bs_toList, ht]; rfl
  have hq5 : ((bs (T s a1)).toList == [62, 61]) = false := by rw [bs_toList, ht]; rfl
  have hq6 : ((bs (T s a1)).toList == [105, 110]) = false := by rw [bs_toList, ht]; rfl
  have hq7 : ((bs (T s a1)).toList == [115, 117, 98]) = true := by rw [bs_toList, ht]; rfl
  have hcm := Lib.hid (show isCmp (T s a1) = true by rw [ht]; rfl)
  have HC2 := Lib.hid c2
  clear ht c2
  have X1 := Lib.hid (CX.start h.lt)
  have S1 := Lib.hid (h.alloc (.cells zero5 27))
  have E1 := Lib.hid (hE.alloc (.cells zero5 27))
  have HC := Lib.hid c1
  clear h hE c1
  go_enter Tryz.func149, Tryz.ntmps149
  go_upto_region 1 with fail
  generalize W.alloc (.cells zero5 27) = w1 at *
  go_wp2_with fail
  refine (HC.out _ S1.out E1.out).mono ?_
  rintro e w3 ⟨A, ca, rfl, hr, hf, hfr, hs3⟩
  have hB := (Below.refl w3.heap.size w3).alloc (Nat.le_refl _) (boxN t A ca)
  have N3 := Lib.hid (NB.start X1.out hr hf hfr)
  have X3 := Lib.hid ((X1.out.step hfr).step (Fr.of hB))
  have S3 := Lib.hid (hs3.later hB)
  have E3 := Lib.hid ((E1.out.fr hfr).later hB)
  have ha := hs3.le
  clear hr hf hfr hs3 hB S1 E1 X1 HC
  go_upto_region 2 with fail
  generalize w3.alloc (boxN t A ca) = w4 at *
  generalize w3.heap.size = lb at *
  have cp := peek_any p s a1 (some o) w4 S3.out hs E3.out.sig
  go_wp2_with fail
  refine cp.mono ?_
  rintro e w5 ⟨rfl, h5, f5⟩
  have hB := (Below.refl w5.heap.size w5).alloc (Nat.le_refl _) (.cells #[.int .i64 (kd s a1), .int .i64 a1, .string (bs (T s a1))] 41)
  have CM := Lib.hid (show CmpA p s a1 o W lb w5.heap.size t A ca (w5.alloc (.cells #[.int .i64 (kd s a1), .int .i64 a1, .string (bs (T s a1))] 41)) from
    ⟨(X3.out.step f5).step (Fr.of hB), (N3.out.step X3.out.px f5).step X3.out.px (Fr.of hB), ⟨(X3.out.step f5).lt, World.alloc_heap_new _ _⟩, (Rdy.sca h5 ha).later hB, (E3.out.fr f5).later hB⟩)
  clear hB cp h5 f5 N3 X3 S3 E3
  go_upto_region 3 with fail
  generalize w5.alloc (.cells #[.int .i64 (kd s a1), .int .i64 a1, .string (bs (T s a1))] 41) = w6 at *
  generalize w5.heap.size = tb at *
  obtain ⟨t0, t1, t2, _, _, _⟩ := boxT_facts CM.out.tok.box
  have ct := ptake_any p s a1 (some o) w6 CM.out.sc hs CM.out.env.sig
  go_wp2_with fail
  refine ct.mono ?_
  rintro e w7 ⟨rfl, h7, f7⟩
  have hpx := CM.out.cx.px
  have X7 := Lib.hid (CM.out.cx.step f7)
  have N7 := Lib.hid (CM.out.l.step hpx f7)
  have T7 := Lib.hid (CM.out.tok.step hpx f7)
  have E7 := Lib.hid (CM.out.env.fr f7)
  have c2 := HC2.out w7 h7 E7.out
  clear f7 h7 ct CM HC2 t0 t1 t2
  go_wp2_with fail
  refine c2.mono ?_
  cases r with
  | out => exact fun _ _ h => h.elim
  | err er wh =>
    rintro e w8 ⟨rfl, f8⟩
    have F8 := Lib.hid (X7.out.fr.trans f8)
    clear f8 c2
    go_wp2_with fail
    exact ⟨rfl, rfl, F8.out⟩
  | ok u a2 =>
    rintro e w8 ⟨B, cb, rfl, hr, hf, hfr, hs8⟩
    have hB := (Below.refl w8.heap.size w8).alloc (Nat.le_refl _) (boxN u B cb)
    have N9 := Lib.hid ((N7.out.step hpx hfr).step hpx (Fr.of hB))
    have T9 := Lib.hid ((T7.out.step hpx hfr).step hpx (Fr.of hB))
    have M9 := Lib.hid (NB.start X7.out hr hf hfr)
    have X9 := Lib.hid ((X7.out.step hfr).step (Fr.of hB))
    have S9 := Lib.hid (hs8.later hB)
    have E9 := Lib.hid ((E7.out.fr hfr).later hB)
    clear hr hf hfr hs8 hB c2 X7 N7 T7 E7
    go_upto_region 14 with fail
    · generalize w8.alloc (boxN u B cb) = w9 at *
      generalize w8.heap.size = rb at *
      obtain ⟨t0, t1, t2, _, _, _⟩ := boxT_facts T9.out.box
      obtain ⟨l0, l1, l2, l3, l4, _, _, _, _, _⟩ := box_facts N9.out.box
      obtain ⟨u0, u1, u2, u3, u4, _, _, _, _, _⟩ := box_facts M9.out.box
      have c3 := compared_any (T s a1) hcm.out (W.heap.size + 1) t u A B ca cb w9 N9.out.rob M9.out.rob N9.out.fine M9.out.fine (Nat.succ_le_of_lt X9.out.lt) E9.out.tabs
      go_wp2_with fail
      refine c3.mono ?_
      rintro e w10 ⟨D, cd, rfl, hr, hf, b10⟩
      have X10 := Lib.hid (X9.out.step (Fr.of b10))
      have S10 := Lib.hid (S9.out.later b10)
      have R10 := Lib.hid hr
      have F10 := Lib.hid hf
      clear hr hf b10 c3 X9 S9 E9 N9 M9 T9 t0 t1 t2 l0 l1 l2 l3 l4 u0 u1 u2 u3 u4
      obtain ⟨y0, y1, y2, y3, y4, g0, g1, g2, g3, g4⟩ := box_facts X10.out.box
      go_wp2_with fail
      exact pass_ret X10.out R10.out F10.out S10.out Tryz.results149 _ rfl rfl
theorem cmp_errP (p : Nat) (s : ByteArray) (a o : Nat) (er : Int) (wh : Nat) (W : World) (h : Sca W p s a (some o)) (hE : Env W p)
    (c1 : ∀ W', Sca W' p s a (some o) → Env W' p → Calls Tryz.prog 153 #[.pointer (some ⟨p, 0, none⟩)] W' (Ans p s o W' (.err er wh))) :
    Calls Tryz.prog 149 #[.pointer (some ⟨p, 0, none⟩)] W (Ans p s o W (.err er wh)) := by
  have X1 := Lib.hid (CX.start h.lt)
  have c := c1 _ (h.alloc (.cells zero5 27)) (hE.alloc (.cells zero5 27))
  clear h hE c1
  go_enter Tryz.func149, Tryz.ntmps149
  go_upto_region 1 with fail
  generalize W.alloc (.cells zero5 27) = w1 at *
  go_wp2_with fail
  refine c.mono ?_
  rintro e w3 ⟨rfl, f3⟩
  have F3 := Lib.hid (X1.out.fr.trans f3)
  clear f3 c
  go_wp2_with fail
  exact ⟨rfl, rfl, F3.out⟩
theorem cmp_stepP (s : ByteArray) (hs : s.size ≤ 9223372036854775000) (f : Nat) (hi : LiveP s f .sum 153) : LiveP s (f + 1) .cmp 149 := by
  intro p o a W h hE ho hf
  rw [PA]
  have ha := h.le
  have hf1 : 32 * (s.size - a) + rank .sum < f := by simp [rank] at hf ⊢; omega
  have hen := enough s f .sum o a ha hf1
  have c1 : ∀ W', Sca W' p s a (some o) → Env W' p → Calls Tryz.prog 153 #[.pointer (some ⟨p, 0, none⟩)] W' (Ans p s o W' (PA s f .sum o a)) := fun W' h' hE' => hi p o a W' h' hE' ho hf1
  cases hq : PA s f .sum o a with
  | out => rw [hq] at hen; exact hen.elim
  | err er wh => rw [hq] at c1; exact cmp_errP p s a o er wh W h hE c1
  | ok t a1 =>
    rw [hq] at hen c1
    obtain ⟨k1, k2, k3⟩ := hen
    have k2 := k2 rfl
    show Calls Tryz.prog 149 _ W (Ans p s o W (if isCmp (T s a1) = true then _ else _))
    by_cases hc : isCmp (T s a1) = true
    · rw [if_pos hc]
      have hT : T s a1 ≠ [] := fun e => by rw [e] at hc; exact absurd hc (by decide)
      obtain ⟨n1, n2⟩ := nxt_lt k3 rfl hT
      have c2 : ∀ W', Sca W' p s (nxt s a1) (some o) → Env W' p → Calls Tryz.prog 153 #[.pointer (some ⟨p, 0, none⟩)] W' (Ans p s o W' (PA s f .sum o (nxt s a1))) := fun W' h' hE' => hi p o _ W' h' hE' ho (by simp [rank] at hf ⊢; omega)
      have hh : T s a1 = [61] ∨ T s a1 = [33, 61] ∨ T s a1 = [60] ∨ T s a1 = [60, 61] ∨ T s a1 = [62] ∨ T s a1 = [62, 61] ∨ T s a1 = [105, 110] ∨ T s a1 = [115, 117, 98] := by simpa [isCmp] using hc
      rcases hh with e | e | e | e | e | e | e | e
      · exact cmp_yes_eq p s a a1 o t _ W h hE hs c1 e c2
      · exact cmp_yes_ne p s a a1 o t _ W h hE hs c1 e c2
      · exact cmp_yes_lt p s a a1 o t _ W h hE hs c1 e c2
      · exact cmp_yes_le p s a a1 o t _ W h hE hs c1 e c2
      · exact cmp_yes_gt p s a a1 o t _ W h hE hs c1 e c2
      · exact cmp_yes_ge p s a a1 o t _ W h hE hs c1 e c2
      · exact cmp_yes_in p s a a1 o t _ W h hE hs c1 e c2
      · exact cmp_yes_sub p s a a1 o t _ W h hE hs c1 e c2
    · rw [if_neg hc]
      exact cmp_noP p s a a1 o t W h hE hs c1 (by simpa using hc)
end Go.Proofs.YtgkjcimgghflmaaGreatDoor
