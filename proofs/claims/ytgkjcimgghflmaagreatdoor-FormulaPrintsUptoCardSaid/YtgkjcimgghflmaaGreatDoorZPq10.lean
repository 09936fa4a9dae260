/-
  What compared of the program's parser returns: the comparison that a sign stands for; conditions: the kids lie in memory and the program's tables hold what its text lays.
-/
import Derived.Test.YtgkjcimgghflmaaGreatDoorZPq8
namespace Go.Proofs.YtgkjcimgghflmaaGreatDoor
open Go.RowKit Go.Shelf

attribute [local go_sem] Oper.semAt_some
theorem Rob.past {n0 x : Nat} {W w : World} {A : Option Addr} {cap : Nat} {ks : List Nd} (h : Rob n0 W none A cap ks) (hb : Below W.heap.size W w) (hx : W.heap.size ≤ x) : Rob n0 w (some x) A cap ks :=
  fun W2 hW => h W2 fun k h1 h2 _ => (hW k h1 (Nat.lt_of_lt_of_le h2 hb.size) (by simp; omega)).trans (hb.block k h2)
theorem rob_oneR {n0 g : Nat} {row : Option Nat} {w : World} {t : Nd} {A : Option Addr} {cap : Nat} (hg : n0 ≤ g) (hgr : some g ≠ row) (h : w.heap[g]? = some (.cells #[.int .i64 t.op, .int .i64 t.so, .string t.nm, .int .i64 t.nu, .slice A t.ks.length cap] 27 (0, 0))) (hr : Rob n0 w row A cap t.ks) (hf : Fine t) :
    Rob n0 w row (some ⟨g, 0, none⟩) 1 [t] := fun W hW => by
  have hgW : W.heap[g]? = some _ := (hW g hg (Array.getElem?_eq_some_iff.1 h).1 hgr).trans h
  have c := fun (i : Nat) (v : Value) (hv : (#[Value.int .i64 t.op, .int .i64 t.so, .string t.nm, .int .i64 t.nu, .slice A t.ks.length cap] : Array Value)[i]? = some v) => cell_row hgW (i := i) hv
  refine .mk _ _ _ (by unfold maxLen; simp) g 0 (fun _ => A) (fun _ => cap) (fun _ => rfl) (fun i hi => ?_) (fun i hi => ?_) (fun i hi => ?_)
  all_goals
    obtain rfl : i = 0 := by simp at hi; omega
  · exact ⟨c 0 _ rfl, c 1 _ rfl, c 2 _ rfl, c 3 _ rfl, c 4 _ rfl⟩
  · exact hr W hW
  · exact hf
/-- The two nodes in their boxes and the result's block. -/
structure Bx (n0 : Nat) (W : World) (t u : Nd) (A B : Option Addr) (ca cb : Nat) (w : World) : Prop where
  below : Below W.heap.size W w
  l : w.heap[W.heap.size]? = some (.cells #[.int .i64 t.op, .int .i64 t.so, .string t.nm, .int .i64 t.nu, .slice A t.ks.length ca] 27 (0, 0))
  r : w.heap[W.heap.size + 1]? = some (.cells #[.int .i64 u.op, .int .i64 u.so, .string u.nm, .int .i64 u.nu, .slice B u.ks.length cb] 27 (0, 0))
  x : w.heap[W.heap.size + 1 + 1]? = some (.cells zero5 27 (0, 0))
  lr : Rob n0 w (some (W.heap.size + 1 + 1)) A ca t.ks
  rr : Rob n0 w (some (W.heap.size + 1 + 1)) B cb u.ks
  ft : Fine t
  fu : Fine u
  hn : n0 ≤ W.heap.size
theorem Bx.step {n0 : Nat} {W : World} {t u : Nd} {A B : Option Addr} {ca cb : Nat} {w w' : World} (h : Bx n0 W t u A B ca cb w) (hb : Below w.heap.size w w') : Bx n0 W t u A B ca cb w' :=
  have at' := fun (k : Nat) (o : Obj) (hk : w.heap[k]? = some o) => (show w'.heap[k]? = some o from (hb.block k (Array.getElem?_eq_some_iff.1 hk).1).trans hk)
  ⟨h.below.trans (hb.mono h.below.size), at' _ _ h.l, at' _ _ h.r, at' _ _ h.x, h.lr.laterR hb, h.rr.laterR hb, h.ft, h.fu, h.hn⟩
theorem Bx.drew {n0 : Nat} {W : World} {t u : Nd} {A B : Option Addr} {ca cb : Nat} {w : World} (h : Bx n0 W t u A B ca cb w) : Bx n0 W t u A B ca cb w.drew := h.step ⟨rfl, rfl, rfl, Nat.le_refl _, fun _ _ => rfl⟩
theorem Bx.lt {n0 : Nat} {W : World} {t u : Nd} {A B : Option Addr} {ca cb : Nat} {w : World} (h : Bx n0 W t u A B ca cb w) : W.heap.size + 1 + 1 < w.heap.size := (Array.getElem?_eq_some_iff.1 h.x).1
theorem Bx.start {n0 : Nat} {W : World} {t u : Nd} {A B : Option Addr} {ca cb : Nat} (hr : Rob n0 W none A ca t.ks) (hs : Rob n0 W none B cb u.ks) (hf : Fine t) (hf' : Fine u) (hn : n0 ≤ W.heap.size) :
    Bx n0 W t u A B ca cb (((W.alloc (boxN t A ca)).alloc (boxN u B cb)).alloc (.cells zero5 27)) := by
  have b1 := (Below.refl W.heap.size W).alloc (Nat.le_refl _) (boxN t A ca)
  have b2 := (Below.refl (W.alloc (boxN t A ca)).heap.size (W.alloc (boxN t A ca))).alloc (Nat.le_refl _) (boxN u B cb)
  have b3 := (Below.refl ((W.alloc (boxN t A ca)).alloc (boxN u B cb)).heap.size ((W.alloc (boxN t A ca)).alloc (boxN u B cb))).alloc (Nat.le_refl _) (.cells zero5 27)
  have s1 : (W.alloc (boxN t A ca)).heap.size = W.heap.size + 1 := by simp
  have s2 : ((W.alloc (boxN t A ca)).alloc (boxN u B cb)).heap.size = W.heap.size + 1 + 1 := by simp
  have B3 := (b1.trans (b2.mono (by omega))).trans (b3.mono (by omega))
  refine ⟨B3, (b3.block _ (by omega)).trans ((b2.block _ (by omega)).trans (World.alloc_heap_new W _)), ?_, ?_, hr.past B3 (by omega), hs.past B3 (by omega), hf, hf', hn⟩
  · have := World.alloc_heap_new (W.alloc (boxN t A ca)) (boxN u B cb)
    rw [s1] at this
    exact (b3.block _ (by omega)).trans this
  · have := World.alloc_heap_new ((W.alloc (boxN t A ca)).alloc (boxN u B cb)) (.cells zero5 27)
    rw [s2] at this
    exact this
/-- A node comes back, its lists in blocks from n0 on. -/
def NewQ (n0 : Nat) (W : World) (u : Nd) (e : Ending) (W' : World) : Prop := ∃ D cd, e = .returned (nv u.op u.so u.nm u.nu (.slice D u.ks.length cd)) ∧ Rob n0 W' none D cd u.ks ∧ Fine u ∧ Below W.heap.size W W'
theorem Bx.ret {n0 : Nat} {W : World} {t u : Nd} {A B : Option Addr} {ca cb : Nat} {w : World} (h : Bx n0 W t u A B ca cb w) {v : Nd} {D : Option Addr} {cd : Nat} (hr : Rob n0 w (some (W.heap.size + 1 + 1)) D cd v.ks) (hf : Fine v) (act : Act)
    (hq : act.tmps.getD 6 undef = .pointer (some ⟨W.heap.size + 1 + 1, 0, none⟩)) (hd : act.defers = []) :
    bodyPost Tryz.prog Tryz.f154 (NewQ n0 W v) .ret act (set5 w (W.heap.size + 1 + 1) (.int .i64 v.op) (.int .i64 v.so) (.string v.nm) (.int .i64 v.nu) (.slice D v.ks.length cd)) :=
  bodyPost_ret (res27 Tryz.results154 act.tmps _ (W.heap.size + 1 + 1) _ _ _ _ _ hq (set5_same _ _ _ _ _ h.x)) hd
    ⟨D, cd, rfl, (hr.setrow _ _ _ _ _).weak, hf, Below.set5 h.below (by omega) _ _ _ _ _⟩
theorem Bx.pair {n0 : Nat} {W : World} {t u : Nd} {A B : Option Addr} {ca cb : Nat} {w w' : World} (h : Bx n0 W t u A B ca cb w) (hb : Below (w.alloc (pairN t u A B ca cb)).heap.size (w.alloc (pairN t u A B ca cb)) w') :
    Bx n0 W t u A B ca cb w' ∧ Rob n0 w' (some (W.heap.size + 1 + 1)) (some ⟨w.heap.size, 0, none⟩) 2 [t, u] := by
  have hB := (Below.refl w.heap.size w).alloc (Nat.le_refl _) (pairN t u A B ca cb)
  have h1 := h.step hB
  have := h.lt
  have := h.hn
  exact ⟨h1.step hb, (rob_twoR (by omega) (by simp; omega) (World.alloc_heap_new w _) h1.lr h1.rr h.ft h.fu).laterR hb⟩
theorem Bx.pairR {n0 : Nat} {W : World} {t u : Nd} {A B : Option Addr} {ca cb : Nat} {w w' : World} (h : Bx n0 W t u A B ca cb w) (hb : Below (w.alloc (pairN u t B A cb ca)).heap.size (w.alloc (pairN u t B A cb ca)) w') :
    Bx n0 W t u A B ca cb w' ∧ Rob n0 w' (some (W.heap.size + 1 + 1)) (some ⟨w.heap.size, 0, none⟩) 2 [u, t] := by
  have hB := (Below.refl w.heap.size w).alloc (Nat.le_refl _) (pairN u t B A cb ca)
  have h1 := h.step hB
  have := h.lt
  have := h.hn
  exact ⟨h1.step hb, (rob_twoR (by omega) (by simp; omega) (World.alloc_heap_new w _) h1.rr h1.lr h.fu h.ft).laterR hb⟩
theorem Bx.pairB {n0 : Nat} {W : World} {t u : Nd} {A B : Option Addr} {ca cb g : Nat} {w w' : World} (h : Bx n0 W t u A B ca cb w) (hg : W.heap.size + 1 + 1 < g) (hk : w.heap[g]? = some (.cells #[.int .i64 t.op, .int .i64 t.so, .string t.nm, .int .i64 t.nu, .slice A t.ks.length ca, .int .i64 u.op, .int .i64 u.so, .string u.nm, .int .i64 u.nu, .slice B u.ks.length cb] 27 (0, 0))) (hb : Below w.heap.size w w') :
    Bx n0 W t u A B ca cb w' ∧ Rob n0 w' (some (W.heap.size + 1 + 1)) (some ⟨g, 0, none⟩) 2 [t, u] := by
  have := h.hn
  exact ⟨h.step hb, (rob_twoR (by omega) (by simp; omega) hk h.lr h.rr h.ft h.fu).laterR hb⟩

set_option maxRecDepth 100000 in
set_option maxHeartbeats 4000000 in
theorem compared_ne (n0 : Nat) (t u : Nd) (A B : Option Addr) (ca cb : Nat) (W : World) (hr : Rob n0 W none A ca t.ks) (hs : Rob n0 W none B cb u.ks) (hf : Fine t) (hf' : Fine u) (hn : n0 ≤ W.heap.size) :
    Calls Tryz.prog 154 #[.string (bs [33, 61]), nv t.op t.so t.nm t.nu (.slice A t.ks.length ca), nv u.op u.so u.nm u.nu (.slice B u.ks.length cb)] W (NewQ n0 W (oneN 32 (twoN 37 t u))) := by
  have B1 := Lib.hid (Bx.start hr hs hf hf' hn)
  have hq0 : ((bs [33, 61]).toList == [33, 61]) = true := by rw [bs_toList]; rfl
  skip
  obtain ⟨l0, l1, l2, l3, l4, _, _, _, _, _⟩ := box_facts B1.out.l
  obtain ⟨u0, u1, u2, u3, u4, _, _, _, _, _⟩ := box_facts B1.out.r
  obtain ⟨y0, y1, y2, y3, y4, g0, g1, g2, g3, g4⟩ := box_facts B1.out.x
  generalize bs [33, 61] = st at *
  clear hr hs hf hf' hn
  go_enter Tryz.func154, Tryz.ntmps154
  go_upto_region 1 with fail
  generalize ((W.alloc (boxN t A ca)).alloc (boxN u B cb)).alloc (.cells zero5 27) = w1 at *
  go_wp2_with fail
  refine (node_any _ _ (some ⟨w1.heap.size, 0, none⟩) 2 2 _ rfl).mono ?_
  rintro e w2 ⟨rfl, b2⟩
  obtain ⟨B2, R2⟩ := B1.out.pair b2
  have B2 := Lib.hid B2
  have R2 := Lib.hid R2
  clear b2 B1 l0 l1 l2 l3 l4 u0 u1 u2 u3 u4 y0 y1 y2 y3 y4 g0 g1 g2 g3 g4
  generalize w1.heap.size = g at *
  go_wp2_with fail
  refine (node_any _ _ (some ⟨w2.heap.size, 0, none⟩) 1 1 _ rfl).mono ?_
  rintro e w3 ⟨rfl, b3⟩
  have hB := (Below.refl w2.heap.size w2).alloc (Nat.le_refl _) (boxN (twoN 37 t u) (some ⟨g, 0, none⟩) 2)
  have B3 := Lib.hid ((B2.out.step hB).step b3)
  have R3 := Lib.hid ((rob_oneR (t := twoN 37 t u) (row := some (W.heap.size + 1 + 1)) (n0 := n0) (by have := B2.out.lt; have := B2.out.hn; omega) (by have := B2.out.lt; simp; omega) (World.alloc_heap_new w2 (boxN (twoN 37 t u) (some ⟨g, 0, none⟩) 2)) (R2.out.laterR hB) (fine_op (by decide))).laterR b3)
  clear b3 hB B2 R2
  generalize w2.heap.size = g2 at *
  obtain ⟨y0, y1, y2, y3, y4, g0, g1, g2, g3, g4⟩ := box_facts B3.out.x
  go_wp2_with fail
  exact B3.out.ret (v := oneN 32 (twoN 37 t u)) R3.out (fine_op (by decide)) _ rfl rfl

set_option maxRecDepth 100000 in
set_option maxHeartbeats 4000000 in
theorem compared_gt (n0 : Nat) (t u : Nd) (A B : Option Addr) (ca cb : Nat) (W : World) (hr : Rob n0 W none A ca t.ks) (hs : Rob n0 W none B cb u.ks) (hf : Fine t) (hf' : Fine u) (hn : n0 ≤ W.heap.size) :
    Calls Tryz.prog 154 #[.string (bs [62]), nv t.op t.so t.nm t.nu (.slice A t.ks.length ca), nv u.op u.so u.nm u.nu (.slice B u.ks.length cb)] W (NewQ n0 W (twoN 39 u t)) := by
  have B1 := Lib.hid (Bx.start hr hs hf hf' hn)
  have hq0 : ((bs [62]).toList == [33, 61]) = false := by rw [bs_toList]; rfl
  have hq1 : ((bs [62]).toList == [62]) = true := by rw [bs_toList]; rfl
  skip
  obtain ⟨l0, l1, l2, l3, l4, _, _, _, _, _⟩ := box_facts B1.out.l
  obtain ⟨u0, u1, u2, u3, u4, _, _, _, _, _⟩ := box_facts B1.out.r
  obtain ⟨y0, y1, y2, y3, y4, g0, g1, g2, g3, g4⟩ := box_facts B1.out.x
  generalize bs [62] = st at *
  clear hr hs hf hf' hn
  go_enter Tryz.func154, Tryz.ntmps154
  go_upto_region 1 with fail
  generalize ((W.alloc (boxN t A ca)).alloc (boxN u B cb)).alloc (.cells zero5 27) = w1 at *
  go_wp2_with fail
  refine (node_any _ _ (some ⟨w1.heap.size, 0, none⟩) 2 2 _ rfl).mono ?_
  rintro e w2 ⟨rfl, b2⟩
  obtain ⟨B2, R2⟩ := B1.out.pairR b2
  have B2 := Lib.hid B2
  have R2 := Lib.hid R2
  clear b2 B1 l0 l1 l2 l3 l4 u0 u1 u2 u3 u4 y0 y1 y2 y3 y4 g0 g1 g2 g3 g4
  generalize w1.heap.size = g at *
  obtain ⟨y0, y1, y2, y3, y4, g0, g1, g2, g3, g4⟩ := box_facts B2.out.x
  go_wp2_with fail
  exact B2.out.ret (v := twoN 39 u t) R2.out (fine_op (by decide)) _ rfl rfl

set_option maxRecDepth 100000 in
set_option maxHeartbeats 4000000 in
theorem compared_ge (n0 : Nat) (t u : Nd) (A B : Option Addr) (ca cb : Nat) (W : World) (hr : Rob n0 W none A ca t.ks) (hs : Rob n0 W none B cb u.ks) (hf : Fine t) (hf' : Fine u) (hn : n0 ≤ W.heap.size) :
    Calls Tryz.prog 154 #[.string (bs [62, 61]), nv t.op t.so t.nm t.nu (.slice A t.ks.length ca), nv u.op u.so u.nm u.nu (.slice B u.ks.length cb)] W (NewQ n0 W (twoN 38 u t)) := by
  have B1 := Lib.hid (Bx.start hr hs hf hf' hn)
  have hq0 : ((bs [62, 61]).toList == [33, 61]) = false := by rw [bs_toList]; rfl
  have hq1 : ((bs [62, 61]).toList == [62]) = false := by rw [bs_toList]; rfl
  have hq2 : ((bs [62, 61]).toList == [62, 61]) = true := by rw [bs_toList]; rfl
  skip
  obtain ⟨l0, l1, l2, l3, l4, _, _, _, _, _⟩ := box_facts B1.out.l
  obtain ⟨u0, u1, u2, u3, u4, _, _, _, _, _⟩ := box_facts B1.out.r
  obtain ⟨y0, y1, y2, y3, y4, g0, g1, g2, g3, g4⟩ := box_facts B1.out.x
  generalize bs [62, 61] = st at *
  clear hr hs hf hf' hn
  go_enter Tryz.func154, Tryz.ntmps154
  go_upto_region 1 with fail
  generalize ((W.alloc (boxN t A ca)).alloc (boxN u B cb)).alloc (.cells zero5 27) = w1 at *
  go_wp2_with fail
  refine (node_any _ _ (some ⟨w1.heap.size, 0, none⟩) 2 2 _ rfl).mono ?_
  rintro e w2 ⟨rfl, b2⟩
  obtain ⟨B2, R2⟩ := B1.out.pairR b2
  have B2 := Lib.hid B2
  have R2 := Lib.hid R2
  clear b2 B1 l0 l1 l2 l3 l4 u0 u1 u2 u3 u4 y0 y1 y2 y3 y4 g0 g1 g2 g3 g4
  generalize w1.heap.size = g at *
  obtain ⟨y0, y1, y2, y3, y4, g0, g1, g2, g3, g4⟩ := box_facts B2.out.x
  go_wp2_with fail
  exact B2.out.ret (v := twoN 38 u t) R2.out (fine_op (by decide)) _ rfl rfl

set_option maxRecDepth 100000 in
set_option maxHeartbeats 8000000 in
theorem compared_plain (sg : List UInt8) (n1 : sg ≠ [33, 61]) (n2 : sg ≠ [62]) (n3 : sg ≠ [62, 61]) (hop : (Lit.int .i64 (opT sg)).wf = true) (n0 : Nat) (t u : Nd) (A B : Option Addr) (ca cb : Nat) (W : World) (hr : Rob n0 W none A ca t.ks) (hs : Rob n0 W none B cb u.ks) (hf : Fine t) (hf' : Fine u) (hn : n0 ≤ W.heap.size) (hT : Tabs W) :
    Calls Tryz.prog 154 #[.string (bs sg), nv t.op t.so t.nm t.nu (.slice A t.ks.length ca), nv u.op u.so u.nm u.nu (.slice B u.ks.length cb)] W (NewQ n0 W (twoN (opT sg) t u)) := by
  have B1 := Lib.hid (Bx.start hr hs hf hf' hn)
  have hq0 : ((bs sg).toList == [33, 61]) = false := by rw [bs_toList]; simpa using n1
  have hq1 : ((bs sg).toList == [62]) = false := by rw [bs_toList]; simpa using n2
  have hq2 : ((bs sg).toList == [62, 61]) = false := by rw [bs_toList]; simpa using n3
  have HT := Lib.hid (hT.later B1.out.below)
  clear hr hs hf hf' hn hT n1 n2 n3
  go_enter Tryz.func154, Tryz.ntmps154
  go_upto_region 1 with fail
  generalize ((W.alloc (boxN t A ca)).alloc (boxN u B cb)).alloc (.cells zero5 27) = w1 at *
  have TD := Lib.hid (show Bx n0 W t u A B ca cb w1.drew ∧ Tabs w1.drew from ⟨B1.out.drew, HT.out.later ⟨rfl, rfl, rfl, Nat.le_refl _, fun _ _ => rfl⟩⟩)
  have hB := (Below.refl w1.heap.size w1).alloc (Nat.le_refl _) (pairN t u A B ca cb)
  have TK := Lib.hid (show Bx n0 W t u A B ca cb (w1.alloc (pairN t u A B ca cb)).drew ∧ Tabs (w1.alloc (pairN t u A B ca cb)).drew from ⟨(B1.out.step hB).drew, HT.out.later hB.drew⟩)
  have KK := Lib.hid (World.alloc_heap_new w1 (pairN t u A B ca cb))
  have HG := Lib.hid B1.out.lt
  obtain ⟨l0, l1, l2, l3, l4, _, _, _, _, _⟩ := box_facts B1.out.l
  obtain ⟨u0, u1, u2, u3, u4, _, _, _, _, _⟩ := box_facts B1.out.r
  clear hB B1 HT
  go_wp2_with fail
  go_region_with (first
    | (go_at_call 101; first
        | ((with_reducible refine (operator_any sg _ TD.out.2).mono ?_); rintro e w8 ⟨rfl, b8⟩; have T8 := Lib.hid (TD.out.1.step b8); have K8 := Lib.hid True.intro; obtain ⟨l0, l1, l2, l3, l4, _, _, _, _, _⟩ := box_facts T8.out.l; obtain ⟨u0, u1, u2, u3, u4, _, _, _, _, _⟩ := box_facts T8.out.r; clear b8)
        | ((with_reducible refine (operator_any sg _ TK.out.2).mono ?_); rintro e w8 ⟨rfl, b8⟩; have T8 := Lib.hid (TK.out.1.step b8); have K8 := Lib.hid ((b8.block _ (Array.getElem?_eq_some_iff.1 KK.out).1).trans KK.out); clear b8))
    | (go_at_call 100; ((with_reducible refine (node_any _ _ _ 2 2 _ rfl).mono ?_); rintro e w9 ⟨rfl, b9⟩; first
        | (have J9 := Lib.hid (T8.out.pair b9); obtain ⟨y0, y1, y2, y3, y4, g0, g1, g2, g3, g4⟩ := box_facts J9.out.1.x; clear b9)
        | (have J9 := Lib.hid (T8.out.pairB HG.out K8.out b9); obtain ⟨y0, y1, y2, y3, y4, g0, g1, g2, g3, g4⟩ := box_facts J9.out.1.x; clear b9))))
  all_goals
    go_wp2_with fail
    exact J9.out.1.ret (v := twoN (opT sg) t u) J9.out.2 (fine_op hop) _ rfl rfl

/-- compared, whatever the sign. -/
theorem compared_any (sg : List UInt8) (hsg : isCmp sg = true) (n0 : Nat) (t u : Nd) (A B : Option Addr) (ca cb : Nat) (W : World) (hr : Rob n0 W none A ca t.ks) (hs : Rob n0 W none B cb u.ks) (hf : Fine t) (hf' : Fine u) (hn : n0 ≤ W.heap.size) (hT : Tabs W) :
    Calls Tryz.prog 154 #[.string (bs sg), nv t.op t.so t.nm t.nu (.slice A t.ks.length ca), nv u.op u.so u.nm u.nu (.slice B u.ks.length cb)] W (NewQ n0 W (cmpN2 sg t u)) := by
  have h : sg = [61] ∨ sg = [33, 61] ∨ sg = [60] ∨ sg = [60, 61] ∨ sg = [62] ∨ sg = [62, 61] ∨ sg = [105, 110] ∨ sg = [115, 117, 98] := by simpa [isCmp] using hsg
  rcases h with rfl | rfl | rfl | rfl | rfl | rfl | rfl | rfl
  · exact compared_plain [61] (by decide) (by decide) (by decide) (by decide) n0 t u A B ca cb W hr hs hf hf' hn hT
  · exact compared_ne n0 t u A B ca cb W hr hs hf hf' hn
  · exact compared_plain [60] (by decide) (by decide) (by decide) (by decide) n0 t u A B ca cb W hr hs hf hf' hn hT
  · exact compared_plain [60, 61] (by decide) (by decide) (by decide) (by decide) n0 t u A B ca cb W hr hs hf hf' hn hT
  · exact compared_gt n0 t u A B ca cb W hr hs hf hf' hn
  · exact compared_ge n0 t u A B ca cb W hr hs hf hf' hn
  · exact compared_plain [105, 110] (by decide) (by decide) (by decide) (by decide) n0 t u A B ca cb W hr hs hf hf' hn hT
  · exact compared_plain [115, 117, 98] (by decide) (by decide) (by decide) (by decide) n0 t u A B ca cb W hr hs hf hf' hn hT
end Go.Proofs.YtgkjcimgghflmaaGreatDoor
