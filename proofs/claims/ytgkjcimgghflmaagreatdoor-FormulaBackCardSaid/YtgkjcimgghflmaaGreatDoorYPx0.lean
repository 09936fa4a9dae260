/-
  What Parse returns: the node of a whole text, or its first fault; conditions: the program's tables hold what its text lays.
-/
import Derived.Defers
import Derived.Recover
import Derived.Test.YtgkjcimgghflmaaGreatDoorYPw3
import Derived.Test.YtgkjcimgghflmaaGreatDoorYPrn
namespace Go.Proofs.YtgkjcimgghflmaaGreatDoor
open Go.RowKit Go.Shelf
attribute [local go_sem] Oper.semAt_some
/-- The deferred function, where nothing went wrong. -/
theorem catch_idle (x y z : Addr) (w : World) :
    CallsD Tryz.prog 31 #[.pointer (some x), .pointer (some y), .pointer (some z)] .returning w fun e u' w' => e = .returned (.tuple #[]) ∧ u' = .returning ∧ w' = w := by
  refine callsD_of_wpS Tryz.func31 rfl fun c₀ cs hu => ?_
  apply wpS_seq
  apply wpS_region
  simp [wpOpsS, go_sem, recoverD, hu, Tryz.ntmps31, Exit.thenS]
  apply wpS_seq
  apply wpS_seq
  apply wpS_region
  simp [wpOpsS, go_sem, Exit.thenS]
  refine wpS_cond (t := true) (by simp [Act.eval, Array.replicate]) ?_
  simp only [if_true]
  refine wpS_of_wp (wp_ret ?_)
  exact ⟨rfl, .returning, by rw [← hu], _, by simp [results, Tryz.results31], rfl, rfl, rfl⟩
/-- The results are laid, and all else below stands. -/
structure Laid (w : World) (g0 g1 g2 : Nat) (wh er : Int) (w' : World) : Prop where
  n : w'.heap[g0]? = some (.cells zero5 27 (0, 0))
  a : w'.heap[g1]? = some (.cells #[.int .i64 wh] 3 (0, 0))
  e : w'.heap[g2]? = some (.cells #[.int .i64 er] 28 (0, 0))
  below : ∀ B, B ≤ g0 → B ≤ g1 → B ≤ g2 → B ≤ w.heap.size → Below B w w'
theorem tm22 (a b c v : Value) : #[a, b, c] ++ ((Array.replicate 19 undef).setIfInBounds 3 v).setIfInBounds 0 v = #[a, b, c, v, undef, undef, v, undef, undef, undef, undef, undef, undef, undef, undef, undef, undef, undef, undef, undef, undef, undef] := by
  apply Array.toList_inj.1
  simp [List.replicate]
theorem laid_of {w w1 : World} {g0 g1 g2 : Nat} {wh er : Int} {d0 d1 d2 d3 d4 : Value} (h01 : ¬ g0 = g1) (h02 : ¬ g0 = g2) (h12 : ¬ g1 = g2) (hB : Below w.heap.size w w1)
    (hn : w1.heap[g0]? = some (.cells #[d0, d1, d2, d3, d4] 27 (0, 0))) (ha : w1.heap[g1]? = some (.cells #[.int .i64 0] 3 (0, 0))) (he : w1.heap[g2]? = some (.cells #[.int .i64 0] 28 (0, 0))) :
    Laid w g0 g1 g2 wh er (((set5 w1 g0 (.int .i64 0) (.int .i64 0) (.string ⟨#[]⟩) (.int .i64 0) (.slice none 0 0)).setCell ⟨g1, 0, none⟩ (.int .i64 wh)).setCell ⟨g2, 0, none⟩ (.int .i64 er)).drew := by
  have hb : ∀ B, B ≤ g0 → B ≤ g1 → B ≤ g2 → B ≤ w.heap.size → Below B w (((set5 w1 g0 (.int .i64 0) (.int .i64 0) (.string ⟨#[]⟩) (.int .i64 0) (.slice none 0 0)).setCell ⟨g1, 0, none⟩ (.int .i64 wh)).setCell ⟨g2, 0, none⟩ (.int .i64 er)) := fun B h0 h1 h2 h3 =>
    ((Below.set5 (hB.mono h3) h0 _ _ _ _ _).setCell (p := ⟨g1, 0, none⟩) h1 _).setCell (p := ⟨g2, 0, none⟩) h2 _
  have n1 := set5_same (.int .i64 0) (.int .i64 0) (.string ⟨#[]⟩) (.int .i64 0) (.slice none 0 0) hn
  have a1 := (set5_other (w := w1) (b := g0) (.int .i64 0) (.int .i64 0) (.string ⟨#[]⟩) (.int .i64 0) (.slice none 0 0) (fun e => h01 e.symm)).trans ha
  have e1 := (set5_other (w := w1) (b := g0) (.int .i64 0) (.int .i64 0) (.string ⟨#[]⟩) (.int .i64 0) (.slice none 0 0) (fun e => h02 e.symm)).trans he
  generalize set5 w1 g0 (.int .i64 0) (.int .i64 0) (.string ⟨#[]⟩) (.int .i64 0) (.slice none 0 0) = w2 at *
  have n2 := (heap_setCell_other w2 ⟨g1, 0, none⟩ g0 (.int .i64 wh) h01).trans n1
  have a2 := heap_setCell_same w2 g1 0 _ _ (.int .i64 wh) a1
  have e2 := (heap_setCell_other w2 ⟨g1, 0, none⟩ g2 (.int .i64 wh) (fun e => h12 e.symm)).trans e1
  generalize w2.setCell ⟨g1, 0, none⟩ (.int .i64 wh) = w3 at *
  exact ⟨(heap_setCell_other w3 ⟨g2, 0, none⟩ g0 (.int .i64 er) h02).trans n2, (heap_setCell_other w3 ⟨g2, 0, none⟩ g1 (.int .i64 er) h12).trans a2, heap_setCell_same w3 g2 0 _ _ (.int .i64 er) e2, fun B h0 h1 h2 h3 => (hb B h0 h1 h2 h3).drew⟩
theorem fault_is (wh er : Int) (w : World) : (Instr.typeAssert (faultV wh er) 20 63 true).run Tryz.prog w = .ok (.tuple #[.agg #[.int .i64 wh, .int .i64 er], .bool true]) w := by kernel_rfl
theorem fault_end (g0 g1 g2 : Nat) (wh er : Int) (w w' : World) (c₀ : Frame) (cs : List Frame) (act : Act) (hd : act.defers = []) (h : Laid w g0 g1 g2 wh er w') :
    bodyPostS Tryz.prog Tryz.f31 c₀ cs (fun e u' w' => e = .returned (.tuple #[]) ∧ u' = .panicking ({ v := faultV wh er, recovered := true } :: []) ∧ Laid w g0 g1 g2 wh er w') .normal act ({ c₀ with mode := .panicking ({ v := faultV wh er, recovered := true } :: []) } :: cs) w' :=
  ⟨hd, _, rfl, .tuple #[], results_none Tryz.results31 _ _ _, rfl, rfl, h⟩
set_option maxRecDepth 100000 in
set_option maxHeartbeats 4000000 in
/-- The deferred function, behind a fault: it lays the results. -/
theorem catch_fault (g0 g1 g2 : Nat) (wh er : Int) (d0 d1 d2 d3 d4 : Value) (w : World) (h01 : ¬ g0 = g1) (h02 : ¬ g0 = g2) (h12 : ¬ g1 = g2)
    (hn : w.heap[g0]? = some (.cells #[d0, d1, d2, d3, d4] 27 (0, 0))) (ha : w.heap[g1]? = some (.cells #[.int .i64 0] 3 (0, 0))) (he : w.heap[g2]? = some (.cells #[.int .i64 0] 28 (0, 0))) :
    CallsD Tryz.prog 31 #[.pointer (some ⟨g0, 0, none⟩), .pointer (some ⟨g1, 0, none⟩), .pointer (some ⟨g2, 0, none⟩)] (.panicking ({ v := faultV wh er, recovered := false } :: [])) w fun e u' w' =>
      e = .returned (.tuple #[]) ∧ u' = .panicking ({ v := faultV wh er, recovered := true } :: []) ∧ Laid w g0 g1 g2 wh er w' := by
  have hB := (Below.refl w.heap.size w).alloc (Nat.le_refl _) (.cells #[.int .i64 wh, .int .i64 er] 63)
  have l0 : ¬ w.heap.size = g0 := Nat.ne_of_gt (Array.getElem?_eq_some_iff.1 hn).1
  have l1 : ¬ w.heap.size = g1 := Nat.ne_of_gt (Array.getElem?_eq_some_iff.1 ha).1
  have l2 : ¬ w.heap.size = g2 := Nat.ne_of_gt (Array.getElem?_eq_some_iff.1 he).1
  have hn1 := (hB.block _ (Array.getElem?_eq_some_iff.1 hn).1).trans hn
  have ha1 := (hB.block _ (Array.getElem?_eq_some_iff.1 ha).1).trans ha
  have he1 := (hB.block _ (Array.getElem?_eq_some_iff.1 he).1).trans he
  have hf1 := World.alloc_heap_new w (.cells #[.int .i64 wh, .int .i64 er] 63)
  have ta := fault_is wh er
  refine callsD_of_wpS Tryz.func31 rfl fun c₀ cs hu => ?_
  apply wpS_seq
  apply wpS_region
  simp [wpOpsS, go_sem, recoverD, hu, Tryz.ntmps31, Exit.thenS]
  refine wpS_of_wp ?_
  rw [tm22]
  have HB := Lib.hid hB
  clear hn ha he hB
  go_upto_region 3 with fail
  generalize w.alloc (.cells #[.int .i64 wh, .int .i64 er] 63) = w1 at *
  have HL := Lib.hid (laid_of (wh := wh) (er := er) h01 h02 h12 HB.out hn1 ha1 he1)
  generalize w.heap.size = fb at *
  obtain ⟨y0, y1, y2, y3, y4, z0, z1, z2, z3, z4⟩ := box_facts hn1
  have a0 : w1.cell? ⟨g1, 0, none⟩ = some (.int .i64 0) := cell_row ha1 rfl
  have e0 : w1.cell? ⟨g2, 0, none⟩ = some (.int .i64 0) := cell_row he1 rfl
  have b0 := Lib.frozen_of_heap ha1 0
  have b1 := Lib.frozen_of_heap he1 0
  have f0 : w1.cell? ⟨fb, 0, none⟩ = some (.int .i64 wh) := cell_row hf1 rfl
  have f1 : w1.cell? ⟨fb, 1, none⟩ = some (.int .i64 er) := cell_row hf1 rfl
  go_wp2_with fail
  go_region
  all_goals exact fault_end g0 g1 g2 wh er w _ c₀ cs _ rfl HL.out
end Go.Proofs.YtgkjcimgghflmaaGreatDoor
namespace Go.Proofs.YtgkjcimgghflmaaGreatDoor
open Go.RowKit Go.Shelf
attribute [local go_sem] Oper.semAt_some
/-- The three results' blocks. -/
def res3 (W : World) : World := ((W.alloc (.cells zero5 27)).alloc (.cells #[.int .i64 0] 3)).alloc (.cells #[.int .i64 0] 28)
structure R3 (p : Nat) (W : World) (d0 d1 d2 d3 d4 : Value) (w : World) : Prop where
  fr : Fr p W w
  px : p < W.heap.size
  n : w.heap[W.heap.size]? = some (.cells #[d0, d1, d2, d3, d4] 27 (0, 0))
  a : w.heap[W.heap.size + 1]? = some (.cells #[.int .i64 0] 3 (0, 0))
  e : w.heap[W.heap.size + 1 + 1]? = some (.cells #[.int .i64 0] 28 (0, 0))
abbrev R30 (p : Nat) (W w : World) : Prop := R3 p W (.int .i64 0) (.int .i64 0) (.string ⟨#[]⟩) (.int .i64 0) (.slice none 0 0) w
theorem R3.step {p : Nat} {W w w' : World} {d0 d1 d2 d3 d4 : Value} (h : R3 p W d0 d1 d2 d3 d4 w) (hf : Fr p w w') : R3 p W d0 d1 d2 d3 d4 w' :=
  have := h.px
  ⟨h.fr.trans hf, h.px, hf.at h.n (by omega), hf.at h.a (by omega), hf.at h.e (by omega)⟩
theorem R3.start {p : Nat} {W : World} (h : p < W.heap.size) : R30 p W (res3 W) := by
  have s1 : (W.alloc (.cells zero5 27)).heap.size = W.heap.size + 1 := by simp
  have s2 : ((W.alloc (.cells zero5 27)).alloc (.cells #[.int .i64 0] 3)).heap.size = W.heap.size + 1 + 1 := by simp
  have b1 := (Below.refl W.heap.size W).alloc (Nat.le_refl _) (.cells zero5 27)
  have b2 := (Below.refl (W.alloc (.cells zero5 27)).heap.size (W.alloc (.cells zero5 27))).alloc (Nat.le_refl _) (.cells #[.int .i64 0] 3)
  have b3 := (Below.refl ((W.alloc (.cells zero5 27)).alloc (.cells #[.int .i64 0] 3)).heap.size ((W.alloc (.cells zero5 27)).alloc (.cells #[.int .i64 0] 3))).alloc (Nat.le_refl _) (.cells #[.int .i64 0] 28)
  refine ⟨((Fr.of b1).trans (Fr.of b2)).trans (Fr.of b3), h, (b3.block _ (by omega)).trans ((b2.block _ (by omega)).trans (World.alloc_heap_new W _)), ?_, ?_⟩
  · have := World.alloc_heap_new (W.alloc (.cells zero5 27)) (.cells #[.int .i64 0] 3)
    rw [s1] at this
    exact (b3.block _ (by omega)).trans this
  · have := World.alloc_heap_new ((W.alloc (.cells zero5 27)).alloc (.cells #[.int .i64 0] 3)) (.cells #[.int .i64 0] 28)
    rw [s2] at this
    exact this
theorem res3_below (W : World) : Below W.heap.size W (res3 W) := (((Below.refl W.heap.size W).alloc (Nat.le_refl _) _).alloc (by simp) _).alloc (by simp; omega) _
theorem res3_size (W : World) : (res3 W).heap.size = W.heap.size + 1 + 1 + 1 := by simp [res3]
/-- What whole hands back. -/
def WhP (p : Nat) (W : World) : PR → Ending → World → Prop
  | .ok t _, e, W' => ∃ A cap, e = .returned (.tuple #[nv t.op t.so t.nm t.nu (.slice A t.ks.length cap), .int .i64 0, .int .i64 0]) ∧ Rob W.heap.size W' none A cap t.ks ∧ Fine t ∧ Fr p W W'
  | .err er w, e, W' => e = .returned (.tuple #[nv 0 0 noNm 0 (.slice none 0 0), .int .i64 w, .int .i64 er]) ∧ Fr p W W'
  | .out, _, _ => False
set_option maxRecDepth 100000 in
set_option maxHeartbeats 4000000 in
theorem whole_err (p : Nat) (s : ByteArray) (a : Nat) (er : Int) (wh : Nat) (W : World) (h : Sca W p s a (some 0)) (hE : Env W p)
    (c : ∀ W', Sca W' p s a (some 0) → Env W' p → Calls Tryz.prog 32 #[.pointer (some ⟨p, 0, none⟩)] W' (Ans p s 0 W' (.err er wh))) :
    Calls Tryz.prog 18 #[.pointer (some ⟨p, 0, none⟩)] W (WhP p W (.err er wh)) := by
  have hb := res3_below W
  have X1 := Lib.hid (R3.start h.lt)
  have c1 := c _ (h.later hb) (hE.later hb)
  have hm := hmf
  clear h hE c hb
  go_enter_defers Tryz.func18, Tryz.ntmps18
  go_upto_region 1 with fail
  change Code.wp _ _ _ _ (res3 W)
  generalize res3 W = w1 at *
  go_wp2_with fail
  refine c1.mono ?_
  rintro e w2 ⟨rfl, f2⟩
  have X2 := Lib.hid (X1.out.step f2)
  clear f2 c1 X1
  go_wp2_with fail
  refine leaves_cons (f := 31) (args := #[.pointer (some ⟨W.heap.size, 0, none⟩), .pointer (some ⟨W.heap.size + 1, 0, none⟩), .pointer (some ⟨W.heap.size + 1 + 1, 0, none⟩)]) (by simp) (by simp [go_sem]) ?_
  refine (catch_fault W.heap.size (W.heap.size + 1) (W.heap.size + 1 + 1) wh er _ _ _ _ _ _ (by omega) (by omega) (by omega) X2.out.n X2.out.a X2.out.e).mono ?_
  rintro e u' w9 ⟨rfl, rfl, hl⟩
  obtain ⟨y0, y1, y2, y3, y4, _, _, _, _, _⟩ := box_facts hl.n
  have a0 : w9.cell? ⟨W.heap.size + 1, 0, none⟩ = some (.int .i64 wh) := cell_row hl.a rfl
  have e0 : w9.cell? ⟨W.heap.size + 1 + 1, 0, none⟩ = some (.int .i64 er) := cell_row hl.e rfl
  have F3 := X2.out.fr.lower (hl.below W.heap.size (Nat.le_refl _) (by omega) (by omega) X2.out.fr.size) (Nat.le_refl _)
  clear X2 hl
  simp only [settle]
  refine ⟨.tuple #[nv 0 0 noNm 0 (.slice none 0 0), .int .i64 wh, .int .i64 er], ?_, rfl, F3⟩
  simp [results, Tryz.results18, go_sem, y0, y1, y2, y3, y4, a0, e0]
  rfl
theorem R3.set {p : Nat} {W w : World} {d0 d1 d2 d3 d4 : Value} (h : R3 p W d0 d1 d2 d3 d4 w) (c0 c1 c2 c3 c4 : Value) : R3 p W c0 c1 c2 c3 c4 (set5 w W.heap.size c0 c1 c2 c3 c4) :=
  ⟨h.fr.set5 (Nat.le_refl _) _ _ _ _ _, h.px, set5_same _ _ _ _ _ h.n, (set5_other _ _ _ _ _ (by omega)).trans h.a, (set5_other _ _ _ _ _ (by omega)).trans h.e⟩
/-- All three results are laid. -/
theorem R3.lay {p : Nat} {W w : World} {d0 d1 d2 d3 d4 : Value} (h : R3 p W d0 d1 d2 d3 d4 w) (c0 c1 c2 c3 c4 : Value) :
    R3 p W c0 c1 c2 c3 c4 (((set5 w W.heap.size c0 c1 c2 c3 c4).setCell ⟨W.heap.size + 1, 0, none⟩ (.int .i64 0)).setCell ⟨W.heap.size + 1 + 1, 0, none⟩ (.int .i64 0)) ∧
    ∀ n0 A cap ks, W.heap.size + 1 + 1 < n0 → Rob n0 w none A cap ks → Rob n0 (((set5 w W.heap.size c0 c1 c2 c3 c4).setCell ⟨W.heap.size + 1, 0, none⟩ (.int .i64 0)).setCell ⟨W.heap.size + 1 + 1, 0, none⟩ (.int .i64 0)) none A cap ks := by
  have h1 := h.set c0 c1 c2 c3 c4
  have r1 : ∀ n0 A cap ks, W.heap.size + 1 + 1 < n0 → Rob n0 w none A cap ks → Rob n0 (set5 w W.heap.size c0 c1 c2 c3 c4) none A cap ks := fun n0 A cap ks hn hr => hr.set5 (by omega) (Nat.le_refl _) _ _ _ _ _
  generalize set5 w W.heap.size c0 c1 c2 c3 c4 = w2 at *
  have hs : ∀ (w : World) (q : Nat) (v : Value) n0 A cap ks, q < n0 → Rob n0 w none A cap ks → Rob n0 (w.setCell ⟨q, 0, none⟩ v) none A cap ks := fun w q v n0 A cap ks hn hr W2 hW => hr W2 fun k k1 k2 k3 => (hW k k1 (by simpa [World.setCell] using k2) k3).trans (heap_setCell_other w ⟨q, 0, none⟩ k v (by simp; omega))
  have a1 := heap_setCell_same w2 (W.heap.size + 1) 0 _ _ (.int .i64 0) h1.a
  have n1 := (heap_setCell_other w2 ⟨W.heap.size + 1, 0, none⟩ W.heap.size (.int .i64 0) (by simp)).trans h1.n
  have e1 := (heap_setCell_other w2 ⟨W.heap.size + 1, 0, none⟩ (W.heap.size + 1 + 1) (.int .i64 0) (by simp)).trans h1.e
  have f1 := h1.fr.setCell' ⟨W.heap.size + 1, 0, none⟩ (by simp) (.int .i64 0)
  have r2 := fun n0 A cap ks hn hr => hs w2 (W.heap.size + 1) (.int .i64 0) n0 A cap ks (by omega) (r1 n0 A cap ks hn hr)
  generalize w2.setCell ⟨W.heap.size + 1, 0, none⟩ (.int .i64 0) = w3 at *
  exact ⟨⟨f1.setCell' ⟨W.heap.size + 1 + 1, 0, none⟩ (by simp; omega) _, h.px, (heap_setCell_other w3 ⟨W.heap.size + 1 + 1, 0, none⟩ W.heap.size _ (by simp; omega)).trans n1, (heap_setCell_other w3 ⟨W.heap.size + 1 + 1, 0, none⟩ (W.heap.size + 1) _ (by simp)).trans a1, heap_setCell_same w3 (W.heap.size + 1 + 1) 0 _ _ _ e1⟩,
    fun n0 A cap ks hn hr => hs w3 _ _ n0 A cap ks hn (r2 n0 A cap ks hn hr)⟩
theorem kd_zero (s : ByteArray) (b : Nat) : (kd s b = 0) ↔ ¬ b < s.size := by
  unfold kd
  by_cases h : b < s.size
  · rw [dif_pos h]
    refine ⟨fun e => ?_, fun e => absurd h e⟩
    split at e
    · cases e
    · split at e <;> cases e
  · rw [dif_neg h]; exact ⟨fun _ => h, fun _ => rfl⟩
set_option maxRecDepth 100000 in
set_option maxHeartbeats 4000000 in
theorem whole_more (p : Nat) (s : ByteArray) (a b : Nat) (t : Nd) (W : World) (h : Sca W p s a (some 0)) (hE : Env W p) (hs : s.size ≤ 9223372036854775000) (hb : b < s.size)
    (c : ∀ W', Sca W' p s a (some 0) → Env W' p → Calls Tryz.prog 32 #[.pointer (some ⟨p, 0, none⟩)] W' (Ans p s 0 W' (.ok t b))) :
    Calls Tryz.prog 18 #[.pointer (some ⟨p, 0, none⟩)] W (WhP p W (.err 20 b)) := by
  have hb3 := res3_below W
  have X1 := Lib.hid (R3.start h.lt)
  have c1 := c _ (h.later hb3) (hE.later hb3)
  have HE0 := Lib.hid hE
  have hm := hmf
  have hk : (kd s b != 0) = true := by simpa using fun e => (kd_zero s b).1 e hb
  clear h hE c hb3
  go_enter_defers Tryz.func18, Tryz.ntmps18
  go_upto_region 1 with fail
  change Code.wp _ _ _ _ (res3 W)
  generalize res3 W = w1 at *
  go_wp2_with fail
  refine c1.mono ?_
  rintro e w2 ⟨A, cap, rfl, hr, hf, f2, hs2⟩
  have X2 := X1.out.step f2
  have X3 := Lib.hid (X2.set (.int .i64 t.op) (.int .i64 t.so) (.string t.nm) (.int .i64 t.nu) (.slice A t.ks.length cap))
  have S3 := Lib.hid (hs2.other (set5_other (w := w2) (b := W.heap.size) (.int .i64 t.op) (.int .i64 t.so) (.string t.nm) (.int .i64 t.nu) (.slice A t.ks.length cap) (Nat.ne_of_lt X2.px)))
  obtain ⟨y0, y1, y2, y3, y4, g0, g1, g2, g3, g4⟩ := box_facts X2.n
  clear f2 c1 X1 hr hf hs2 X2
  go_upto_region 3 with fail
  change Code.wp _ _ _ _ (set5 w2 W.heap.size (.int .i64 t.op) (.int .i64 t.so) (.string t.nm) (.int .i64 t.nu) (.slice A t.ks.length cap))
  generalize set5 w2 W.heap.size (.int .i64 t.op) (.int .i64 t.so) (.string t.nm) (.int .i64 t.nu) (.slice A t.ks.length cap) = w3 at *
  clear y0 y1 y2 y3 y4 g0 g1 g2 g3 g4
  have cp := peek_any p s b (some 0) w3 S3.out hs (HE0.out.fr X3.out.fr).sig
  go_wp2_with fail
  refine cp.mono ?_
  rintro e w4 ⟨rfl, _, f4⟩
  have X4 := Lib.hid ((X3.out.step f4).step (Fr.of ((Below.refl w4.heap.size w4).alloc (Nat.le_refl _) (.cells #[.int .i64 (kd s b), .int .i64 b, .string (bs (T s b))] 41))))
  clear cp f4 X3 S3
  go_wp2_with fail
  refine (refuse_any _ _ _ _).mono ?_
  rintro e w5 ⟨rfl, b5⟩
  have X5 := Lib.hid (X4.out.step (Fr.of b5))
  clear b5 X4
  go_wp2_with fail
  refine leaves_cons (f := 31) (args := #[.pointer (some ⟨W.heap.size, 0, none⟩), .pointer (some ⟨W.heap.size + 1, 0, none⟩), .pointer (some ⟨W.heap.size + 1 + 1, 0, none⟩)]) (by simp) (by simp [go_sem]) ?_
  refine (catch_fault W.heap.size (W.heap.size + 1) (W.heap.size + 1 + 1) b 20 _ _ _ _ _ _ (by omega) (by omega) (by omega) X5.out.n X5.out.a X5.out.e).mono ?_
  rintro e u' w9 ⟨rfl, rfl, hl⟩
  obtain ⟨y0, y1, y2, y3, y4, _, _, _, _, _⟩ := box_facts hl.n
  have a0 : w9.cell? ⟨W.heap.size + 1, 0, none⟩ = some (.int .i64 b) := cell_row hl.a rfl
  have e0 : w9.cell? ⟨W.heap.size + 1 + 1, 0, none⟩ = some (.int .i64 20) := cell_row hl.e rfl
  have F9 := X5.out.fr.lower (hl.below W.heap.size (Nat.le_refl _) (by omega) (by omega) X5.out.fr.size) (Nat.le_refl _)
  clear X5 hl
  simp only [settle]
  refine ⟨.tuple #[nv 0 0 noNm 0 (.slice none 0 0), .int .i64 b, .int .i64 20], ?_, rfl, F9⟩
  simp [results, Tryz.results18, go_sem, y0, y1, y2, y3, y4, a0, e0]
  rfl
set_option maxRecDepth 100000 in
set_option maxHeartbeats 4000000 in
theorem whole_ok (p : Nat) (s : ByteArray) (a b : Nat) (t : Nd) (W : World) (h : Sca W p s a (some 0)) (hE : Env W p) (hs : s.size ≤ 9223372036854775000) (hb : ¬ b < s.size)
    (c : ∀ W', Sca W' p s a (some 0) → Env W' p → Calls Tryz.prog 32 #[.pointer (some ⟨p, 0, none⟩)] W' (Ans p s 0 W' (.ok t b))) :
    Calls Tryz.prog 18 #[.pointer (some ⟨p, 0, none⟩)] W (WhP p W (.ok t b)) := by
  have hb3 := res3_below W
  have hsz := res3_size W
  have X1 := Lib.hid (R3.start h.lt)
  have c1 := c _ (h.later hb3) (hE.later hb3)
  have HE0 := Lib.hid hE
  have hm := hmf
  have hk : (kd s b != 0) = false := by rw [(kd_zero s b).2 hb]; rfl
  clear h hE c hb3
  go_enter_defers Tryz.func18, Tryz.ntmps18
  go_upto_region 1 with fail
  change Code.wp _ _ _ _ (res3 W)
  generalize res3 W = w1 at *
  go_wp2_with fail
  refine c1.mono ?_
  rintro e w2 ⟨A, cap, rfl, hr, hf, f2, hs2⟩
  have X2 := X1.out.step f2
  have X3 := Lib.hid (X2.set (.int .i64 t.op) (.int .i64 t.so) (.string t.nm) (.int .i64 t.nu) (.slice A t.ks.length cap))
  have S3 := Lib.hid (hs2.other (set5_other (w := w2) (b := W.heap.size) (.int .i64 t.op) (.int .i64 t.so) (.string t.nm) (.int .i64 t.nu) (.slice A t.ks.length cap) (Nat.ne_of_lt X2.px)))
  have RB3 := Lib.hid (hr.set5 (n1 := w1.heap.size) (b := W.heap.size) (by omega) (Nat.le_refl _) (.int .i64 t.op) (.int .i64 t.so) (.string t.nm) (.int .i64 t.nu) (.slice A t.ks.length cap))
  have HF := Lib.hid hf
  have hp1 : p < w1.heap.size := by have := X2.px; omega
  obtain ⟨y0, y1, y2, y3, y4, g0, g1, g2, g3, g4⟩ := box_facts X2.n
  clear f2 c1 X1 hr hf hs2 X2
  go_upto_region 3 with fail
  change Code.wp _ _ _ _ (set5 w2 W.heap.size (.int .i64 t.op) (.int .i64 t.so) (.string t.nm) (.int .i64 t.nu) (.slice A t.ks.length cap))
  generalize set5 w2 W.heap.size (.int .i64 t.op) (.int .i64 t.so) (.string t.nm) (.int .i64 t.nu) (.slice A t.ks.length cap) = w3 at *
  clear y0 y1 y2 y3 y4 g0 g1 g2 g3 g4
  have cp := peek_any p s b (some 0) w3 S3.out hs (HE0.out.fr X3.out.fr).sig
  go_wp2_with fail
  refine cp.mono ?_
  rintro e w4 ⟨rfl, _, f4⟩
  have hB := (Below.refl w4.heap.size w4).alloc (Nat.le_refl _) (.cells #[.int .i64 (kd s b), .int .i64 b, .string (bs (T s b))] 41)
  have X4 := Lib.hid ((X3.out.step f4).step (Fr.of hB))
  have RB4 := Lib.hid ((RB3.out.fr f4 hp1).later hB)
  have TT := Lib.hid (World.alloc_heap_new w4 (.cells #[.int .i64 (kd s b), .int .i64 b, .string (bs (T s b))] 41))
  clear cp f4 X3 S3 RB3 hB
  go_upto_region 4 with fail
  generalize w4.alloc (.cells #[.int .i64 (kd s b), .int .i64 b, .string (bs (T s b))] 41) = w5 at *
  generalize w4.heap.size = tb at *
  obtain ⟨t0, t1, t2, _, _, _⟩ := boxT_facts TT.out
  obtain ⟨y0, y1, y2, y3, y4, g0, g1, g2, g3, g4⟩ := box_facts X4.out.n
  have a0 : w5.cell? ⟨W.heap.size + 1, 0, none⟩ = some (.int .i64 0) := cell_row X4.out.a rfl
  have e0 : w5.cell? ⟨W.heap.size + 1 + 1, 0, none⟩ = some (.int .i64 0) := cell_row X4.out.e rfl
  have fa := Lib.frozen_of_heap X4.out.a 0
  have fe := Lib.frozen_of_heap X4.out.e 0
  go_wp2_with fail
  have HL := X4.out.lay (.int .i64 t.op) (.int .i64 t.so) (.string t.nm) (.int .i64 t.nu) (.slice A t.ks.length cap)
  have RB := Lib.hid (HL.2 _ _ _ _ (by omega) RB4.out)
  have X6 := Lib.hid HL.1
  clear HL y0 y1 y2 y3 y4 g0 g1 g2 g3 g4 a0 e0 fa fe t0 t1 t2 X4 RB4 TT
  change bodyPostD _ _ _ _ _ (((set5 w5 W.heap.size (.int .i64 t.op) (.int .i64 t.so) (.string t.nm) (.int .i64 t.nu) (.slice A t.ks.length cap)).setCell ⟨W.heap.size + 1, 0, none⟩ (.int .i64 0)).setCell ⟨W.heap.size + 1 + 1, 0, none⟩ (.int .i64 0))
  generalize ((set5 w5 W.heap.size (.int .i64 t.op) (.int .i64 t.so) (.string t.nm) (.int .i64 t.nu) (.slice A t.ks.length cap)).setCell ⟨W.heap.size + 1, 0, none⟩ (.int .i64 0)).setCell ⟨W.heap.size + 1 + 1, 0, none⟩ (.int .i64 0) = w6 at *
  refine leaves_cons (f := 31) (args := #[.pointer (some ⟨W.heap.size, 0, none⟩), .pointer (some ⟨W.heap.size + 1, 0, none⟩), .pointer (some ⟨W.heap.size + 1 + 1, 0, none⟩)]) (by simp) (by simp [go_sem]) ?_
  refine (catch_idle _ _ _ w6).mono ?_
  rintro e u' w9 ⟨rfl, rfl, rfl⟩
  obtain ⟨y0, y1, y2, y3, y4, _, _, _, _, _⟩ := box_facts X6.out.n
  have a0 : w9.cell? ⟨W.heap.size + 1, 0, none⟩ = some (.int .i64 0) := cell_row X6.out.a rfl
  have e0 : w9.cell? ⟨W.heap.size + 1 + 1, 0, none⟩ = some (.int .i64 0) := cell_row X6.out.e rfl
  simp only [settle]
  refine ⟨.tuple #[nv t.op t.so t.nm t.nu (.slice A t.ks.length cap), .int .i64 0, .int .i64 0], ?_, A, cap, rfl, RB.out.lower (by omega), HF.out, X6.out.fr⟩
  clear RB X6 HF
  simp [results, Tryz.results18, go_sem, y0, y1, y2, y3, y4, a0, e0]
/-- whole, whatever the text. -/
theorem whole_any (p : Nat) (s : ByteArray) (W : World) (h : Sca W p s (bl s 0) (some 0)) (hE : Env W p) (hs : s.size ≤ 9223372036854775000) (f : Nat) (hf : 32 * s.size + 16 < f) :
    Calls Tryz.prog 18 #[.pointer (some ⟨p, 0, none⟩)] W (WhP p W (PW s f)) := by
  have ha := h.le
  have hf1 : 32 * (s.size - bl s 0) + rank .form < f := by simp [rank]; omega
  have hen := enough s f .form 0 (bl s 0) ha hf1
  have c : ∀ W', Sca W' p s (bl s 0) (some 0) → Env W' p → Calls Tryz.prog 32 #[.pointer (some ⟨p, 0, none⟩)] W' (Ans p s 0 W' (PA s f .form 0 (bl s 0))) := fun W' h' hE' => formula_any s hs f p 0 _ W' h' hE' (by omega) hf1
  unfold PW
  cases hq : PA s f .form 0 (bl s 0) with
  | out => rw [hq] at hen; exact hen.elim
  | err er wh => rw [hq] at c; exact whole_err p s _ er wh W h hE c
  | ok t b =>
    rw [hq] at c
    show Calls Tryz.prog 18 _ W (WhP p W (if b < s.size then _ else _))
    by_cases hb : b < s.size
    · rw [if_pos hb]; exact whole_more p s _ b t W h hE hs hb c
    · rw [if_neg hb]; exact whole_ok p s _ b t W h hE hs hb c
end Go.Proofs.YtgkjcimgghflmaaGreatDoor
namespace Go.Proofs.YtgkjcimgghflmaaGreatDoor
open Go.RowKit Go.Shelf
attribute [local go_sem] Oper.semAt_some
/-- The faults that there are. -/
def ErrOk : PR → Prop
  | .err e _ => e = 2 ∨ e = 20
  | _ => True
theorem ErrOk.bind {r : PR} {k : Nd → Nat → PR} (h : ErrOk r) (hk : ∀ t a, ErrOk (k t a)) : ErrOk (r.bind k) := by
  cases r with
  | ok t a => exact hk t a
  | err e w => exact h
  | out => trivial
theorem ErrOk.opn {o : Nat} {r : PR} (h : ErrOk r) : ErrOk (opn o r) := by
  unfold Go.Proofs.YtgkjcimgghflmaaGreatDoor.opn
  split
  · exact .inl rfl
  · exact h
theorem ErrOk.want {s : ByteArray} {t : List UInt8} {a : Nat} {k : Nat → PR} (h : ∀ a, ErrOk (k a)) : ErrOk (want s t a k) := by
  unfold Go.Proofs.YtgkjcimgghflmaaGreatDoor.want
  split
  · exact h _
  · exact .inr rfl
theorem ErrOk.number {s : ByteArray} {a : Nat} {k : Nat → Nat → PR} (h : ∀ n a, ErrOk (k n a)) : ErrOk (number s a k) := by
  unfold Go.Proofs.YtgkjcimgghflmaaGreatDoor.number
  split
  · exact .inr rfl
  · split
    · exact .inr rfl
    · exact h _ _
theorem errs (s : ByteArray) : ∀ (f : Nat) (nt : NT) (o a : Nat), ErrOk (PA s f nt o a) := by
  intro f
  induction f with
  | zero => intros; trivial
  | succ f ih =>
    intro nt o a
    cases nt with
    | form =>
      rw [PA]
      refine (ih _ _ _).bind fun t b => ?_
      split
      · exact ErrOk.opn ((ih _ _ _).bind fun _ _ => trivial)
      · trivial
    | imp =>
      rw [PA]
      refine (ih _ _ _).bind fun t b => ?_
      split
      · exact ErrOk.opn ((ih _ _ _).bind fun _ _ => trivial)
      · trivial
    | or => rw [PA]; exact (ih _ _ _).bind fun t b => ih _ _ _
    | orL l =>
      rw [PA]
      split
      · exact (ih _ _ _).bind fun t b => ih _ _ _
      · trivial
    | and => rw [PA]; exact (ih _ _ _).bind fun t b => ih _ _ _
    | andL l =>
      rw [PA]
      split
      · exact (ih _ _ _).bind fun t b => ih _ _ _
      · trivial
    | not =>
      rw [PA]
      split
      · exact ErrOk.opn ((ih _ _ _).bind fun _ _ => trivial)
      · exact ih _ _ _
    | cmp =>
      rw [PA]
      refine (ih _ _ _).bind fun t b => ?_
      split
      · exact (ih _ _ _).bind fun _ _ => trivial
      · trivial
    | sum => rw [PA]; exact (ih _ _ _).bind fun t b => ih _ _ _
    | sumL l =>
      rw [PA]
      split
      · exact (ih _ _ _).bind fun t b => ih _ _ _
      · split
        · exact (ih _ _ _).bind fun t b => ih _ _ _
        · trivial
    | una =>
      rw [PA]
      split
      · split
        · exact ErrOk.number fun _ _ => trivial
        · exact ErrOk.opn ((ih _ _ _).bind fun _ _ => trivial)
      · split
        · refine ErrOk.number fun n b => ?_
          split
          · exact ErrOk.opn ((ih _ _ _).bind fun _ _ => trivial)
          · trivial
        · exact ih _ _ _
    | prim =>
      rw [prim_eq]
      split
      · exact ErrOk.opn ((ih _ _ _).bind fun _ _ => ErrOk.want fun _ => trivial)
      · cases wordT (T s a) with
        | some op =>
          show ErrOk (if wrdN op = 0 then _ else _)
          split
          · trivial
          · exact ErrOk.want fun _ => ErrOk.opn (ih _ _ _)
        | none =>
          show ErrOk (if nameB (bs (T s a)) = true then _ else _)
          split
          · split
            · refine ErrOk.opn ?_
              split
              · trivial
              · exact ih _ _ _
            · trivial
          · exact .inr rfl
    | app nm ks =>
      rw [PA]
      split
      · exact .inr rfl
      · refine (ih _ _ _).bind fun k b => ?_
        split
        · exact ih _ _ _
        · exact ErrOk.want fun _ => trivial
    | word op n ks =>
      rw [PA]
      split
      · exact ErrOk.want fun _ => trivial
      · split
        · exact (ih _ _ _).bind fun k b => ih _ _ _
        · exact ErrOk.want fun _ => (ih _ _ _).bind fun k b => ih _ _ _
theorem errs_whole (s : ByteArray) (f : Nat) : ErrOk (PW s f) := by
  unfold PW
  refine (errs s f _ _ _).bind fun t b => ?_
  split
  · exact .inr rfl
  · trivial
end Go.Proofs.YtgkjcimgghflmaaGreatDoor
namespace Go.Proofs.YtgkjcimgghflmaaGreatDoor
open Go.RowKit Go.Shelf
attribute [local go_sem] Oper.semAt_some
/-- The answer of Parse. -/
noncomputable def parR (s : ByteArray) : PR := if 60000 < s.size then .err 2 0 else match PW s (32 * s.size + 17) with
  | .ok t b => if limB (preN 1 t) = true then .ok t b else .err 2 0
  | r => r
/-- What Parse hands back. -/
def ParP (W : World) : PR → Ending → World → Prop
  | .ok t _, e, W' => ∃ A cap, e = .returned (.tuple #[nv t.op t.so t.nm t.nu (.slice A t.ks.length cap), .int .i64 0, .int .i64 0]) ∧ Rob W.heap.size W' none A cap t.ks ∧ Fine t ∧ Below W.heap.size W W'
  | .err er w, e, W' => e = .returned (.tuple #[nv 0 0 noNm 0 (.slice none 0 0), .int .i64 w, .int .i64 er]) ∧ Below W.heap.size W W'
  | .out, _, _ => False
set_option maxRecDepth 100000 in
set_option maxHeartbeats 4000000 in
theorem parse_long (s : ByteArray) (W : World) (h : 60000 < s.size) : Calls Tryz.prog 7 #[.string s] W (ParP W (.err 2 0)) := by
  have h1 : (60000 : Int) < (s.size : Int) := by omega
  have hB := (Below.refl W.heap.size W).alloc (Nat.le_refl _) (.cells zero5 27)
  clear h
  go_enter Tryz.func7, Tryz.ntmps7
  go_wp2_with fail
  exact bodyPost_ret (v := .tuple #[nv 0 0 noNm 0 (.slice none 0 0), .int .i64 0, .int .i64 2]) (by simp [results, Tryz.results7, go_sem]; rfl) rfl ⟨rfl, hB⟩
/-- The block of the first result. -/
structure ResB (W : World) (d0 d1 d2 d3 d4 : Value) (w : World) : Prop where
  below : Below W.heap.size W w
  n : w.heap[W.heap.size]? = some (.cells #[d0, d1, d2, d3, d4] 27 (0, 0))
theorem ResB.later {W w w' : World} {d0 d1 d2 d3 d4 : Value} (h : ResB W d0 d1 d2 d3 d4 w) (hb : Below w.heap.size w w') : ResB W d0 d1 d2 d3 d4 w' :=
  ⟨h.below.trans (hb.mono h.below.size), (hb.block _ (Array.getElem?_eq_some_iff.1 h.n).1).trans h.n⟩
theorem ResB.set {W w : World} {d0 d1 d2 d3 d4 : Value} (h : ResB W d0 d1 d2 d3 d4 w) (c0 c1 c2 c3 c4 : Value) : ResB W c0 c1 c2 c3 c4 (set5 w W.heap.size c0 c1 c2 c3 c4) :=
  ⟨Below.set5 h.below (Nat.le_refl _) _ _ _ _ _, set5_same _ _ _ _ _ h.n⟩
/-- The parser's own block. -/
def own (s : ByteArray) (W : World) : World := (W.alloc (.cells zero5 27)).alloc (.cells #[.string s, .int .i64 0, .int .i64 0, .int .i64 0, .string ⟨#[]⟩, .bool false, .int .i64 0] 45)
structure Own (s : ByteArray) (W w : World) : Prop where
  r : ResB W (.int .i64 0) (.int .i64 0) (.string ⟨#[]⟩) (.int .i64 0) (.slice none 0 0) w
  sca : Sca w (W.heap.size + 1) s (bl s 0) (some 0)
  env : Env w (W.heap.size + 1)
  lt : W.heap.size + 1 < w.heap.size
theorem own_ok (s : ByteArray) (W : World) (hT : Tabs W) (hS : SigTab W) : Own s W (own s W) := by
  have s1 : (W.alloc (.cells zero5 27)).heap.size = W.heap.size + 1 := by simp
  have b1 := (Below.refl W.heap.size W).alloc (Nat.le_refl _) (.cells zero5 27)
  have b2 := (Below.refl (W.alloc (.cells zero5 27)).heap.size (W.alloc (.cells zero5 27))).alloc (Nat.le_refl _) (.cells #[.string s, .int .i64 0, .int .i64 0, .int .i64 0, .string ⟨#[]⟩, .bool false, .int .i64 0] 45)
  have hb : Below W.heap.size W (own s W) := b1.trans (b2.mono (by omega))
  obtain ⟨ty, fr, hk⟩ := block_of_var sig_place hS
  have hlt : 2 < W.heap.size := (Array.getElem?_eq_some_iff.1 hk).1
  refine ⟨⟨hb, (b2.block _ (by omega)).trans (World.alloc_heap_new W _)⟩, ⟨0, 0, 0, ⟨#[]⟩, false, ?_, (bl_le (Nat.zero_le _)).2, .inr ⟨rfl, Nat.zero_le _, rfl⟩⟩, ⟨hT.later hb, hS.later hb, by omega, by omega, by omega⟩, by simp [own]⟩
  have := World.alloc_heap_new (W.alloc (.cells zero5 27)) (.cells #[.string s, .int .i64 0, .int .i64 0, .int .i64 0, .string ⟨#[]⟩, .bool false, .int .i64 0] 45)
  rw [s1] at this
  exact this
set_option maxRecDepth 100000 in
set_option maxHeartbeats 4000000 in
theorem parse_err (s : ByteArray) (W : World) (er : Int) (wh : Nat) (h : ¬ 60000 < s.size) (hT : Tabs W) (hS : SigTab W) (her : (er == 0) = false)
    (c : ∀ w, Sca w (W.heap.size + 1) s (bl s 0) (some 0) → Env w (W.heap.size + 1) → Calls Tryz.prog 18 #[.pointer (some ⟨W.heap.size + 1, 0, none⟩)] w (WhP (W.heap.size + 1) w (.err er wh))) :
    Calls Tryz.prog 7 #[.string s] W (ParP W (.err er wh)) := by
  have h1 : ¬ (60000 : Int) < (s.size : Int) := by omega
  have X := own_ok s W hT hS
  have cw := c _ X.sca X.env
  have R := Lib.hid X.r
  have hlt := X.lt
  clear h hT hS c X
  go_enter Tryz.func7, Tryz.ntmps7
  go_upto_region 4 with fail
  change Code.wp _ _ _ _ (own s W)
  generalize own s W = w1 at *
  go_wp2_with fail
  refine cw.mono ?_
  rintro e w2 ⟨rfl, f2⟩
  have R2 : ResB W (.int .i64 0) (.int .i64 0) (.string ⟨#[]⟩) (.int .i64 0) (.slice none 0 0) w2 := ⟨R.out.below.trans (f2.below (by omega) R.out.below.size), f2.at R.out.n (by omega)⟩
  obtain ⟨y0, y1, y2, y3, y4, g0, g1, g2, g3, g4⟩ := box_facts R2.n
  have R3 := Lib.hid (R2.set (.int .i64 0) (.int .i64 0) (.string noNm) (.int .i64 0) (.slice none 0 0))
  clear f2 R2 R cw
  go_upto_region 5 with fail
  change Code.wp _ _ _ _ (set5 w2 W.heap.size (.int .i64 0) (.int .i64 0) (.string noNm) (.int .i64 0) (.slice none 0 0))
  generalize set5 w2 W.heap.size (.int .i64 0) (.int .i64 0) (.string noNm) (.int .i64 0) (.slice none 0 0) = w3 at *
  clear y0 y1 y2 y3 y4 g0 g1 g2 g3 g4
  obtain ⟨y0, y1, y2, y3, y4, g0, g1, g2, g3, g4⟩ := box_facts R3.out.n
  have R4 := Lib.hid (R3.out.set (.int .i64 0) (.int .i64 0) (.string noNm) (.int .i64 0) (.slice none 0 0))
  clear R3
  go_wp2_with fail
  clear y0 y1 y2 y3 y4 g0 g1 g2 g3 g4
  change bodyPost _ _ _ _ _ (set5 w3 W.heap.size (.int .i64 0) (.int .i64 0) (.string noNm) (.int .i64 0) (.slice none 0 0))
  generalize set5 w3 W.heap.size (.int .i64 0) (.int .i64 0) (.string noNm) (.int .i64 0) (.slice none 0 0) = w4 at *
  obtain ⟨y0, y1, y2, y3, y4, g0, g1, g2, g3, g4⟩ := box_facts R4.out.n
  have hB := R4.out.below
  clear R4
  exact bodyPost_ret (v := .tuple #[nv 0 0 noNm 0 (.slice none 0 0), .int .i64 wh, .int .i64 er]) (by simp [results, Tryz.results7, go_sem, y0, y1, y2, y3, y4]) rfl ⟨rfl, hB⟩
set_option maxRecDepth 100000 in
set_option maxHeartbeats 4000000 in
theorem parse_ok (s : ByteArray) (W : World) (t : Nd) (b : Nat) (h : ¬ 60000 < s.size) (hT : Tabs W) (hS : SigTab W) (hl : limB (preN 1 t) = true)
    (c : ∀ w, Sca w (W.heap.size + 1) s (bl s 0) (some 0) → Env w (W.heap.size + 1) → Calls Tryz.prog 18 #[.pointer (some ⟨W.heap.size + 1, 0, none⟩)] w (WhP (W.heap.size + 1) w (.ok t b))) :
    Calls Tryz.prog 7 #[.string s] W (ParP W (.ok t b)) := by
  have h1 : ¬ (60000 : Int) < (s.size : Int) := by omega
  have X := own_ok s W hT hS
  have cw := c _ X.sca X.env
  have R := Lib.hid X.r
  have hlt := X.lt
  clear h hT hS c X
  go_enter Tryz.func7, Tryz.ntmps7
  go_upto_region 4 with fail
  change Code.wp _ _ _ _ (own s W)
  generalize own s W = w1 at *
  go_wp2_with fail
  refine cw.mono ?_
  rintro e w2 ⟨A, cap, rfl, hr0, hf, f2⟩
  have R2 : ResB W (.int .i64 0) (.int .i64 0) (.string ⟨#[]⟩) (.int .i64 0) (.slice none 0 0) w2 := ⟨R.out.below.trans (f2.below (by omega) R.out.below.size), f2.at R.out.n (by omega)⟩
  obtain ⟨y0, y1, y2, y3, y4, g0, g1, g2, g3, g4⟩ := box_facts R2.n
  have R3 := Lib.hid (R2.set (.int .i64 t.op) (.int .i64 t.so) (.string t.nm) (.int .i64 t.nu) (.slice A t.ks.length cap))
  have RB3 := Lib.hid (hr0.set5 (n1 := w1.heap.size) (b := W.heap.size) (by omega) (Nat.le_refl _) (.int .i64 t.op) (.int .i64 t.so) (.string t.nm) (.int .i64 t.nu) (.slice A t.ks.length cap))
  have HF := Lib.hid hf
  clear f2 R2 R cw hr0 hf
  go_upto_region 5 with fail
  change Code.wp _ _ _ _ (set5 w2 W.heap.size (.int .i64 t.op) (.int .i64 t.so) (.string t.nm) (.int .i64 t.nu) (.slice A t.ks.length cap))
  generalize set5 w2 W.heap.size (.int .i64 t.op) (.int .i64 t.so) (.string t.nm) (.int .i64 t.nu) (.slice A t.ks.length cap) = w3 at *
  clear y0 y1 y2 y3 y4 g0 g1 g2 g3 g4
  obtain ⟨y0, y1, y2, y3, y4, g0, g1, g2, g3, g4⟩ := box_facts R3.out.n
  have cl := large_any t A cap w3 RB3.out.lies HF.out
  go_wp2_with fail
  refine cl.mono ?_
  rintro e w4 ⟨rfl, b4⟩
  clear cl y0 y1 y2 y3 y4 g0 g1 g2 g3 g4
  have R4 := R3.out.later b4
  have RB4 := Lib.hid (RB3.out.later b4)
  clear R3 RB3 b4
  obtain ⟨y0, y1, y2, y3, y4, g0, g1, g2, g3, g4⟩ := box_facts R4.n
  have R5 := Lib.hid (R4.set (.int .i64 t.op) (.int .i64 t.so) (.string t.nm) (.int .i64 t.nu) (.slice A t.ks.length cap))
  clear R4
  go_wp2_with fail
  have RB5 := Lib.hid (RB4.out.set5 (n1 := w1.heap.size) (b := W.heap.size) (by omega) (Nat.le_refl _) (.int .i64 t.op) (.int .i64 t.so) (.string t.nm) (.int .i64 t.nu) (.slice A t.ks.length cap))
  clear y0 y1 y2 y3 y4 g0 g1 g2 g3 g4 RB4
  change bodyPost _ _ _ _ _ (set5 w4 W.heap.size (.int .i64 t.op) (.int .i64 t.so) (.string t.nm) (.int .i64 t.nu) (.slice A t.ks.length cap))
  generalize set5 w4 W.heap.size (.int .i64 t.op) (.int .i64 t.so) (.string t.nm) (.int .i64 t.nu) (.slice A t.ks.length cap) = w5 at *
  obtain ⟨y0, y1, y2, y3, y4, g0, g1, g2, g3, g4⟩ := box_facts R5.out.n
  have hB := R5.out.below
  have hR := RB5.out.lower (n0 := W.heap.size) (by omega)
  have hF := HF.out
  clear R5 RB5 HF
  exact bodyPost_ret (v := .tuple #[nv t.op t.so t.nm t.nu (.slice A t.ks.length cap), .int .i64 0, .int .i64 0]) (by simp [results, Tryz.results7, go_sem, y0, y1, y2, y3, y4]) rfl ⟨A, cap, rfl, hR, hF, hB⟩
set_option maxRecDepth 100000 in
set_option maxHeartbeats 4000000 in
theorem parse_big (s : ByteArray) (W : World) (t : Nd) (b : Nat) (h : ¬ 60000 < s.size) (hT : Tabs W) (hS : SigTab W) (hl : limB (preN 1 t) = false)
    (c : ∀ w, Sca w (W.heap.size + 1) s (bl s 0) (some 0) → Env w (W.heap.size + 1) → Calls Tryz.prog 18 #[.pointer (some ⟨W.heap.size + 1, 0, none⟩)] w (WhP (W.heap.size + 1) w (.ok t b))) :
    Calls Tryz.prog 7 #[.string s] W (ParP W (.err 2 0)) := by
  have h1 : ¬ (60000 : Int) < (s.size : Int) := by omega
  have X := own_ok s W hT hS
  have cw := c _ X.sca X.env
  have R := Lib.hid X.r
  have hlt := X.lt
  clear h hT hS c X
  go_enter Tryz.func7, Tryz.ntmps7
  go_upto_region 4 with fail
  change Code.wp _ _ _ _ (own s W)
  generalize own s W = w1 at *
  go_wp2_with fail
  refine cw.mono ?_
  rintro e w2 ⟨A, cap, rfl, hr0, hf, f2⟩
  have R2 : ResB W (.int .i64 0) (.int .i64 0) (.string ⟨#[]⟩) (.int .i64 0) (.slice none 0 0) w2 := ⟨R.out.below.trans (f2.below (by omega) R.out.below.size), f2.at R.out.n (by omega)⟩
  obtain ⟨y0, y1, y2, y3, y4, g0, g1, g2, g3, g4⟩ := box_facts R2.n
  have R3 := Lib.hid (R2.set (.int .i64 t.op) (.int .i64 t.so) (.string t.nm) (.int .i64 t.nu) (.slice A t.ks.length cap))
  have RB3 := Lib.hid (hr0.set5 (n1 := w1.heap.size) (b := W.heap.size) (by omega) (Nat.le_refl _) (.int .i64 t.op) (.int .i64 t.so) (.string t.nm) (.int .i64 t.nu) (.slice A t.ks.length cap))
  have HF := Lib.hid hf
  clear f2 R2 R cw hr0 hf
  go_upto_region 5 with fail
  change Code.wp _ _ _ _ (set5 w2 W.heap.size (.int .i64 t.op) (.int .i64 t.so) (.string t.nm) (.int .i64 t.nu) (.slice A t.ks.length cap))
  generalize set5 w2 W.heap.size (.int .i64 t.op) (.int .i64 t.so) (.string t.nm) (.int .i64 t.nu) (.slice A t.ks.length cap) = w3 at *
  clear y0 y1 y2 y3 y4 g0 g1 g2 g3 g4
  obtain ⟨y0, y1, y2, y3, y4, g0, g1, g2, g3, g4⟩ := box_facts R3.out.n
  have cl := large_any t A cap w3 RB3.out.lies HF.out
  go_wp2_with fail
  refine cl.mono ?_
  rintro e w4 ⟨rfl, b4⟩
  clear cl y0 y1 y2 y3 y4 g0 g1 g2 g3 g4
  have R4 := R3.out.later b4
  have RB4 := Lib.hid (RB3.out.later b4)
  clear R3 RB3 b4
  obtain ⟨y0, y1, y2, y3, y4, g0, g1, g2, g3, g4⟩ := box_facts R4.n
  have Z5 := Lib.hid (R4.set (.int .i64 0) (.int .i64 0) (.string ⟨#[]⟩) (.int .i64 0) (.slice none 0 0))
  clear R4 RB4
  go_wp2_with fail
  clear y0 y1 y2 y3 y4 g0 g1 g2 g3 g4
  change bodyPost _ _ _ _ _ (set5 w4 W.heap.size (.int .i64 0) (.int .i64 0) (.string ⟨#[]⟩) (.int .i64 0) (.slice none 0 0))
  generalize set5 w4 W.heap.size (.int .i64 0) (.int .i64 0) (.string ⟨#[]⟩) (.int .i64 0) (.slice none 0 0) = w5 at *
  obtain ⟨y0, y1, y2, y3, y4, g0, g1, g2, g3, g4⟩ := box_facts Z5.out.n
  have hB := Z5.out.below
  clear Z5
  exact bodyPost_ret (v := .tuple #[nv 0 0 noNm 0 (.slice none 0 0), .int .i64 0, .int .i64 2]) (by simp [results, Tryz.results7, go_sem, y0, y1, y2, y3, y4]; rfl) rfl ⟨rfl, hB⟩
theorem no_out (s : ByteArray) (h : PW s (32 * s.size + 17) = .out) : False := by
  have hen := enough s (32 * s.size + 17) .form 0 (bl s 0) (bl_le (Nat.zero_le _)).2 (by simp [rank]; omega)
  unfold PW at h
  cases hq : PA s (32 * s.size + 17) .form 0 (bl s 0) with
  | out => rw [hq] at hen; exact hen.elim
  | err er wh => rw [hq] at h; cases h
  | ok t b =>
    rw [hq] at h
    have h : (if b < s.size then PR.err 20 b else .ok t b) = .out := h
    split at h <;> cases h
/-- Parse, whatever the text. -/
theorem parse_any (s : ByteArray) (W : World) (hT : Tabs W) (hS : SigTab W) : Calls Tryz.prog 7 #[.string s] W (ParP W (parR s)) := by
  unfold parR
  by_cases h : 60000 < s.size
  · rw [if_pos h]; exact parse_long s W h
  rw [if_neg h]
  have c := fun w h1 h2 => whole_any (W.heap.size + 1) s w h1 h2 (by omega) (32 * s.size + 17) (by omega)
  have he := errs_whole s (32 * s.size + 17)
  cases hq : PW s (32 * s.size + 17) with
  | out => exact (no_out s hq).elim
  | err er wh =>
    rw [hq] at c he
    exact parse_err s W er wh h hT hS (by rcases he with rfl | rfl <;> rfl) c
  | ok t b =>
    rw [hq] at c
    show Calls Tryz.prog 7 _ W (ParP W (if limB (preN 1 t) = true then _ else _))
    cases hl : limB (preN 1 t) with
    | true => exact parse_ok s W t b h hT hS hl c
    | false => exact parse_big s W t b h hT hS hl c
end Go.Proofs.YtgkjcimgghflmaaGreatDoor
