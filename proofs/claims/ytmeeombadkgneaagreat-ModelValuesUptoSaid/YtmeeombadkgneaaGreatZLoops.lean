/-
  What package logic's loops over a tree return; conditions: the tree lies in memory.
-/
import Derived.Test.YtmeeombadkgneaaGreatZKids
namespace Go.Proofs.YtmeeombadkgneaaGreat
open Go.RowKit Go.Shelf

attribute [local go_sem] Oper.semAt_some

/-- Whether nodes with levels are no more than 4000, and none deeper than 100. -/
def limB (l : List (Int × Nd)) : Bool := decide (l.length ≤ 4000 ∧ ∀ p ∈ l, p.1 ≤ 100)

def LimOk {w0 : World} (pre : List (El w0)) : Prop := pre.length ≤ 4000 ∧ ∀ x ∈ pre, x.lv ≤ 100
theorem limOk_snoc {w0 : World} {pre : List (El w0)} {x : El w0} (h : LimOk pre) (h1 : pre.length + 1 ≤ 4000) (h2 : x.lv ≤ 100) : LimOk (pre ++ [x]) :=
  ⟨by simpa using h1, fun y hy => (List.mem_append.1 hy).elim (h.2 y) (fun e => by simp at e; subst e; exact h2)⟩

set_option maxRecDepth 100000 in
set_option maxHeartbeats 2000000 in
theorem limits_any (t : Nd) (A : Option Addr) (cap : Nat) (w : World) (hL : Lies w A cap t.ks) (hfine : Fine t) :
    Calls Tryz.prog 93 #[nv t.op t.so t.nm t.nu (.slice A t.ks.length cap)] w fun e w' => e = .returned (.bool (limB (preN 1 t))) ∧ Below w.heap.size w w' := by
  obtain ⟨xs, hxs, hst⟩ := walk_stops t A cap w hL hfine
  rw [← hxs]
  clear hxs
  refine callsIn_wide (n := 9).1 ?_
  refine callsIn_of_wp_marks Tryz.func93 rfl trivial ?_ rfl
  simp only [Tryz.ntmps93, List.size_toArray, List.length_cons, List.length_nil, Nat.reduceAdd, Nat.reduceSub, Array.replicate_succ, Array.replicate_zero, List.push_toArray, List.append_toArray, List.nil_append, List.cons_append]
  have H := Lib.hid hst
  have HL := Lib.hid hL
  clear hst hL
  gi_wp2_with (refine ⟨trivial, ?_⟩; gi_at_call 97; refine (walkClo_any _ _ _ _ _ _ _).mono ?_; rintro e w' ⟨rfl, rfl⟩)
  have hB0 : Below w.heap.size w ((((w.alloc (.cells #[.int .i64 t.op, .int .i64 t.so, .string t.nm, .int .i64 t.nu, .slice A t.ks.length cap] 44)).alloc (.cells #[.bool false] 4)).alloc (.cells #[.int .i64 0] 3)).alloc (.cells #[.int .i64 t.op, .int .i64 t.so, .string t.nm, .int .i64 t.nu, .slice A t.ks.length cap] 44)) :=
    ((((Below.refl _ w).alloc (Nat.le_refl _) _).alloc (by simp) _).alloc (by simp; omega) _).alloc (by simp; omega) _
  have r0 := cell_new_l (w.alloc (.cells #[.int .i64 t.op, .int .i64 t.so, .string t.nm, .int .i64 t.nu, .slice A t.ks.length cap] 44)) (.bool false) 4
  have c0 := cell_new_l ((w.alloc (.cells #[.int .i64 t.op, .int .i64 t.so, .string t.nm, .int .i64 t.nu, .slice A t.ks.length cap] 44)).alloc (.cells #[.bool false] 4)) (.int .i64 0) 3
  have c1 := five_new (((w.alloc (.cells #[.int .i64 t.op, .int .i64 t.so, .string t.nm, .int .i64 t.nu, .slice A t.ks.length cap] 44)).alloc (.cells #[.bool false] 4)).alloc (.cells #[.int .i64 0] 3)) t (.slice A t.ks.length cap) 44
  simp only [World.size_alloc] at c0 c1 r0
  refine wpIn_rangeFunc_ownF rfl (by decide) (gf := 119) (lb := #[.pointer (some ⟨w.heap.size + 1 + 1 + 1, 0, none⟩)]) rfl trivial (enters_of Tryz.func119 (by kernel_rfl) rfl)
    (H.out _ _ _ hB0 c1) KpC.trans (kpC_b (by simp; omega)) (Below.refl _ _) (fun _ => rfl)
    (fun pre W => (LimOk pre ∧ W.cell? ⟨w.heap.size + 1, 0, none⟩ = some (.bool false) ∧ W.frozen? ⟨w.heap.size + 1, 0, none⟩ = false ∧ W.cell? ⟨w.heap.size + 1 + 1, 0, none⟩ = some (.int .i64 pre.length) ∧ W.frozen? ⟨w.heap.size + 1 + 1, 0, none⟩ = false) ∧ Below w.heap.size w W)
    (fun c pre W => (c = .ret ∧ Hid (¬ LimOk pre) ∧ W.cell? ⟨w.heap.size + 1, 0, none⟩ = some (.bool false)) ∧ Below w.heap.size w W)
    (OwnFrom.and (Own.from (fun s A B row hs hg hr => ⟨hs.1, cell_kept hs.2.1 hg hr, (frozen_kept hs.2.1 hg hr).trans hs.2.2.1, cell_kept hs.2.2.2.1 hg hr, (frozen_kept hs.2.2.2.1 hg hr).trans hs.2.2.2.2⟩) _) (ownFrom_below (Nat.le_refl _) (by simp; omega)))
    (fun c => OwnFrom.and (Own.from (fun s A B row hs hg hr => ⟨hs.1, hs.2.1, cell_kept hs.2.2 hg hr⟩) _) (ownFrom_below (Nat.le_refl _) (by simp; omega)))
    ⟨⟨⟨by simp, fun _ h => by simp at h⟩, cell_alloc_l _ (cell_alloc_l _ r0.1), frozen_alloc_l _ (cell_alloc_l _ r0.1) (frozen_alloc_l _ r0.1 r0.2), cell_alloc_l _ c0.1, frozen_alloc_l _ c0.1 c0.2⟩, hB0⟩
    (fun x => { tmps := #[nv t.op t.so t.nm t.nu (.slice A t.ks.length cap), .pointer (some ⟨w.heap.size, 0, none⟩), .pointer (some ⟨w.heap.size + 1, 0, none⟩), .pointer (some ⟨w.heap.size + 1 + 1, 0, none⟩), .int .i64 x.lv, nv t.op t.so t.nm t.nu (.slice A t.ks.length cap), .func (.func 119) #[] #[.pointer (some ⟨w.heap.size + 1 + 1 + 1, 0, none⟩)], .int .i64 x.lv, nv x.t.op x.t.so x.t.nm x.t.nu (.slice x.A x.t.ks.length x.cap), undef, undef, undef, undef, undef, undef, undef, undef], defers := [] }) ?assign ?body ?done ?stop
  case assign =>
    intro l x W K hK
    simp only [encE]
    gi_wp2
    exact hK
  case body =>
    rintro l pre x W ⟨⟨hp, hr, hrf, hc, hf⟩, hB⟩ _
    have hl := hp.1
    have hp := Lib.hid hp
    clear H HL hB0 r0 c0 c1
    have e1 := World.cell?_setCell_same' W ⟨w.heap.size + 1 + 1, 0, none⟩ (.int .i64 (pre.length + 1)) (by rw [hc]; rfl)
    have e2 : (W.setCell ⟨w.heap.size + 1 + 1, 0, none⟩ (.int .i64 (pre.length + 1))).cell? ⟨w.heap.size + 1, 0, none⟩ = some (.bool false) := (World.cell?_setCell_other W _ _ _ (by simp)).trans hr
    by_cases h1 : pre.length + 1 ≤ 4000
    case neg =>
      gi_wp2
      have e3 := World.cell?_setCell_same' (W.setCell ⟨w.heap.size + 1 + 1, 0, none⟩ (.int .i64 (pre.length + 1))) ⟨w.heap.size + 1, 0, none⟩ (.bool false) (by rw [e2]; rfl)
      exact ⟨(KeepsOthers.setCell _ _ _).trans (KeepsOthers.setCell _ _ _), ⟨rfl, fun h => h1 (by simpa using h.1), e3⟩, (hB.setCell (p := ⟨w.heap.size + 1 + 1, 0, none⟩) (by simp; omega) _).setCell (p := ⟨w.heap.size + 1, 0, none⟩) (by simp) _⟩
    by_cases h2 : x.lv ≤ 100
    case neg =>
      gi_wp2
      have e3 := World.cell?_setCell_same' (W.setCell ⟨w.heap.size + 1 + 1, 0, none⟩ (.int .i64 (pre.length + 1))) ⟨w.heap.size + 1, 0, none⟩ (.bool false) (by rw [e2]; rfl)
      exact ⟨(KeepsOthers.setCell _ _ _).trans (KeepsOthers.setCell _ _ _), ⟨rfl, fun h => by have := h.2 x (by simp); omega, e3⟩, (hB.setCell (p := ⟨w.heap.size + 1 + 1, 0, none⟩) (by simp; omega) _).setCell (p := ⟨w.heap.size + 1, 0, none⟩) (by simp) _⟩
    gi_wp2
    refine ⟨KeepsOthers.setCell _ _ _, (KpC.refl _ _ W).setCell (p := ⟨w.heap.size + 1 + 1, 0, none⟩) (by simp; omega) (by simp) _, ⟨limOk_snoc hp.out h1 h2, e2, ?_, ?_, ?_⟩, hB.setCell (p := ⟨w.heap.size + 1 + 1, 0, none⟩) (by simp; omega) _⟩
    · rw [World.frozen?_setCell]; exact hrf
    · rw [List.length_append]; exact e1
    · rw [World.frozen?_setCell]; exact hf
  case done =>
    rintro D ys W hD rfl ⟨⟨⟨hp1, hp2⟩, hr, hrf, hc, hf⟩, hB⟩ hK
    have hres : limB (ys.map El.key) = true := decide_eq_true ⟨by simpa using hp1, fun p hp => by
      obtain ⟨x, hx, rfl⟩ := List.mem_map.1 hp
      exact hp2 x hx⟩
    have Hr := Lib.hid hres
    clear hres hp1 hp2 H HL hB0 r0 c0 c1
    gi_wp2
    have hK' := (KeepsOthers.setCell W ⟨w.heap.size + 1, 0, none⟩ (.bool true)).same D _ hK rfl
    refine ⟨by simp, .inl ⟨_, _, rfl, run_takeDeferred hK', ?_⟩⟩
    have hc5 := cell_kept (World.cell?_setCell_same' W ⟨w.heap.size + 1, 0, none⟩ (.bool true) (by rw [hr]; rfl)) (grownBy_putObj' _ D (.deferred none)) (fun r e => by cases e; exact ⟨_, hK', rfl⟩)
    refine ⟨.bool true, ?_, by rw [Hr.out], (hB.setCell (p := ⟨w.heap.size + 1, 0, none⟩) (by simp) _).trans (belowK_b (w := w) (Nat.le_refl _) _ D _ _ (by simp at hD; omega) hK' rfl rfl)⟩
    simp [results, Tryz.f93, go_sem, hc5]
  case stop =>
    rintro D c pre W hD hpre ⟨⟨rfl, hin, hcr⟩, hB⟩ hK
    have hres : limB (xs.map El.key) = false := decide_eq_false (fun h => hin.out ⟨Nat.le_trans hpre.length_le (by simpa using h.1), fun x hx => h.2 _ (List.mem_map.2 ⟨x, hpre.subset hx, rfl⟩)⟩)
    have Hr := Lib.hid hres
    clear hres hin H HL hB0 r0 c0 c1
    gi_wp2
    refine ⟨by simp, .inl ⟨_, _, rfl, run_takeDeferred hK, ?_⟩⟩
    have hc5 := cell_kept hcr (grownBy_putObj' _ D (.deferred none)) (fun r e => by cases e; exact ⟨_, hK, rfl⟩)
    refine ⟨.bool false, ?_, by rw [Hr.out], hB.trans (belowK_b (w := w) (Nat.le_refl _) W D _ _ (by simp at hD; omega) hK rfl rfl)⟩
    simp [results, Tryz.f93, go_sem, hc5]

theorem KeepsFrom.of_below {B : Nat} {W W' : World} (h : Below W.heap.size W W') : KeepsFrom B W W' :=
  ⟨h.size, fun k _ _ hk _ => (h.block k (Array.getElem?_eq_some_iff.1 hk).1).trans hk⟩
theorem KeepsFrom.alloc (B : Nat) (W : World) (o : Obj) : KeepsFrom B W (W.alloc o) := KeepsFrom.of_below ((Below.refl _ _).alloc (Nat.le_refl _) _)
theorem KeepsFrom.setCell (B : Nat) (W : World) (p : Addr) (v : Value) : KeepsFrom B W (W.setCell p v) := (KeepsOthers.setCell W p v).from B

theorem five_own (B Bx : Nat) (t : Nd) (s : Value) : OwnFrom B (fun (_ : Unit) W => Five W Bx 0 t s) :=
  Own.from (fun _ _ _ _ hs hg hr => ⟨cell_kept hs.c0 hg hr, cell_kept hs.c1 hg hr, cell_kept hs.c2 hg hr, cell_kept hs.c3 hg hr, cell_kept hs.c4 hg hr⟩) B

/-- A loop's node lies in its box. -/
def BoxAt {w0 : World} (f : Nat → Act) (x : El w0) (a' : Act) (W : World) : Prop := ∃ Bx, Five W Bx 0 x.t (.slice x.A x.t.ks.length x.cap) ∧ a' = f Bx

theorem boxAt_own {w0 : World} (B : Nat) (f : Nat → Act) (x : El w0) (a' : Act) : OwnFrom B (fun (_ : Unit) W => BoxAt f x a' W) := by
  intro s X Y row hs hg hr
  obtain ⟨Bx, h2, h3⟩ := hs
  exact ⟨Bx, five_own B Bx x.t _ () X Y row h2 hg hr, h3⟩

/-- Whether a node by itself is as its Op says. -/
def okN (t : Nd) : Bool := fieldsB t.op t.so t.nm t.nu && kidsB t.op t.ks
def AllOk {w0 : World} (pre : List (El w0)) : Prop := ∀ x ∈ pre, okN x.t = true
theorem allOk_snoc {w0 : World} {pre : List (El w0)} {x : El w0} (h : AllOk pre) (h2 : okN x.t = true) : AllOk (pre ++ [x]) :=
  fun y hy => (List.mem_append.1 hy).elim (h y) (fun e => by simp at e; subst e; exact h2)

theorem allOk_not {w0 : World} {pre : List (El w0)} {x : El w0} (h : okN x.t = false) : Hid (¬ AllOk (pre ++ [x])) := fun hh => by
  have := hh x (by simp)
  rw [h] at this
  cases this

set_option maxRecDepth 100000 in
set_option maxHeartbeats 2000000 in
theorem wellSorted_any (t : Nd) (A : Option Addr) (cap : Nat) (w : World) (hL : Lies w A cap t.ks) (hfine : Fine t) :
    Calls Tryz.prog 94 #[nv t.op t.so t.nm t.nu (.slice A t.ks.length cap)] w fun e w' => e = .returned (.bool ((preN 1 t).all fun p => okN p.2)) ∧ Below w.heap.size w w' := by
  obtain ⟨xs, hxs, hst⟩ := walk_stops t A cap w hL hfine
  rw [← hxs]
  clear hxs
  refine callsIn_wide (n := 9).1 ?_
  refine callsIn_of_wp_marks Tryz.func94 rfl trivial ?_ rfl
  simp only [Tryz.ntmps94, List.size_toArray, List.length_cons, List.length_nil, Nat.reduceAdd, Nat.reduceSub, Array.replicate_succ, Array.replicate_zero, List.push_toArray, List.append_toArray, List.nil_append, List.cons_append]
  have H := Lib.hid hst
  have HL := Lib.hid hL
  clear hst hL
  gi_wp2_with (refine ⟨trivial, ?_⟩; gi_at_call 97; refine (walkClo_any _ _ _ _ _ _ _).mono ?_; rintro e w' ⟨rfl, rfl⟩)
  have hB0 : Below w.heap.size w (((w.alloc (.cells #[.int .i64 t.op, .int .i64 t.so, .string t.nm, .int .i64 t.nu, .slice A t.ks.length cap] 44)).alloc (.cells #[.bool false] 4)).alloc (.cells #[.int .i64 t.op, .int .i64 t.so, .string t.nm, .int .i64 t.nu, .slice A t.ks.length cap] 44)) :=
    (((Below.refl _ w).alloc (Nat.le_refl _) _).alloc (by simp) _).alloc (by simp; omega) _
  have r0 := cell_new_l (w.alloc (.cells #[.int .i64 t.op, .int .i64 t.so, .string t.nm, .int .i64 t.nu, .slice A t.ks.length cap] 44)) (.bool false) 4
  have c1 := five_new ((w.alloc (.cells #[.int .i64 t.op, .int .i64 t.so, .string t.nm, .int .i64 t.nu, .slice A t.ks.length cap] 44)).alloc (.cells #[.bool false] 4)) t (.slice A t.ks.length cap) 44
  simp only [World.size_alloc] at c1 r0
  refine wpIn_rangeFunc_ownH rfl (by decide) (gf := 119) (lb := #[.pointer (some ⟨w.heap.size + 1 + 1, 0, none⟩)]) rfl trivial (enters_of Tryz.func119 (by kernel_rfl) rfl)
    (H.out _ _ _ hB0 c1) KpC.trans (kpC_b (by simp; omega)) (Below.refl _ _) (fun _ => rfl)
    (fun pre W => (AllOk pre ∧ W.cell? ⟨w.heap.size + 1, 0, none⟩ = some (.bool false) ∧ W.frozen? ⟨w.heap.size + 1, 0, none⟩ = false) ∧ Below w.heap.size w W)
    (fun c pre W => (c = .ret ∧ Hid (¬ AllOk pre) ∧ W.cell? ⟨w.heap.size + 1, 0, none⟩ = some (.bool false)) ∧ Below w.heap.size w W)
    (OwnFrom.and (Own.from (fun s A B row hs hg hr => ⟨hs.1, cell_kept hs.2.1 hg hr, (frozen_kept hs.2.1 hg hr).trans hs.2.2⟩) _) (ownFrom_below (Nat.le_refl _) (by simp; omega)))
    (fun c => OwnFrom.and (Own.from (fun s A B row hs hg hr => ⟨hs.1, hs.2.1, cell_kept hs.2.2 hg hr⟩) _) (ownFrom_below (Nat.le_refl _) (by simp; omega)))
    ⟨⟨fun _ h => by simp at h, cell_alloc_l _ r0.1, frozen_alloc_l _ r0.1 r0.2⟩, hB0⟩
    (fun x a' W => BoxAt (fun Bx => { tmps := #[nv t.op t.so t.nm t.nu (.slice A t.ks.length cap), .pointer (some ⟨w.heap.size, 0, none⟩), .pointer (some ⟨w.heap.size + 1, 0, none⟩), undef, .pointer (some ⟨Bx, 0, none⟩), nv t.op t.so t.nm t.nu (.slice A t.ks.length cap), .func (.func 119) #[] #[.pointer (some ⟨w.heap.size + 1 + 1, 0, none⟩)], .int .i64 x.lv, nv x.t.op x.t.so x.t.nm x.t.nu (.slice x.A x.t.ks.length x.cap), undef, undef, undef, undef, undef, undef, undef, undef], defers := [] }) x a' W)
    (fun x a' => boxAt_own _ _ x a') ?assign ?body ?done ?stop
  case assign =>
    rintro l pre x W K ⟨⟨hp, hr, hrf⟩, hB⟩ hK
    have hp := Lib.hid hp
    have HK := Lib.hid hK
    have hsz := hB.size
    clear H HL hB0 r0 c1 hK
    simp only [encE]
    gi_wp2
    refine HK.out _ _ (KeepsFrom.alloc _ _ _) ((KpC.refl _ _ W).alloc hB.size _) ⟨⟨hp.out, cell_alloc_l _ hr, frozen_alloc_l _ hr hrf⟩, hB.alloc hB.size _⟩ ⟨W.heap.size, five_new _ _ _ _, rfl⟩
  case body =>
    rintro l pre x a' W hl hrec ⟨⟨hp, hr, hrf⟩, hB⟩ ⟨Bx, hx5, rfl⟩ _
    have hp := Lib.hid hp
    have H5 := Lib.hid hx5
    obtain ⟨a0, a1, a2, a3, a4⟩ := hx5
    clear H HL hB0 r0 c1 hrec
    have hlies := Lib.hid (x.lies.later hB)
    cases hf : fieldsB x.t.op x.t.so x.t.nm x.t.nu
    case false =>
      have hno := Lib.hid (show okN x.t = false by rw [okN, hf]; rfl)
      have Hf := Lib.hid hf
      clear hf
      gi_wp2_with fail
      refine ⟨trivial, ?_⟩
      refine (CallsIn.inRound l (callsIn_wide.2 (fields_any _ _ _ _ _ _))).mono ?_
      rintro e w1 ⟨rfl, hb1⟩
      rw [Hf.out]
      have hr1 := cellB hb1 (Nat.le_refl _) hr
      have hrf1 := (hb1.frozen (p := ⟨w.heap.size + 1, 0, none⟩) (World.block_lt_of_cell? _ _ hr)).trans hrf
      have hB1 : Below w.heap.size w w1 := hB.trans (hb1.mono hB.size)
      have hk1 : KeepsFrom (w.heap.size + 1 + 1 + 1) W w1 := KeepsFrom.of_below hb1
      clear hb1 hr hrf a0 a1 a2 a3 a4
      gi_wp2_with fail
      refine ⟨trivial, ?_⟩
      gi_wp2_with fail
      have e3 := World.cell?_setCell_same' w1 ⟨w.heap.size + 1, 0, none⟩ (.bool false) (by rw [hr1]; rfl)
      exact ⟨by simpa using hk1.trans (KeepsFrom.setCell _ _ _ _), ⟨rfl, allOk_not hno.out, e3⟩, hB1.setCell (p := ⟨w.heap.size + 1, 0, none⟩) (by simp) _⟩
    case true =>
      have Hf := Lib.hid hf
      clear hf
      cases hkk : kidsB x.t.op x.t.ks
      case false =>
        have hno := Lib.hid (show okN x.t = false by rw [okN, hkk, Bool.and_false])
        have Hk := Lib.hid hkk
        clear hkk
        gi_wp2_with fail
        refine ⟨trivial, ?_⟩
        refine (CallsIn.inRound l (callsIn_wide.2 (fields_any _ _ _ _ _ _))).mono ?_
        rintro e w1 ⟨rfl, hb1⟩
        rw [Hf.out]
        have hr1 := cellB hb1 (Nat.le_refl _) hr
        have hrf1 := (hb1.frozen (p := ⟨w.heap.size + 1, 0, none⟩) (World.block_lt_of_cell? _ _ hr)).trans hrf
        have hB1 : Below w.heap.size w w1 := hB.trans (hb1.mono hB.size)
        have hk1 : KeepsFrom (w.heap.size + 1 + 1 + 1) W w1 := KeepsFrom.of_below hb1
        have hl1 := Lib.hid (hlies.out.later hb1)
        obtain ⟨d0, d1, d2, d3, d4⟩ := H5.out.later hb1
        clear hb1 hr hrf a0 a1 a2 a3 a4
        gi_wp2_with fail
        refine ⟨trivial, ?_⟩
        refine (CallsIn.inRound l (callsIn_wide.2 (kids_any _ _ _ _ _ _ _ _ hl1.out))).mono ?_
        rintro e w2 ⟨rfl, hb2⟩
        rw [Hk.out]
        have hr2 := cellB hb2 (Nat.le_refl _) hr1
        have hrf2 := (hb2.frozen (p := ⟨w.heap.size + 1, 0, none⟩) (World.block_lt_of_cell? _ _ hr1)).trans hrf1
        have hB2 : Below w.heap.size w w2 := hB1.trans (hb2.mono hB1.size)
        have hk2 : KeepsFrom (w.heap.size + 1 + 1 + 1) W w2 := hk1.trans (KeepsFrom.of_below hb2)
        clear hb2 hr1 hrf1 d0 d1 d2 d3 d4 hk1 hB1 hl1
        gi_wp2_with fail
        have e3 := World.cell?_setCell_same' w2 ⟨w.heap.size + 1, 0, none⟩ (.bool false) (by rw [hr2]; rfl)
        exact ⟨by simpa using hk2.trans (KeepsFrom.setCell _ _ _ _), ⟨rfl, allOk_not hno.out, e3⟩, hB2.setCell (p := ⟨w.heap.size + 1, 0, none⟩) (by simp) _⟩
      case true =>
        have hyes := Lib.hid (show okN x.t = true by rw [okN, hkk, Hf.out]; rfl)
        have Hk := Lib.hid hkk
        clear hkk
        gi_wp2_with fail
        refine ⟨trivial, ?_⟩
        refine (CallsIn.inRound l (callsIn_wide.2 (fields_any _ _ _ _ _ _))).mono ?_
        rintro e w1 ⟨rfl, hb1⟩
        rw [Hf.out]
        have hr1 := cellB hb1 (Nat.le_refl _) hr
        have hrf1 := (hb1.frozen (p := ⟨w.heap.size + 1, 0, none⟩) (World.block_lt_of_cell? _ _ hr)).trans hrf
        have hB1 : Below w.heap.size w w1 := hB.trans (hb1.mono hB.size)
        have hbb := Lib.hid hb1
        have hl1 := Lib.hid (hlies.out.later hb1)
        obtain ⟨d0, d1, d2, d3, d4⟩ := H5.out.later hb1
        clear hb1 hr hrf a0 a1 a2 a3 a4
        gi_wp2_with fail
        refine ⟨trivial, ?_⟩
        refine (CallsIn.inRound l (callsIn_wide.2 (kids_any _ _ _ _ _ _ _ _ hl1.out))).mono ?_
        rintro e w2 ⟨rfl, hb2⟩
        rw [Hk.out]
        have hr2 := cellB hb2 (Nat.le_refl _) hr1
        have hrf2 := (hb2.frozen (p := ⟨w.heap.size + 1, 0, none⟩) (World.block_lt_of_cell? _ _ hr1)).trans hrf1
        have hB2 : Below w.heap.size w w2 := hB1.trans (hb2.mono hB1.size)
        have hW2 : Below W.heap.size W w2 := hbb.out.trans (hb2.mono hbb.out.size)
        clear hb2 hr1 hrf1 d0 d1 d2 d3 d4 hB1 hl1
        gi_wp2_with fail
        exact ⟨KeepsFrom.of_below hW2, KpC.of_below hW2 hB.size, ⟨allOk_snoc hp.out hyes.out, hr2, hrf2⟩, hB2⟩
  case done =>
    rintro D ys W hD rfl ⟨⟨hp, hr, hrf⟩, hB⟩ hK
    have Hr := Lib.hid (show ((ys.map El.key).all fun p => okN p.2) = true from by
      rw [List.all_map, List.all_eq_true]
      exact hp)
    clear hp H HL hB0 r0 c1
    gi_wp2
    have hK' := (KeepsOthers.setCell W ⟨w.heap.size + 1, 0, none⟩ (.bool true)).same D _ hK rfl
    refine ⟨by simp, .inl ⟨_, _, rfl, run_takeDeferred hK', ?_⟩⟩
    have hc5 := cell_kept (World.cell?_setCell_same' W ⟨w.heap.size + 1, 0, none⟩ (.bool true) (by rw [hr]; rfl)) (grownBy_putObj' _ D (.deferred none)) (fun r e => by cases e; exact ⟨_, hK', rfl⟩)
    refine ⟨.bool true, ?_, by rw [Hr.out], (hB.setCell (p := ⟨w.heap.size + 1, 0, none⟩) (by simp) _).trans (belowK_b (w := w) (Nat.le_refl _) _ D _ _ (by simp at hD; omega) hK' rfl rfl)⟩
    simp [results, Tryz.f94, go_sem, hc5]
  case stop =>
    rintro D c pre W hD hpre ⟨⟨rfl, hin, hcr⟩, hB⟩ hK
    have Hr := Lib.hid (show ((xs.map El.key).all fun p => okN p.2) = false from by
      rw [List.all_map, ← Bool.not_eq_true, List.all_eq_true]
      exact fun h => hin.out fun x hx => h x (hpre.subset hx))
    clear hin H HL hB0 r0 c1
    gi_wp2
    refine ⟨by simp, .inl ⟨_, _, rfl, run_takeDeferred hK, ?_⟩⟩
    have hc5 := cell_kept hcr (grownBy_putObj' _ D (.deferred none)) (fun r e => by cases e; exact ⟨_, hK, rfl⟩)
    refine ⟨.bool false, ?_, by rw [Hr.out], hB.trans (belowK_b (w := w) (Nat.le_refl _) W D _ _ (by simp at hD; omega) hK rfl rfl)⟩
    simp [results, Tryz.f94, go_sem, hc5]
end Go.Proofs.YtmeeombadkgneaaGreat
