/-
  What package logic's Levels and Holes return; conditions: the tree lies in memory.
-/
import Derived.Test.YtmeeombadkgneaaGreatZLoops
namespace Go.Proofs.YtmeeombadkgneaaGreat
open Go.RowKit Go.Shelf

attribute [local go_sem] Oper.semAt_some
/-- The greatest level so far. -/
def maxI (l : List (Int × Nd)) : Int := (l.map Prod.fst).foldl max 0
theorem maxI_snoc (l : List (Int × Nd)) (p : Int × Nd) : maxI (l ++ [p]) = max (maxI l) p.1 := by simp [maxI]

def holeB (l : List (Int × Nd)) : Bool := l.any fun p => p.2.op == 42
def NoHole {w0 : World} (pre : List (El w0)) : Prop := ∀ x ∈ pre, (x.t.op == 42) = false
theorem noHole_snoc {w0 : World} {pre : List (El w0)} {x : El w0} (h : NoHole pre) (h2 : (x.t.op == 42) = false) : NoHole (pre ++ [x]) :=
  fun y hy => (List.mem_append.1 hy).elim (h y) (fun e => by simp at e; subst e; exact h2)
theorem noHole_not {w0 : World} {pre : List (El w0)} {x : El w0} (h : (x.t.op == 42) = true) : Hid (¬ NoHole (pre ++ [x])) := fun hh => by
  have := hh x (by simp)
  rw [h] at this
  cases this

set_option maxRecDepth 100000 in
set_option maxHeartbeats 2000000 in
theorem holes_any (t : Nd) (A : Option Addr) (cap : Nat) (w : World) (hL : Lies w A cap t.ks) (hfine : Fine t) :
    Calls Tryz.prog 73 #[nv t.op t.so t.nm t.nu (.slice A t.ks.length cap)] w fun e w' => e = .returned (.bool (holeB (preN 1 t))) ∧ Below w.heap.size w w' := by
  obtain ⟨xs, hxs, hst⟩ := walk_stops t A cap w hL hfine
  rw [← hxs]
  clear hxs
  refine callsIn_wide (n := 9).1 ?_
  refine callsIn_of_wp_marks Tryz.func73 rfl trivial ?_ rfl
  simp only [Tryz.ntmps73, List.size_toArray, List.length_cons, List.length_nil, Nat.reduceAdd, Nat.reduceSub, Array.replicate_succ, Array.replicate_zero, List.push_toArray, List.append_toArray, List.nil_append, List.cons_append]
  have H := Lib.hid hst
  have HL := Lib.hid hL
  clear hst hL
  gi_wp2_with (refine ⟨trivial, ?_⟩; gi_at_call 97; refine (walkClo_any _ _ _ _ _ _ _).mono ?_; rintro e w' ⟨rfl, rfl⟩)
  have hB0 : Below w.heap.size w (((w.alloc (.cells #[.int .i64 t.op, .int .i64 t.so, .string t.nm, .int .i64 t.nu, .slice A t.ks.length cap] 44)).alloc (.cells #[.bool false] 4)).alloc (.cells #[.int .i64 t.op, .int .i64 t.so, .string t.nm, .int .i64 t.nu, .slice A t.ks.length cap] 44)) :=
    (((Below.refl _ w).alloc (Nat.le_refl _) _).alloc (by simp) _).alloc (by simp; omega) _
  have r0 := cell_new_l (w.alloc (.cells #[.int .i64 t.op, .int .i64 t.so, .string t.nm, .int .i64 t.nu, .slice A t.ks.length cap] 44)) (.bool false) 4
  have c1 := five_new ((w.alloc (.cells #[.int .i64 t.op, .int .i64 t.so, .string t.nm, .int .i64 t.nu, .slice A t.ks.length cap] 44)).alloc (.cells #[.bool false] 4)) t (.slice A t.ks.length cap) 44
  simp only [World.size_alloc] at c1 r0
  refine wpIn_rangeFunc_ownH rfl (by decide) (gf := 119) (lb := #[.pointer (some ⟨w.heap.size + 1 + 1, 0, none⟩)]) rfl trivial (enters_of Tryz.func119 (by kernel_rfl) rfl)
    (H.out _ _ _ hB0 c1) KpC.trans (kpC_b (by simp; omega)) (Below.refl _ _) (fun _ => rfl)
    (fun pre W => (NoHole pre ∧ W.cell? ⟨w.heap.size + 1, 0, none⟩ = some (.bool false) ∧ W.frozen? ⟨w.heap.size + 1, 0, none⟩ = false) ∧ Below w.heap.size w W)
    (fun c pre W => (c = .ret ∧ Hid (¬ NoHole pre) ∧ W.cell? ⟨w.heap.size + 1, 0, none⟩ = some (.bool true)) ∧ Below w.heap.size w W)
    (OwnFrom.and (Own.from (fun s A B row hs hg hr => ⟨hs.1, cell_kept hs.2.1 hg hr, (frozen_kept hs.2.1 hg hr).trans hs.2.2⟩) _) (ownFrom_below (Nat.le_refl _) (by simp; omega)))
    (fun c => OwnFrom.and (Own.from (fun s A B row hs hg hr => ⟨hs.1, hs.2.1, cell_kept hs.2.2 hg hr⟩) _) (ownFrom_below (Nat.le_refl _) (by simp; omega)))
    ⟨⟨fun _ h => by simp at h, cell_alloc_l _ r0.1, frozen_alloc_l _ r0.1 r0.2⟩, hB0⟩
    (fun x a' W => BoxAt (fun Bx => { tmps := #[nv t.op t.so t.nm t.nu (.slice A t.ks.length cap), .pointer (some ⟨w.heap.size, 0, none⟩), .pointer (some ⟨w.heap.size + 1, 0, none⟩), undef, .pointer (some ⟨Bx, 0, none⟩), nv t.op t.so t.nm t.nu (.slice A t.ks.length cap), .func (.func 119) #[] #[.pointer (some ⟨w.heap.size + 1 + 1, 0, none⟩)], .int .i64 x.lv, nv x.t.op x.t.so x.t.nm x.t.nu (.slice x.A x.t.ks.length x.cap), undef, undef, undef], defers := [] }) x a' W)
    (fun x a' => boxAt_own _ _ x a') ?assign ?body ?done ?stop
  case assign =>
    rintro l pre x W K ⟨⟨hp, hr, hrf⟩, hB⟩ hK
    have hp := Lib.hid hp
    have HK := Lib.hid hK
    have hsz := hB.size
    clear H HL hB0 r0 c1 hK
    simp only [encE]
    gi_wp2
    refine HK.out _ _ (KeepsFrom.alloc _ _ _) ((KpC.refl _ _ W).alloc hB.size _) ⟨⟨hp.out, cell_alloc_l _ hr, frozen_alloc_l _ hr hrf⟩, hB.alloc hB.size _⟩ ⟨W.heap.size, five_new _ _ _ _, rfl⟩
  case body =>
    rintro l pre x a' W hl hrec ⟨⟨hp, hr, hrf⟩, hB⟩ ⟨Bx, hx5, rfl⟩ _
    have hp := Lib.hid hp
    have H5 := Lib.hid hx5
    obtain ⟨a0, a1, a2, a3, a4⟩ := hx5
    clear H HL hB0 r0 c1 hrec
    cases hf : x.t.op == 42
    case true =>
      have hno := Lib.hid (noHole_not (pre := pre) hf)
      gi_wp2_with fail
      have e3 := World.cell?_setCell_same' W ⟨w.heap.size + 1, 0, none⟩ (.bool true) (by rw [hr]; rfl)
      exact ⟨by simpa using KeepsFrom.setCell _ _ _ _, ⟨rfl, hno.out, e3⟩, hB.setCell (p := ⟨w.heap.size + 1, 0, none⟩) (by simp) _⟩
    case false =>
      gi_wp2_with fail
      exact ⟨KeepsFrom.of_below (Below.refl _ _), KpC.refl _ _ W, ⟨noHole_snoc hp.out hf, hr, hrf⟩, hB⟩
  case done =>
    rintro D ys W hD rfl ⟨⟨hp, hr, hrf⟩, hB⟩ hK
    have Hr := Lib.hid (show holeB (ys.map El.key) = false from by
      rw [holeB, List.any_map, List.any_eq_false]
      exact fun x hx => by rw [Function.comp]; simpa [El.key] using hp x hx)
    clear hp H HL hB0 r0 c1
    gi_wp2
    have hK' := (KeepsOthers.setCell W ⟨w.heap.size + 1, 0, none⟩ (.bool false)).same D _ hK rfl
    refine ⟨by simp, .inl ⟨_, _, rfl, run_takeDeferred hK', ?_⟩⟩
    have hc5 := cell_kept (World.cell?_setCell_same' W ⟨w.heap.size + 1, 0, none⟩ (.bool false) (by rw [hr]; rfl)) (grownBy_putObj' _ D (.deferred none)) (fun r e => by cases e; exact ⟨_, hK', rfl⟩)
    refine ⟨.bool false, ?_, by rw [Hr.out], (hB.setCell (p := ⟨w.heap.size + 1, 0, none⟩) (by simp) _).trans (belowK_b (w := w) (Nat.le_refl _) _ D _ _ (by simp at hD; omega) hK' rfl rfl)⟩
    simp [results, Tryz.f73, go_sem, hc5]
  case stop =>
    rintro D c pre W hD hpre ⟨⟨rfl, hin, hcr⟩, hB⟩ hK
    have Hr := Lib.hid (show holeB (xs.map El.key) = true from by
      rw [holeB, List.any_map, ← Bool.not_eq_false, List.any_eq_false]
      exact fun h => hin.out fun x hx => by simpa [Function.comp, El.key] using h x (hpre.subset hx))
    clear hin H HL hB0 r0 c1
    gi_wp2
    refine ⟨by simp, .inl ⟨_, _, rfl, run_takeDeferred hK, ?_⟩⟩
    have hc5 := cell_kept hcr (grownBy_putObj' _ D (.deferred none)) (fun r e => by cases e; exact ⟨_, hK, rfl⟩)
    refine ⟨.bool true, ?_, by rw [Hr.out], hB.trans (belowK_b (w := w) (Nat.le_refl _) W D _ _ (by simp at hD; omega) hK rfl rfl)⟩
    simp [results, Tryz.f73, go_sem, hc5]
end Go.Proofs.YtmeeombadkgneaaGreat
