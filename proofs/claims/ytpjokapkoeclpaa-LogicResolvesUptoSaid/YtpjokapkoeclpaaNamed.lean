/-
  Whether all names of a node stand for something, as package logic's way has it; conditions: the tree and the maps lie in memory.
-/
import Derived.Test.YtpjokapkoeclpaaSigFns
namespace Go.Proofs.Ytpjokapkoeclpaa
open Go.RowKit Go.Shelf Go.WideMaps

attribute [local go_sem] Oper.semAt_some
set_option maxRecDepth 100000 in
set_option maxHeartbeats 2000000 in
theorem named_any (m1 m2 : Nat) (dl : List (ByteArray × Int)) (sl : List SgA) (t : Nd) (s : Value) (W : World) (hm1 : NameMap W m1 (fD dl)) (hm2 : NameMap W m2 (fS sl)) :
    Calls Try.prog 102 #[.agg #[.map (some m1), .map (some m2)], nv t.op t.so t.nm t.nu s] W fun e w' => e = .returned (.bool (namedB dl sl t)) ∧ Below W.heap.size W w' := by
  have hlt1 := hm1.lt
  have hlt2 := hm2.lt
  have HB := Lib.hid (show ∀ O O', Below W.heap.size W ((W.alloc O).alloc O') from fun O O' => ((Below.refl W.heap.size W).alloc (Nat.le_refl _) O).alloc (by simp) O')
  have HB3 := Lib.hid (show ∀ O O' O'', Below W.heap.size W (((W.alloc O).alloc O').alloc O'') from fun O O' O'' => (HB.out O O').alloc (by simp; omega) O'')
  have hl1 := Lib.hid (fun O O' => (hm1.kept ((HB.out O O').block m1 hlt1)).look54 t.nm)
  have hl2 := Lib.hid (fun O O' => (hm2.kept ((HB.out O O').block m2 hlt2)).look77 t.nm)
  have HC := Lib.hid (fun O O' => constantM_any m1 m2 sl t.nm _ (hm2.kept ((HB.out O O').block m2 hlt2)))
  clear hm1 hm2
  by_cases h1 : t.op = 1
  · have h1' : (t.op == 1) = true := by simpa using h1
    unfold namedB
    rw [if_pos h1]
    clear h1
    unfold fD at hl1
    cases hf : lookD dl t.nm with
    | some y =>
      rw [hf] at hl1
      have hlk : ∀ O O', (Instr.lookup 54 (.map (some m1)) (.string t.nm) true).run Try.prog ((W.alloc O).alloc O') = .ok (.tuple #[.int .i64 y, .bool true]) ((W.alloc O).alloc O') := hl1.out
      clear hf hl1 hl2
      go_enter Try.func102, Try.ntmps102
      go_wp2_with fail
      go_ret
      exact ⟨rfl, HB.out _ _⟩
    | none =>
      rw [hf] at hl1
      have hlk : ∀ O O', (Instr.lookup 54 (.map (some m1)) (.string t.nm) true).run Try.prog ((W.alloc O).alloc O') = .ok (.tuple #[.int .i64 0, .bool false]) ((W.alloc O).alloc O') := hl1.out
      clear hf hl1 hl2
      go_enter Try.func102, Try.ntmps102
      go_wp2_with (go_at_call 113; refine (HC.out _ _).mono ?_; rintro e w1 ⟨rfl, hb1⟩; have HB1 := Lib.hid ((HB.out _ _).trans (hb1.mono (HB.out _ _).size)); clear hb1)
      go_ret
      exact ⟨rfl, HB1.out⟩
  · have h1' : (t.op == 1) = false := by simpa using h1
    unfold namedB
    rw [if_neg h1]
    clear h1
    by_cases h3 : t.op = 3
    · have h3' : (t.op == 3) = true := by simpa using h3
      rw [if_pos h3]
      clear h3
      unfold fS at hl2
      cases hf : lookS sl t.nm with
      | some y =>
        rw [hf] at hl2
        have hlk : ∀ O O', (Instr.lookup 77 (.map (some m2)) (.string t.nm) true).run Try.prog ((W.alloc O).alloc O') = .ok (.tuple #[.agg #[.string y.1.nm, .slice y.2.1 y.1.args.length y.2.2, .int .i64 y.1.so], .bool true]) ((W.alloc O).alloc O') := hl2.out
        clear hf hl1 hl2
        go_enter Try.func102, Try.ntmps102
        go_wp2_with fail
        go_ret
        exact ⟨rfl, HB3.out _ _ _⟩
      | none =>
        rw [hf] at hl2
        have hlk : ∀ O O', (Instr.lookup 77 (.map (some m2)) (.string t.nm) true).run Try.prog ((W.alloc O).alloc O') = .ok (.tuple #[.agg #[.string ⟨#[]⟩, .slice none 0 0, .int .i64 0], .bool false]) ((W.alloc O).alloc O') := hl2.out
        clear hf hl1 hl2
        go_enter Try.func102, Try.ntmps102
        go_wp2_with fail
        go_ret
        exact ⟨rfl, HB3.out _ _ _⟩
    · have h3' : (t.op == 3) = false := by simpa using h3
      rw [if_neg h3]
      clear h3 hl1 hl2
      go_enter Try.func102, Try.ntmps102
      go_wp2_with fail
      go_ret
      exact ⟨rfl, HB.out _ _⟩

/-- All nodes that came have a property. -/
def AllP (p : Nd → Bool) {w0 : World} (pre : List (El w0)) : Prop := ∀ x ∈ pre, p x.t = true
theorem allP_snoc {p : Nd → Bool} {w0 : World} {pre : List (El w0)} {x : El w0} (h : AllP p pre) (h2 : p x.t = true) : AllP p (pre ++ [x]) :=
  fun y hy => (List.mem_append.1 hy).elim (h y) (fun e => by simp at e; subst e; exact h2)
theorem allP_not {p : Nd → Bool} {w0 : World} {pre : List (El w0)} {x : El w0} (h : p x.t = false) : Hid (¬ AllP p (pre ++ [x])) := fun hh => by
  have := hh x (by simp)
  rw [h] at this
  cases this
theorem allP_nodes {p : Nd → Bool} {w0 : World} {xs : List (El w0)} {t : Nd} (hxs : xs.map El.key = preN 1 t) : (nodesOf t).all p = (xs.map El.key).all fun q => p q.2 := by
  rw [nodesOf, ← hxs, List.all_map]
  rfl

set_option maxRecDepth 100000 in
set_option maxHeartbeats 2000000 in
theorem allNamed_any (m1 m2 : Nat) (dl : List (ByteArray × Int)) (sl : List SgA) (t : Nd) (A : Option Addr) (cap : Nat) (w : World) (hL : Lies w A cap t.ks) (hfine : Fine t) (hm1 : NameMap w m1 (fD dl)) (hm2 : NameMap w m2 (fS sl)) :
    Calls Try.prog 73 #[.agg #[.map (some m1), .map (some m2)], nv t.op t.so t.nm t.nu (.slice A t.ks.length cap)] w fun e w' => e = .returned (.bool (allNamed dl sl t)) ∧ Below w.heap.size w w' := by
  obtain ⟨xs, hxs, hst⟩ := walk_stops t A cap w hL hfine
  rw [allNamed, allP_nodes hxs]
  clear hxs
  have hlt1 := hm1.lt
  have hlt2 := hm2.lt
  have HN := Lib.hid (fun W (hb : Below w.heap.size w W) y s => named_any m1 m2 dl sl y s W (hm1.kept (hb.block m1 hlt1)) (hm2.kept (hb.block m2 hlt2)))
  clear hm1 hm2
  refine callsIn_wide (n := 9).1 ?_
  refine callsIn_of_wp_marks Try.func73 rfl trivial ?_ rfl
  simp only [Try.ntmps73, List.size_toArray, List.length_cons, List.length_nil, Nat.reduceAdd, Nat.reduceSub, Array.replicate_succ, Array.replicate_zero, List.push_toArray, List.append_toArray, List.nil_append, List.cons_append]
  have H := Lib.hid hst
  have HL := Lib.hid hL
  clear hst hL
  gi_wp2_with (refine ⟨trivial, ?_⟩; gi_at_call 53; refine (walkClo_any _ _ _ _ _ _ _).mono ?_; rintro e w' ⟨rfl, rfl⟩)
  have hB0 : Below w.heap.size w ((((w.alloc (.cells #[.map (some m1), .map (some m2)] 79)).alloc (.cells #[.int .i64 t.op, .int .i64 t.so, .string t.nm, .int .i64 t.nu, .slice A t.ks.length cap] 24)).alloc (.cells #[.bool false] 4)).alloc (.cells #[.int .i64 t.op, .int .i64 t.so, .string t.nm, .int .i64 t.nu, .slice A t.ks.length cap] 24)) :=
    ((((Below.refl _ w).alloc (Nat.le_refl _) _).alloc (by simp) _).alloc (by simp; omega) _).alloc (by simp; omega) _
  have r0 := cell_new_l ((w.alloc (.cells #[.map (some m1), .map (some m2)] 79)).alloc (.cells #[.int .i64 t.op, .int .i64 t.so, .string t.nm, .int .i64 t.nu, .slice A t.ks.length cap] 24)) (.bool false) 4
  have c1 := five_new (((w.alloc (.cells #[.map (some m1), .map (some m2)] 79)).alloc (.cells #[.int .i64 t.op, .int .i64 t.so, .string t.nm, .int .i64 t.nu, .slice A t.ks.length cap] 24)).alloc (.cells #[.bool false] 4)) t (.slice A t.ks.length cap) 24
  have p0 : ((((w.alloc (.cells #[.map (some m1), .map (some m2)] 79)).alloc (.cells #[.int .i64 t.op, .int .i64 t.so, .string t.nm, .int .i64 t.nu, .slice A t.ks.length cap] 24)).alloc (.cells #[.bool false] 4)).alloc (.cells #[.int .i64 t.op, .int .i64 t.so, .string t.nm, .int .i64 t.nu, .slice A t.ks.length cap] 24)).cell? ⟨w.heap.size, 0, none⟩ = some (.map (some m1)) := by simp [go_sem]
  have p1 : ((((w.alloc (.cells #[.map (some m1), .map (some m2)] 79)).alloc (.cells #[.int .i64 t.op, .int .i64 t.so, .string t.nm, .int .i64 t.nu, .slice A t.ks.length cap] 24)).alloc (.cells #[.bool false] 4)).alloc (.cells #[.int .i64 t.op, .int .i64 t.so, .string t.nm, .int .i64 t.nu, .slice A t.ks.length cap] 24)).cell? ⟨w.heap.size, 1, none⟩ = some (.map (some m2)) := by simp [go_sem]
  simp only [World.size_alloc] at c1 r0
  refine wpIn_rangeFunc_ownH rfl (by decide) (gf := 86) (lb := #[.pointer (some ⟨w.heap.size + 1 + 1 + 1, 0, none⟩)]) rfl trivial (enters_of Try.func86 (by kernel_rfl) rfl)
    (H.out _ _ _ hB0 c1) KpC.trans (kpC_b (by simp; omega)) (Below.refl _ _) (fun _ => rfl)
    (fun pre W => (AllP (namedB dl sl) pre ∧ W.cell? ⟨w.heap.size + 1 + 1, 0, none⟩ = some (.bool false) ∧ W.frozen? ⟨w.heap.size + 1 + 1, 0, none⟩ = false ∧ W.cell? ⟨w.heap.size, 0, none⟩ = some (.map (some m1)) ∧ W.cell? ⟨w.heap.size, 1, none⟩ = some (.map (some m2))) ∧ Below w.heap.size w W)
    (fun c pre W => (c = .ret ∧ Hid (¬ AllP (namedB dl sl) pre) ∧ W.cell? ⟨w.heap.size + 1 + 1, 0, none⟩ = some (.bool false)) ∧ Below w.heap.size w W)
    (OwnFrom.and (Own.from (fun s A B row hs hg hr => ⟨hs.1, cell_kept hs.2.1 hg hr, (frozen_kept hs.2.1 hg hr).trans hs.2.2.1, cell_kept hs.2.2.2.1 hg hr, cell_kept hs.2.2.2.2 hg hr⟩) _) (ownFrom_below (Nat.le_refl _) (by simp; omega)))
    (fun c => OwnFrom.and (Own.from (fun s A B row hs hg hr => ⟨hs.1, hs.2.1, cell_kept hs.2.2 hg hr⟩) _) (ownFrom_below (Nat.le_refl _) (by simp; omega)))
    ⟨⟨fun _ h => by simp at h, cell_alloc_l _ r0.1, frozen_alloc_l _ r0.1 r0.2, p0, p1⟩, hB0⟩
    (fun x a' W => BoxAt (fun Bx => { tmps := #[.agg #[.map (some m1), .map (some m2)], nv t.op t.so t.nm t.nu (.slice A t.ks.length cap), .pointer (some ⟨w.heap.size, 0, none⟩), .pointer (some ⟨w.heap.size + 1, 0, none⟩), .pointer (some ⟨w.heap.size + 1 + 1, 0, none⟩), undef, .pointer (some ⟨Bx, 0, none⟩), nv t.op t.so t.nm t.nu (.slice A t.ks.length cap), .func (.func 86) #[] #[.pointer (some ⟨w.heap.size + 1 + 1 + 1, 0, none⟩)], .int .i64 x.lv, nv x.t.op x.t.so x.t.nm x.t.nu (.slice x.A x.t.ks.length x.cap), undef, undef, undef, undef], defers := [] }) x a' W)
    (fun x a' => boxAt_own _ _ x a') ?assign ?body ?done ?stop
  case assign =>
    rintro l pre x W K ⟨⟨hp, hr, hrf, q0, q1⟩, hB⟩ hK
    have hp := Lib.hid hp
    have HK := Lib.hid hK
    have hsz := hB.size
    clear H HL hB0 r0 c1 hK p0 p1
    simp only [encE]
    gi_wp2
    refine HK.out _ _ (KeepsFrom.alloc _ _ _) ((KpC.refl _ _ W).alloc hB.size _) ⟨⟨hp.out, cell_alloc_l _ hr, frozen_alloc_l _ hr hrf, cell_alloc_l _ q0, cell_alloc_l _ q1⟩, hB.alloc hB.size _⟩ ⟨W.heap.size, five_new _ _ _ _, rfl⟩
  case body =>
    rintro l pre x a' W hl hrec ⟨⟨hp, hr, hrf, q0, q1⟩, hB⟩ ⟨Bx, hx5, rfl⟩ _
    have hp := Lib.hid hp
    obtain ⟨a0, a1, a2, a3, a4⟩ := hx5
    clear H HL hB0 r0 c1 hrec p0 p1
    have hN := Lib.hid (HN.out W hB x.t (.slice x.A x.t.ks.length x.cap))
    cases hf : namedB dl sl x.t
    case false =>
      have hno := Lib.hid hf
      clear hf
      gi_wp2_with fail
      refine ⟨trivial, ?_⟩
      refine (CallsIn.inRound l (callsIn_wide.2 hN.out)).mono ?_
      rintro e w1 ⟨rfl, hb1⟩
      rw [hno.out]
      have hr1 := cellB hb1 (Nat.le_refl _) hr
      have hrf1 := (hb1.frozen (p := ⟨w.heap.size + 1 + 1, 0, none⟩) (World.block_lt_of_cell? _ _ hr)).trans hrf
      have hB1 : Below w.heap.size w w1 := hB.trans (hb1.mono hB.size)
      have hk1 : KeepsFrom (w.heap.size + 1 + 1 + 1 + 1) W w1 := KeepsFrom.of_below hb1
      clear hb1 hr hrf a0 a1 a2 a3 a4 q0 q1
      gi_wp2_with fail
      have e3 := World.cell?_setCell_same' w1 ⟨w.heap.size + 1 + 1, 0, none⟩ (.bool false) (by rw [hr1]; rfl)
      exact ⟨by simpa using hk1.trans (KeepsFrom.setCell _ _ _ _), ⟨rfl, allP_not hno.out, e3⟩, hB1.setCell (p := ⟨w.heap.size + 1 + 1, 0, none⟩) (by simp; omega) _⟩
    case true =>
      have hyes := Lib.hid hf
      clear hf
      gi_wp2_with fail
      refine ⟨trivial, ?_⟩
      refine (CallsIn.inRound l (callsIn_wide.2 hN.out)).mono ?_
      rintro e w1 ⟨rfl, hb1⟩
      rw [hyes.out]
      have hr1 := cellB hb1 (Nat.le_refl _) hr
      have hrf1 := (hb1.frozen (p := ⟨w.heap.size + 1 + 1, 0, none⟩) (World.block_lt_of_cell? _ _ hr)).trans hrf
      have g0 := cellB hb1 (Nat.le_refl _) q0
      have g1 := cellB hb1 (Nat.le_refl _) q1
      have hB1 : Below w.heap.size w w1 := hB.trans (hb1.mono hB.size)
      have hW1 := Lib.hid hb1
      clear hb1 hr hrf a0 a1 a2 a3 a4 q0 q1
      gi_wp2_with fail
      exact ⟨KeepsFrom.of_below hW1.out, KpC.of_below hW1.out hB.size, ⟨allP_snoc hp.out hyes.out, hr1, hrf1, g0, g1⟩, hB1⟩
  case done =>
    rintro D ys W hD rfl ⟨⟨hp, hr, hrf, _, _⟩, hB⟩ hK
    have Hr := Lib.hid (show ((ys.map El.key).all fun p => namedB dl sl p.2) = true from by
      rw [List.all_map, List.all_eq_true]
      exact hp)
    clear hp H HL hB0 r0 c1 p0 p1
    gi_wp2
    have hK' := (KeepsOthers.setCell W ⟨w.heap.size + 1 + 1, 0, none⟩ (.bool true)).same D _ hK rfl
    refine ⟨by simp, .inl ⟨_, _, rfl, run_takeDeferred hK', ?_⟩⟩
    have hc5 := cell_kept (World.cell?_setCell_same' W ⟨w.heap.size + 1 + 1, 0, none⟩ (.bool true) (by rw [hr]; rfl)) (grownBy_putObj' _ D (.deferred none)) (fun r e => by cases e; exact ⟨_, hK', rfl⟩)
    refine ⟨.bool true, ?_, by rw [Hr.out], (hB.setCell (p := ⟨w.heap.size + 1 + 1, 0, none⟩) (by simp; omega) _).trans (belowK_b (w := w) (Nat.le_refl _) _ D _ _ (by simp at hD; omega) hK' rfl rfl)⟩
    simp [results, Try.f73, go_sem, hc5]
  case stop =>
    rintro D c pre W hD hpre ⟨⟨rfl, hin, hcr⟩, hB⟩ hK
    have hres : ((xs.map El.key).all fun p => namedB dl sl p.2) = false := by
      rw [← Bool.not_eq_true]
      intro h
      rw [List.all_map, List.all_eq_true] at h
      exact hin.out fun x hx => h x (hpre.subset hx)
    have Hr := Lib.hid hres
    clear hres hin H HL hB0 r0 c1 p0 p1
    gi_wp2
    refine ⟨by simp, .inl ⟨_, _, rfl, run_takeDeferred hK, ?_⟩⟩
    have hc5 := cell_kept hcr (grownBy_putObj' _ D (.deferred none)) (fun r e => by cases e; exact ⟨_, hK, rfl⟩)
    refine ⟨.bool false, ?_, by rw [Hr.out], hB.trans (belowK_b (w := w) (Nat.le_refl _) W D _ _ (by simp at hD; omega) hK rfl rfl)⟩
    simp [results, Try.f73, go_sem, hc5]
end Go.Proofs.Ytpjokapkoeclpaa
