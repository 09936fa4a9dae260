/-
  Whether a number of kids is wrong, and whether kids fit their sigs, as the document's own way has it; conditions: the tree and the lists lie in memory; where kids are held against sigs, their numbers are right.
-/
import Derived.Test.YtgkjcimgghflmaaGreatDoorZSigs
namespace Go.Proofs.YtgkjcimgghflmaaGreatDoor
set_option maxRecDepth 100000
set_option maxHeartbeats 8000000
open Go.RowKit Go.Shelf Go.WideMaps
attribute [local go_sem] Oper.semAt_some
theorem argOk_same {z s : Int} (h : (z == s) = true) : argOk z s = true := decide_eq_true (.inl (by simpa using h))
theorem argOk_zero {z s : Int} (h : (z == 0) = true) (h2 : (s == 2) = false) : argOk z s = true := decide_eq_true (.inr ⟨by simpa using h, by simpa using h2⟩)
theorem argOk_two {z s : Int} (h : (z == s) = false) (h2 : (s == 2) = true) : argOk z s = false := decide_eq_false (by simp at h h2; rintro (h3 | h3) <;> omega)
theorem argOk_other {z s : Int} (h : (z == s) = false) (h2 : (z == 0) = false) : argOk z s = false := decide_eq_false (by simp at h h2; rintro (h3 | h3) <;> omega)
theorem fit_bad {ks : List Nd} {args : List Int} {k : Nat} (h1 : k < args.length) (h2 : k < ks.length) (h : argOk args[k] (sortN ks[k]) = false) : fitSigB ks args = false :=
 decide_eq_false fun hh => by have := hh.2 k h1 h2; rw [h] at this; cases this
theorem fitSig_any (ks : List Nd) (x : SgA) (A : Option Addr) (cap : Nat) (w : World) (hL : Lies w A cap ks) (hS : Ints w x.2.1 x.1.args) (hsl : x.1.args.length ≤ maxLen) :
  Calls Tryz.prog 80 #[.slice A ks.length cap, sgV x] w fun e w' => e = .returned (.bool (fitSigB ks x.1.args)) ∧ Below w.heap.size w w' := by
 have hn := hL.len
 unfold maxLen at hn hsl
 have HL := Lib.hid hL
 have HS := Lib.hid hS
 have HB := Lib.hid (fun O => (Below.refl w.heap.size w).alloc (Nat.le_refl _) O)
 clear hL hS
 by_cases h1 : ks.length = x.1.args.length
 case neg =>
  have h1' : ((ks.length : Int) == (x.1.args.length : Int)) = false := by rw [beq_eq_false_iff_ne]; omega
  have Hr := Lib.hid (show fitSigB ks x.1.args = false from decide_eq_false (fun h => h1 h.1))
  clear h1
  go_enter Tryz.func80, Tryz.ntmps80
  go_wp2_with fail
  go_ret
  exact ⟨by rw [Hr.out]; rfl, HB.out _⟩
 have h1' : ((ks.length : Int) == (x.1.args.length : Int)) = true := by rw [beq_iff_eq]; omega
 have h1'' : ((ks.length : Int) != (x.1.args.length : Int)) = false := by simp; omega
 have H1 := Lib.hid h1
 clear h1
 go_enter Tryz.func80, Tryz.ntmps80
 go_wp2_with fail
 go_loopw [17] (fun i wr => ∃ k : Nat, k ≤ x.1.args.length ∧ i = .int .i64 k ∧ Hid (∀ j (h1 : j < x.1.args.length) (h2 : j < ks.length), j < k → argOk x.1.args[j] (sortN ks[j]) = true) ∧ Below w.heap.size w wr) (fun i _ => x.1.args.length - (intOf i).toNat)
 case atStart => exact ⟨0, Nat.zero_le _, rfl, fun j _ _ hj => absurd hj (by omega), HB.out _⟩
 case round =>
  obtain ⟨k, hk, rfl, hj, hB⟩ := hrel
  by_cases hlt : k < x.1.args.length
  ·have hltk : k < ks.length := by have := H1.out; omega
   obtain ⟨b, o, A', C', rfl, h5, hK⟩ := HL.out.kid hltk
   obtain ⟨sb, so, hsa, hsc⟩ := HS.out.later hB
   replace hsa := hsa (by omega)
   have c0 := hsc k hlt
   obtain ⟨a0, a1, a2, a3, a4⟩ := h5.later hB
   have hK' := Lib.hid (hK.later hB)
   have hyes := Lib.hid (fun (e : argOk x.1.args[k] (sortN ks[k]) = true) => (show Hid (∀ j (h1 : j < x.1.args.length) (h2 : j < ks.length), j < k + 1 → argOk x.1.args[j] (sortN ks[j]) = true) from fun j h1 h2 hjk => by
    by_cases e' : j = k
    ·subst e'; exact e
    ·exact hj.out j h1 h2 (by omega)))
   have hno := Lib.hid (fun (e : argOk x.1.args[k] (sortN ks[k]) = false) => fit_bad hlt hltk e)
   have HX := Lib.hid hsa
   generalize x.1.args[k] = z at *
   generalize ks[k] = q at *
   clear h5 hK hsc HS HL hj
   rw [hsa]
   clear hsa
   cases hz : z == sortN q
   case true =>
    have hok := Lib.hid (hyes.out (argOk_same hz))
    have hz' : (z != sortN q) = false := by rw [bne, hz]; rfl
    clear hyes hno
    go_wp2_with fail
    refine (sort_any q _ _ _ hK'.out).mono ?_
    rintro e w1 ⟨rfl, hb1⟩
    have hB1 : Below w.heap.size w w1 := hB.trans (hb1.mono hB.size)
    clear hb1
    go_wp2_with fail
    go_roundw
    case rel => exact ⟨k + 1, by omega, by go_num, hok.out, hB1⟩
    case measure => simp [intOf]; omega
   case false =>
    have hz' : (z != sortN q) = true := by rw [bne, hz]; rfl
    cases h0 : z == 0
    case false =>
     have h0' : (z != 0) = true := by rw [bne, h0]; rfl
     have Hr := Lib.hid (hno.out (argOk_other hz h0))
     clear hyes hno
     go_wp2_with fail
     refine (sort_any q _ _ _ hK'.out).mono ?_
     rintro e w1 ⟨rfl, hb1⟩
     have hB1 : Below w.heap.size w w1 := hB.trans (hb1.mono hB.size)
     clear hb1
     go_wp2_with fail
     go_ret
     exact ⟨by rw [Hr.out]; rfl, hB1⟩
    case true =>
     obtain rfl : z = 0 := by simpa using h0
     cases h2 : sortN q == 2
     case true =>
      have Hr := Lib.hid (hno.out (argOk_two hz h2))
      clear hyes hno
      go_wp2_with fail
      refine (sort_any q _ _ _ hK'.out).mono ?_
      rintro e w1 ⟨rfl, hb1⟩
      have hB1 : Below w.heap.size w w1 := hB.trans (hb1.mono hB.size)
      clear hb1
      go_wp2_with fail
      go_ret
      exact ⟨by rw [Hr.out]; rfl, hB1⟩
     case false =>
      have hok := Lib.hid (hyes.out (argOk_zero h0 h2))
      clear hyes hno
      go_wp2_with fail
      refine (sort_any q _ _ _ hK'.out).mono ?_
      rintro e w1 ⟨rfl, hb1⟩
      have hB1 : Below w.heap.size w w1 := hB.trans (hb1.mono hB.size)
      clear hb1
      go_wp2_with fail
      go_roundw
      case rel => exact ⟨k + 1, by omega, by go_num, hok.out, hB1⟩
      case measure => simp [intOf]; omega
  ·have Hr := Lib.hid (show fitSigB ks x.1.args = true from decide_eq_true ⟨H1.out, fun j h1 h2 => hj.out j h1 h2 (by omega)⟩)
   go_wp2_with fail
   go_ret
   exact ⟨by rw [Hr.out]; rfl, hB⟩
def sigAt (sl : List SgA) (s : ByteArray) : SgA := (lookS sl s).getD zeroSg
theorem sigAt_in {w : World} {sl : List SgA} (h : ArgsIn w sl) (s : ByteArray) : Ints w (sigAt sl s).2.1 (sigAt sl s).1.args ∧ (sigAt sl s).1.args.length ≤ maxLen ∧ (Lit.int .i64 (sigAt sl s).1.so).wf = true := by
 unfold sigAt
 cases hf : lookS sl s with
 | none => exact ⟨ints_nil w, by simp [zeroSg], by decide⟩
 | some y => exact h y (List.mem_of_find?_eq_some hf)
theorem fS_plain (sl : List SgA) (s : ByteArray) : (fS sl s).getD (sgV zeroSg) = sgV (sigAt sl s) := by
 unfold fS sigAt
 cases lookS sl s <;> rfl
theorem fitOp_no {sl : List SgA} {t : Nd} (h : (t.op == 3) = false) : fitOp sl t = true := by rw [fitOp, h]; rfl
theorem fitOp_app {sl : List SgA} {t : Nd} (h : (t.op == 3) = true) : fitOp sl t = fitSigB t.ks (sigAt sl t.nm).1.args := by rw [fitOp, h]; rfl
theorem argsFit_any (m1 m2 : Nat) (sl : List SgA) (t : Nd) (A : Option Addr) (cap : Nat) (w : World) (hL : Lies w A cap t.ks) (hfine : Fine t) (hm2 : NameMap w m2 (fS sl)) (hA : ArgsIn w sl) :
  Calls Tryz.prog 46 #[.agg #[.map (some m1), .map (some m2)], nv t.op t.so t.nm t.nu (.slice A t.ks.length cap)] w fun e w' => e = .returned (.bool (fitB sl t)) ∧ Below w.heap.size w w' := by
 obtain ⟨xs, hxs, hst⟩ := walk_stops t A cap w hL hfine
 rw [fitB, allP_nodes hxs]
 clear hxs
 have hlt2 := hm2.lt
 have HN := Lib.hid (fun W (hb : Below w.heap.size w W) s => ((hm2.kept (hb.block m2 hlt2)).plain77 s).trans (by rw [fS_plain]))
 have HA := Lib.hid (fun W (hb : Below w.heap.size w W) s => sigAt_in (hA.later hb) s)
 clear hm2 hA
 refine callsIn_wide (n := 9).1 ?_
 refine callsIn_of_wp_marks Tryz.func46 rfl trivial ?_ rfl
 simp only [Tryz.ntmps46, List.size_toArray, List.length_cons, List.length_nil, Nat.reduceAdd, Nat.reduceSub, Array.replicate_succ, Array.replicate_zero, List.push_toArray, List.append_toArray, List.nil_append, List.cons_append]
 have H := Lib.hid hst
 have HL := Lib.hid hL
 clear hst hL
 gi_wp2_with (refine ⟨trivial, ?_⟩; gi_at_call 76; refine (walkClo_any _ _ _ _ _ _ _).mono ?_; rintro e w' ⟨rfl, rfl⟩)
 have hB0 : Below w.heap.size w ((((w.alloc (.cells #[.map (some m1), .map (some m2)] 74)).alloc (.cells #[.int .i64 t.op, .int .i64 t.so, .string t.nm, .int .i64 t.nu, .slice A t.ks.length cap] 27)).alloc (.cells #[.bool false] 4)).alloc (.cells #[.int .i64 t.op, .int .i64 t.so, .string t.nm, .int .i64 t.nu, .slice A t.ks.length cap] 27)) :=
  ((((Below.refl _ w).alloc (Nat.le_refl _) _).alloc (by simp) _).alloc (by simp; omega) _).alloc (by simp; omega) _
 have r0 := cell_new_l ((w.alloc (.cells #[.map (some m1), .map (some m2)] 74)).alloc (.cells #[.int .i64 t.op, .int .i64 t.so, .string t.nm, .int .i64 t.nu, .slice A t.ks.length cap] 27)) (.bool false) 4
 have c1 := five_new (((w.alloc (.cells #[.map (some m1), .map (some m2)] 74)).alloc (.cells #[.int .i64 t.op, .int .i64 t.so, .string t.nm, .int .i64 t.nu, .slice A t.ks.length cap] 27)).alloc (.cells #[.bool false] 4)) t (.slice A t.ks.length cap) 27
 have p0 : ((((w.alloc (.cells #[.map (some m1), .map (some m2)] 74)).alloc (.cells #[.int .i64 t.op, .int .i64 t.so, .string t.nm, .int .i64 t.nu, .slice A t.ks.length cap] 27)).alloc (.cells #[.bool false] 4)).alloc (.cells #[.int .i64 t.op, .int .i64 t.so, .string t.nm, .int .i64 t.nu, .slice A t.ks.length cap] 27)).cell? ⟨w.heap.size, 0, none⟩ = some (.map (some m1)) := by simp [go_sem]
 have p1 : ((((w.alloc (.cells #[.map (some m1), .map (some m2)] 74)).alloc (.cells #[.int .i64 t.op, .int .i64 t.so, .string t.nm, .int .i64 t.nu, .slice A t.ks.length cap] 27)).alloc (.cells #[.bool false] 4)).alloc (.cells #[.int .i64 t.op, .int .i64 t.so, .string t.nm, .int .i64 t.nu, .slice A t.ks.length cap] 27)).cell? ⟨w.heap.size, 1, none⟩ = some (.map (some m2)) := by simp [go_sem]
 simp only [World.size_alloc] at c1 r0
 refine wpIn_rangeFunc_ownH rfl (by decide) (gf := 113) (lb := #[.pointer (some ⟨w.heap.size + 1 + 1 + 1, 0, none⟩)]) rfl trivial (enters_of Tryz.func113 (by kernel_rfl) rfl)
  (H.out _ _ _ hB0 c1) KpC.trans (kpC_b (by simp; omega)) (Below.refl _ _) (fun _ => rfl)
  (fun pre W => (AllPN (fitOp sl) pre ∧ W.cell? ⟨w.heap.size + 1 + 1, 0, none⟩ = some (.bool false) ∧ W.frozen? ⟨w.heap.size + 1 + 1, 0, none⟩ = false ∧ W.cell? ⟨w.heap.size, 0, none⟩ = some (.map (some m1)) ∧ W.cell? ⟨w.heap.size, 1, none⟩ = some (.map (some m2))) ∧ Below w.heap.size w W)
  (fun c pre W => (c = .ret ∧ Hid (¬ AllPN (fitOp sl) pre) ∧ W.cell? ⟨w.heap.size + 1 + 1, 0, none⟩ = some (.bool false)) ∧ Below w.heap.size w W)
  (OwnFrom.and (Own.from (fun s A B row hs hg hr => ⟨hs.1, cell_kept hs.2.1 hg hr, (frozen_kept hs.2.1 hg hr).trans hs.2.2.1, cell_kept hs.2.2.2.1 hg hr, cell_kept hs.2.2.2.2 hg hr⟩) _) (ownFrom_below (Nat.le_refl _) (by simp; omega)))
  (fun c => OwnFrom.and (Own.from (fun s A B row hs hg hr => ⟨hs.1, hs.2.1, cell_kept hs.2.2 hg hr⟩) _) (ownFrom_below (Nat.le_refl _) (by simp; omega)))
  ⟨⟨fun _ h => by simp at h, cell_alloc_l _ r0.1, frozen_alloc_l _ r0.1 r0.2, p0, p1⟩, hB0⟩
  (fun x a' W => BoxAt (fun Bx => { tmps := #[.agg #[.map (some m1), .map (some m2)], nv t.op t.so t.nm t.nu (.slice A t.ks.length cap), .pointer (some ⟨w.heap.size, 0, none⟩), .pointer (some ⟨w.heap.size + 1, 0, none⟩), .pointer (some ⟨w.heap.size + 1 + 1, 0, none⟩), undef, .pointer (some ⟨Bx, 0, none⟩), nv t.op t.so t.nm t.nu (.slice A t.ks.length cap), .func (.func 113) #[] #[.pointer (some ⟨w.heap.size + 1 + 1 + 1, 0, none⟩)], .int .i64 x.lv, nv x.t.op x.t.so x.t.nm x.t.nu (.slice x.A x.t.ks.length x.cap), undef, undef, undef, undef, undef, undef, undef, undef, undef, undef, undef, undef, undef, undef], defers := [] }) x a' W)
  (fun x a' => boxAt_own _ _ x a') ?assign ?body ?done ?stop
 case assign =>
  rintro l pre x W K ⟨⟨hp, hr, hrf, q0, q1⟩, hB⟩ hK
  have hp := Lib.hid hp
  have HK := Lib.hid hK
  have hsz := hB.size
  clear H HL hB0 r0 c1 hK p0 p1
  simp only [encE]
  gi_wp2
  refine HK.out _ _ (KeepsFrom.alloc _ _ _) ((KpC.refl _ _ W).alloc hB.size _) ⟨⟨hp.out, cell_alloc_l _ hr, frozen_alloc_l _ hr hrf, cell_alloc_l _ q0, cell_alloc_l _ q1⟩, hB.alloc hB.size _⟩ ⟨W.heap.size, five_new _ _ _ _, rfl⟩
 case body =>
  rintro l pre x a' W hl hrec ⟨⟨hp, hr, hrf, q0, q1⟩, hB⟩ ⟨Bx, hx5, rfl⟩ _
  have hp := Lib.hid hp
  obtain ⟨a0, a1, a2, a3, a4⟩ := hx5
  clear H HL hB0 r0 c1 hrec p0 p1
  have hlies := Lib.hid (x.lies.later hB)
  cases h3 : x.t.op == 3
  case false =>
   have hyes := Lib.hid (fitOp_no (sl := sl) h3)
   gi_wp2_with fail
   refine ⟨trivial, ?_⟩
   gi_wp2_with fail
   exact ⟨KeepsFrom.of_below (Below.refl _ _), KpC.refl _ _ _, ⟨allP_snoc hp.out hyes.out, hr, hrf, q0, q1⟩, hB⟩
  case true =>
  have hN := HN.out W hB x.t.nm
  have hfo := Lib.hid (fitOp_app (sl := sl) h3)
  have hI := Lib.hid (HA.out W hB x.t.nm)
  generalize sigAt sl x.t.nm = y at *
  clear HN HA
  have hN : (Instr.lookup 72 (.map (some m2)) (.string x.t.nm) false).run Tryz.prog W = .ok (.agg #[.string y.1.nm, .slice y.2.1 y.1.args.length y.2.2, .int .i64 y.1.so]) W := hN
  cases hf : fitSigB x.t.ks y.1.args
  case false =>
   have hno := Lib.hid (show fitOp sl x.t = false by rw [hfo.out, hf])
   have Hf := Lib.hid hf
   clear hf hfo
   gi_wp2_with fail
   refine ⟨trivial, ?_⟩
   refine (CallsIn.inRound l (callsIn_wide.2 (fitSig_any _ y _ _ _ hlies.out hI.out.1 hI.out.2.1))).mono ?_
   rintro e w1 ⟨rfl, hb1⟩
   rw [Hf.out]
   have hr1 := cellB hb1 (Nat.le_refl _) hr
   have hrf1 := (hb1.frozen (p := ⟨w.heap.size + 1 + 1, 0, none⟩) (World.block_lt_of_cell? _ _ hr)).trans hrf
   have hB1 : Below w.heap.size w w1 := hB.trans (hb1.mono hB.size)
   have hk1 : KeepsFrom (w.heap.size + 1 + 1 + 1 + 1) W w1 := KeepsFrom.of_below hb1
   clear hb1 hr hrf a0 a1 a2 a3 a4 q0 q1
   gi_wp2_with fail
   have e3 := World.cell?_setCell_same' w1 ⟨w.heap.size + 1 + 1, 0, none⟩ (.bool false) (by rw [hr1]; rfl)
   exact ⟨by simpa using hk1.trans (KeepsFrom.setCell _ _ _ _), ⟨rfl, allP_not hno.out, e3⟩, hB1.setCell (p := ⟨w.heap.size + 1 + 1, 0, none⟩) (by simp; omega) _⟩
  case true =>
   have hyes := Lib.hid (show fitOp sl x.t = true by rw [hfo.out, hf])
   have Hf := Lib.hid hf
   clear hf hfo
   gi_wp2_with fail
   refine ⟨trivial, ?_⟩
   refine (CallsIn.inRound l (callsIn_wide.2 (fitSig_any _ y _ _ _ hlies.out hI.out.1 hI.out.2.1))).mono ?_
   rintro e w1 ⟨rfl, hb1⟩
   rw [Hf.out]
   have hr1 := cellB hb1 (Nat.le_refl _) hr
   have hrf1 := (hb1.frozen (p := ⟨w.heap.size + 1 + 1, 0, none⟩) (World.block_lt_of_cell? _ _ hr)).trans hrf
   have g0 := cellB hb1 (Nat.le_refl _) q0
   have g1 := cellB hb1 (Nat.le_refl _) q1
   have hB1 : Below w.heap.size w w1 := hB.trans (hb1.mono hB.size)
   have hW1 := Lib.hid hb1
   clear hb1 hr hrf a0 a1 a2 a3 a4 q0 q1
   gi_wp2_with fail
   exact ⟨KeepsFrom.of_below hW1.out, KpC.of_below hW1.out hB.size, ⟨allP_snoc hp.out hyes.out, hr1, hrf1, g0, g1⟩, hB1⟩
 case done =>
  rintro D ys W hD rfl ⟨⟨hp, hr, hrf, _, _⟩, hB⟩ hK
  have Hr := Lib.hid (show ((ys.map El.key).all fun p => fitOp sl p.2) = true from by
   rw [List.all_map, List.all_eq_true]
   exact hp)
  clear hp H HL hB0 r0 c1 p0 p1
  gi_wp2
  have hK' := (KeepsOthers.setCell W ⟨w.heap.size + 1 + 1, 0, none⟩ (.bool true)).same D _ hK rfl
  refine ⟨by simp, .inl ⟨_, _, rfl, run_takeDeferred hK', ?_⟩⟩
  have hc5 := cell_kept (World.cell?_setCell_same' W ⟨w.heap.size + 1 + 1, 0, none⟩ (.bool true) (by rw [hr]; rfl)) (grownBy_putObj' _ D (.deferred none)) (fun r e => by cases e; exact ⟨_, hK', rfl⟩)
  refine ⟨.bool true, ?_, by rw [Hr.out], (hB.setCell (p := ⟨w.heap.size + 1 + 1, 0, none⟩) (by simp; omega) _).trans (belowK_b (w := w) (Nat.le_refl _) _ D _ _ (by simp at hD; omega) hK' rfl rfl)⟩
  simp [results, Tryz.f46, go_sem, hc5]
 case stop =>
  rintro D c pre W hD hpre ⟨⟨rfl, hin, hcr⟩, hB⟩ hK
  have hres : ((xs.map El.key).all fun p => fitOp sl p.2) = false := by
   rw [← Bool.not_eq_true]
   intro h
   rw [List.all_map, List.all_eq_true] at h
   exact hin.out fun x hx => h x (hpre.subset hx)
  have Hr := Lib.hid hres
  clear hres hin H HL hB0 r0 c1 p0 p1
  gi_wp2
  refine ⟨by simp, .inl ⟨_, _, rfl, run_takeDeferred hK, ?_⟩⟩
  have hc5 := cell_kept hcr (grownBy_putObj' _ D (.deferred none)) (fun r e => by cases e; exact ⟨_, hK, rfl⟩)
  refine ⟨.bool false, ?_, by rw [Hr.out], hB.trans (belowK_b (w := w) (Nat.le_refl _) W D _ _ (by simp at hD; omega) hK rfl rfl)⟩
  simp [results, Tryz.f46, go_sem, hc5]
end Go.Proofs.YtgkjcimgghflmaaGreatDoor
namespace Go.Proofs.YtgkjcimgghflmaaGreatDoor
set_option maxRecDepth 100000
set_option maxHeartbeats 8000000
open Go.RowKit Go.Shelf Go.WideMaps
attribute [local go_sem] Oper.semAt_some
def unnB (dl : List (ByteArray × Int)) (sl : List SgA) (t : Nd) : Bool := !allNamed dl sl t
theorem unn_eq (dl : List (ByteArray × Int)) (sl : List SgA) (t : Nd) : unnB dl sl t = (!namedB dl sl t || t.ks.any (unnB dl sl)) := by
 unfold unnB allNamed
 rw [all_eq, Bool.not_and, List.not_all_eq_any_not]
theorem any_kid {F : Nd → Bool} {ks : List Nd} (k : Nd) (hk : k ∈ ks) (e : F k = true) : ks.any F = true := List.any_eq_true.2 ⟨k, hk, e⟩
theorem no_kid {F : Nd → Bool} {ks : List Nd} (h : ∀ j (hj : j < ks.length), F ks[j] = false) : ks.any F = false := by
 rw [List.any_eq_false]
 intro k hk
 obtain ⟨i, hi, rfl⟩ := List.getElem_of_mem hk
 rw [h i hi]; simp
theorem all_kid {F : Nd → Bool} {ks : List Nd} (k : Nd) (hk : k ∈ ks) (e : F k = false) : ks.all F = false := by
 rw [← Bool.not_eq_true, List.all_eq_true]
 intro h
 rw [h k hk] at e
 cases e
theorem all_kids {F : Nd → Bool} {ks : List Nd} (h : ∀ j (hj : j < ks.length), F ks[j] = true) : ks.all F = true := by
 rw [List.all_eq_true]
 intro k hk
 obtain ⟨i, hi, rfl⟩ := List.getElem_of_mem hk
 exact h i hi
theorem unnamed_any (dl : List (ByteArray × Int)) (sl : List SgA) (DA SA : Option Addr) (dcap scap : Nat) (hdl : dl.length ≤ maxLen) (hsl : sl.length ≤ maxLen) (t : Nd) : ∀ (A : Option Addr) (cap : Nat) (w : World), Lies w A cap t.ks → Dcls w DA dl → Sgs w SA sl →
  Calls Tryz.prog 47 #[nv t.op t.so t.nm t.nu (.slice A t.ks.length cap), .slice DA dl.length dcap, .slice SA sl.length scap] w fun e w' => e = .returned (.bool (unnB dl sl t)) ∧ Below w.heap.size w w' := by
 induction t using Nd.ind with
 | h t ih =>
 intro A cap w hL hD hS
 have hn := hL.len
 unfold maxLen at hn
 have HL := Lib.hid hL
 have IH := Lib.hid ih
 have HD := Lib.hid hD
 have HS := Lib.hid hS
 have HB := Lib.hid (show ∀ O, Below w.heap.size w (w.alloc O) from fun O => (Below.refl _ _).alloc (Nat.le_refl _) _)
 have F0 := Lib.hid (five_new w t (.slice A t.ks.length cap) 27)
 clear hL ih hD hS
 by_cases h1 : t.op = 1
 ·have h1' : (t.op == 1) = true := by simpa using h1
  have h3' : (t.op == 3) = false := by rw [beq_eq_false_iff_ne]; omega
  have hun : unnB dl sl t = (!((lookD dl t.nm).isSome || constB sl t.nm) || t.ks.any (unnB dl sl)) := by rw [unn_eq, namedB, if_pos h1]
  clear h1
  cases hfd : lookD dl t.nm with
  | some y =>
   have hz := Lib.hid (show unnB dl sl t = t.ks.any (unnB dl sl) by rw [hun, hfd]; rfl)
   have hfd := Lib.hid hfd
   clear hun
   go_enter Tryz.func47, Tryz.ntmps47
   go_wp2_with fail
   refine (varOf_any dl t.nm DA dcap _ (HD.out.later (HB.out _)) hdl).mono ?_
   rintro e w1 ⟨rfl, hb1⟩
   rw [hfd.out]
   have HB1 := Lib.hid ((HB.out (.cells #[.int .i64 t.op, .int .i64 t.so, .string t.nm, .int .i64 t.nu, .slice A t.ks.length cap] 27)).trans (hb1.mono (HB.out _).size))
   have F1 := Lib.hid (F0.out.later hb1)
   obtain ⟨a0, a1, a2, a3, a4⟩ := F1.out
   clear hb1
   go_wp2_with fail
   refine (sigOf_any sl t.nm SA scap _ (HS.out.later HB1.out) hsl).mono ?_
   rintro e w2 ⟨rfl, hb2⟩
   have hB2 := HB1.out.trans (hb2.mono HB1.out.size)
   have F2 := F1.out.later hb2
   clear hb2 a0 a1 a2 a3 a4
   have HBL := Lib.hid (fun O => hB2.alloc hB2.size O)
   have hszw : w.heap.size < w2.heap.size := World.block_lt_of_cell? _ _ F2.c0
   obtain ⟨a0, a1, a2, a3, a4⟩ := F2
   clear hB2
   generalize (lookS sl t.nm).isSome = bb at *
   generalize (lookS sl t.nm).getD zeroSg = y at *
   go_wp2_with fail
   clear a0 a1 a2 a3 a4
   have HBL := Lib.hid (HBL.out (.cells #[.string y.1.nm, .slice y.2.1 y.1.args.length y.2.2, .int .i64 y.1.so] 80))
   go_loopw [59] (fun i wr => ∃ k : Nat, k ≤ t.ks.length ∧ i = .int .i64 k ∧ Hid (∀ j (h : j < t.ks.length), j < k → unnB dl sl t.ks[j] = false) ∧ Below w.heap.size w wr) (fun i _ => t.ks.length - (intOf i).toNat)
   case atStart => exact ⟨0, Nat.zero_le _, rfl, fun j hj hjk => absurd hjk (by omega), HBL.out⟩
   case round =>
    obtain ⟨k, hk, rfl, hj, hBr⟩ := hrel
    by_cases hlt : k < t.ks.length
    ·obtain ⟨b, o, A', C', rfl, g5, hK⟩ := HL.out.kid hlt
     obtain ⟨a0, a1, a2, a3, a4⟩ := g5.later hBr
     have c := Lib.hid (IH.out k hlt A' C')
     have hK' := Lib.hid (hK.later hBr)
     have hsn := Lib.hid (fun (e : unnB dl sl t.ks[k] = false) => (show Hid (∀ j (h : j < t.ks.length), j < k + 1 → unnB dl sl t.ks[j] = false) from fun j hjs hjk => by
      by_cases e' : j = k
      ·subst e'; exact e
      ·exact hj.out j hjs (by omega)))
     have hyes := Lib.hid (fun (e : unnB dl sl t.ks[k] = true) => hz.out.trans (any_kid _ (List.getElem_mem hlt) e))
     have hszr := hBr.size
     have HBr := Lib.hid hBr
     have HDr := Lib.hid (HD.out.later hBr)
     have HSr := Lib.hid (HS.out.later hBr)
     generalize t.ks[k] = q at *
     clear g5 hK IH HL hj HD HS
     cases hq : unnB dl sl q
     case false =>
      have Hq := Lib.hid hq
      have Hsn := hsn.out hq
      clear hq hyes
      go_wp2_with fail
      refine (c.out _ (hK'.out.later ((Below.refl _ _).alloc (Nat.le_refl _) _)) (HDr.out.later ((Below.refl _ _).alloc (Nat.le_refl _) _)) (HSr.out.later ((Below.refl _ _).alloc (Nat.le_refl _) _))).mono ?_
      rintro e w2 ⟨rfl, hb2⟩
      rw [Hq.out]
      have hB2 := Lib.hid (HBr.out.trans ((((Below.refl _ wr).alloc (Nat.le_refl _) _).trans (hb2.mono (by simp))).mono hszr))
      clear hb2
      go_wp2_with fail
      go_roundw
      case rel => exact ⟨k + 1, by omega, by go_num, Hsn.out, hB2.out⟩
      case measure => simp [intOf]; omega
     case true =>
      have Hq := Lib.hid hq
      have Hr := Lib.hid (hyes.out hq)
      clear hq hsn hyes
      go_wp2_with fail
      refine (c.out _ (hK'.out.later ((Below.refl _ _).alloc (Nat.le_refl _) _)) (HDr.out.later ((Below.refl _ _).alloc (Nat.le_refl _) _)) (HSr.out.later ((Below.refl _ _).alloc (Nat.le_refl _) _))).mono ?_
      rintro e w2 ⟨rfl, hb2⟩
      rw [Hq.out]
      have hB2 := Lib.hid (HBr.out.trans ((((Below.refl _ wr).alloc (Nat.le_refl _) _).trans (hb2.mono (by simp))).mono hszr))
      clear hb2
      go_wp2_with fail
      go_ret
      exact ⟨by rw [Hr.out]; rfl, hB2.out⟩
    ·have Hr := Lib.hid (hz.out.trans (no_kid (fun j h => hj.out j h (by omega))))
     go_wp2_with fail
     go_ret
     exact ⟨by rw [Hr.out]; rfl, hBr⟩
  | none =>
   cases hfs : lookS sl t.nm with
   | none =>
    have Hr := Lib.hid (show unnB dl sl t = true by rw [hun, hfd, constB, hfs]; rfl)
    have hfd := Lib.hid hfd
    have hfs := Lib.hid hfs
    clear hun
    go_enter Tryz.func47, Tryz.ntmps47
    go_wp2_with fail
    refine (varOf_any dl t.nm DA dcap _ (HD.out.later (HB.out _)) hdl).mono ?_
    rintro e w1 ⟨rfl, hb1⟩
    rw [hfd.out]
    have HB1 := Lib.hid ((HB.out (.cells #[.int .i64 t.op, .int .i64 t.so, .string t.nm, .int .i64 t.nu, .slice A t.ks.length cap] 27)).trans (hb1.mono (HB.out _).size))
    have F1 := Lib.hid (F0.out.later hb1)
    obtain ⟨a0, a1, a2, a3, a4⟩ := F1.out
    clear hb1
    go_wp2_with fail
    refine (sigOf_any sl t.nm SA scap _ (HS.out.later HB1.out) hsl).mono ?_
    rintro e w2 ⟨rfl, hb2⟩
    have hB2 := HB1.out.trans (hb2.mono HB1.out.size)
    have F2 := F1.out.later hb2
    clear hb2 a0 a1 a2 a3 a4
    have HBL := Lib.hid (fun O => hB2.alloc hB2.size O)
    have hszw : w.heap.size < w2.heap.size := World.block_lt_of_cell? _ _ F2.c0
    obtain ⟨a0, a1, a2, a3, a4⟩ := F2
    clear hB2
    rw [hfs.out]
    go_wp2_with fail
    go_ret
    exact ⟨by rw [Hr.out]; rfl, HBL.out _⟩
   | some y =>
    by_cases ha : y.1.args = []
    ·have hz := Lib.hid (show unnB dl sl t = t.ks.any (unnB dl sl) by rw [hun, hfd, constB, sigArgs, hfs]; simp [ha])
     have hg : decide (0 < y.1.args.length) = false := by rw [ha]; rfl
     have hfd := Lib.hid hfd
     have hfs := Lib.hid hfs
     clear hun ha
     go_enter Tryz.func47, Tryz.ntmps47
     go_wp2_with fail
     refine (varOf_any dl t.nm DA dcap _ (HD.out.later (HB.out _)) hdl).mono ?_
     rintro e w1 ⟨rfl, hb1⟩
     rw [hfd.out]
     have HB1 := Lib.hid ((HB.out (.cells #[.int .i64 t.op, .int .i64 t.so, .string t.nm, .int .i64 t.nu, .slice A t.ks.length cap] 27)).trans (hb1.mono (HB.out _).size))
     have F1 := Lib.hid (F0.out.later hb1)
     obtain ⟨a0, a1, a2, a3, a4⟩ := F1.out
     clear hb1
     go_wp2_with fail
     refine (sigOf_any sl t.nm SA scap _ (HS.out.later HB1.out) hsl).mono ?_
     rintro e w2 ⟨rfl, hb2⟩
     have hB2 := HB1.out.trans (hb2.mono HB1.out.size)
     have F2 := F1.out.later hb2
     clear hb2 a0 a1 a2 a3 a4
     have HBL := Lib.hid (fun O => hB2.alloc hB2.size O)
     have hszw : w.heap.size < w2.heap.size := World.block_lt_of_cell? _ _ F2.c0
     obtain ⟨a0, a1, a2, a3, a4⟩ := F2
     clear hB2
     rw [hfs.out]
     go_wp2_with fail
     clear a0 a1 a2 a3 a4
     have HBL := Lib.hid (HBL.out (.cells #[.string y.1.nm, .slice y.2.1 y.1.args.length y.2.2, .int .i64 y.1.so] 80))
     go_loopw [59] (fun i wr => ∃ k : Nat, k ≤ t.ks.length ∧ i = .int .i64 k ∧ Hid (∀ j (h : j < t.ks.length), j < k → unnB dl sl t.ks[j] = false) ∧ Below w.heap.size w wr) (fun i _ => t.ks.length - (intOf i).toNat)
     case atStart => exact ⟨0, Nat.zero_le _, rfl, fun j hj hjk => absurd hjk (by omega), HBL.out⟩
     case round =>
      obtain ⟨k, hk, rfl, hj, hBr⟩ := hrel
      by_cases hlt : k < t.ks.length
      ·obtain ⟨b, o, A', C', rfl, g5, hK⟩ := HL.out.kid hlt
       obtain ⟨a0, a1, a2, a3, a4⟩ := g5.later hBr
       have c := Lib.hid (IH.out k hlt A' C')
       have hK' := Lib.hid (hK.later hBr)
       have hsn := Lib.hid (fun (e : unnB dl sl t.ks[k] = false) => (show Hid (∀ j (h : j < t.ks.length), j < k + 1 → unnB dl sl t.ks[j] = false) from fun j hjs hjk => by
        by_cases e' : j = k
        ·subst e'; exact e
        ·exact hj.out j hjs (by omega)))
       have hyes := Lib.hid (fun (e : unnB dl sl t.ks[k] = true) => hz.out.trans (any_kid _ (List.getElem_mem hlt) e))
       have hszr := hBr.size
       have HBr := Lib.hid hBr
       have HDr := Lib.hid (HD.out.later hBr)
       have HSr := Lib.hid (HS.out.later hBr)
       generalize t.ks[k] = q at *
       clear g5 hK IH HL hj HD HS
       cases hq : unnB dl sl q
       case false =>
        have Hq := Lib.hid hq
        have Hsn := hsn.out hq
        clear hq hyes
        go_wp2_with fail
        refine (c.out _ (hK'.out.later ((Below.refl _ _).alloc (Nat.le_refl _) _)) (HDr.out.later ((Below.refl _ _).alloc (Nat.le_refl _) _)) (HSr.out.later ((Below.refl _ _).alloc (Nat.le_refl _) _))).mono ?_
        rintro e w2 ⟨rfl, hb2⟩
        rw [Hq.out]
        have hB2 := Lib.hid (HBr.out.trans ((((Below.refl _ wr).alloc (Nat.le_refl _) _).trans (hb2.mono (by simp))).mono hszr))
        clear hb2
        go_wp2_with fail
        go_roundw
        case rel => exact ⟨k + 1, by omega, by go_num, Hsn.out, hB2.out⟩
        case measure => simp [intOf]; omega
       case true =>
        have Hq := Lib.hid hq
        have Hr := Lib.hid (hyes.out hq)
        clear hq hsn hyes
        go_wp2_with fail
        refine (c.out _ (hK'.out.later ((Below.refl _ _).alloc (Nat.le_refl _) _)) (HDr.out.later ((Below.refl _ _).alloc (Nat.le_refl _) _)) (HSr.out.later ((Below.refl _ _).alloc (Nat.le_refl _) _))).mono ?_
        rintro e w2 ⟨rfl, hb2⟩
        rw [Hq.out]
        have hB2 := Lib.hid (HBr.out.trans ((((Below.refl _ wr).alloc (Nat.le_refl _) _).trans (hb2.mono (by simp))).mono hszr))
        clear hb2
        go_wp2_with fail
        go_ret
        exact ⟨by rw [Hr.out]; rfl, hB2.out⟩
      ·have Hr := Lib.hid (hz.out.trans (no_kid (fun j h => hj.out j h (by omega))))
       go_wp2_with fail
       go_ret
       exact ⟨by rw [Hr.out]; rfl, hBr⟩
    ·have Hr := Lib.hid (show unnB dl sl t = true by rw [hun, hfd, constB, sigArgs, hfs]; simp [ha])
     have hg : decide (0 < y.1.args.length) = true := decide_eq_true (List.length_pos_iff.2 ha)
     have hfd := Lib.hid hfd
     have hfs := Lib.hid hfs
     clear hun ha
     go_enter Tryz.func47, Tryz.ntmps47
     go_wp2_with fail
     refine (varOf_any dl t.nm DA dcap _ (HD.out.later (HB.out _)) hdl).mono ?_
     rintro e w1 ⟨rfl, hb1⟩
     rw [hfd.out]
     have HB1 := Lib.hid ((HB.out (.cells #[.int .i64 t.op, .int .i64 t.so, .string t.nm, .int .i64 t.nu, .slice A t.ks.length cap] 27)).trans (hb1.mono (HB.out _).size))
     have F1 := Lib.hid (F0.out.later hb1)
     obtain ⟨a0, a1, a2, a3, a4⟩ := F1.out
     clear hb1
     go_wp2_with fail
     refine (sigOf_any sl t.nm SA scap _ (HS.out.later HB1.out) hsl).mono ?_
     rintro e w2 ⟨rfl, hb2⟩
     have hB2 := HB1.out.trans (hb2.mono HB1.out.size)
     have F2 := F1.out.later hb2
     clear hb2 a0 a1 a2 a3 a4
     have HBL := Lib.hid (fun O => hB2.alloc hB2.size O)
     have hszw : w.heap.size < w2.heap.size := World.block_lt_of_cell? _ _ F2.c0
     obtain ⟨a0, a1, a2, a3, a4⟩ := F2
     clear hB2
     rw [hfs.out]
     go_wp2_with fail
     go_ret
     exact ⟨by rw [Hr.out]; rfl, HBL.out _⟩
 ·have h1' : (t.op == 1) = false := by simpa using h1
  by_cases h3 : t.op = 3
  ·have h3' : (t.op == 3) = true := by simpa using h3
   have hun : unnB dl sl t = (!(lookS sl t.nm).isSome || t.ks.any (unnB dl sl)) := by rw [unn_eq, namedB, if_neg h1, if_pos h3]
   clear h1 h3
   cases hfs : lookS sl t.nm with
   | none =>
    have Hr := Lib.hid (show unnB dl sl t = true by rw [hun, hfs]; rfl)
    have hfs := Lib.hid hfs
    clear hun
    go_enter Tryz.func47, Tryz.ntmps47
    go_wp2_with fail
    refine (sigOf_any sl t.nm SA scap _ (HS.out.later (HB.out _)) hsl).mono ?_
    rintro e w1 ⟨rfl, hb1⟩
    rw [hfs.out]
    have hB1 := (HB.out (.cells #[.int .i64 t.op, .int .i64 t.so, .string t.nm, .int .i64 t.nu, .slice A t.ks.length cap] 27)).trans (hb1.mono (HB.out _).size)
    have HBL := Lib.hid (fun O => hB1.alloc hB1.size O)
    clear hb1 hB1
    go_wp2_with fail
    go_ret
    exact ⟨by rw [Hr.out]; rfl, HBL.out _⟩
   | some y =>
    have hz := Lib.hid (show unnB dl sl t = t.ks.any (unnB dl sl) by rw [hun, hfs]; rfl)
    have hfs := Lib.hid hfs
    clear hun
    go_enter Tryz.func47, Tryz.ntmps47
    go_wp2_with fail
    refine (sigOf_any sl t.nm SA scap _ (HS.out.later (HB.out _)) hsl).mono ?_
    rintro e w1 ⟨rfl, hb1⟩
    rw [hfs.out]
    have hB1 := (HB.out (.cells #[.int .i64 t.op, .int .i64 t.so, .string t.nm, .int .i64 t.nu, .slice A t.ks.length cap] 27)).trans (hb1.mono (HB.out _).size)
    have HBL := Lib.hid (hB1.alloc hB1.size (.cells #[.string y.1.nm, .slice y.2.1 y.1.args.length y.2.2, .int .i64 y.1.so] 80))
    have F1 := F0.out.later hb1
    have hszw : w.heap.size < w1.heap.size := World.block_lt_of_cell? _ _ F1.c0
    obtain ⟨a0, a1, a2, a3, a4⟩ := F1
    clear hb1 hB1
    go_wp2_with fail
    clear a0 a1 a2 a3 a4
    go_loopw [59] (fun i wr => ∃ k : Nat, k ≤ t.ks.length ∧ i = .int .i64 k ∧ Hid (∀ j (h : j < t.ks.length), j < k → unnB dl sl t.ks[j] = false) ∧ Below w.heap.size w wr) (fun i _ => t.ks.length - (intOf i).toNat)
    case atStart => exact ⟨0, Nat.zero_le _, rfl, fun j hj hjk => absurd hjk (by omega), HBL.out⟩
    case round =>
     obtain ⟨k, hk, rfl, hj, hBr⟩ := hrel
     by_cases hlt : k < t.ks.length
     ·obtain ⟨b, o, A', C', rfl, g5, hK⟩ := HL.out.kid hlt
      obtain ⟨a0, a1, a2, a3, a4⟩ := g5.later hBr
      have c := Lib.hid (IH.out k hlt A' C')
      have hK' := Lib.hid (hK.later hBr)
      have hsn := Lib.hid (fun (e : unnB dl sl t.ks[k] = false) => (show Hid (∀ j (h : j < t.ks.length), j < k + 1 → unnB dl sl t.ks[j] = false) from fun j hjs hjk => by
       by_cases e' : j = k
       ·subst e'; exact e
       ·exact hj.out j hjs (by omega)))
      have hyes := Lib.hid (fun (e : unnB dl sl t.ks[k] = true) => hz.out.trans (any_kid _ (List.getElem_mem hlt) e))
      have hszr := hBr.size
      have HBr := Lib.hid hBr
      have HDr := Lib.hid (HD.out.later hBr)
      have HSr := Lib.hid (HS.out.later hBr)
      generalize t.ks[k] = q at *
      clear g5 hK IH HL hj HD HS
      cases hq : unnB dl sl q
      case false =>
       have Hq := Lib.hid hq
       have Hsn := hsn.out hq
       clear hq hyes
       go_wp2_with fail
       refine (c.out _ (hK'.out.later ((Below.refl _ _).alloc (Nat.le_refl _) _)) (HDr.out.later ((Below.refl _ _).alloc (Nat.le_refl _) _)) (HSr.out.later ((Below.refl _ _).alloc (Nat.le_refl _) _))).mono ?_
       rintro e w2 ⟨rfl, hb2⟩
       rw [Hq.out]
       have hB2 := Lib.hid (HBr.out.trans ((((Below.refl _ wr).alloc (Nat.le_refl _) _).trans (hb2.mono (by simp))).mono hszr))
       clear hb2
       go_wp2_with fail
       go_roundw
       case rel => exact ⟨k + 1, by omega, by go_num, Hsn.out, hB2.out⟩
       case measure => simp [intOf]; omega
      case true =>
       have Hq := Lib.hid hq
       have Hr := Lib.hid (hyes.out hq)
       clear hq hsn hyes
       go_wp2_with fail
       refine (c.out _ (hK'.out.later ((Below.refl _ _).alloc (Nat.le_refl _) _)) (HDr.out.later ((Below.refl _ _).alloc (Nat.le_refl _) _)) (HSr.out.later ((Below.refl _ _).alloc (Nat.le_refl _) _))).mono ?_
       rintro e w2 ⟨rfl, hb2⟩
       rw [Hq.out]
       have hB2 := Lib.hid (HBr.out.trans ((((Below.refl _ wr).alloc (Nat.le_refl _) _).trans (hb2.mono (by simp))).mono hszr))
       clear hb2
       go_wp2_with fail
       go_ret
       exact ⟨by rw [Hr.out]; rfl, hB2.out⟩
     ·have Hr := Lib.hid (hz.out.trans (no_kid (fun j h => hj.out j h (by omega))))
      go_wp2_with fail
      go_ret
      exact ⟨by rw [Hr.out]; rfl, hBr⟩
  ·have h3' : (t.op == 3) = false := by simpa using h3
   have hz := Lib.hid (show unnB dl sl t = t.ks.any (unnB dl sl) by rw [unn_eq, namedB, if_neg h1, if_neg h3]; rfl)
   have HBL := Lib.hid (HB.out (.cells #[.int .i64 t.op, .int .i64 t.so, .string t.nm, .int .i64 t.nu, .slice A t.ks.length cap] 27))
   clear h1 h3
   go_enter Tryz.func47, Tryz.ntmps47
   go_wp2_with fail
   go_loopw [59] (fun i wr => ∃ k : Nat, k ≤ t.ks.length ∧ i = .int .i64 k ∧ Hid (∀ j (h : j < t.ks.length), j < k → unnB dl sl t.ks[j] = false) ∧ Below w.heap.size w wr) (fun i _ => t.ks.length - (intOf i).toNat)
   case atStart => exact ⟨0, Nat.zero_le _, rfl, fun j hj hjk => absurd hjk (by omega), HBL.out⟩
   case round =>
    obtain ⟨k, hk, rfl, hj, hBr⟩ := hrel
    by_cases hlt : k < t.ks.length
    ·obtain ⟨b, o, A', C', rfl, g5, hK⟩ := HL.out.kid hlt
     obtain ⟨a0, a1, a2, a3, a4⟩ := g5.later hBr
     have c := Lib.hid (IH.out k hlt A' C')
     have hK' := Lib.hid (hK.later hBr)
     have hsn := Lib.hid (fun (e : unnB dl sl t.ks[k] = false) => (show Hid (∀ j (h : j < t.ks.length), j < k + 1 → unnB dl sl t.ks[j] = false) from fun j hjs hjk => by
      by_cases e' : j = k
      ·subst e'; exact e
      ·exact hj.out j hjs (by omega)))
     have hyes := Lib.hid (fun (e : unnB dl sl t.ks[k] = true) => hz.out.trans (any_kid _ (List.getElem_mem hlt) e))
     have hszr := hBr.size
     have HBr := Lib.hid hBr
     have HDr := Lib.hid (HD.out.later hBr)
     have HSr := Lib.hid (HS.out.later hBr)
     generalize t.ks[k] = q at *
     clear g5 hK IH HL hj HD HS
     cases hq : unnB dl sl q
     case false =>
      have Hq := Lib.hid hq
      have Hsn := hsn.out hq
      clear hq hyes
      go_wp2_with fail
      refine (c.out _ (hK'.out.later ((Below.refl _ _).alloc (Nat.le_refl _) _)) (HDr.out.later ((Below.refl _ _).alloc (Nat.le_refl _) _)) (HSr.out.later ((Below.refl _ _).alloc (Nat.le_refl _) _))).mono ?_
      rintro e w2 ⟨rfl, hb2⟩
      rw [Hq.out]
      have hB2 := Lib.hid (HBr.out.trans ((((Below.refl _ wr).alloc (Nat.le_refl _) _).trans (hb2.mono (by simp))).mono hszr))
      clear hb2
      go_wp2_with fail
      go_roundw
      case rel => exact ⟨k + 1, by omega, by go_num, Hsn.out, hB2.out⟩
      case measure => simp [intOf]; omega
     case true =>
      have Hq := Lib.hid hq
      have Hr := Lib.hid (hyes.out hq)
      clear hq hsn hyes
      go_wp2_with fail
      refine (c.out _ (hK'.out.later ((Below.refl _ _).alloc (Nat.le_refl _) _)) (HDr.out.later ((Below.refl _ _).alloc (Nat.le_refl _) _)) (HSr.out.later ((Below.refl _ _).alloc (Nat.le_refl _) _))).mono ?_
      rintro e w2 ⟨rfl, hb2⟩
      rw [Hq.out]
      have hB2 := Lib.hid (HBr.out.trans ((((Below.refl _ wr).alloc (Nat.le_refl _) _).trans (hb2.mono (by simp))).mono hszr))
      clear hb2
      go_wp2_with fail
      go_ret
      exact ⟨by rw [Hr.out]; rfl, hB2.out⟩
    ·have Hr := Lib.hid (hz.out.trans (no_kid (fun j h => hj.out j h (by omega))))
     go_wp2_with fail
     go_ret
     exact ⟨by rw [Hr.out]; rfl, hBr⟩
end Go.Proofs.YtgkjcimgghflmaaGreatDoor
namespace Go.Proofs.YtgkjcimgghflmaaGreatDoor
set_option maxRecDepth 100000
set_option maxHeartbeats 8000000
open Go.RowKit Go.Shelf Go.WideMaps
attribute [local go_sem] Oper.semAt_some
theorem mis_eq (sl : List SgA) (t : Nd) : misB sl t = (misOp sl t || t.ks.any (misB sl)) := any_eq t
theorem fit_eq (sl : List SgA) (t : Nd) : fitB sl t = (fitOp sl t && t.ks.all (fitB sl)) := all_eq t
theorem mis_var {sl : List SgA} {t : Nd} (h : (t.op == 1) = true) : misOp sl t = decide (0 < t.ks.length) := by
 have : t.op = 1 := by simpa using h
 unfold misOp
 rw [this]
 simp [Nat.pos_iff_ne_zero]
theorem mis_app {sl : List SgA} {t : Nd} (h : (t.op == 3) = true) : misOp sl t = decide ((sigAt sl t.nm).1.args.length ≠ t.ks.length) := by
 have : t.op = 3 := by simpa using h
 unfold misOp
 rw [this]
 rfl
theorem mis_other {sl : List SgA} {t : Nd} (h : (t.op == 1) = false) (h3 : (t.op == 3) = false) : misOp sl t = false := by
 unfold misOp
 rw [h, h3]
 rfl
theorem miscounted_any (sl : List SgA) (SA : Option Addr) (scap : Nat) (hsl : sl.length ≤ maxLen) (t : Nd) : ∀ (A : Option Addr) (cap : Nat) (w : World), Lies w A cap t.ks → Sgs w SA sl →
  Calls Tryz.prog 48 #[nv t.op t.so t.nm t.nu (.slice A t.ks.length cap), .slice SA sl.length scap] w fun e w' => e = .returned (.bool (misB sl t)) ∧ Below w.heap.size w w' := by
 induction t using Nd.ind with
 | h t ih =>
 intro A cap w hL hS
 have hn := hL.len
 unfold maxLen at hn
 have HL := Lib.hid hL
 have IH := Lib.hid ih
 have HS := Lib.hid hS
 have HB := Lib.hid (show ∀ O, Below w.heap.size w (w.alloc O) from fun O => (Below.refl _ _).alloc (Nat.le_refl _) _)
 have F0 := Lib.hid (five_new w t (.slice A t.ks.length cap) 27)
 clear hL ih hS
 cases h1' : t.op == 1
 case true =>
  have h3' : (t.op == 3) = false := by rw [beq_iff_eq] at h1'; rw [beq_eq_false_iff_ne]; omega
  cases h0 : decide (0 < t.ks.length)
  case true =>
   have Hr := Lib.hid (show misB sl t = true by rw [mis_eq, mis_var h1', h0]; rfl)
   have hg : decide ((0 : Int) < (t.ks.length : Int)) = true := by simpa using h0
   go_enter Tryz.func48, Tryz.ntmps48
   go_wp2_with fail
   go_ret
   exact ⟨by rw [Hr.out]; rfl, HB.out _⟩
  case false =>
   have hz := Lib.hid (show misB sl t = t.ks.any (misB sl) by rw [mis_eq, mis_var h1', h0]; rfl)
   have HBL := Lib.hid (HB.out (.cells #[.int .i64 t.op, .int .i64 t.so, .string t.nm, .int .i64 t.nu, .slice A t.ks.length cap] 27))
   have hg : decide ((0 : Int) < (t.ks.length : Int)) = false := by simpa using h0
   go_enter Tryz.func48, Tryz.ntmps48
   go_wp2_with fail
   clear h0 hg
   go_loopw [38] (fun i wr => ∃ k : Nat, k ≤ t.ks.length ∧ i = .int .i64 k ∧ Hid (∀ j (h : j < t.ks.length), j < k → misB sl t.ks[j] = false) ∧ Below w.heap.size w wr) (fun i _ => t.ks.length - (intOf i).toNat)
   case atStart => exact ⟨0, Nat.zero_le _, rfl, fun j hj hjk => absurd hjk (by omega), HBL.out⟩
   case round =>
    obtain ⟨k, hk, rfl, hj, hBr⟩ := hrel
    by_cases hlt : k < t.ks.length
    ·obtain ⟨b, o, A', C', rfl, g5, hK⟩ := HL.out.kid hlt
     obtain ⟨a0, a1, a2, a3, a4⟩ := g5.later hBr
     have c := Lib.hid (IH.out k hlt A' C')
     have hK' := Lib.hid (hK.later hBr)
     have hsn := Lib.hid (fun (e : misB sl t.ks[k] = false) => (show Hid (∀ j (h : j < t.ks.length), j < k + 1 → misB sl t.ks[j] = false) from fun j hjs hjk => by
      by_cases e' : j = k
      ·subst e'; exact e
      ·exact hj.out j hjs (by omega)))
     have hyes := Lib.hid (fun (e : misB sl t.ks[k] = true) => hz.out.trans (any_kid _ (List.getElem_mem hlt) e))
     have hszr := hBr.size
     have HBr := Lib.hid hBr
     have HSr := Lib.hid (HS.out.later hBr)
     generalize t.ks[k] = q at *
     clear g5 hK IH HL hj HS
     cases hq : misB sl q
     case false =>
      have Hq := Lib.hid hq
      have Hsn := hsn.out hq
      clear hq hyes
      go_wp2_with fail
      refine (c.out _ (hK'.out.later ((Below.refl _ _).alloc (Nat.le_refl _) _)) (HSr.out.later ((Below.refl _ _).alloc (Nat.le_refl _) _))).mono ?_
      rintro e w2 ⟨rfl, hb2⟩
      rw [Hq.out]
      have hB2 := Lib.hid (HBr.out.trans ((((Below.refl _ wr).alloc (Nat.le_refl _) _).trans (hb2.mono (by simp))).mono hszr))
      clear hb2
      go_wp2_with fail
      go_roundw
      case rel => exact ⟨k + 1, by omega, by go_num, Hsn.out, hB2.out⟩
      case measure => simp [intOf]; omega
     case true =>
      have Hq := Lib.hid hq
      have Hr := Lib.hid (hyes.out hq)
      clear hq hsn hyes
      go_wp2_with fail
      refine (c.out _ (hK'.out.later ((Below.refl _ _).alloc (Nat.le_refl _) _)) (HSr.out.later ((Below.refl _ _).alloc (Nat.le_refl _) _))).mono ?_
      rintro e w2 ⟨rfl, hb2⟩
      rw [Hq.out]
      have hB2 := Lib.hid (HBr.out.trans ((((Below.refl _ wr).alloc (Nat.le_refl _) _).trans (hb2.mono (by simp))).mono hszr))
      clear hb2
      go_wp2_with fail
      go_ret
      exact ⟨by rw [Hr.out]; rfl, hB2.out⟩
    ·have Hr := Lib.hid (hz.out.trans (no_kid (fun j h => hj.out j h (by omega))))
     go_wp2_with fail
     go_ret
     exact ⟨by rw [Hr.out]; rfl, hBr⟩
 case false =>
  cases h3' : t.op == 3
  case false =>
   have hz := Lib.hid (show misB sl t = t.ks.any (misB sl) by rw [mis_eq, mis_other h1' h3']; rfl)
   have HBL := Lib.hid (HB.out (.cells #[.int .i64 t.op, .int .i64 t.so, .string t.nm, .int .i64 t.nu, .slice A t.ks.length cap] 27))
   go_enter Tryz.func48, Tryz.ntmps48
   go_wp2_with fail
   go_loopw [38] (fun i wr => ∃ k : Nat, k ≤ t.ks.length ∧ i = .int .i64 k ∧ Hid (∀ j (h : j < t.ks.length), j < k → misB sl t.ks[j] = false) ∧ Below w.heap.size w wr) (fun i _ => t.ks.length - (intOf i).toNat)
   case atStart => exact ⟨0, Nat.zero_le _, rfl, fun j hj hjk => absurd hjk (by omega), HBL.out⟩
   case round =>
    obtain ⟨k, hk, rfl, hj, hBr⟩ := hrel
    by_cases hlt : k < t.ks.length
    ·obtain ⟨b, o, A', C', rfl, g5, hK⟩ := HL.out.kid hlt
     obtain ⟨a0, a1, a2, a3, a4⟩ := g5.later hBr
     have c := Lib.hid (IH.out k hlt A' C')
     have hK' := Lib.hid (hK.later hBr)
     have hsn := Lib.hid (fun (e : misB sl t.ks[k] = false) => (show Hid (∀ j (h : j < t.ks.length), j < k + 1 → misB sl t.ks[j] = false) from fun j hjs hjk => by
      by_cases e' : j = k
      ·subst e'; exact e
      ·exact hj.out j hjs (by omega)))
     have hyes := Lib.hid (fun (e : misB sl t.ks[k] = true) => hz.out.trans (any_kid _ (List.getElem_mem hlt) e))
     have hszr := hBr.size
     have HBr := Lib.hid hBr
     have HSr := Lib.hid (HS.out.later hBr)
     generalize t.ks[k] = q at *
     clear g5 hK IH HL hj HS
     cases hq : misB sl q
     case false =>
      have Hq := Lib.hid hq
      have Hsn := hsn.out hq
      clear hq hyes
      go_wp2_with fail
      refine (c.out _ (hK'.out.later ((Below.refl _ _).alloc (Nat.le_refl _) _)) (HSr.out.later ((Below.refl _ _).alloc (Nat.le_refl _) _))).mono ?_
      rintro e w2 ⟨rfl, hb2⟩
      rw [Hq.out]
      have hB2 := Lib.hid (HBr.out.trans ((((Below.refl _ wr).alloc (Nat.le_refl _) _).trans (hb2.mono (by simp))).mono hszr))
      clear hb2
      go_wp2_with fail
      go_roundw
      case rel => exact ⟨k + 1, by omega, by go_num, Hsn.out, hB2.out⟩
      case measure => simp [intOf]; omega
     case true =>
      have Hq := Lib.hid hq
      have Hr := Lib.hid (hyes.out hq)
      clear hq hsn hyes
      go_wp2_with fail
      refine (c.out _ (hK'.out.later ((Below.refl _ _).alloc (Nat.le_refl _) _)) (HSr.out.later ((Below.refl _ _).alloc (Nat.le_refl _) _))).mono ?_
      rintro e w2 ⟨rfl, hb2⟩
      rw [Hq.out]
      have hB2 := Lib.hid (HBr.out.trans ((((Below.refl _ wr).alloc (Nat.le_refl _) _).trans (hb2.mono (by simp))).mono hszr))
      clear hb2
      go_wp2_with fail
      go_ret
      exact ⟨by rw [Hr.out]; rfl, hB2.out⟩
    ·have Hr := Lib.hid (hz.out.trans (no_kid (fun j h => hj.out j h (by omega))))
     go_wp2_with fail
     go_ret
     exact ⟨by rw [Hr.out]; rfl, hBr⟩
  case true =>
   have hm := mis_app (sl := sl) h3'
   by_cases ha : (sigAt sl t.nm).1.args.length = t.ks.length
   ·have hz := Lib.hid (show misB sl t = t.ks.any (misB sl) by rw [mis_eq, hm, decide_eq_false (fun e => e ha)]; rfl)
    have hg : (((sigAt sl t.nm).1.args.length : Int) != (t.ks.length : Int)) = false := by simp; omega
    have hg' : (((sigAt sl t.nm).1.args.length : Int) == (t.ks.length : Int)) = true := by simp; omega
    clear hm ha
    go_enter Tryz.func48, Tryz.ntmps48
    go_wp2_with fail
    refine (sigOf_any sl t.nm SA scap _ (HS.out.later (HB.out _)) hsl).mono ?_
    rintro e w1 ⟨rfl, hb1⟩
    have hB1 := (HB.out (.cells #[.int .i64 t.op, .int .i64 t.so, .string t.nm, .int .i64 t.nu, .slice A t.ks.length cap] 27)).trans (hb1.mono (HB.out _).size)
    have F1 := F0.out.later hb1
    have hszw : w.heap.size < w1.heap.size := World.block_lt_of_cell? _ _ F1.c0
    obtain ⟨a0, a1, a2, a3, a4⟩ := F1
    clear hb1
    rw [show (lookS sl t.nm).getD zeroSg = sigAt sl t.nm from rfl]
    generalize sigAt sl t.nm = y at *
    have HBL := Lib.hid (hB1.alloc hB1.size (.cells #[.string y.1.nm, .slice y.2.1 y.1.args.length y.2.2, .int .i64 y.1.so] 80))
    clear hB1
    go_wp2_with fail
    clear a0 a1 a2 a3 a4 hg hg'
    go_loopw [38] (fun i wr => ∃ k : Nat, k ≤ t.ks.length ∧ i = .int .i64 k ∧ Hid (∀ j (h : j < t.ks.length), j < k → misB sl t.ks[j] = false) ∧ Below w.heap.size w wr) (fun i _ => t.ks.length - (intOf i).toNat)
    case atStart => exact ⟨0, Nat.zero_le _, rfl, fun j hj hjk => absurd hjk (by omega), HBL.out⟩
    case round =>
     obtain ⟨k, hk, rfl, hj, hBr⟩ := hrel
     by_cases hlt : k < t.ks.length
     ·obtain ⟨b, o, A', C', rfl, g5, hK⟩ := HL.out.kid hlt
      obtain ⟨a0, a1, a2, a3, a4⟩ := g5.later hBr
      have c := Lib.hid (IH.out k hlt A' C')
      have hK' := Lib.hid (hK.later hBr)
      have hsn := Lib.hid (fun (e : misB sl t.ks[k] = false) => (show Hid (∀ j (h : j < t.ks.length), j < k + 1 → misB sl t.ks[j] = false) from fun j hjs hjk => by
       by_cases e' : j = k
       ·subst e'; exact e
       ·exact hj.out j hjs (by omega)))
      have hyes := Lib.hid (fun (e : misB sl t.ks[k] = true) => hz.out.trans (any_kid _ (List.getElem_mem hlt) e))
      have hszr := hBr.size
      have HBr := Lib.hid hBr
      have HSr := Lib.hid (HS.out.later hBr)
      generalize t.ks[k] = q at *
      clear g5 hK IH HL hj HS
      cases hq : misB sl q
      case false =>
       have Hq := Lib.hid hq
       have Hsn := hsn.out hq
       clear hq hyes
       go_wp2_with fail
       refine (c.out _ (hK'.out.later ((Below.refl _ _).alloc (Nat.le_refl _) _)) (HSr.out.later ((Below.refl _ _).alloc (Nat.le_refl _) _))).mono ?_
       rintro e w2 ⟨rfl, hb2⟩
       rw [Hq.out]
       have hB2 := Lib.hid (HBr.out.trans ((((Below.refl _ wr).alloc (Nat.le_refl _) _).trans (hb2.mono (by simp))).mono hszr))
       clear hb2
       go_wp2_with fail
       go_roundw
       case rel => exact ⟨k + 1, by omega, by go_num, Hsn.out, hB2.out⟩
       case measure => simp [intOf]; omega
      case true =>
       have Hq := Lib.hid hq
       have Hr := Lib.hid (hyes.out hq)
       clear hq hsn hyes
       go_wp2_with fail
       refine (c.out _ (hK'.out.later ((Below.refl _ _).alloc (Nat.le_refl _) _)) (HSr.out.later ((Below.refl _ _).alloc (Nat.le_refl _) _))).mono ?_
       rintro e w2 ⟨rfl, hb2⟩
       rw [Hq.out]
       have hB2 := Lib.hid (HBr.out.trans ((((Below.refl _ wr).alloc (Nat.le_refl _) _).trans (hb2.mono (by simp))).mono hszr))
       clear hb2
       go_wp2_with fail
       go_ret
       exact ⟨by rw [Hr.out]; rfl, hB2.out⟩
     ·have Hr := Lib.hid (hz.out.trans (no_kid (fun j h => hj.out j h (by omega))))
      go_wp2_with fail
      go_ret
      exact ⟨by rw [Hr.out]; rfl, hBr⟩
   ·have Hr := Lib.hid (show misB sl t = true by rw [mis_eq, hm, decide_eq_true ha]; rfl)
    have hg : (((sigAt sl t.nm).1.args.length : Int) != (t.ks.length : Int)) = true := by simp; omega
    have hg' : (((sigAt sl t.nm).1.args.length : Int) == (t.ks.length : Int)) = false := by rw [beq_eq_false_iff_ne]; omega
    clear hm ha
    go_enter Tryz.func48, Tryz.ntmps48
    go_wp2_with fail
    refine (sigOf_any sl t.nm SA scap _ (HS.out.later (HB.out _)) hsl).mono ?_
    rintro e w1 ⟨rfl, hb1⟩
    have hB1 := (HB.out (.cells #[.int .i64 t.op, .int .i64 t.so, .string t.nm, .int .i64 t.nu, .slice A t.ks.length cap] 27)).trans (hb1.mono (HB.out _).size)
    have F1 := F0.out.later hb1
    have hszw : w.heap.size < w1.heap.size := World.block_lt_of_cell? _ _ F1.c0
    obtain ⟨a0, a1, a2, a3, a4⟩ := F1
    clear hb1
    rw [show (lookS sl t.nm).getD zeroSg = sigAt sl t.nm from rfl]
    generalize sigAt sl t.nm = y at *
    have HBL := Lib.hid (hB1.alloc hB1.size (.cells #[.string y.1.nm, .slice y.2.1 y.1.args.length y.2.2, .int .i64 y.1.so] 80))
    clear hB1
    go_wp2_with fail
    go_ret
    exact ⟨by rw [Hr.out]; rfl, HBL.out⟩
theorem fitting_app {sl : List SgA} {t : Nd} (h : (t.op == 3) = true) (hc : t.ks.length = (sigAt sl t.nm).1.args.length) (ha : ∀ j (h1 : j < (sigAt sl t.nm).1.args.length) (h2 : j < t.ks.length), argOk (sigAt sl t.nm).1.args[j] (sortN t.ks[j]) = true) : fitB sl t = t.ks.all (fitB sl) := by
 rw [fit_eq, fitOp_app h, fitSigB, decide_eq_true ⟨hc, ha⟩]
 rfl
theorem fitting_bad {sl : List SgA} {t : Nd} (h : (t.op == 3) = true) {k : Nat} (h1 : k < (sigAt sl t.nm).1.args.length) (h2 : k < t.ks.length) (hb : argOk (sigAt sl t.nm).1.args[k] (sortN t.ks[k]) = false) : fitB sl t = false := by
 rw [fit_eq, fitOp_app h, fit_bad h1 h2 hb]
 rfl
theorem fitting_any (sl : List SgA) (SA : Option Addr) (scap : Nat) (hsl : sl.length ≤ maxLen) (t : Nd) : ∀ (A : Option Addr) (cap : Nat) (w : World), Lies w A cap t.ks → Sgs w SA sl → ArgsIn w sl → (∀ y ∈ nodesOf t, y.op = 3 → y.ks.length = (sigArgs sl y.nm).length) →
  Calls Tryz.prog 52 #[nv t.op t.so t.nm t.nu (.slice A t.ks.length cap), .slice SA sl.length scap] w fun e w' => e = .returned (.bool (fitB sl t)) ∧ Below w.heap.size w w' := by
 induction t using Nd.ind with
 | h t ih =>
 intro A cap w hL hS hA hN
 have hn := hL.len
 unfold maxLen at hn
 have HL := Lib.hid hL
 have IH := Lib.hid ih
 have HS := Lib.hid hS
 have HA := Lib.hid hA
 have HN := Lib.hid hN
 have HB := Lib.hid (show ∀ O, Below w.heap.size w (w.alloc O) from fun O => (Below.refl _ _).alloc (Nat.le_refl _) _)
 have F0 := Lib.hid (five_new w t (.slice A t.ks.length cap) 27)
 clear hL ih hS hA hN
 cases h3' : t.op == 3
 case false =>
  have hz := Lib.hid (show fitB sl t = t.ks.all (fitB sl) by rw [fit_eq, fitOp_no h3']; rfl)
  have HBL := Lib.hid (HB.out (.cells #[.int .i64 t.op, .int .i64 t.so, .string t.nm, .int .i64 t.nu, .slice A t.ks.length cap] 27))
  go_enter Tryz.func52, Tryz.ntmps52
  go_wp2_with fail
  go_loopw [55] (fun i wr => ∃ k : Nat, k ≤ t.ks.length ∧ i = .int .i64 k ∧ Hid (∀ j (h : j < t.ks.length), j < k → fitB sl t.ks[j] = true) ∧ Below w.heap.size w wr) (fun i _ => t.ks.length - (intOf i).toNat)
  case atStart => exact ⟨0, Nat.zero_le _, rfl, fun j hj hjk => absurd hjk (by omega), HBL.out⟩
  case round =>
   obtain ⟨k, hk, rfl, hj, hBr⟩ := hrel
   by_cases hlt : k < t.ks.length
   ·obtain ⟨b, o, A', C', rfl, g5, hK⟩ := HL.out.kid hlt
    obtain ⟨a0, a1, a2, a3, a4⟩ := g5.later hBr
    have c := Lib.hid (IH.out k hlt A' C')
    have hK' := Lib.hid (hK.later hBr)
    have hsn := Lib.hid (fun (e : fitB sl t.ks[k] = true) => (show Hid (∀ j (h : j < t.ks.length), j < k + 1 → fitB sl t.ks[j] = true) from fun j hjs hjk => by
     by_cases e' : j = k
     ·subst e'; exact e
     ·exact hj.out j hjs (by omega)))
    have hyes := Lib.hid (fun (e : fitB sl t.ks[k] = false) => hz.out.trans (all_kid _ (List.getElem_mem hlt) e))
    have hszr := hBr.size
    have HBr := Lib.hid hBr
    have HSr := Lib.hid (HS.out.later hBr)
    have HAr := Lib.hid (HA.out.later hBr)
    have hnk := Lib.hid (fun y hy => HN.out y (mem_kid (List.getElem_mem hlt) hy))
    generalize t.ks[k] = q at *
    clear g5 hK IH HL hj HS HA HN
    cases hq : fitB sl q
    case true =>
     have Hq := Lib.hid hq
     have Hsn := hsn.out hq
     clear hq hyes
     go_wp2_with fail
     refine (c.out _ (hK'.out.later ((Below.refl _ _).alloc (Nat.le_refl _) _)) (HSr.out.later ((Below.refl _ _).alloc (Nat.le_refl _) _)) (HAr.out.later ((Below.refl _ _).alloc (Nat.le_refl _) _)) hnk.out).mono ?_
     rintro e w2 ⟨rfl, hb2⟩
     rw [Hq.out]
     have hB2 := Lib.hid (HBr.out.trans ((((Below.refl _ wr).alloc (Nat.le_refl _) _).trans (hb2.mono (by simp))).mono hszr))
     clear hb2
     go_wp2_with fail
     go_roundw
     case rel => exact ⟨k + 1, by omega, by go_num, Hsn.out, hB2.out⟩
     case measure => simp [intOf]; omega
    case false =>
     have Hq := Lib.hid hq
     have Hr := Lib.hid (hyes.out hq)
     clear hq hsn hyes
     go_wp2_with fail
     refine (c.out _ (hK'.out.later ((Below.refl _ _).alloc (Nat.le_refl _) _)) (HSr.out.later ((Below.refl _ _).alloc (Nat.le_refl _) _)) (HAr.out.later ((Below.refl _ _).alloc (Nat.le_refl _) _)) hnk.out).mono ?_
     rintro e w2 ⟨rfl, hb2⟩
     rw [Hq.out]
     have hB2 := Lib.hid (HBr.out.trans ((((Below.refl _ wr).alloc (Nat.le_refl _) _).trans (hb2.mono (by simp))).mono hszr))
     clear hb2
     go_wp2_with fail
     go_ret
     exact ⟨by rw [Hr.out]; rfl, hB2.out⟩
   ·have Hr := Lib.hid (hz.out.trans (all_kids (fun j h => hj.out j h (by omega))))
    go_wp2_with fail
    go_ret
    exact ⟨by rw [Hr.out]; rfl, hBr⟩
 case true =>
  have hc := Lib.hid (show t.ks.length = (sigAt sl t.nm).1.args.length from HN.out t (mem_self t) (by simpa using h3'))
  have hyz := Lib.hid (fitting_app (sl := sl) h3' hc.out)
  have hbz := Lib.hid (fun k h1 h2 => fitting_bad (sl := sl) h3' (k := k) h1 h2)
  go_enter Tryz.func52, Tryz.ntmps52
  go_wp2_with fail
  refine (sigOf_any sl t.nm SA scap _ (HS.out.later (HB.out _)) hsl).mono ?_
  rintro e w1 ⟨rfl, hb1⟩
  have hB1 := (HB.out (.cells #[.int .i64 t.op, .int .i64 t.so, .string t.nm, .int .i64 t.nu, .slice A t.ks.length cap] 27)).trans (hb1.mono (HB.out _).size)
  have F1 := F0.out.later hb1
  have hszw : w.heap.size < w1.heap.size := World.block_lt_of_cell? _ _ F1.c0
  obtain ⟨a0, a1, a2, a3, a4⟩ := F1
  clear hb1
  rw [show (lookS sl t.nm).getD zeroSg = sigAt sl t.nm from rfl]
  have HI := Lib.hid ((sigAt_in (HA.out.later hB1) t.nm).1)
  have hsl2 := (sigAt_in HA.out t.nm).2.1
  unfold maxLen at hsl2
  generalize sigAt sl t.nm = y at *
  have HBL := Lib.hid (hB1.alloc hB1.size (.cells #[.string y.1.nm, .slice y.2.1 y.1.args.length y.2.2, .int .i64 y.1.so] 80))
  have FL1 := Lib.hid ((show Five w1 w.heap.size 0 t (.slice A t.ks.length cap) from ⟨a0, a1, a2, a3, a4⟩).later ((Below.refl _ _).alloc (Nat.le_refl _) (.cells #[.string y.1.nm, .slice y.2.1 y.1.args.length y.2.2, .int .i64 y.1.so] 80)))
  have HI := Lib.hid (HI.out.later ((Below.refl _ _).alloc (Nat.le_refl _) (.cells #[.string y.1.nm, .slice y.2.1 y.1.args.length y.2.2, .int .i64 y.1.so] 80)))
  have HB10 := Lib.hid (fun W (h : Below w.heap.size w W) => HL.out.later h)
  clear hB1
  go_wp2_with fail
  clear a0 a1 a2 a3 a4
  generalize hW2 : w1.alloc (.cells #[.string y.1.nm, .slice y.2.1 y.1.args.length y.2.2, .int .i64 y.1.so] 80) = W2 at *
  clear hW2
  go_loopw [25] (fun i wr => ∃ k : Nat, k ≤ y.1.args.length ∧ i = .int .i64 k ∧ Hid (∀ j (h1 : j < y.1.args.length) (h2 : j < t.ks.length), j < k → argOk y.1.args[j] (sortN t.ks[j]) = true) ∧ Hid (Below w.heap.size w wr) ∧ Hid (Five wr w.heap.size 0 t (.slice A t.ks.length cap)) ∧ Hid (Below W2.heap.size W2 wr)) (fun i _ => y.1.args.length - (intOf i).toNat)
  case atStart => exact ⟨0, Nat.zero_le _, rfl, fun j _ _ hj => absurd hj (by omega), HBL.out, FL1.out, Lib.hid (Below.refl _ _)⟩
  case round =>
   obtain ⟨k, hk, rfl, hj, HBr, Fr, HB2r⟩ := hrel
   have b4 := Fr.out.c4
   by_cases hlt : k < y.1.args.length
   ·have hltk : k < t.ks.length := by have := hc.out; omega
    obtain ⟨b, o, A', C', rfl, h5, hK⟩ := HL.out.kid hltk
    obtain ⟨sb, so, hsa, hsc⟩ := HI.out.later HB2r.out
    replace hsa := hsa (by omega)
    have c0 := hsc k hlt
    obtain ⟨a0, a1, a2, a3, a4⟩ := h5.later HBr.out
    have hK' := Lib.hid (hK.later HBr.out)
    have hyes := Lib.hid (fun (e : argOk y.1.args[k] (sortN t.ks[k]) = true) => (show Hid (∀ j (h1 : j < y.1.args.length) (h2 : j < t.ks.length), j < k + 1 → argOk y.1.args[j] (sortN t.ks[j]) = true) from fun j h1 h2 hjk => by
     by_cases e' : j = k
     ·subst e'; exact e
     ·exact hj.out j h1 h2 (by omega)))
    have hno := Lib.hid (hbz.out k hlt hltk)
    generalize y.1.args[k] = z at *
    generalize t.ks[k] = q at *
    clear h5 hK hsc HS HL hj hyz hbz
    rw [hsa]
    clear hsa
    by_cases h0 : z = 0
    ·subst h0
     cases h2 : sortN q == 2
     case true =>
      have Hr := Lib.hid (hno.out (decide_eq_false (by rw [beq_iff_eq] at h2; omega)))
      clear hyes hno
      go_wp2_with fail
      refine (refSort_any q _ _ _ hK'.out).mono ?_
      rintro e w2 ⟨rfl, hb2⟩
      have hB2 := Lib.hid (HBr.out.trans (hb2.mono HBr.out.size))
      clear hb2 a0 a1 a2 a3 a4 b4
      go_wp2_with fail
      go_ret
      exact ⟨by rw [Hr.out]; rfl, hB2.out⟩
     case false =>
      have hok := Lib.hid (hyes.out (argOk_zero rfl h2))
      clear hyes hno
      go_wp2_with fail
      refine (refSort_any q _ _ _ hK'.out).mono ?_
      rintro e w2 ⟨rfl, hb2⟩
      have hB2 := Lib.hid (HBr.out.trans (hb2.mono HBr.out.size))
      have F2 := Lib.hid (Fr.out.later hb2)
      have HB22 := Lib.hid (HB2r.out.trans (hb2.mono HB2r.out.size))
      clear hb2 a0 a1 a2 a3 a4 b4
      go_wp2_with fail
      go_roundw
      case rel => exact ⟨k + 1, by omega, by go_num, hok.out, hB2.out, F2.out, HB22.out⟩
      case measure => simp [intOf]; omega
    ·have h0' : (z == 0) = false := by simpa using h0
     have h0'' : (z != 0) = true := by simpa using h0
     clear h0
     cases h2 : sortN q == z
     case true =>
      have hok := Lib.hid (hyes.out (argOk_same (by rw [beq_iff_eq] at h2 ⊢; exact h2.symm)))
      have h2' : (sortN q != z) = false := by rw [bne, h2]; rfl
      clear hyes hno
      go_wp2_with fail
      refine (refSort_any q _ _ _ hK'.out).mono ?_
      rintro e w2 ⟨rfl, hb2⟩
      have hB2 := Lib.hid (HBr.out.trans (hb2.mono HBr.out.size))
      have F2 := Lib.hid (Fr.out.later hb2)
      have HB22 := Lib.hid (HB2r.out.trans (hb2.mono HB2r.out.size))
      clear hb2 a0 a1 a2 a3 a4 b4
      go_wp2_with fail
      go_roundw
      case rel => exact ⟨k + 1, by omega, by go_num, hok.out, hB2.out, F2.out, HB22.out⟩
      case measure => simp [intOf]; omega
     case false =>
      have Hr := Lib.hid (hno.out (argOk_other (by rw [beq_eq_false_iff_ne] at h2 ⊢; exact fun e => h2 e.symm) h0'))
      have h2' : (sortN q != z) = true := by rw [bne, h2]; rfl
      clear hyes hno
      go_wp2_with fail
      refine (refSort_any q _ _ _ hK'.out).mono ?_
      rintro e w2 ⟨rfl, hb2⟩
      have hB2 := Lib.hid (HBr.out.trans (hb2.mono HBr.out.size))
      clear hb2 a0 a1 a2 a3 a4 b4
      go_wp2_with fail
      go_ret
      exact ⟨by rw [Hr.out]; rfl, hB2.out⟩
   ·have hz := Lib.hid (hyz.out (fun j h1 h2 => hj.out j h1 h2 (by omega)))
    have HBL := HBr
    clear hj hbz hyz
    go_wp2_with fail
    clear b4
    go_loopw [55] (fun i wr => ∃ k : Nat, k ≤ t.ks.length ∧ i = .int .i64 k ∧ Hid (∀ j (h : j < t.ks.length), j < k → fitB sl t.ks[j] = true) ∧ Below w.heap.size w wr) (fun i _ => t.ks.length - (intOf i).toNat)
    case atStart => exact ⟨0, Nat.zero_le _, rfl, fun j hj hjk => absurd hjk (by omega), HBL.out⟩
    case round =>
     obtain ⟨k, hk, rfl, hj, hBr⟩ := hrel
     by_cases hlt : k < t.ks.length
     ·obtain ⟨b, o, A', C', rfl, g5, hK⟩ := HL.out.kid hlt
      obtain ⟨a0, a1, a2, a3, a4⟩ := g5.later hBr
      have c := Lib.hid (IH.out k hlt A' C')
      have hK' := Lib.hid (hK.later hBr)
      have hsn := Lib.hid (fun (e : fitB sl t.ks[k] = true) => (show Hid (∀ j (h : j < t.ks.length), j < k + 1 → fitB sl t.ks[j] = true) from fun j hjs hjk => by
       by_cases e' : j = k
       ·subst e'; exact e
       ·exact hj.out j hjs (by omega)))
      have hyes := Lib.hid (fun (e : fitB sl t.ks[k] = false) => hz.out.trans (all_kid _ (List.getElem_mem hlt) e))
      have hszr := hBr.size
      have HBr := Lib.hid hBr
      have HSr := Lib.hid (HS.out.later hBr)
      have HAr := Lib.hid (HA.out.later hBr)
      have hnk := Lib.hid (fun y hy => HN.out y (mem_kid (List.getElem_mem hlt) hy))
      generalize t.ks[k] = q at *
      clear g5 hK IH HL hj HS HA HN
      cases hq : fitB sl q
      case true =>
       have Hq := Lib.hid hq
       have Hsn := hsn.out hq
       clear hq hyes
       go_wp2_with fail
       refine (c.out _ (hK'.out.later ((Below.refl _ _).alloc (Nat.le_refl _) _)) (HSr.out.later ((Below.refl _ _).alloc (Nat.le_refl _) _)) (HAr.out.later ((Below.refl _ _).alloc (Nat.le_refl _) _)) hnk.out).mono ?_
       rintro e w2 ⟨rfl, hb2⟩
       rw [Hq.out]
       have hB2 := Lib.hid (HBr.out.trans ((((Below.refl _ wr).alloc (Nat.le_refl _) _).trans (hb2.mono (by simp))).mono hszr))
       clear hb2
       go_wp2_with fail
       go_roundw
       case rel => exact ⟨k + 1, by omega, by go_num, Hsn.out, hB2.out⟩
       case measure => simp [intOf]; omega
      case false =>
       have Hq := Lib.hid hq
       have Hr := Lib.hid (hyes.out hq)
       clear hq hsn hyes
       go_wp2_with fail
       refine (c.out _ (hK'.out.later ((Below.refl _ _).alloc (Nat.le_refl _) _)) (HSr.out.later ((Below.refl _ _).alloc (Nat.le_refl _) _)) (HAr.out.later ((Below.refl _ _).alloc (Nat.le_refl _) _)) hnk.out).mono ?_
       rintro e w2 ⟨rfl, hb2⟩
       rw [Hq.out]
       have hB2 := Lib.hid (HBr.out.trans ((((Below.refl _ wr).alloc (Nat.le_refl _) _).trans (hb2.mono (by simp))).mono hszr))
       clear hb2
       go_wp2_with fail
       go_ret
       exact ⟨by rw [Hr.out]; rfl, hB2.out⟩
     ·have Hr := Lib.hid (hz.out.trans (all_kids (fun j h => hj.out j h (by omega))))
      go_wp2_with fail
      go_ret
      exact ⟨by rw [Hr.out]; rfl, hBr⟩
end Go.Proofs.YtgkjcimgghflmaaGreatDoor
