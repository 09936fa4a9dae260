/-
  Whether the kids of applications fit their sigs, as package logic's way has it; conditions: the tree, the sigs and the maps lie in memory.
-/
import Derived.Test.YtpjokapkoeclpaaNamed
namespace Go.Proofs.Ytpjokapkoeclpaa
open Go.RowKit Go.Shelf Go.WideMaps

attribute [local go_sem] Oper.semAt_some
theorem argOk_same {z s : Int} (h : (z == s) = true) : argOk z s = true := decide_eq_true (.inl (by simpa using h))
theorem argOk_zero {z s : Int} (h : (z == 0) = true) (h2 : (s == 2) = false) : argOk z s = true := decide_eq_true (.inr ⟨by simpa using h, by simpa using h2⟩)
theorem argOk_two {z s : Int} (h : (z == s) = false) (h2 : (s == 2) = true) : argOk z s = false := decide_eq_false (by simp at h h2; rintro (h3 | h3) <;> omega)
theorem argOk_other {z s : Int} (h : (z == s) = false) (h2 : (z == 0) = false) : argOk z s = false := decide_eq_false (by simp at h h2; rintro (h3 | h3) <;> omega)
theorem fit_bad {ks : List Nd} {args : List Int} {k : Nat} (h1 : k < args.length) (h2 : k < ks.length) (h : argOk args[k] (sortN ks[k]) = false) : fitSigB ks args = false :=
  decide_eq_false fun hh => by have := hh.2 k h1 h2; rw [h] at this; cases this

set_option maxRecDepth 100000 in
set_option maxHeartbeats 2000000 in
theorem fitSig_any (ks : List Nd) (x : SgA) (A : Option Addr) (cap : Nat) (w : World) (hL : Lies w A cap ks) (hS : Ints w x.2.1 x.1.args) (hsl : x.1.args.length ≤ maxLen) :
    Calls Try.prog 104 #[.slice A ks.length cap, sgV x] w fun e w' => e = .returned (.bool (fitSigB ks x.1.args)) ∧ Below w.heap.size w w' := by
  have hn := hL.len
  unfold maxLen at hn hsl
  have HL := Lib.hid hL
  have HS := Lib.hid hS
  have HB := Lib.hid (fun O => (Below.refl w.heap.size w).alloc (Nat.le_refl _) O)
  clear hL hS
  by_cases h1 : ks.length = x.1.args.length
  case neg =>
    have h1' : ((ks.length : Int) == (x.1.args.length : Int)) = false := by rw [beq_eq_false_iff_ne]; omega
    have Hr := Lib.hid (show fitSigB ks x.1.args = false from decide_eq_false (fun h => h1 h.1))
    clear h1
    go_enter Try.func104, Try.ntmps104
    go_wp2_with fail
    go_ret
    exact ⟨by rw [Hr.out]; rfl, HB.out _⟩
  have h1' : ((ks.length : Int) == (x.1.args.length : Int)) = true := by rw [beq_iff_eq]; omega
  have h1'' : ((ks.length : Int) != (x.1.args.length : Int)) = false := by simp; omega
  have H1 := Lib.hid h1
  clear h1
  go_enter Try.func104, Try.ntmps104
  go_wp2_with fail
  go_loopw [17] (fun i wr => ∃ k : Nat, k ≤ x.1.args.length ∧ i = .int .i64 k ∧ Hid (∀ j (h1 : j < x.1.args.length) (h2 : j < ks.length), j < k → argOk x.1.args[j] (sortN ks[j]) = true) ∧ Below w.heap.size w wr) (fun i _ => x.1.args.length - (intOf i).toNat)
  case atStart => exact ⟨0, Nat.zero_le _, rfl, fun j _ _ hj => absurd hj (by omega), HB.out _⟩
  case round =>
    obtain ⟨k, hk, rfl, hj, hB⟩ := hrel
    by_cases hlt : k < x.1.args.length
    · have hltk : k < ks.length := by have := H1.out; omega
      obtain ⟨b, o, A', C', rfl, h5, hK⟩ := HL.out.kid hltk
      obtain ⟨sb, so, hsa, hsc⟩ := HS.out.later hB
      replace hsa := hsa (by omega)
      have c0 := hsc k hlt
      obtain ⟨a0, a1, a2, a3, a4⟩ := h5.later hB
      have hK' := Lib.hid (hK.later hB)
      have hyes := Lib.hid (fun (e : argOk x.1.args[k] (sortN ks[k]) = true) => (show Hid (∀ j (h1 : j < x.1.args.length) (h2 : j < ks.length), j < k + 1 → argOk x.1.args[j] (sortN ks[j]) = true) from fun j h1 h2 hjk => by
        by_cases e' : j = k
        · subst e'; exact e
        · exact hj.out j h1 h2 (by omega)))
      have hno := Lib.hid (fun (e : argOk x.1.args[k] (sortN ks[k]) = false) => fit_bad hlt hltk e)
      have HX := Lib.hid hsa
      generalize x.1.args[k] = z at *
      generalize ks[k] = q at *
      clear h5 hK hsc HS HL hj
      rw [hsa]
      clear hsa
      cases hz : z == sortN q
      case true =>
        have hok := Lib.hid (hyes.out (argOk_same hz))
        have hz' : (z != sortN q) = false := by rw [bne, hz]; rfl
        clear hyes hno
        go_wp2_with fail
        refine (sort_any q _ _ _ hK'.out).mono ?_
        rintro e w1 ⟨rfl, hb1⟩
        have hB1 : Below w.heap.size w w1 := hB.trans (hb1.mono hB.size)
        clear hb1
        go_wp2_with fail
        go_roundw
        case rel => exact ⟨k + 1, by omega, by go_num, hok.out, hB1⟩
        case measure => simp [intOf]; omega
      case false =>
        have hz' : (z != sortN q) = true := by rw [bne, hz]; rfl
        cases h0 : z == 0
        case false =>
          have h0' : (z != 0) = true := by rw [bne, h0]; rfl
          have Hr := Lib.hid (hno.out (argOk_other hz h0))
          clear hyes hno
          go_wp2_with fail
          refine (sort_any q _ _ _ hK'.out).mono ?_
          rintro e w1 ⟨rfl, hb1⟩
          have hB1 : Below w.heap.size w w1 := hB.trans (hb1.mono hB.size)
          clear hb1
          go_wp2_with fail
          go_ret
          exact ⟨by rw [Hr.out]; rfl, hB1⟩
        case true =>
          obtain rfl : z = 0 := by simpa using h0
          cases h2 : sortN q == 2
          case true =>
            have Hr := Lib.hid (hno.out (argOk_two hz h2))
            clear hyes hno
            go_wp2_with fail
            refine (sort_any q _ _ _ hK'.out).mono ?_
            rintro e w1 ⟨rfl, hb1⟩
            have hB1 : Below w.heap.size w w1 := hB.trans (hb1.mono hB.size)
            clear hb1
            go_wp2_with fail
            go_ret
            exact ⟨by rw [Hr.out]; rfl, hB1⟩
          case false =>
            have hok := Lib.hid (hyes.out (argOk_zero h0 h2))
            clear hyes hno
            go_wp2_with fail
            refine (sort_any q _ _ _ hK'.out).mono ?_
            rintro e w1 ⟨rfl, hb1⟩
            have hB1 : Below w.heap.size w w1 := hB.trans (hb1.mono hB.size)
            clear hb1
            go_wp2_with fail
            go_roundw
            case rel => exact ⟨k + 1, by omega, by go_num, hok.out, hB1⟩
            case measure => simp [intOf]; omega
    · have Hr := Lib.hid (show fitSigB ks x.1.args = true from decide_eq_true ⟨H1.out, fun j h1 h2 => hj.out j h1 h2 (by omega)⟩)
      go_wp2_with fail
      go_ret
      exact ⟨by rw [Hr.out]; rfl, hB⟩
/-- The sig that a map gives for a name. -/
def sigAt (sl : List SgA) (s : ByteArray) : SgA := (lookS sl s).getD zeroSg
theorem sigAt_in {w : World} {sl : List SgA} (h : ArgsIn w sl) (s : ByteArray) : Ints w (sigAt sl s).2.1 (sigAt sl s).1.args ∧ (sigAt sl s).1.args.length ≤ maxLen ∧ (Lit.int .i64 (sigAt sl s).1.so).wf = true := by
  unfold sigAt
  cases hf : lookS sl s with
  | none => exact ⟨ints_nil w, by simp [zeroSg], by decide⟩
  | some y => exact h y (List.mem_of_find?_eq_some hf)
theorem fS_plain (sl : List SgA) (s : ByteArray) : (fS sl s).getD (sgV zeroSg) = sgV (sigAt sl s) := by
  unfold fS sigAt
  cases lookS sl s <;> rfl
theorem fitOp_no {sl : List SgA} {t : Nd} (h : (t.op == 3) = false) : fitOp sl t = true := by rw [fitOp, h]; rfl
theorem fitOp_app {sl : List SgA} {t : Nd} (h : (t.op == 3) = true) : fitOp sl t = fitSigB t.ks (sigAt sl t.nm).1.args := by rw [fitOp, h]; rfl

set_option maxRecDepth 100000 in
set_option maxHeartbeats 2000000 in
theorem argsFit_any (m1 m2 : Nat) (sl : List SgA) (t : Nd) (A : Option Addr) (cap : Nat) (w : World) (hL : Lies w A cap t.ks) (hfine : Fine t) (hm2 : NameMap w m2 (fS sl)) (hA : ArgsIn w sl) :
    Calls Try.prog 75 #[.agg #[.map (some m1), .map (some m2)], nv t.op t.so t.nm t.nu (.slice A t.ks.length cap)] w fun e w' => e = .returned (.bool (fitB sl t)) ∧ Below w.heap.size w w' := by
  obtain ⟨xs, hxs, hst⟩ := walk_stops t A cap w hL hfine
  rw [fitB, allP_nodes hxs]
  clear hxs
  have hlt2 := hm2.lt
  have HN := Lib.hid (fun W (hb : Below w.heap.size w W) s => ((hm2.kept (hb.block m2 hlt2)).plain77 s).trans (by rw [fS_plain]))
  have HA := Lib.hid (fun W (hb : Below w.heap.size w W) s => sigAt_in (hA.later hb) s)
  clear hm2 hA
  refine callsIn_wide (n := 9).1 ?_
  refine callsIn_of_wp_marks Try.func75 rfl trivial ?_ rfl
  simp only [Try.ntmps75, List.size_toArray, List.length_cons, List.length_nil, Nat.reduceAdd, Nat.reduceSub, Array.replicate_succ, Array.replicate_zero, List.push_toArray, List.append_toArray, List.nil_append, List.cons_append]
  have H := Lib.hid hst
  have HL := Lib.hid hL
  clear hst hL
  gi_wp2_with (refine ⟨trivial, ?_⟩; gi_at_call 53; refine (walkClo_any _ _ _ _ _ _ _).mono ?_; rintro e w' ⟨rfl, rfl⟩)
  have hB0 : Below w.heap.size w ((((w.alloc (.cells #[.map (some m1), .map (some m2)] 79)).alloc (.cells #[.int .i64 t.op, .int .i64 t.so, .string t.nm, .int .i64 t.nu, .slice A t.ks.length cap] 24)).alloc (.cells #[.bool false] 4)).alloc (.cells #[.int .i64 t.op, .int .i64 t.so, .string t.nm, .int .i64 t.nu, .slice A t.ks.length cap] 24)) :=
    ((((Below.refl _ w).alloc (Nat.le_refl _) _).alloc (by simp) _).alloc (by simp; omega) _).alloc (by simp; omega) _
  have r0 := cell_new_l ((w.alloc (.cells #[.map (some m1), .map (some m2)] 79)).alloc (.cells #[.int .i64 t.op, .int .i64 t.so, .string t.nm, .int .i64 t.nu, .slice A t.ks.length cap] 24)) (.bool false) 4
  have c1 := five_new (((w.alloc (.cells #[.map (some m1), .map (some m2)] 79)).alloc (.cells #[.int .i64 t.op, .int .i64 t.so, .string t.nm, .int .i64 t.nu, .slice A t.ks.length cap] 24)).alloc (.cells #[.bool false] 4)) t (.slice A t.ks.length cap) 24
  have p0 : ((((w.alloc (.cells #[.map (some m1), .map (some m2)] 79)).alloc (.cells #[.int .i64 t.op, .int .i64 t.so, .string t.nm, .int .i64 t.nu, .slice A t.ks.length cap] 24)).alloc (.cells #[.bool false] 4)).alloc (.cells #[.int .i64 t.op, .int .i64 t.so, .string t.nm, .int .i64 t.nu, .slice A t.ks.length cap] 24)).cell? ⟨w.heap.size, 0, none⟩ = some (.map (some m1)) := by simp [go_sem]
  have p1 : ((((w.alloc (.cells #[.map (some m1), .map (some m2)] 79)).alloc (.cells #[.int .i64 t.op, .int .i64 t.so, .string t.nm, .int .i64 t.nu, .slice A t.ks.length cap] 24)).alloc (.cells #[.bool false] 4)).alloc (.cells #[.int .i64 t.op, .int .i64 t.so, .string t.nm, .int .i64 t.nu, .slice A t.ks.length cap] 24)).cell? ⟨w.heap.size, 1, none⟩ = some (.map (some m2)) := by simp [go_sem]
  simp only [World.size_alloc] at c1 r0
  refine wpIn_rangeFunc_ownH rfl (by decide) (gf := 86) (lb := #[.pointer (some ⟨w.heap.size + 1 + 1 + 1, 0, none⟩)]) rfl trivial (enters_of Try.func86 (by kernel_rfl) rfl)
    (H.out _ _ _ hB0 c1) KpC.trans (kpC_b (by simp; omega)) (Below.refl _ _) (fun _ => rfl)
    (fun pre W => (AllP (fitOp sl) pre ∧ W.cell? ⟨w.heap.size + 1 + 1, 0, none⟩ = some (.bool false) ∧ W.frozen? ⟨w.heap.size + 1 + 1, 0, none⟩ = false ∧ W.cell? ⟨w.heap.size, 0, none⟩ = some (.map (some m1)) ∧ W.cell? ⟨w.heap.size, 1, none⟩ = some (.map (some m2))) ∧ Below w.heap.size w W)
    (fun c pre W => (c = .ret ∧ Hid (¬ AllP (fitOp sl) pre) ∧ W.cell? ⟨w.heap.size + 1 + 1, 0, none⟩ = some (.bool false)) ∧ Below w.heap.size w W)
    (OwnFrom.and (Own.from (fun s A B row hs hg hr => ⟨hs.1, cell_kept hs.2.1 hg hr, (frozen_kept hs.2.1 hg hr).trans hs.2.2.1, cell_kept hs.2.2.2.1 hg hr, cell_kept hs.2.2.2.2 hg hr⟩) _) (ownFrom_below (Nat.le_refl _) (by simp; omega)))
    (fun c => OwnFrom.and (Own.from (fun s A B row hs hg hr => ⟨hs.1, hs.2.1, cell_kept hs.2.2 hg hr⟩) _) (ownFrom_below (Nat.le_refl _) (by simp; omega)))
    ⟨⟨fun _ h => by simp at h, cell_alloc_l _ r0.1, frozen_alloc_l _ r0.1 r0.2, p0, p1⟩, hB0⟩
    (fun x a' W => BoxAt (fun Bx => { tmps := #[.agg #[.map (some m1), .map (some m2)], nv t.op t.so t.nm t.nu (.slice A t.ks.length cap), .pointer (some ⟨w.heap.size, 0, none⟩), .pointer (some ⟨w.heap.size + 1, 0, none⟩), .pointer (some ⟨w.heap.size + 1 + 1, 0, none⟩), undef, .pointer (some ⟨Bx, 0, none⟩), nv t.op t.so t.nm t.nu (.slice A t.ks.length cap), .func (.func 86) #[] #[.pointer (some ⟨w.heap.size + 1 + 1 + 1, 0, none⟩)], .int .i64 x.lv, nv x.t.op x.t.so x.t.nm x.t.nu (.slice x.A x.t.ks.length x.cap), undef, undef, undef, undef, undef, undef, undef, undef, undef, undef, undef, undef, undef, undef], defers := [] }) x a' W)
    (fun x a' => boxAt_own _ _ x a') ?assign ?body ?done ?stop
  case assign =>
    rintro l pre x W K ⟨⟨hp, hr, hrf, q0, q1⟩, hB⟩ hK
    have hp := Lib.hid hp
    have HK := Lib.hid hK
    have hsz := hB.size
    clear H HL hB0 r0 c1 hK p0 p1
    simp only [encE]
    gi_wp2
    refine HK.out _ _ (KeepsFrom.alloc _ _ _) ((KpC.refl _ _ W).alloc hB.size _) ⟨⟨hp.out, cell_alloc_l _ hr, frozen_alloc_l _ hr hrf, cell_alloc_l _ q0, cell_alloc_l _ q1⟩, hB.alloc hB.size _⟩ ⟨W.heap.size, five_new _ _ _ _, rfl⟩
  case body =>
    rintro l pre x a' W hl hrec ⟨⟨hp, hr, hrf, q0, q1⟩, hB⟩ ⟨Bx, hx5, rfl⟩ _
    have hp := Lib.hid hp
    obtain ⟨a0, a1, a2, a3, a4⟩ := hx5
    clear H HL hB0 r0 c1 hrec p0 p1
    have hlies := Lib.hid (x.lies.later hB)
    cases h3 : x.t.op == 3
    case false =>
      have hyes := Lib.hid (fitOp_no (sl := sl) h3)
      gi_wp2_with fail
      refine ⟨trivial, ?_⟩
      gi_wp2_with fail
      exact ⟨KeepsFrom.of_below (Below.refl _ _), KpC.refl _ _ _, ⟨allP_snoc hp.out hyes.out, hr, hrf, q0, q1⟩, hB⟩
    case true =>
    have hN := HN.out W hB x.t.nm
    have hfo := Lib.hid (fitOp_app (sl := sl) h3)
    have hI := Lib.hid (HA.out W hB x.t.nm)
    generalize sigAt sl x.t.nm = y at *
    clear HN HA
    have hN : (Instr.lookup 77 (.map (some m2)) (.string x.t.nm) false).run Try.prog W = .ok (.agg #[.string y.1.nm, .slice y.2.1 y.1.args.length y.2.2, .int .i64 y.1.so]) W := hN
    cases hf : fitSigB x.t.ks y.1.args
    case false =>
      have hno := Lib.hid (show fitOp sl x.t = false by rw [hfo.out, hf])
      have Hf := Lib.hid hf
      clear hf hfo
      gi_wp2_with fail
      refine ⟨trivial, ?_⟩
      refine (CallsIn.inRound l (callsIn_wide.2 (fitSig_any _ y _ _ _ hlies.out hI.out.1 hI.out.2.1))).mono ?_
      rintro e w1 ⟨rfl, hb1⟩
      rw [Hf.out]
      have hr1 := cellB hb1 (Nat.le_refl _) hr
      have hrf1 := (hb1.frozen (p := ⟨w.heap.size + 1 + 1, 0, none⟩) (World.block_lt_of_cell? _ _ hr)).trans hrf
      have hB1 : Below w.heap.size w w1 := hB.trans (hb1.mono hB.size)
      have hk1 : KeepsFrom (w.heap.size + 1 + 1 + 1 + 1) W w1 := KeepsFrom.of_below hb1
      clear hb1 hr hrf a0 a1 a2 a3 a4 q0 q1
      gi_wp2_with fail
      have e3 := World.cell?_setCell_same' w1 ⟨w.heap.size + 1 + 1, 0, none⟩ (.bool false) (by rw [hr1]; rfl)
      exact ⟨by simpa using hk1.trans (KeepsFrom.setCell _ _ _ _), ⟨rfl, allP_not hno.out, e3⟩, hB1.setCell (p := ⟨w.heap.size + 1 + 1, 0, none⟩) (by simp; omega) _⟩
    case true =>
      have hyes := Lib.hid (show fitOp sl x.t = true by rw [hfo.out, hf])
      have Hf := Lib.hid hf
      clear hf hfo
      gi_wp2_with fail
      refine ⟨trivial, ?_⟩
      refine (CallsIn.inRound l (callsIn_wide.2 (fitSig_any _ y _ _ _ hlies.out hI.out.1 hI.out.2.1))).mono ?_
      rintro e w1 ⟨rfl, hb1⟩
      rw [Hf.out]
      have hr1 := cellB hb1 (Nat.le_refl _) hr
      have hrf1 := (hb1.frozen (p := ⟨w.heap.size + 1 + 1, 0, none⟩) (World.block_lt_of_cell? _ _ hr)).trans hrf
      have g0 := cellB hb1 (Nat.le_refl _) q0
      have g1 := cellB hb1 (Nat.le_refl _) q1
      have hB1 : Below w.heap.size w w1 := hB.trans (hb1.mono hB.size)
      have hW1 := Lib.hid hb1
      clear hb1 hr hrf a0 a1 a2 a3 a4 q0 q1
      gi_wp2_with fail
      exact ⟨KeepsFrom.of_below hW1.out, KpC.of_below hW1.out hB.size, ⟨allP_snoc hp.out hyes.out, hr1, hrf1, g0, g1⟩, hB1⟩
  case done =>
    rintro D ys W hD rfl ⟨⟨hp, hr, hrf, _, _⟩, hB⟩ hK
    have Hr := Lib.hid (show ((ys.map El.key).all fun p => fitOp sl p.2) = true from by
      rw [List.all_map, List.all_eq_true]
      exact hp)
    clear hp H HL hB0 r0 c1 p0 p1
    gi_wp2
    have hK' := (KeepsOthers.setCell W ⟨w.heap.size + 1 + 1, 0, none⟩ (.bool true)).same D _ hK rfl
    refine ⟨by simp, .inl ⟨_, _, rfl, run_takeDeferred hK', ?_⟩⟩
    have hc5 := cell_kept (World.cell?_setCell_same' W ⟨w.heap.size + 1 + 1, 0, none⟩ (.bool true) (by rw [hr]; rfl)) (grownBy_putObj' _ D (.deferred none)) (fun r e => by cases e; exact ⟨_, hK', rfl⟩)
    refine ⟨.bool true, ?_, by rw [Hr.out], (hB.setCell (p := ⟨w.heap.size + 1 + 1, 0, none⟩) (by simp; omega) _).trans (belowK_b (w := w) (Nat.le_refl _) _ D _ _ (by simp at hD; omega) hK' rfl rfl)⟩
    simp [results, Try.f75, go_sem, hc5]
  case stop =>
    rintro D c pre W hD hpre ⟨⟨rfl, hin, hcr⟩, hB⟩ hK
    have hres : ((xs.map El.key).all fun p => fitOp sl p.2) = false := by
      rw [← Bool.not_eq_true]
      intro h
      rw [List.all_map, List.all_eq_true] at h
      exact hin.out fun x hx => h x (hpre.subset hx)
    have Hr := Lib.hid hres
    clear hres hin H HL hB0 r0 c1 p0 p1
    gi_wp2
    refine ⟨by simp, .inl ⟨_, _, rfl, run_takeDeferred hK, ?_⟩⟩
    have hc5 := cell_kept hcr (grownBy_putObj' _ D (.deferred none)) (fun r e => by cases e; exact ⟨_, hK, rfl⟩)
    refine ⟨.bool false, ?_, by rw [Hr.out], hB.trans (belowK_b (w := w) (Nat.le_refl _) W D _ _ (by simp at hD; omega) hK rfl rfl)⟩
    simp [results, Try.f75, go_sem, hc5]
end Go.Proofs.Ytpjokapkoeclpaa
