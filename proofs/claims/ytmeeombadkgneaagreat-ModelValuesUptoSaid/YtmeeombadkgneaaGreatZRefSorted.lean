/-
  What the document's own Sorted returns, and the nodes of a tree without their levels; conditions: the tree lies in memory.
  What the document's own Levels and constant return; conditions: the tree lies in memory.
-/
import Derived.Test.YtmeeombadkgneaaGreatZRefOwn
namespace Go.Proofs.YtmeeombadkgneaaGreat
open Go.RowKit Go.Shelf

attribute [local go_sem] Oper.semAt_some
/-- All nodes of a tree, without levels. -/
def nodesOf (t : Nd) : List Nd := (preN 1 t).map Prod.snd

theorem preN_snd (t : Nd) : ∀ lv lv', (preN lv t).map Prod.snd = (preN lv' t).map Prod.snd := by
  induction t using Nd.ind with
  | h t ih =>
  intro lv lv'
  have hs : ∀ (l : List Nd), (∀ i (hi : i < l.length), ∀ lv lv', (preN lv l[i]).map Prod.snd = (preN lv' l[i]).map Prod.snd) → ∀ lv lv', (preNs lv l).map Prod.snd = (preNs lv' l).map Prod.snd := by
    intro l
    induction l with
    | nil => intro _ lv lv'; rfl
    | cons x xs ihx =>
      intro h lv lv'
      have h0 : (preN lv x).map Prod.snd = (preN lv' x).map Prod.snd := h 0 (by simp) lv lv'
      have h1 := ihx (fun i hi => h (i + 1) (by simp; omega)) lv lv'
      rw [preNs, preNs, List.map_append, List.map_append, h0, h1]
  rw [preN_eq, preN_eq, List.map_cons, List.map_cons, hs t.ks ih (wrap64 (lv + 1)) (wrap64 (lv' + 1))]

theorem preNs_snd (l : List Nd) (lv : Int) : (preNs lv l).map Prod.snd = l.flatMap nodesOf := by
  induction l with
  | nil => rfl
  | cons x xs ih => rw [preNs, List.map_append, ih, List.flatMap_cons, preN_snd x lv 1, nodesOf]

theorem nodesOf_eq (t : Nd) : nodesOf t = t :: t.ks.flatMap nodesOf := by
  rw [nodesOf, preN_eq, List.map_cons, preNs_snd]

/-- Whether all nodes of a tree are as their Ops say. -/
def allN (t : Nd) : Bool := (nodesOf t).all okN
theorem allN_pre (t : Nd) : ((preN 1 t).all fun p => okN p.2) = allN t := by
  rw [allN, nodesOf, List.all_map]; rfl
theorem allN_eq (t : Nd) : allN t = (okN t && t.ks.all allN) := by
  rw [allN, nodesOf_eq, List.all_cons, List.all_flatMap]; rfl

theorem kidsB_wants {op : Int} {l : List Int} (ks : List Nd) (hw : op ∈ wantOps) (h : wantsL op = some l) : kidsB op ks = takesB ks l := by
  simp only [wantOps, List.mem_cons, List.not_mem_nil, or_false] at hw
  rcases hw with rfl | rfl | rfl | rfl | rfl | rfl | rfl | rfl | rfl | rfl | rfl | rfl | rfl | rfl | rfl | rfl | rfl | rfl | rfl | rfl | rfl | rfl | rfl | rfl | rfl
  all_goals
    cases h
    rfl
theorem kidsB_none {op : Int} (ks : List Nd) (hw : op ∉ wantOps) (h3 : op ≠ 3) (h42 : op ≠ 42) (h37 : op ≠ 37) (h8 : op ≠ 8) : kidsB op ks = false := by
  simp only [wantOps, List.mem_cons, List.not_mem_nil, or_false, not_or] at hw
  simp [kidsB, hw, h3, h42, h37, h8]
theorem wants_short {op : Int} {l : List Int} (h : wantsL op = some l) : l.length ≤ 10 := by
  unfold wantsL at h
  repeat' split at h
  all_goals first | (cases h; simp; done) | (cases h)

theorem allN_false_own {t : Nd} (h : fieldsB t.op t.so t.nm t.nu = false) : Hid (allN t = false) := by
  show _ = _
  rw [allN_eq, okN, h]; rfl
theorem allN_false_kid {t : Nd} {k : Nat} (hk : k < t.ks.length) (h : allN t.ks[k] = false) : Hid (allN t = false) := by
  show _ = _
  rw [allN_eq, Bool.and_eq_false_iff]
  exact .inr (by rw [← Bool.not_eq_true, List.all_eq_true]; exact fun e => by have := e _ (List.getElem_mem hk); rw [h] at this; cases this)
theorem allN_kids {t : Nd} (h : fieldsB t.op t.so t.nm t.nu = true) (hk : ∀ i (hi : i < t.ks.length), allN t.ks[i] = true) : Hid (allN t = kidsB t.op t.ks) := by
  show _ = _
  rw [allN_eq, okN, h, Bool.true_and, (show t.ks.all allN = true from by rw [List.all_eq_true]; intro x hx; obtain ⟨i, hi, rfl⟩ := List.getElem_of_mem hx; exact hk i hi), Bool.and_true]

theorem alike_plain {p q : Nd} (h : sortN p = sortN q) : alikeB p q = plainB (sortN p) := by
  unfold alikeB plainB
  by_cases h' : sortN p = 1 ∨ sortN p = 3 ∨ sortN p = 4 ∨ sortN p = 5
  · rw [decide_eq_true h', decide_eq_true ⟨h, h'⟩]
  · rw [decide_eq_false h', decide_eq_false (fun e => h' e.2)]
theorem alike_no {p q : Nd} (h : sortN p ≠ sortN q) : alikeB p q = false := decide_eq_false (fun e => h e.1)
theorem plain_below (s : Int) (w : World) : Calls Tryz.prog 127 #[.int .i64 s] w fun e w' => e = .returned (.bool (plainB s)) ∧ Below w.heap.size w w' :=
  (plain_any s w).mono (by rintro e w' ⟨rfl, rfl⟩; exact ⟨rfl, Below.refl _ _⟩)
theorem takesB_len {ks : List Nd} {l : List Int} (h : ks.length ≠ l.length) : takesB ks l = false := decide_eq_false (fun e => h (by rw [← e, List.length_map]))
theorem takesB_no {ks : List Nd} {l : List Int} {k : Nat} (h1 : k < ks.length) (h2 : k < l.length) (h : sortN ks[k] ≠ l[k]) : takesB ks l = false := decide_eq_false (fun e => h (by subst e; simp))
set_option maxRecDepth 100000 in
set_option maxHeartbeats 8000000 in
theorem refSorted_any (t : Nd) : ∀ (A : Option Addr) (cap : Nat) (w : World), Lies w A cap t.ks →
    Calls Tryz.prog 100 #[nv t.op t.so t.nm t.nu (.slice A t.ks.length cap)] w fun e w' => e = .returned (.bool (allN t)) ∧ Below w.heap.size w w' := by
  induction t using Nd.ind with
  | h t ih =>
  intro A cap w hL
  have HB1 : Below w.heap.size w (w.alloc (.cells #[.int .i64 t.op, .int .i64 t.so, .string t.nm, .int .i64 t.nu, .slice A t.ks.length cap] 44)) := (Below.refl _ _).alloc (Nat.le_refl _) _
  have H5 := Lib.hid (five_new w t (.slice A t.ks.length cap) 44)
  have hn := hL.len
  unfold maxLen at hn
  have HL := Lib.hid hL
  have IH := Lib.hid ih
  clear hL ih
  have HB1 := Lib.hid HB1
  cases hf : fieldsB t.op t.so t.nm t.nu
  case false =>
    have Hr := Lib.hid (allN_false_own hf).out
    have Hf := Lib.hid hf
    clear hf
    go_enter Tryz.func100, Tryz.ntmps100
    go_wp2_with fail
    refine (refOwn_any _ _ _ _ _ _).mono ?_
    rintro e w1 ⟨rfl, hb1⟩
    rw [Hf.out]
    have hB := Lib.hid (HB1.out.trans (hb1.mono (by simp)))
    clear hb1
    go_wp2_with fail
    go_ret
    exact ⟨by rw [Hr.out]; rfl, hB.out⟩
  have Hf := Lib.hid hf
  clear hf
  go_enter Tryz.func100, Tryz.ntmps100
  go_wp2_with fail
  refine (refOwn_any _ _ _ _ _ _).mono ?_
  rintro e w1 ⟨rfl, hb1⟩
  rw [Hf.out]
  have hB := HB1.out.trans (hb1.mono (by simp))
  have h5 := H5.out.later hb1
  have hsz : w.heap.size + 1 ≤ w1.heap.size := by have := hb1.size; simp at this; exact this
  clear hb1 H5 HB1
  have a4 := h5.c4
  have H5 := Lib.hid h5
  clear h5
  go_wp2_with fail
  go_loopw [15] (fun i wr => ∃ k : Nat, k ≤ t.ks.length ∧ i = .int .i64 k ∧ Hid (∀ j (h : j < t.ks.length), j < k → allN t.ks[j] = true) ∧ Below w.heap.size w wr ∧ Hid (Five wr w.heap.size 0 t (.slice A t.ks.length cap))) (fun i _ => t.ks.length - (intOf i).toNat)
  case atStart => exact ⟨0, Nat.zero_le _, rfl, fun j hj hjk => absurd hjk (by omega), hB, H5⟩
  case round =>
    obtain ⟨k, hk, rfl, hj, hBr, h5r⟩ := hrel
    by_cases hlt : k < t.ks.length
    · obtain ⟨b, o, A', C', rfl, g5, hK⟩ := HL.out.kid hlt
      obtain ⟨a0, a1, a2, a3, a4'⟩ := g5.later hBr
      have c := Lib.hid (IH.out k hlt A' C')
      have hK' := Lib.hid (hK.later hBr)
      have hsn := Lib.hid (fun (e : allN t.ks[k] = true) => (show Hid (∀ j (h : j < t.ks.length), j < k + 1 → allN t.ks[j] = true) from fun j hjs hjk => by
        by_cases e' : j = k
        · subst e'; exact e
        · exact hj.out j hjs (by omega)))
      have hno := Lib.hid (fun (e : allN t.ks[k] = false) => allN_false_kid hlt e)
      have hszr := hBr.size
      have HBr := Lib.hid hBr
      generalize t.ks[k] = q at *
      clear g5 hK IH HL hj a4 hB H5 hsz
      cases hq : allN q
      case true =>
        have Hq := Lib.hid hq
        have Hsn := hsn.out hq
        clear hq hno
        go_wp2_with fail
        refine (c.out _ (hK'.out.later ((Below.refl _ _).alloc (Nat.le_refl _) _))).mono ?_
        rintro e w2 ⟨rfl, hb2⟩
        rw [Hq.out]
        have hb3 : Below wr.heap.size wr w2 := ((Below.refl _ _).alloc (Nat.le_refl _) _).trans (hb2.mono (by simp))
        have h5' := Lib.hid (h5r.out.later hb3)
        have hB2 := Lib.hid (HBr.out.trans (hb3.mono hszr))
        clear hb2 hb3
        go_wp2_with fail
        go_roundw
        case rel => exact ⟨k + 1, by omega, by go_num, Hsn, hB2.out, h5'⟩
        case measure => simp [intOf]; omega
      case false =>
        have Hq := Lib.hid hq
        have Hr := Lib.hid (hno.out hq).out
        clear hq hno hsn
        go_wp2_with fail
        refine (c.out _ (hK'.out.later ((Below.refl _ _).alloc (Nat.le_refl _) _))).mono ?_
        rintro e w2 ⟨rfl, hb2⟩
        rw [Hq.out]
        have hb3 : Below wr.heap.size wr w2 := ((Below.refl _ _).alloc (Nat.le_refl _) _).trans (hb2.mono (by simp))
        have hB2 := Lib.hid (HBr.out.trans (hb3.mono hszr))
        clear hb2 hb3
        go_wp2_with fail
        go_ret
        exact ⟨by rw [Hr.out]; rfl, hB2.out⟩
    · have Hr := Lib.hid (allN_kids Hf.out (fun i hi => hj.out i hi (by omega))).out
      clear hj IH H5 a4 hB hsz
      obtain ⟨b0, b1, b2, b3, b4⟩ := h5r.out
      simp only [Nat.zero_add] at b0 b1 b2 b3 b4
      have hL := Lib.hid (HL.out.later hBr)
      have hBr := Lib.hid hBr
      clear HL Hf
      by_cases h3 : t.op = 3
      · have Hr := Lib.hid (show allN t = kidsB 3 t.ks by rw [Hr.out, h3])
        rw [h3] at b0
        by_cases h : t.ks.length ≤ 8
        · have hd := Lib.hid (Hr.out.trans (show kidsB 3 t.ks = true from decide_eq_true h))
          clear h3
          go_wp2_with fail
          go_ret
          refine ⟨?_, hBr.out⟩
          rw [hd.out]
          simp
          omega
        · have hd := Lib.hid (Hr.out.trans (show kidsB 3 t.ks = false from decide_eq_false h))
          clear h3
          go_wp2_with fail
          go_ret
          refine ⟨?_, hBr.out⟩
          rw [hd.out]
          simp
          omega
      by_cases h42 : t.op = 42
      · have Hr := Lib.hid (show allN t = kidsB 42 t.ks by rw [Hr.out, h42])
        rw [h42] at b0
        by_cases h : 1 ≤ t.ks.length
        · by_cases h' : t.ks.length ≤ 40
          · have hd := Lib.hid (Hr.out.trans (show kidsB 42 t.ks = true from decide_eq_true ⟨h, h'⟩))
            clear h3 h42
            go_wp2_with fail
            all_goals go_ret
            all_goals
              refine ⟨?_, hBr.out⟩
              rw [hd.out]
              simp
              try omega
          · have hd := Lib.hid (Hr.out.trans (show kidsB 42 t.ks = false from decide_eq_false (fun e => h' e.2)))
            clear h3 h42
            go_wp2_with fail
            all_goals go_ret
            all_goals
              refine ⟨?_, hBr.out⟩
              rw [hd.out]
              simp
              try omega
        · have hd := Lib.hid (Hr.out.trans (show kidsB 42 t.ks = false from decide_eq_false (fun e => h e.1)))
          have h0 : t.ks.length = 0 := by omega
          clear h3 h42
          go_wp2_with fail
          all_goals go_ret
          all_goals
            refine ⟨?_, hBr.out⟩
            rw [hd.out]
            simp [h0]
      by_cases h37 : t.op = 37
      · have Hr := Lib.hid (show allN t = eqB t.ks by rw [Hr.out, h37]; rfl)
        rw [h37] at b0
        clear h3 h42 h37 hk
        by_cases h2 : t.ks.length = 2
        case neg =>
          have h2' : ((t.ks.length : Int) == 2) = false := by rw [beq_eq_false_iff_ne]; omega
          have hd := Lib.hid (Hr.out.trans (show eqB t.ks = false by
            unfold eqB
            split
            · rename_i h; rw [h] at h2; simp at h2
            · rfl))
          clear h2
          go_wp2_with fail
          go_quiet (fail)
          go_wp2_with fail
          go_ret
          exact ⟨by rw [hd.out]; rfl, below_drewN hBr.out _⟩
        have h2' : ((t.ks.length : Int) == 2) = true := by rw [h2]; rfl
        obtain ⟨p, q, hpq⟩ : ∃ p q, t.ks = [p, q] := by
          match hh : t.ks, h2 with
          | [p, q], _ => exact ⟨p, q, rfl⟩
        have Hr := Lib.hid (show allN t = alikeB p q by rw [Hr.out, hpq]; rfl)
        have hL' := hL.out
        rw [hpq] at hL'
        obtain ⟨b, o, A', C', hA, h5, hkk⟩ := hL'.fns
        obtain rfl := hA (by simp)
        have g0 := h5 0 (by simp)
        have g1 := h5 1 (by simp)
        have l0 := Lib.hid (hkk 0 (by simp))
        have l1 := Lib.hid (hkk 1 (by simp))
        simp only [List.getElem_cons_zero, List.getElem_cons_succ, Nat.zero_mul, Nat.add_zero, Nat.one_mul] at g0 g1 l0 l1
        rw [h2] at b4
        have e0 := cell_regrown b0
        have e4 := cell_regrown b4
        have a0 := cell_regrown g0.c0
        have a1 := cell_regrown g0.c1
        have a2 := cell_regrown g0.c2
        have a3 := cell_regrown g0.c3
        have a4 := cell_regrown g0.c4
        have d0 := cell_regrown g1.c0
        have d1 := cell_regrown g1.c1
        have d2 := cell_regrown g1.c2
        have d3 := cell_regrown g1.c3
        have d4 := cell_regrown g1.c4
        have S0 := Lib.hid (fun d os => Calls.regrown_of (refSort_any p _ _ _ (l0.out.later (below_regrown wr d os))))
        have S1 := Lib.hid (fun d os => Calls.regrown_of (refSort_any q _ _ _ (l1.out.later (below_regrown wr d os))))
        have P0 := Lib.hid (fun d os => Calls.regrown_of (w := wr) (d := d) (os := os) (plain_below (sortN p) _))
        clear hpq hL' h5 hkk hA g0 g1 l0 l1 b1 b2 b3 hL h2
        by_cases hs : sortN p = sortN q
        case neg =>
          have hs' : (sortN p == sortN q) = false := by simpa using hs
          have hd := Lib.hid (Hr.out.trans (alike_no hs))
          clear hs Hr
          go_wp2_with fail
          refine wp_region_quiet_below (by kernel_rfl) (by kernel_rfl) ?_
          repeat (go_big_quiet_step (first | (go_at_call 27; first | (with_reducible exact S0.out _ _) | (with_reducible exact S1.out _ _)) | (go_at_call 127; exact P0.out _ _)))
          refine wpQuiet_nil ?_
          intro _ hw'
          obtain ⟨⟨dq, osq⟩, hw''⟩ := hw'
          subst hw''
          clear e0 e4 a0 a1 a2 a3 a4 d0 d1 d2 d3 d4
          go_wp2_with fail
          go_ret
          exact ⟨by rw [hd.out]; rfl, hBr.out.trans ((below_regrown wr dq osq).mono hBr.out.size)⟩
        have hs' : (sortN p == sortN q) = true := by simpa using hs
        have hd := Lib.hid (Hr.out.trans (alike_plain hs))
        clear hs Hr
        go_wp2_with fail
        refine wp_region_quiet_below (by kernel_rfl) (by kernel_rfl) ?_
        repeat (go_big_quiet_step (first | (go_at_call 27; first | (with_reducible exact S0.out _ _) | (with_reducible exact S1.out _ _)) | (go_at_call 127; exact P0.out _ _)))
        refine wpQuiet_nil ?_
        intro _ hw'
        obtain ⟨⟨dq, osq⟩, hw''⟩ := hw'
        subst hw''
        clear e0 e4 a0 a1 a2 a3 a4 d0 d1 d2 d3 d4
        go_wp2_with fail
        go_ret
        exact ⟨by rw [hd.out]; rfl, hBr.out.trans ((below_regrown wr dq osq).mono hBr.out.size)⟩
      by_cases h8 : t.op = 8
      · have Hr := Lib.hid (show allN t = iteB t.ks by rw [Hr.out, h8]; rfl)
        rw [h8] at b0
        clear h3 h42 h37 h8 hk
        by_cases h2 : t.ks.length = 3
        case neg =>
          have h2' : ((t.ks.length : Int) == 3) = false := by rw [beq_eq_false_iff_ne]; omega
          have hd := Lib.hid (Hr.out.trans (show iteB t.ks = false by
            unfold iteB
            split
            · rename_i h; rw [h] at h2; simp at h2
            · rfl))
          clear h2
          go_wp2_with fail
          go_quiet (fail)
          go_wp2_with fail
          go_ret
          exact ⟨by rw [hd.out]; rfl, below_drewN hBr.out _⟩
        obtain ⟨r, p, q, hpq⟩ : ∃ r p q, t.ks = [r, p, q] := by
          match hh : t.ks, h2 with
          | [r, p, q], _ => exact ⟨r, p, q, rfl⟩
        have Hr := Lib.hid (show allN t = (decide (sortN r = 2) && alikeB p q) by rw [Hr.out, hpq]; rfl)
        have hL' := hL.out
        rw [hpq] at hL'
        obtain ⟨b, o, A', C', hA, h5, hkk⟩ := hL'.fns
        obtain rfl := hA (by simp)
        have f0 := h5 0 (by simp)
        have g0 := h5 1 (by simp)
        have g1 := h5 2 (by simp)
        have m0 := Lib.hid (hkk 0 (by simp))
        have l0 := Lib.hid (hkk 1 (by simp))
        have l1 := Lib.hid (hkk 2 (by simp))
        simp only [List.getElem_cons_zero, List.getElem_cons_succ, Nat.zero_mul, Nat.add_zero, Nat.one_mul, Nat.reduceMul] at f0 g0 g1 m0 l0 l1
        rw [h2] at b4
        have e0 := cell_regrown b0
        have e4 := cell_regrown b4
        have c0 := cell_regrown f0.c0
        have c1 := cell_regrown f0.c1
        have c2 := cell_regrown f0.c2
        have c3 := cell_regrown f0.c3
        have c4 := cell_regrown f0.c4
        have a0 := cell_regrown g0.c0
        have a1 := cell_regrown g0.c1
        have a2 := cell_regrown g0.c2
        have a3 := cell_regrown g0.c3
        have a4 := cell_regrown g0.c4
        have d0 := cell_regrown g1.c0
        have d1 := cell_regrown g1.c1
        have d2 := cell_regrown g1.c2
        have d3 := cell_regrown g1.c3
        have d4 := cell_regrown g1.c4
        have R0 := Lib.hid (fun d os => Calls.regrown_of (refSort_any r _ _ _ (m0.out.later (below_regrown wr d os))))
        have S0 := Lib.hid (fun d os => Calls.regrown_of (refSort_any p _ _ _ (l0.out.later (below_regrown wr d os))))
        have S1 := Lib.hid (fun d os => Calls.regrown_of (refSort_any q _ _ _ (l1.out.later (below_regrown wr d os))))
        have P0 := Lib.hid (fun d os => Calls.regrown_of (w := wr) (d := d) (os := os) (plain_below (sortN p) _))
        clear hpq hL' h5 hkk hA f0 g0 g1 m0 l0 l1 b1 b2 b3 hL h2
        by_cases hr2 : sortN r = 2
        case neg =>
          have hr2' : (sortN r == 2) = false := by simpa using hr2
          have hd := Lib.hid (Hr.out.trans (show (decide (sortN r = 2) && alikeB p q) = false by rw [decide_eq_false hr2]; rfl))
          clear hr2 Hr
          go_wp2_with fail
          refine wp_region_quiet_below (by kernel_rfl) (by kernel_rfl) ?_
          repeat (go_big_quiet_step (first | (go_at_call 27; first | (with_reducible exact R0.out _ _) | (with_reducible exact S0.out _ _) | (with_reducible exact S1.out _ _)) | (go_at_call 127; exact P0.out _ _)))
          refine wpQuiet_nil ?_
          intro _ hw'
          obtain ⟨⟨dq, osq⟩, hw''⟩ := hw'
          subst hw''
          clear e0 e4 a0 a1 a2 a3 a4 d0 d1 d2 d3 d4 c0 c1 c2 c3 c4
          go_wp2_with fail
          go_ret
          exact ⟨by rw [hd.out]; rfl, hBr.out.trans ((below_regrown wr dq osq).mono hBr.out.size)⟩
        have hr2' : (sortN r == 2) = true := by simpa using hr2
        have Hr := Lib.hid (Hr.out.trans (show (decide (sortN r = 2) && alikeB p q) = alikeB p q by rw [decide_eq_true hr2]; rfl))
        clear hr2
        by_cases hs : sortN p = sortN q
        case neg =>
          have hs' : (sortN p == sortN q) = false := by simpa using hs
          have hd := Lib.hid (Hr.out.trans (alike_no hs))
          clear hs Hr
          go_wp2_with fail
          refine wp_region_quiet_below (by kernel_rfl) (by kernel_rfl) ?_
          repeat (go_big_quiet_step (first | (go_at_call 27; first | (with_reducible exact R0.out _ _) | (with_reducible exact S0.out _ _) | (with_reducible exact S1.out _ _)) | (go_at_call 127; exact P0.out _ _)))
          refine wpQuiet_nil ?_
          intro _ hw'
          obtain ⟨⟨dq, osq⟩, hw''⟩ := hw'
          subst hw''
          clear e0 e4 a0 a1 a2 a3 a4 d0 d1 d2 d3 d4 c0 c1 c2 c3 c4
          go_wp2_with fail
          go_ret
          exact ⟨by rw [hd.out]; rfl, hBr.out.trans ((below_regrown wr dq osq).mono hBr.out.size)⟩
        have hs' : (sortN p == sortN q) = true := by simpa using hs
        have hd := Lib.hid (Hr.out.trans (alike_plain hs))
        clear hs Hr
        go_wp2_with fail
        refine wp_region_quiet_below (by kernel_rfl) (by kernel_rfl) ?_
        repeat (go_big_quiet_step (first | (go_at_call 27; first | (with_reducible exact R0.out _ _) | (with_reducible exact S0.out _ _) | (with_reducible exact S1.out _ _)) | (go_at_call 127; exact P0.out _ _)))
        refine wpQuiet_nil ?_
        intro _ hw'
        obtain ⟨⟨dq, osq⟩, hw''⟩ := hw'
        subst hw''
        clear e0 e4 a0 a1 a2 a3 a4 d0 d1 d2 d3 d4 c0 c1 c2 c3 c4
        go_wp2_with fail
        go_ret
        exact ⟨by rw [hd.out]; rfl, hBr.out.trans ((below_regrown wr dq osq).mono hBr.out.size)⟩
      have e3 : (t.op == 3) = false := by simpa using h3
      have e42 : (t.op == 42) = false := by simpa using h42
      have e37 : (t.op == 37) = false := by simpa using h37
      have e8 : (t.op == 8) = false := by simpa using h8
      by_cases hw : t.op ∈ wantOps
      case neg =>
        have hd := Lib.hid (Hr.out.trans (kidsB_none t.ks hw h3 h42 h37 h8))
        clear h3 h42 h37 h8
        go_wp2_with fail
        refine (wants_none _ _ hw).mono ?_
        rintro e w2 ⟨⟨v, rfl⟩, rfl⟩
        go_wp2_with fail
        go_ret
        exact ⟨by rw [hd.out]; rfl, hBr.out⟩
      case pos =>
        clear h3 h42 h37 h8
        go_wp2_with fail
        refine (wants_some _ _ hw).mono ?_
        rintro e w2 ⟨SA, sl, hsl, rfl, hI, hb2⟩
        have hd := Lib.hid (Hr.out.trans (kidsB_wants t.ks hw hsl))
        have hshort := wants_short hsl
        have c4 := cellB hb2 (Nat.le_refl _) b4
        have hL2 := Lib.hid (hL.out.later hb2)
        have hB2 := Lib.hid (hBr.out.trans (hb2.mono hBr.out.size))
        have hI := Lib.hid hI
        have hszw := hB2.out.size
        clear hb2 Hr hsl hw b0 b1 b2 b3 b4 hL hBr e3 e42 e37 e8
        by_cases hl : sl.length = t.ks.length
        case neg =>
          have hl' : ((sl.length : Int) == (t.ks.length : Int)) = false := by rw [beq_eq_false_iff_ne]; omega
          have hd := Lib.hid (hd.out.trans <| takesB_len (ks := t.ks) (l := sl) (fun e => hl e.symm))
          clear hl
          go_wp2_with fail
          go_ret
          exact ⟨by rw [hd.out]; rfl, hB2.out⟩
        have hl' : ((sl.length : Int) == (t.ks.length : Int)) = true := by rw [beq_iff_eq]; omega
        have hl'' : ((sl.length : Int) != (t.ks.length : Int)) = false := by simp; omega
        have Hl := Lib.hid hl
        clear hl
        go_wp2_with fail
        go_loopw [123] (fun i wx => ∃ k : Nat, k ≤ sl.length ∧ i = .int .i64 k ∧ Hid ((t.ks.take k).map sortN = sl.take k) ∧ Below w.heap.size w wx ∧ wx.cell? ⟨w.heap.size, 4, none⟩ = some (.slice A t.ks.length cap) ∧ Hid (Below w2.heap.size w2 wx)) (fun i _ => sl.length - (intOf i).toNat)
        case atStart => exact ⟨0, Nat.zero_le _, rfl, rfl, hB2.out, c4, Lib.hid (Below.refl _ _)⟩
        case round =>
          obtain ⟨k', hk', rfl, hj, hBr, c4r, hbx⟩ := hrel
          clear hlt hk h5r c4
          by_cases hlt : k' < sl.length
          · have hltk : k' < t.ks.length := by have := Hl.out; omega
            have hL3 := hL2.out.later hbx.out
            obtain ⟨b, o, A', C', rfl, h5, hK⟩ := hL3.kid hltk
            obtain ⟨sb, so, hsa, hsc⟩ := hI.out.later hbx.out
            obtain rfl := hsa (by omega)
            have c0 := hsc k' hlt
            obtain ⟨a0, a1, a2, a3, a4⟩ := h5
            have hK' := Lib.hid hK
            have hsn := Lib.hid (fun (e : sortN t.ks[k'] = sl[k']) => (show Hid ((t.ks.take (k' + 1)).map sortN = sl.take (k' + 1)) from by
              show _ = _
              rw [List.take_succ_eq_append_getElem hltk, List.take_succ_eq_append_getElem hlt, List.map_append, hj.out]
              simp [e]))
            have hno := Lib.hid (fun (e : sortN t.ks[k'] ≠ sl[k']) => takesB_no hltk hlt e)
            generalize sl[k'] = z at *
            generalize t.ks[k'] = q at *
            clear hK hsc hI hL2 hL3 hj
            by_cases hz : sortN q = z
            · have hz' : (sortN q == z) = true := by simpa using hz
              have Hz := Lib.hid hz
              clear hz
              go_wp2_with fail
              refine (refSort_any q _ _ _ hK'.out).mono ?_
              rintro e w3 ⟨rfl, hb3⟩
              have hB3 : Below w.heap.size w w3 := hBr.trans (hb3.mono hBr.size)
              have c4' := cellB hb3 (Nat.le_refl _) c4r
              have hbx' := Lib.hid (hbx.out.trans (hb3.mono hbx.out.size))
              clear hb3
              go_wp2_with fail
              go_roundw
              case rel => exact ⟨k' + 1, by omega, by go_num, hsn.out Hz.out, hB3, c4', hbx'⟩
              case measure => simp [intOf]; omega
            · have hz' : (sortN q == z) = false := by simpa using hz
              have Hr := Lib.hid (hd.out.trans (hno.out hz))
              clear hz
              go_wp2_with fail
              refine (refSort_any q _ _ _ hK'.out).mono ?_
              rintro e w3 ⟨rfl, hb3⟩
              have hB3 : Below w.heap.size w w3 := hBr.trans (hb3.mono hBr.size)
              clear hb3
              go_wp2_with fail
              go_ret
              exact ⟨by rw [Hr.out]; rfl, hB3⟩
          · have Hr := Lib.hid (hd.out.trans (show takesB t.ks sl = true from decide_eq_true (by have := hj.out; rwa [List.take_of_length_le (by have := Hl.out; omega), List.take_of_length_le (by omega)] at this)))
            go_wp2_with fail
            go_ret
            exact ⟨by rw [Hr.out]; rfl, hBr⟩
end Go.Proofs.YtmeeombadkgneaaGreat
namespace Go.Proofs.YtmeeombadkgneaaGreat
open Go.RowKit Go.Shelf

attribute [local go_sem] Oper.semAt_some
/-- The number of levels as the document counts it. -/
def levW : Nd → Int
  | .mk _ _ _ _ ks => wrap64 (ks.attach.foldl (fun s k => max s (levW k.1)) 0 + 1)
termination_by t => SizeOf.sizeOf t
decreasing_by
  have := List.sizeOf_lt_of_mem k.2
  simp only [Nd.mk.sizeOf_spec]
  omega

def levL (s : Int) (ks : List Nd) : Int := ks.foldl (fun s k => max s (levW k)) s
theorem levW_eq (t : Nd) : levW t = wrap64 (levL 0 t.ks + 1) := by
  cases t
  rw [levW, levL]
  simp only [Nd.ks]
  rw [List.foldl_attach (f := fun s k => max s (levW k))]
theorem levL_snoc (s : Int) (ks : List Nd) (k : Nat) (hk : k < ks.length) : levL s (ks.take (k + 1)) = max (levL s (ks.take k)) (levW ks[k]) := by
  rw [levL, levL, List.take_succ_eq_append_getElem hk, List.foldl_append]
  rfl

set_option maxHeartbeats 1000000 in
theorem refLevels_any (t : Nd) : ∀ (A : Option Addr) (cap : Nat) (w : World), Lies w A cap t.ks →
    Calls Tryz.prog 99 #[nv t.op t.so t.nm t.nu (.slice A t.ks.length cap)] w fun e w' => e = .returned (.int .i64 (levW t)) ∧ Below w.heap.size w w' := by
  induction t using Nd.ind with
  | h t ih =>
  intro A cap w hL
  have HW := Lib.hid (levW_eq t)
  have hn := hL.len
  unfold maxLen at hn
  have IH := Lib.hid ih
  clear ih
  have HL := Lib.hid hL
  clear hL
  generalize levW t = R at *
  generalize t.ks = ks at *
  go_enter Tryz.func99, Tryz.ntmps99
  go_wp2_with fail
  go_loopw [3, 9] (fun s i wr => ∃ k : Nat, k ≤ ks.length ∧ i = .int .i64 k ∧ s = .int .i64 (levL 0 (ks.take k)) ∧ Below w.heap.size w wr) (fun _ i wr => ks.length - (intOf i).toNat)
  case atStart => exact ⟨0, Nat.zero_le _, rfl, rfl, (Below.refl _ _).alloc (Nat.le_refl _) _⟩
  case round =>
    obtain ⟨k, hk, rfl, rfl, hB⟩ := hrel
    by_cases hlt : k < ks.length
    · obtain ⟨b, o, A', C', rfl, h5, hK⟩ := HL.out.kid hlt
      have HS := Lib.hid (levL_snoc 0 ks k hlt)
      have c := Lib.hid (IH.out k hlt A' C')
      have h5' := h5.later hB
      have hK' := Lib.hid (hK.later hB)
      generalize ks[k] = q at *
      obtain ⟨a0, a1, a2, a3, a4⟩ := h5'
      clear h5 hK IH HL
      go_wp2_with fail
      refine (c.out _ (hK'.out.later ((Below.refl _ _).alloc (Nat.le_refl _) _))).mono ?_
      rintro e w1 ⟨rfl, hb1⟩
      have hB1 : Below w.heap.size w w1 := (hB.alloc hB.size _).trans (hb1.mono (by have := hB.size; simp; omega))
      clear hb1
      go_wp2_with fail
      go_roundw
      case rel => exact ⟨k + 1, by omega, by go_num, by rw [HS.out, Int.max_def]; congr 1; split <;> split <;> omega, hB1⟩
      case measure => simp [intOf]; omega
    · go_wp2_with fail
      go_ret
      refine ⟨?_, hB⟩
      rw [HW.out, List.take_of_length_le (by omega)]
      rfl

/-- Whether a name is that of an application without kids in a tree. -/
def conB (nm : ByteArray) (t : Nd) : Bool := (nodesOf t).any fun y => y.op == 3 && (y.nm.toList == nm.toList && decide (y.ks.length = 0))
theorem conB_eq (nm : ByteArray) (t : Nd) : conB nm t = ((t.op == 3 && (t.nm.toList == nm.toList && decide (t.ks.length = 0))) || t.ks.any (conB nm)) := by
  rw [conB, nodesOf_eq, List.any_cons, List.any_flatMap]; rfl

set_option maxRecDepth 100000 in
set_option maxHeartbeats 2000000 in
theorem constant_any (nm : ByteArray) (t : Nd) : ∀ (A : Option Addr) (cap : Nat) (w : World), Lies w A cap t.ks →
    Calls Tryz.prog 129 #[nv t.op t.so t.nm t.nu (.slice A t.ks.length cap), .string nm] w fun e w' => e = .returned (.bool (conB nm t)) ∧ Below w.heap.size w w' := by
  induction t using Nd.ind with
  | h t ih =>
  intro A cap w hL
  have HB1 : Below w.heap.size w (w.alloc (.cells #[.int .i64 t.op, .int .i64 t.so, .string t.nm, .int .i64 t.nu, .slice A t.ks.length cap] 44)) := (Below.refl _ _).alloc (Nat.le_refl _) _
  have H5 := Lib.hid (five_new w t (.slice A t.ks.length cap) 44)
  have hn := hL.len
  unfold maxLen at hn
  have HL := Lib.hid hL
  have IH := Lib.hid ih
  clear hL ih
  have HB1 := Lib.hid HB1
  have HB : ∀ O, Below w.heap.size w (w.alloc O) := fun O => (Below.refl _ _).alloc (Nat.le_refl _) _
  by_cases h0 : t.op = 3 ∧ t.nm.toList = nm.toList ∧ t.ks.length = 0
  · obtain ⟨h3, hnm, hl⟩ := h0
    have Hr := Lib.hid (show conB nm t = true by rw [conB_eq]; simp [h3, hnm, hl])
    have h3' : (t.op == 3) = true := by simpa using h3
    have hnm' : (t.nm.toList == nm.toList) = true := by simpa using hnm
    have hl' : ((t.ks.length : Int) == 0) = true := by rw [hl]; rfl
    clear h3 hnm hl
    go_enter Tryz.func129, Tryz.ntmps129
    go_wp2_with fail
    all_goals go_ret
    all_goals exact ⟨by rw [Hr.out]; rfl, HB1.out⟩
  have hz := Lib.hid (show conB nm t = t.ks.any (conB nm) by
    rw [conB_eq]
    have : (t.op == 3 && (t.nm.toList == nm.toList && decide (t.ks.length = 0))) = false := by
      simp only [Bool.and_eq_false_iff, beq_eq_false_iff_ne, decide_eq_false_iff_not]
      by_cases a : t.op = 3
      · by_cases b : t.nm.toList = nm.toList
        · exact .inr (.inr fun c => h0 ⟨a, b, c⟩)
        · exact .inr (.inl b)
      · exact .inl a
    rw [this, Bool.false_or])
  by_cases h3 : t.op = 3
  case neg =>
    have h3' : (t.op == 3) = false := by simpa using h3
    clear h0 h3
    go_enter Tryz.func129, Tryz.ntmps129
    go_wp2_with fail
    go_loopw [25] (fun i wr => ∃ k : Nat, k ≤ t.ks.length ∧ i = .int .i64 k ∧ Hid (∀ j (h : j < t.ks.length), j < k → conB nm t.ks[j] = false) ∧ Below w.heap.size w wr) (fun i _ => t.ks.length - (intOf i).toNat)
    case atStart => exact ⟨0, Nat.zero_le _, rfl, fun j hj hjk => absurd hjk (by omega), HB _⟩
    case round =>
      obtain ⟨k, hk, rfl, hj, hBr⟩ := hrel
      by_cases hlt : k < t.ks.length
      · obtain ⟨b, o, A', C', rfl, g5, hK⟩ := HL.out.kid hlt
        obtain ⟨a0, a1, a2, a3, a4⟩ := g5.later hBr
        have c := Lib.hid (IH.out k hlt A' C')
        have hK' := Lib.hid (hK.later hBr)
        have hsn := Lib.hid (fun (e : conB nm t.ks[k] = false) => (show Hid (∀ j (h : j < t.ks.length), j < k + 1 → conB nm t.ks[j] = false) from fun j hjs hjk => by
          by_cases e' : j = k
          · subst e'; exact e
          · exact hj.out j hjs (by omega)))
        have hyes := Lib.hid (fun (e : conB nm t.ks[k] = true) => hz.out.trans (List.any_eq_true.2 ⟨_, List.getElem_mem hlt, e⟩))
        have hszr := hBr.size
        have HBr := Lib.hid hBr
        generalize t.ks[k] = q at *
        clear g5 hK IH HL hj
        cases hq : conB nm q
        case false =>
          have Hq := Lib.hid hq
          have Hsn := hsn.out hq
          clear hq hyes
          go_wp2_with fail
          refine (c.out _ (hK'.out.later ((Below.refl _ _).alloc (Nat.le_refl _) _))).mono ?_
          rintro e w2 ⟨rfl, hb2⟩
          rw [Hq.out]
          have hB2 := Lib.hid (HBr.out.trans ((((Below.refl _ wr).alloc (Nat.le_refl _) _).trans (hb2.mono (by simp))).mono hszr))
          clear hb2
          go_wp2_with fail
          go_roundw
          case rel => exact ⟨k + 1, by omega, by go_num, Hsn, hB2.out⟩
          case measure => simp [intOf]; omega
        case true =>
          have Hq := Lib.hid hq
          have Hr := Lib.hid (hyes.out hq)
          clear hq hyes hsn
          go_wp2_with fail
          refine (c.out _ (hK'.out.later ((Below.refl _ _).alloc (Nat.le_refl _) _))).mono ?_
          rintro e w2 ⟨rfl, hb2⟩
          rw [Hq.out]
          have hB2 := Lib.hid (HBr.out.trans ((((Below.refl _ wr).alloc (Nat.le_refl _) _).trans (hb2.mono (by simp))).mono hszr))
          clear hb2
          go_wp2_with fail
          go_ret
          exact ⟨by rw [Hr.out]; rfl, hB2.out⟩
      · have Hr := Lib.hid (hz.out.trans (show t.ks.any (conB nm) = false from by
          rw [← Bool.not_eq_true, List.any_eq_true]
          rintro ⟨x, hx, hx2⟩
          obtain ⟨i, hi, rfl⟩ := List.getElem_of_mem hx
          have := hj.out i hi (by omega)
          rw [this] at hx2
          cases hx2))
        go_wp2_with fail
        go_ret
        exact ⟨by rw [Hr.out]; rfl, hBr⟩
  have h3' : (t.op == 3) = true := by simpa using h3
  by_cases hm : t.nm.toList = nm.toList
  case neg =>
    have hm' : (t.nm.toList == nm.toList) = false := by simpa using hm
    clear h0 h3 hm
    go_enter Tryz.func129, Tryz.ntmps129
    go_wp2_with fail
    go_loopw [25] (fun i wr => ∃ k : Nat, k ≤ t.ks.length ∧ i = .int .i64 k ∧ Hid (∀ j (h : j < t.ks.length), j < k → conB nm t.ks[j] = false) ∧ Below w.heap.size w wr) (fun i _ => t.ks.length - (intOf i).toNat)
    case atStart => exact ⟨0, Nat.zero_le _, rfl, fun j hj hjk => absurd hjk (by omega), HB _⟩
    case round =>
      obtain ⟨k, hk, rfl, hj, hBr⟩ := hrel
      by_cases hlt : k < t.ks.length
      · obtain ⟨b, o, A', C', rfl, g5, hK⟩ := HL.out.kid hlt
        obtain ⟨a0, a1, a2, a3, a4⟩ := g5.later hBr
        have c := Lib.hid (IH.out k hlt A' C')
        have hK' := Lib.hid (hK.later hBr)
        have hsn := Lib.hid (fun (e : conB nm t.ks[k] = false) => (show Hid (∀ j (h : j < t.ks.length), j < k + 1 → conB nm t.ks[j] = false) from fun j hjs hjk => by
          by_cases e' : j = k
          · subst e'; exact e
          · exact hj.out j hjs (by omega)))
        have hyes := Lib.hid (fun (e : conB nm t.ks[k] = true) => hz.out.trans (List.any_eq_true.2 ⟨_, List.getElem_mem hlt, e⟩))
        have hszr := hBr.size
        have HBr := Lib.hid hBr
        generalize t.ks[k] = q at *
        clear g5 hK IH HL hj
        cases hq : conB nm q
        case false =>
          have Hq := Lib.hid hq
          have Hsn := hsn.out hq
          clear hq hyes
          go_wp2_with fail
          refine (c.out _ (hK'.out.later ((Below.refl _ _).alloc (Nat.le_refl _) _))).mono ?_
          rintro e w2 ⟨rfl, hb2⟩
          rw [Hq.out]
          have hB2 := Lib.hid (HBr.out.trans ((((Below.refl _ wr).alloc (Nat.le_refl _) _).trans (hb2.mono (by simp))).mono hszr))
          clear hb2
          go_wp2_with fail
          go_roundw
          case rel => exact ⟨k + 1, by omega, by go_num, Hsn, hB2.out⟩
          case measure => simp [intOf]; omega
        case true =>
          have Hq := Lib.hid hq
          have Hr := Lib.hid (hyes.out hq)
          clear hq hyes hsn
          go_wp2_with fail
          refine (c.out _ (hK'.out.later ((Below.refl _ _).alloc (Nat.le_refl _) _))).mono ?_
          rintro e w2 ⟨rfl, hb2⟩
          rw [Hq.out]
          have hB2 := Lib.hid (HBr.out.trans ((((Below.refl _ wr).alloc (Nat.le_refl _) _).trans (hb2.mono (by simp))).mono hszr))
          clear hb2
          go_wp2_with fail
          go_ret
          exact ⟨by rw [Hr.out]; rfl, hB2.out⟩
      · have Hr := Lib.hid (hz.out.trans (show t.ks.any (conB nm) = false from by
          rw [← Bool.not_eq_true, List.any_eq_true]
          rintro ⟨x, hx, hx2⟩
          obtain ⟨i, hi, rfl⟩ := List.getElem_of_mem hx
          have := hj.out i hi (by omega)
          rw [this] at hx2
          cases hx2))
        go_wp2_with fail
        go_ret
        exact ⟨by rw [Hr.out]; rfl, hBr⟩
  have hm' : (t.nm.toList == nm.toList) = true := by simpa using hm
  have hl : ((t.ks.length : Int) == 0) = false := by rw [beq_eq_false_iff_ne]; exact fun e => h0 ⟨h3, hm, by omega⟩
  clear h0 h3 hm
  go_enter Tryz.func129, Tryz.ntmps129
  go_wp2_with fail
  go_loopw [25] (fun i wr => ∃ k : Nat, k ≤ t.ks.length ∧ i = .int .i64 k ∧ Hid (∀ j (h : j < t.ks.length), j < k → conB nm t.ks[j] = false) ∧ Below w.heap.size w wr) (fun i _ => t.ks.length - (intOf i).toNat)
  case atStart => exact ⟨0, Nat.zero_le _, rfl, fun j hj hjk => absurd hjk (by omega), HB _⟩
  case round =>
    obtain ⟨k, hk, rfl, hj, hBr⟩ := hrel
    by_cases hlt : k < t.ks.length
    · obtain ⟨b, o, A', C', rfl, g5, hK⟩ := HL.out.kid hlt
      obtain ⟨a0, a1, a2, a3, a4⟩ := g5.later hBr
      have c := Lib.hid (IH.out k hlt A' C')
      have hK' := Lib.hid (hK.later hBr)
      have hsn := Lib.hid (fun (e : conB nm t.ks[k] = false) => (show Hid (∀ j (h : j < t.ks.length), j < k + 1 → conB nm t.ks[j] = false) from fun j hjs hjk => by
        by_cases e' : j = k
        · subst e'; exact e
        · exact hj.out j hjs (by omega)))
      have hyes := Lib.hid (fun (e : conB nm t.ks[k] = true) => hz.out.trans (List.any_eq_true.2 ⟨_, List.getElem_mem hlt, e⟩))
      have hszr := hBr.size
      have HBr := Lib.hid hBr
      generalize t.ks[k] = q at *
      clear g5 hK IH HL hj
      cases hq : conB nm q
      case false =>
        have Hq := Lib.hid hq
        have Hsn := hsn.out hq
        clear hq hyes
        go_wp2_with fail
        refine (c.out _ (hK'.out.later ((Below.refl _ _).alloc (Nat.le_refl _) _))).mono ?_
        rintro e w2 ⟨rfl, hb2⟩
        rw [Hq.out]
        have hB2 := Lib.hid (HBr.out.trans ((((Below.refl _ wr).alloc (Nat.le_refl _) _).trans (hb2.mono (by simp))).mono hszr))
        clear hb2
        go_wp2_with fail
        go_roundw
        case rel => exact ⟨k + 1, by omega, by go_num, Hsn, hB2.out⟩
        case measure => simp [intOf]; omega
      case true =>
        have Hq := Lib.hid hq
        have Hr := Lib.hid (hyes.out hq)
        clear hq hyes hsn
        go_wp2_with fail
        refine (c.out _ (hK'.out.later ((Below.refl _ _).alloc (Nat.le_refl _) _))).mono ?_
        rintro e w2 ⟨rfl, hb2⟩
        rw [Hq.out]
        have hB2 := Lib.hid (HBr.out.trans ((((Below.refl _ wr).alloc (Nat.le_refl _) _).trans (hb2.mono (by simp))).mono hszr))
        clear hb2
        go_wp2_with fail
        go_ret
        exact ⟨by rw [Hr.out]; rfl, hB2.out⟩
    · have Hr := Lib.hid (hz.out.trans (show t.ks.any (conB nm) = false from by
        rw [← Bool.not_eq_true, List.any_eq_true]
        rintro ⟨x, hx, hx2⟩
        obtain ⟨i, hi, rfl⟩ := List.getElem_of_mem hx
        have := hj.out i hi (by omega)
        rw [this] at hx2
        cases hx2))
      go_wp2_with fail
      go_ret
      exact ⟨by rw [Hr.out]; rfl, hBr⟩
end Go.Proofs.YtmeeombadkgneaaGreat
