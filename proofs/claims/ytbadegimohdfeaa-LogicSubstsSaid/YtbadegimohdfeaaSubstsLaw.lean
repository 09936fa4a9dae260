/-
  What the law LogicSubsts returns: true; conditions: the trees and the names lie in memory, and none of the lists is too long to be made.
-/
import Derived.Test.YtbadegimohdfeaaSubstsPre
namespace Go.Proofs.Ytbadegimohdfeaa
open Go.RowKit Go.Shelf

attribute [local go_sem] Oper.semAt_some
set_option maxRecDepth 100000 in
set_option maxHeartbeats 4000000 in
set_option linter.unusedSimpArgs false in
theorem substs_law (t : Nd) (nl : List ByteArray) (ws : List Nd) (A NA WA : Option Addr) (ca ncap wcap : Nat) (w : World) (hA : Lies w A ca t.ks) (fa : Fine t) (hsh : Short t) (hS : Strs w NA nl) (hnl : nl.length ≤ maxLen) (hW : Lies w WA wcap ws) (hsw : ∀ u ∈ ws, Short u) :
    Calls Try.prog 6 #[nv t.op t.so t.nm t.nu (.slice A t.ks.length ca), .slice NA nl.length ncap, .slice WA ws.length wcap] w fun e w' => e = .returned (.bool true) ∧ Below w.heap.size w w' := by
  have hBW : Below w.heap.size w (w.alloc (boxO t (.slice A t.ks.length ca))) := (Below.refl _ w).alloc (Nat.le_refl _) _
  have X1 := Lib.hid (five_new w t (.slice A t.ks.length ca) 24)
  have HBW := Lib.hid hBW
  have LA := Lib.hid (hA.later hBW)
  have LS := Lib.hid (hS.later hBW)
  have LW := Lib.hid (hW.later hBW)
  have LN := Lib.hid hnl
  have hwn := hW.len
  unfold maxLen at hnl hwn
  clear hA hBW hS hW
  go_enter Try.func6, Try.ntmps6
  go_wp2_with fail
  refine (awake_any _).mono ?_
  rintro e w1 ⟨rfl, b1⟩
  have B1 := Lib.hid (HBW.out.trans (b1.mono HBW.out.size))
  have X2 := Lib.hid (X1.out.later b1)
  have LA1 := Lib.hid (LA.out.later b1)
  have LS1 := Lib.hid (LS.out.later b1)
  have LW1 := Lib.hid (LW.out.later b1)
  clear b1 X1 LA LS LW HBW
  have a0 := X2.out.c0
  have a1 := X2.out.c1
  have a2 := X2.out.c2
  have a3 := X2.out.c3
  have a4 := X2.out.c4
  by_cases hn : nl.length ≤ 20
  case neg =>
    go_wp2_with fail
    go_ret
    exact ⟨rfl, B1.out⟩
  by_cases hw : ws.length ≤ 20
  case neg =>
    go_wp2_with fail
    go_ret
    exact ⟨rfl, B1.out⟩
  go_wp2_with (at_builtin; refine wpList_append_nodes (by simp [Region.wanted, yielded]; omega) _ _ rfl t A ca ws WA wcap LA1.out fa LW1.out (by assumption) rfl rfl ?_; intro A9 cap9 w9 hL9 hb9)
  have hs := small_any 300 (t :: ws) A9 cap9 w9 hL9
  simp only [List.length_cons] at hs
  cases s1 : decide (0 ≤ leftOf 300 (t :: ws))
  all_goals rw [s1] at hs
  case false =>
    refine hs.mono ?_
    clear hs s1
    rintro e w2 ⟨rfl, b2⟩
    have B2 := Lib.hid (B1.out.trans ((hb9.trans (b2.mono hb9.size)).mono B1.out.size))
    clear b2 hb9 hL9 a0 a1 a2 a3 a4
    go_wp2_with fail
    go_ret
    exact ⟨rfl, B2.out⟩
  refine hs.mono ?_
  clear hs s1
  rintro e w2 ⟨rfl, b2⟩
  have hb2 := hb9.trans (b2.mono hb9.size)
  have B2 := Lib.hid (B1.out.trans (hb2.mono B1.out.size))
  have X3 := Lib.hid (X2.out.later hb2)
  have LA2 := Lib.hid (LA1.out.later hb2)
  have LS2 := Lib.hid (LS1.out.later hb2)
  have LW2 := Lib.hid (LW1.out.later hb2)
  clear hb2 b2 hb9 hL9 a0 a1 a2 a3 a4 B1 X2 LA1 LS1 LW1
  have KH := Lib.hid (fun W (h : Below w2.heap.size w2 W) => X3.out.later h)
  have K6 := Lib.hid (fun W (h : Below w2.heap.size w2 W) => (show (fun W => Below w2.heap.size w2 W ∧ W.cell? ⟨w.heap.size, 0, none⟩ = some (.int .i64 t.op) ∧ W.cell? ⟨w.heap.size, 1, none⟩ = some (.int .i64 t.so) ∧ W.cell? ⟨w.heap.size, 2, none⟩ = some (.string t.nm) ∧ W.cell? ⟨w.heap.size, 3, none⟩ = some (.int .i64 t.nu) ∧ W.cell? ⟨w.heap.size, 4, none⟩ = some (.slice A t.ks.length ca)) W from ⟨h, (KH.out W h).c0, (KH.out W h).c1, (KH.out W h).c2, (KH.out W h).c3, (KH.out W h).c4⟩))
  have KC := Lib.hid (fun W (h : Below w2.heap.size w2 W) => substAll_any nl ws hsw NA WA ncap wcap LN.out t A ca W (LA2.out.later h) fa hsh (LS2.out.later h) (LW2.out.later h))
  have KR := Lib.hid (fun W (h : Below w2.heap.size w2 W) => refSubstAll_any nl ws hsw NA WA ncap wcap LN.out t A ca W (LA2.out.later h) fa hsh (LS2.out.later h) (LW2.out.later h))
  have KE := Lib.hid (fun (v : Nd) (A1 : Option Addr) (c1 : Nat) (A2 : Option Addr) (c2 : Nat) W (h1 : Lies W A1 c1 v.ks) (h2 : Lies W A2 c2 v.ks) => (show Calls Try.prog 31 #[nv v.op v.so v.nm v.nu (.slice A1 v.ks.length c1), nv v.op v.so v.nm v.nu (.slice A2 v.ks.length c2)] W fun e w' => e = .returned (.bool true) ∧ Below W.heap.size W w' from by have := refEqual_any v v A1 A2 c1 c2 W h1 h2; rwa [(cmp_all v).2.2.1] at this))
  generalize subN (lookF nl ws) t = u at *
  go_wp2_with fail
  obtain ⟨a0, a1, a2, a3, a4⟩ := X3.out
  go_region_held3 (fun W => Below w2.heap.size w2 W ∧ W.cell? ⟨w.heap.size, 0, none⟩ = some (.int .i64 t.op) ∧ W.cell? ⟨w.heap.size, 1, none⟩ = some (.int .i64 t.so) ∧ W.cell? ⟨w.heap.size, 2, none⟩ = some (.string t.nm) ∧ W.cell? ⟨w.heap.size, 3, none⟩ = some (.int .i64 t.nu) ∧ W.cell? ⟨w.heap.size, 4, none⟩ = some (.slice A t.ks.length ca))
      ((go_split_ands; refine K6.out _ ?_; first | exact (Below.refl _ _).drew | (exact below_trans2 (by assumption) (by assumption))))
      (first
        | (go_at_call 37; go_split_ands; refine (KC.out _ (by assumption)).mono ?_; rintro e w3 ⟨A1, c1, rfl, r1, F1, b3⟩)
        | (go_at_call 38; go_split_ands; refine (KR.out _ (by assumption)).mono ?_; rintro e w4 ⟨A2, c2, rfl, r2, F2, b4⟩)
        | (go_at_call 31; go_split_ands; refine (KE.out _ _ _ _ _ _ (r1.lies.later b4) r2.lies).mono ?_; rintro e w5 ⟨rfl, b5⟩))
  all_goals
    go_split_ands
    have hb5 : Below w2.heap.size w2 w5 := by assumption
    have B5 := Lib.hid (B2.out.trans (hb5.mono B2.out.size))
    have X5 := Lib.hid (X3.out.later hb5)
    have LA5 := Lib.hid (LA2.out.later hb5)
    have LS5 := Lib.hid (LS2.out.later hb5)
    have LW5 := Lib.hid (LW2.out.later hb5)
    clear a0 a1 a2 a3 a4 K6 KC KR KH X3 LA2 LS2 LW2 B2 r1 r2 b3 b4 b5 F1 F2 hb5
    by_cases q1 : (nl.length : Int) = 0
    case pos =>
      have KH := Lib.hid (fun W (h : Below w5.heap.size w5 W) => X5.out.later h)
      have K6 := Lib.hid (fun W (h : Below w5.heap.size w5 W) => (show (fun W => Below w5.heap.size w5 W ∧ W.cell? ⟨w.heap.size, 0, none⟩ = some (.int .i64 t.op) ∧ W.cell? ⟨w.heap.size, 1, none⟩ = some (.int .i64 t.so) ∧ W.cell? ⟨w.heap.size, 2, none⟩ = some (.string t.nm) ∧ W.cell? ⟨w.heap.size, 3, none⟩ = some (.int .i64 t.nu) ∧ W.cell? ⟨w.heap.size, 4, none⟩ = some (.slice A t.ks.length ca)) W from ⟨h, (KH.out W h).c0, (KH.out W h).c1, (KH.out W h).c2, (KH.out W h).c3, (KH.out W h).c4⟩))
      have KC := Lib.hid (fun W (h : Below w5.heap.size w5 W) => (show Calls Try.prog 37 #[nv t.op t.so t.nm t.nu (.slice A t.ks.length ca), .slice none 0 0, .slice WA ws.length wcap] W (RetN W t) from by
        have := substAll_any [] ws hsw none WA 0 wcap (by simp) t A ca W (LA5.out.later h) fa hsh ⟨0, 0, by simp, by simp⟩ (LW5.out.later h)
        rwa [subN_id] at this))
      go_wp2_with fail
      all_goals
        obtain ⟨a0, a1, a2, a3, a4⟩ := X5.out
        go_region_held3 (fun W => Below w5.heap.size w5 W ∧ W.cell? ⟨w.heap.size, 0, none⟩ = some (.int .i64 t.op) ∧ W.cell? ⟨w.heap.size, 1, none⟩ = some (.int .i64 t.so) ∧ W.cell? ⟨w.heap.size, 2, none⟩ = some (.string t.nm) ∧ W.cell? ⟨w.heap.size, 3, none⟩ = some (.int .i64 t.nu) ∧ W.cell? ⟨w.heap.size, 4, none⟩ = some (.slice A t.ks.length ca))
          ((go_split_ands; refine K6.out _ ?_; first | exact (Below.refl _ _).drew | (exact below_trans2 (by assumption) (by assumption))))
          (first
            | (go_at_call 37; go_split_ands; refine (KC.out _ (by assumption)).mono ?_; rintro e w6 ⟨A1, c1, rfl, r1, F1, b6⟩)
            | (go_at_call 31; go_split_ands; refine (KE.out _ _ _ _ _ _ r1.lies (LA5.out.later (by assumption))).mono ?_; rintro e w7 ⟨rfl, b7⟩))
        all_goals
          go_split_ands
          have hfin : Below w5.heap.size w5 w7 := by assumption
          have HF := Lib.hid (B5.out.trans (hfin.mono B5.out.size))
          clear hfin
          go_wp2_with fail
          go_ret
          exact ⟨rfl, HF.out⟩
    by_cases q2 : (ws.length : Int) = 0
    case pos =>
      have KH := Lib.hid (fun W (h : Below w5.heap.size w5 W) => X5.out.later h)
      have K6 := Lib.hid (fun W (h : Below w5.heap.size w5 W) => (show (fun W => Below w5.heap.size w5 W ∧ W.cell? ⟨w.heap.size, 0, none⟩ = some (.int .i64 t.op) ∧ W.cell? ⟨w.heap.size, 1, none⟩ = some (.int .i64 t.so) ∧ W.cell? ⟨w.heap.size, 2, none⟩ = some (.string t.nm) ∧ W.cell? ⟨w.heap.size, 3, none⟩ = some (.int .i64 t.nu) ∧ W.cell? ⟨w.heap.size, 4, none⟩ = some (.slice A t.ks.length ca)) W from ⟨h, (KH.out W h).c0, (KH.out W h).c1, (KH.out W h).c2, (KH.out W h).c3, (KH.out W h).c4⟩))
      have KC := Lib.hid (fun W (h : Below w5.heap.size w5 W) => (show Calls Try.prog 37 #[nv t.op t.so t.nm t.nu (.slice A t.ks.length ca), .slice none 0 0, .slice WA ws.length wcap] W (RetN W t) from by
        have := substAll_any [] ws hsw none WA 0 wcap (by simp) t A ca W (LA5.out.later h) fa hsh ⟨0, 0, by simp, by simp⟩ (LW5.out.later h)
        rwa [subN_id] at this))
      go_wp2_with fail
      all_goals
        obtain ⟨a0, a1, a2, a3, a4⟩ := X5.out
        go_region_held3 (fun W => Below w5.heap.size w5 W ∧ W.cell? ⟨w.heap.size, 0, none⟩ = some (.int .i64 t.op) ∧ W.cell? ⟨w.heap.size, 1, none⟩ = some (.int .i64 t.so) ∧ W.cell? ⟨w.heap.size, 2, none⟩ = some (.string t.nm) ∧ W.cell? ⟨w.heap.size, 3, none⟩ = some (.int .i64 t.nu) ∧ W.cell? ⟨w.heap.size, 4, none⟩ = some (.slice A t.ks.length ca))
          ((go_split_ands; refine K6.out _ ?_; first | exact (Below.refl _ _).drew | (exact below_trans2 (by assumption) (by assumption))))
          (first
            | (go_at_call 37; go_split_ands; refine (KC.out _ (by assumption)).mono ?_; rintro e w6 ⟨A1, c1, rfl, r1, F1, b6⟩)
            | (go_at_call 31; go_split_ands; refine (KE.out _ _ _ _ _ _ r1.lies (LA5.out.later (by assumption))).mono ?_; rintro e w7 ⟨rfl, b7⟩))
        all_goals
          go_split_ands
          have hfin : Below w5.heap.size w5 w7 := by assumption
          have HF := Lib.hid (B5.out.trans (hfin.mono B5.out.size))
          clear hfin
          go_wp2_with fail
          go_ret
          exact ⟨rfl, HF.out⟩
    case neg =>
      have i1 : 0 < nl.length := by omega
      have i2 : 0 < ws.length := by omega
      have z1 : ¬ nl = [] := fun e => by rw [e] at i1; simp at i1
      have z2 : ¬ ws = [] := fun e => by rw [e] at i2; simp at i2
      have z3 : ((nl.length : Int) == 0) = false := by simpa using q1
      have z4 : ((ws.length : Int) == 0) = false := by simpa using q2
      obtain ⟨nb, no, hna, hnc⟩ := LS5.out
      have NC := Lib.hid (hnc 0 i1)
      obtain rfl := hna i1
      obtain ⟨wb, wo, A', C', rfl, g5, hK⟩ := LW5.out.kid i2
      have hFk := LW5.out.fine i2
      have hSk := hsw ws[0] (List.getElem_mem i2)
      simp only [Nat.zero_mul, Nat.add_zero] at g5
      generalize nl[0] = na at *
      generalize ws[0] = q at *
      have KH := Lib.hid (fun W (h : Below w5.heap.size w5 W) => X5.out.later h)
      have KG := Lib.hid (fun W (h : Below w5.heap.size w5 W) => g5.later h)
      have KL := Lib.hid (fun W (h : Below w5.heap.size w5 W) => hK.later h)
      have KN := Lib.hid (fun W (h : Below w5.heap.size w5 W) => cellB h (Nat.le_refl _) NC.out)
      clear hnc hna hK g5
      have K6 := Lib.hid (fun W (h : Below w5.heap.size w5 W) => (show (fun W => Below w5.heap.size w5 W ∧ W.cell? ⟨w.heap.size, 0, none⟩ = some (.int .i64 t.op) ∧ W.cell? ⟨w.heap.size, 1, none⟩ = some (.int .i64 t.so) ∧ W.cell? ⟨w.heap.size, 2, none⟩ = some (.string t.nm) ∧ W.cell? ⟨w.heap.size, 3, none⟩ = some (.int .i64 t.nu) ∧ W.cell? ⟨w.heap.size, 4, none⟩ = some (.slice A t.ks.length ca) ∧ W.cell? ⟨nb, no, none⟩ = some (.string na) ∧ W.cell? ⟨wb, wo, none⟩ = some (.int .i64 q.op) ∧ W.cell? ⟨wb, wo + 1, none⟩ = some (.int .i64 q.so) ∧ W.cell? ⟨wb, wo + 2, none⟩ = some (.string q.nm) ∧ W.cell? ⟨wb, wo + 3, none⟩ = some (.int .i64 q.nu) ∧ W.cell? ⟨wb, wo + 4, none⟩ = some (.slice A' q.ks.length C')) W from ⟨h, (KH.out W h).c0, (KH.out W h).c1, (KH.out W h).c2, (KH.out W h).c3, (KH.out W h).c4, KN.out W h, (KG.out W h).c0, (KG.out W h).c1, (KG.out W h).c2, (KG.out W h).c3, (KG.out W h).c4⟩))
      have KC := Lib.hid (fun W (h : Below w5.heap.size w5 W) => subst_any t q na A A' ca C' W (LA5.out.later h) fa hsh (KL.out W h) hFk hSk)
      have KR := Lib.hid (fun W (h : Below w5.heap.size w5 W) => refSubst_any t q na A A' ca C' W (LA5.out.later h) fa hsh (KL.out W h) hFk hSk)
      generalize subN (lookF [na] [q]) t = u9 at *
      go_wp2_with fail
      have S0 := K6.out _ (Below.refl _ _)
      obtain ⟨_, a0, a1, a2, a3, a4, n0, d0, d1, d2, d3, d4⟩ := S0
      go_region_held3 (fun W => Below w5.heap.size w5 W ∧ W.cell? ⟨w.heap.size, 0, none⟩ = some (.int .i64 t.op) ∧ W.cell? ⟨w.heap.size, 1, none⟩ = some (.int .i64 t.so) ∧ W.cell? ⟨w.heap.size, 2, none⟩ = some (.string t.nm) ∧ W.cell? ⟨w.heap.size, 3, none⟩ = some (.int .i64 t.nu) ∧ W.cell? ⟨w.heap.size, 4, none⟩ = some (.slice A t.ks.length ca) ∧ W.cell? ⟨nb, no, none⟩ = some (.string na) ∧ W.cell? ⟨wb, wo, none⟩ = some (.int .i64 q.op) ∧ W.cell? ⟨wb, wo + 1, none⟩ = some (.int .i64 q.so) ∧ W.cell? ⟨wb, wo + 2, none⟩ = some (.string q.nm) ∧ W.cell? ⟨wb, wo + 3, none⟩ = some (.int .i64 q.nu) ∧ W.cell? ⟨wb, wo + 4, none⟩ = some (.slice A' q.ks.length C'))
        ((go_split_ands; refine K6.out _ ?_; first | exact (Below.refl _ _).drew | (exact below_trans2 (by assumption) (by assumption))))
        (first
          | (go_at_call 39; go_split_ands; refine (KC.out _ (by assumption)).mono ?_; rintro e w6 ⟨A1, c1, rfl, r1, F1, b6⟩)
          | (go_at_call 40; go_split_ands; refine (KR.out _ (by assumption)).mono ?_; rintro e w7 ⟨A2, c2, rfl, r2, F2, b7⟩)
          | (go_at_call 31; go_split_ands; refine (KE.out _ _ _ _ _ _ (r1.lies.later b7) r2.lies).mono ?_; rintro e w8 ⟨rfl, b8⟩))
      all_goals
        go_split_ands
        have hfin : Below w5.heap.size w5 w8 := by assumption
        have HF := Lib.hid (B5.out.trans (hfin.mono B5.out.size))
        clear hfin
        go_wp2_with fail
        go_ret
        exact ⟨rfl, HF.out⟩
end Go.Proofs.Ytbadegimohdfeaa
