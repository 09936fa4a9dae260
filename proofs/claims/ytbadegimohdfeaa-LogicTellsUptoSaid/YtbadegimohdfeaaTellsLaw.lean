/-
  What the law LogicTells returns: true; conditions: the tree lies in memory and has few nodes.
-/
import Derived.Test.YtbadegimohdfeaaTellPre
import Derived.Test.YtbadegimohdfeaaRefJoin
import Derived.Test.YtbadegimohdfeaaConj
import Derived.Test.YtbadegimohdfeaaRefTell
import Derived.Test.YtbadegimohdfeaaRefApps
import Derived.Test.YtbadegimohdfeaaVars
import Derived.Test.YtbadegimohdfeaaChecksLaw
import Derived.Test.YtbadegimohdfeaaSubst1
namespace Go.Proofs.Ytbadegimohdfeaa
open Go.RowKit Go.Shelf

attribute [local go_sem] Oper.semAt_some
set_option maxRecDepth 100000 in
set_option maxHeartbeats 16000000 in
set_option linter.unusedSimpArgs false in
theorem tells_law (t : Nd) (A : Option Addr) (ca : Nat) (w : World) (hA : Lies w A ca t.ks) (fa : Fine t) (hcnt : cnt t ≤ 1048576) :
    Calls Try.prog 4 #[nv t.op t.so t.nm t.nu (.slice A t.ks.length ca)] w fun e w' => e = .returned (.bool true) ∧ Below w.heap.size w w' := by
  have hBW : Below w.heap.size w (w.alloc (boxO t (.slice A t.ks.length ca))) := (Below.refl _ w).alloc (Nat.le_refl _) _
  have X1 := Lib.hid (five_new w t (.slice A t.ks.length ca) 24)
  have HBW := Lib.hid hBW
  have LA := Lib.hid (hA.later hBW)
  clear hA hBW
  go_enter Try.func4, Try.ntmps4
  go_wp2_with fail
  refine (awake_any _).mono ?_
  rintro e w1 ⟨rfl, b1⟩
  have B1 := Lib.hid (HBW.out.trans (b1.mono HBW.out.size))
  have X2 := Lib.hid (X1.out.later b1)
  have LA1 := Lib.hid (LA.out.later b1)
  clear b1 X1 LA HBW
  have a0 := X2.out.c0
  have a1 := X2.out.c1
  have a2 := X2.out.c2
  have a3 := X2.out.c3
  have a4 := X2.out.c4
  have hb9 : Below w1.heap.size w1 (w1.alloc (boxO t (.slice A t.ks.length ca))) := (Below.refl _ _).alloc (Nat.le_refl _) _
  have hL1 : Lies (w1.alloc (boxO t (.slice A t.ks.length ca))) (some ⟨w1.heap.size, 0, none⟩) 1 [t] :=
    lies_one (c := 1) (five_new w1 t (.slice A t.ks.length ca) 24) (LA1.out.later hb9) fa
  have hs := small_any 2000 [t] _ _ _ hL1
  go_wp2_with fail
  cases s1 : decide (0 ≤ leftOf 2000 [t])
  all_goals rw [s1] at hs
  case false =>
    refine hs.mono ?_
    clear hs s1
    rintro e w2 ⟨rfl, b2⟩
    have B2 := Lib.hid (B1.out.trans ((hb9.trans (b2.mono hb9.size)).mono B1.out.size))
    clear b2 hb9 hL1 a0 a1 a2 a3 a4
    go_wp2_with fail
    go_ret
    exact ⟨rfl, B2.out⟩
  refine hs.mono ?_
  clear hs s1
  rintro e w2 ⟨rfl, b2⟩
  have hb2 := hb9.trans (b2.mono hb9.size)
  have B2 := Lib.hid (B1.out.trans (hb2.mono B1.out.size))
  have X3 := Lib.hid (X2.out.later hb2)
  have LA2 := Lib.hid (LA1.out.later hb2)
  clear hb2 b2 hb9 hL1 a0 a1 a2 a3 a4 B1 X2 LA1
  have KH := Lib.hid (fun W (h : Below w2.heap.size w2 W) => X3.out.later h)
  have K6 := Lib.hid (fun W (h : Below w2.heap.size w2 W) => (show (fun W => Below w2.heap.size w2 W ∧ W.cell? ⟨w.heap.size, 0, none⟩ = some (.int .i64 t.op) ∧ W.cell? ⟨w.heap.size, 1, none⟩ = some (.int .i64 t.so) ∧ W.cell? ⟨w.heap.size, 2, none⟩ = some (.string t.nm) ∧ W.cell? ⟨w.heap.size, 3, none⟩ = some (.int .i64 t.nu) ∧ W.cell? ⟨w.heap.size, 4, none⟩ = some (.slice A t.ks.length ca)) W from ⟨h, (KH.out W h).c0, (KH.out W h).c1, (KH.out W h).c2, (KH.out W h).c3, (KH.out W h).c4⟩))
  have K13 := Lib.hid (fun W (h : Below w2.heap.size w2 W) => sort_any t A ca W (LA2.out.later h))
  have K14 := Lib.hid (fun W (h : Below w2.heap.size w2 W) => refSort_any t A ca W (LA2.out.later h))
  have K15 := Lib.hid (fun W (h : Below w2.heap.size w2 W) => size_any t A ca W (LA2.out.later h) fa)
  have K16 := Lib.hid (fun W (h : Below w2.heap.size w2 W) => refSize_any t A ca W (LA2.out.later h))
  have K17 := Lib.hid (fun W (h : Below w2.heap.size w2 W) => levels_any t A ca W (LA2.out.later h) fa)
  have K18 := Lib.hid (fun W (h : Below w2.heap.size w2 W) => refLevels_any t A ca W (LA2.out.later h))
  have K19 := Lib.hid (fun W (h : Below w2.heap.size w2 W) => (show Calls Try.prog 19 #[nv t.op t.so t.nm t.nu (.slice A t.ks.length ca)] W fun e w' => e = .returned (.bool (uniB (nodesOf t))) ∧ Below W.heap.size W w' from uniform_any t A ca W (LA2.out.later h) fa (by rw [pre_cnt]; unfold maxLen; omega)))
  have K20 := Lib.hid (fun W (h : Below w2.heap.size w2 W) => refUniform_any t A ca W (LA2.out.later h) hcnt)
  have K21 := Lib.hid (fun W (h : Below w2.heap.size w2 W) => holes_any t A ca W (LA2.out.later h) fa)
  have K22 := Lib.hid (fun W (h : Below w2.heap.size w2 W) => refHoles_any t A ca W (LA2.out.later h))
  rw [size_eq t hcnt] at K15
  rw [lev_eq t hcnt] at K17
  rw [uni_eq t] at K20
  rw [holeB_eq t] at K21
  rw [holR] at K22
  have n1 : (sortN t != sortN t) = false := by simp
  have n2 : (sizeW t != sizeW t) = false := by simp
  have n3 : (levW t != levW t) = false := by simp
  have n4 : (uniB (nodesOf t) != uniB (nodesOf t)) = false := by simp
  have n5 : (((nodesOf t).any fun y => y.op == 42) != ((nodesOf t).any fun y => y.op == 42)) = false := by simp
  generalize sortN t = v1 at *
  generalize sizeW t = v2 at *
  generalize levW t = v3 at *
  generalize uniB (nodesOf t) = v4 at *
  generalize ((nodesOf t).any fun y => y.op == 42) = v5 at *
  go_wp2_with fail
  obtain ⟨a0, a1, a2, a3, a4⟩ := X3.out
  go_region_held3 (fun W => Below w2.heap.size w2 W ∧ W.cell? ⟨w.heap.size, 0, none⟩ = some (.int .i64 t.op) ∧ W.cell? ⟨w.heap.size, 1, none⟩ = some (.int .i64 t.so) ∧ W.cell? ⟨w.heap.size, 2, none⟩ = some (.string t.nm) ∧ W.cell? ⟨w.heap.size, 3, none⟩ = some (.int .i64 t.nu) ∧ W.cell? ⟨w.heap.size, 4, none⟩ = some (.slice A t.ks.length ca))
      ((go_split_ands; refine K6.out _ ?_; first | exact (Below.refl _ _).drew | (exact below_trans2 (by assumption) (by assumption))))
      (first
        | (go_at_call 13; go_split_ands; refine (K13.out _ (by assumption)).mono ?_; rintro e w3 ⟨rfl, b3⟩)
        | (go_at_call 14; go_split_ands; refine (K14.out _ (by assumption)).mono ?_; rintro e w3 ⟨rfl, b3⟩)
        | (go_at_call 15; go_split_ands; refine (K15.out _ (by assumption)).mono ?_; rintro e w3 ⟨rfl, b3⟩)
        | (go_at_call 16; go_split_ands; refine (K16.out _ (by assumption)).mono ?_; rintro e w3 ⟨rfl, b3⟩)
        | (go_at_call 17; go_split_ands; refine (K17.out _ (by assumption)).mono ?_; rintro e w3 ⟨rfl, b3⟩)
        | (go_at_call 18; go_split_ands; refine (K18.out _ (by assumption)).mono ?_; rintro e w3 ⟨rfl, b3⟩)
        | (go_at_call 19; go_split_ands; refine (K19.out _ (by assumption)).mono ?_; rintro e w3 ⟨rfl, b3⟩)
        | (go_at_call 20; go_split_ands; refine (K20.out _ (by assumption)).mono ?_; rintro e w3 ⟨rfl, b3⟩)
        | (go_at_call 21; go_split_ands; refine (K21.out _ (by assumption)).mono ?_; rintro e w3 ⟨rfl, b3⟩)
        | (go_at_call 22; go_split_ands; refine (K22.out _ (by assumption)).mono ?_; rintro e w3 ⟨rfl, b3⟩))
  all_goals
    go_split_ands
    have hb3 : Below w2.heap.size w2 w3 := by assumption
    have B5 := Lib.hid (B2.out.trans (hb3.mono B2.out.size))
    have X5 := Lib.hid (X3.out.later hb3)
    have LA5 := Lib.hid (LA2.out.later hb3)
    clear a0 a1 a2 a3 a4 K6 K13 K14 K15 K16 K17 K18 K19 K20 K21 K22 KH X3 LA2 B2 hb3 n1 n2 n3 n4 n5
    obtain ⟨a0, a1, a2, a3, a4⟩ := X5.out
    have K23 : Hid (Calls Try.prog 23 #[nv t.op t.so t.nm t.nu (.slice A t.ks.length ca)] w3 fun e w' => RetL w3 (conjR t) e w' ∧ ∀ A n c, e = .returned (.slice A n c) → n ≤ c) := conjuncts_any t A ca w3 LA5.out fa (Nat.le_trans (parts_sub t).1 hcnt) (parts_short hcnt)
    go_wp2_with fail
    refine K23.out.mono ?_
    rintro e w6 ⟨⟨A6, c6, rfl, r6, b6⟩, hc6⟩
    have hcap := hc6 _ _ _ rfl
    have LL6 := Lib.hid r6.lies
    have B6 := Lib.hid (B5.out.trans (b6.mono B5.out.size))
    have X6 := Lib.hid (X5.out.later b6)
    have LA6 := Lib.hid (LA5.out.later b6)
    have hfew := conjR_few hcnt
    have hshort := conjR_short hcnt
    have KH := Lib.hid (fun W (h : Below w6.heap.size w6 W) => X6.out.later h)
    have K6 := Lib.hid (fun W (h : Below w6.heap.size w6 W) => (show (fun W => Below w6.heap.size w6 W ∧ W.cell? ⟨w.heap.size, 0, none⟩ = some (.int .i64 t.op) ∧ W.cell? ⟨w.heap.size, 1, none⟩ = some (.int .i64 t.so) ∧ W.cell? ⟨w.heap.size, 2, none⟩ = some (.string t.nm) ∧ W.cell? ⟨w.heap.size, 3, none⟩ = some (.int .i64 t.nu) ∧ W.cell? ⟨w.heap.size, 4, none⟩ = some (.slice A t.ks.length ca)) W from ⟨h, (KH.out W h).c0, (KH.out W h).c1, (KH.out W h).c2, (KH.out W h).c3, (KH.out W h).c4⟩))
    have K25 := Lib.hid (fun W (h : Below w6.heap.size w6 W) => vars_any t A ca W (LA6.out.later h) fa (by rw [pre_cnt]; exact hcnt))
    have K26 := Lib.hid (fun W (h : Below w6.heap.size w6 W) => refVars_any t A ca W (LA6.out.later h) hcnt)
    have K28 := Lib.hid (fun W (h : Below w6.heap.size w6 W) => apps_any t A ca W (LA6.out.later h) fa hcnt)
    have K29 := Lib.hid (fun W (h : Below w6.heap.size w6 W) => refApps_any t A ca W (LA6.out.later h) fa hcnt)
    have K30 := Lib.hid (fun W (h : Below w6.heap.size w6 W) => (refConj_any t A ca W (LA6.out.later h) fa (short_cnt hcnt) hcnt).mono (fun e w' h => h.lies (Nat.le_trans hfew (by unfold maxLen; omega))))
    have hgl : (gathL [] t).length ≤ 1048576 := by
      have := gathL_len [] t
      unfold cnt at hcnt
      simp only [List.length_nil] at this
      omega
    rw [appG] at K29
    generalize gathL [] t = gl at *
    generalize (nodesOf t).foldl gsN [] = al at *
    generalize conjR t = l at *
    have K24 := Lib.hid (fun (A B : Option Addr) (ca cb : Nat) W (h1 : DeclsAt W A gl) (h2 : DeclsAt W B gl) => decls_any gl A B ca cb W h1 h2 hgl)
    have K27 := Lib.hid (fun (A B : Option Addr) (ca cb : Nat) W (h1 : Lies W A ca al) (h2 : Lies W B cb al) => nodes_any al A B ca cb W h1 h2)
    have K28b := Lib.hid (fun (A B : Option Addr) (ca cb : Nat) W (h1 : Lies W A ca l) (h2 : Lies W B cb l) => nodes_any l A B ca cb W h1 h2)
    have K32 := Lib.hid (fun W (h : Below w6.heap.size w6 W) => conj_any l A6 c6 W (LL6.out.later h) hfew hcap hshort)
    have K33 := Lib.hid (fun W (h : Below w6.heap.size w6 W) => refJoin_any l A6 c6 W (LL6.out.later h) hfew hcap hshort)
    have K31 := Lib.hid (fun (v : Nd) (A1 : Option Addr) (c1 : Nat) (A2 : Option Addr) (c2 : Nat) W (h1 : Lies W A1 c1 v.ks) (h2 : Lies W A2 c2 v.ks) => (show Calls Try.prog 31 #[nv v.op v.so v.nm v.nu (.slice A1 v.ks.length c1), nv v.op v.so v.nm v.nu (.slice A2 v.ks.length c2)] W fun e w' => e = .returned (.bool true) ∧ Below W.heap.size W w' from by have := refEqual_any v v A1 A2 c1 c2 W h1 h2; rwa [(cmp_all v).2.2.1] at this))
    generalize joinL l = u at *
    clear a0 a1 a2 a3 a4 KH K23 X5 LA5 B5 b6 r6 hc6 hfew hshort hgl hcap
    go_wp2_with fail
    obtain ⟨a0, a1, a2, a3, a4⟩ := X6.out
    go_region_held3 (fun W => Below w6.heap.size w6 W ∧ W.cell? ⟨w.heap.size, 0, none⟩ = some (.int .i64 t.op) ∧ W.cell? ⟨w.heap.size, 1, none⟩ = some (.int .i64 t.so) ∧ W.cell? ⟨w.heap.size, 2, none⟩ = some (.string t.nm) ∧ W.cell? ⟨w.heap.size, 3, none⟩ = some (.int .i64 t.nu) ∧ W.cell? ⟨w.heap.size, 4, none⟩ = some (.slice A t.ks.length ca))
        ((go_split_ands; refine K6.out _ ?_; first | exact (Below.refl _ _).drew | (exact below_trans2 (by assumption) (by assumption))))
        (first
          | (go_at_call 25; go_split_ands; refine (K25.out _ (by assumption)).mono ?_; rintro e w7 ⟨A7, c7, rfl, d7, b7⟩)
          | (go_at_call 26; go_split_ands; refine (K26.out _ (by assumption)).mono ?_; rintro e w8 ⟨A8, c8, rfl, d8, b8⟩)
          | (go_at_call 24; go_split_ands; refine (K24.out _ _ _ _ _ (d7.later b8) d8).mono ?_; rintro e w9 ⟨rfl, b9⟩)
          | (go_at_call 28; go_split_ands; refine (K28.out _ (by assumption)).mono ?_; rintro e w10 ⟨A10, c10, rfl, r10, b10⟩)
          | (go_at_call 29; go_split_ands; refine (K29.out _ (by assumption)).mono ?_; rintro e w11 ⟨A11, c11, rfl, r11, b11⟩)
          | (go_at_call 27; have q13 := r13; go_split_ands; refine (K28b.out _ _ _ _ _ (LL6.out.later (by assumption)) q13).mono ?_; rintro e w14 ⟨rfl, b14⟩)
          | (go_at_call 27; go_split_ands; refine (K27.out _ _ _ _ _ (r10.lies.later b11) r11).mono ?_; rintro e w12 ⟨rfl, b12⟩)
          | (go_at_call 30; go_split_ands; refine (K30.out _ (by assumption)).mono ?_; rintro e w13 ⟨A13, c13, rfl, r13, b13⟩)
          | (go_at_call 32; go_split_ands; refine (K32.out _ (by assumption)).mono ?_; rintro e w15 ⟨A15, c15, rfl, r15, F15, b15⟩)
          | (go_at_call 33; go_split_ands; refine (K33.out _ (by assumption)).mono ?_; rintro e w16 ⟨A16, c16, rfl, r16, F16, b16⟩)
          | (go_at_call 31; go_split_ands; refine (K31.out _ _ _ _ _ _ (r15.lies.later b16) r16.lies).mono ?_; rintro e w17 ⟨rfl, b17⟩))
    all_goals
      go_split_ands
      have hfin : Below w6.heap.size w6 w17 := by assumption
      have HF := Lib.hid (B6.out.trans (hfin.mono B6.out.size))
      clear hfin
      go_wp2_with fail
      go_ret
      exact ⟨rfl, HF.out⟩
end Go.Proofs.Ytbadegimohdfeaa
