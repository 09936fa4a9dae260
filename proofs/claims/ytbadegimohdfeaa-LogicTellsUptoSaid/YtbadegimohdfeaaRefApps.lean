/-
  What the document's own Apps returns; conditions: the tree lies in memory and has few nodes.
-/
import Derived.Test.YtbadegimohdfeaaPut
namespace Go.Proofs.Ytbadegimohdfeaa
open Go.RowKit Go.Shelf

attribute [local go_sem] Oper.semAt_some
def appG (l : List Nd) (t : Nd) : List Nd := (nodesOf t).foldl gsN l
theorem appG_eq (l : List Nd) (t : Nd) : appG l t = t.ks.foldl appG (gsN l t) := by
  rw [appG, nodesOf_eq, List.foldl_cons, List.foldl_flatMap]
  rfl
theorem gsN_len (l : List Nd) (y : Nd) : (gsN l y).length ≤ l.length + 1 := by
  unfold gsN
  split
  · exact insL_len _ _ _ _
  · omega
theorem fold_gsN_len (ys : List Nd) : ∀ l, (ys.foldl gsN l).length ≤ l.length + ys.length := by
  induction ys with
  | nil => intro l; simp
  | cons x xs ih => intro l; have := ih (gsN l x); have := gsN_len l x; simp only [List.foldl_cons, List.length_cons]; omega
theorem fold_appG (ks : List Nd) (l : List Nd) : ks.foldl appG l = (ks.flatMap nodesOf).foldl gsN l := by
  rw [List.foldl_flatMap]; rfl
theorem fold_appG_len (ks : List Nd) (l : List Nd) : (ks.foldl appG l).length ≤ l.length + (ks.flatMap nodesOf).length := by
  rw [fold_appG]; exact fold_gsN_len _ _
theorem fold_appG_snoc (ks : List Nd) (l : List Nd) (k : Nat) (hk : k < ks.length) : (ks.take (k + 1)).foldl appG l = appG ((ks.take k).foldl appG l) ks[k] := by
  rw [List.take_succ_eq_append_getElem hk, List.foldl_append]; rfl

set_option maxRecDepth 100000 in
set_option maxHeartbeats 2000000 in
theorem appsR_any (t : Nd) : ∀ (l : List Nd) (LA : Option Addr) (lcap : Nat) (A : Option Addr) (cap : Nat) (w : World), Lies w A cap t.ks → Fine t → Lies w LA lcap l → l.length + (nodesOf t).length ≤ 1048576 →
    Calls Try.prog 59 #[.slice LA l.length lcap, nv t.op t.so t.nm t.nu (.slice A t.ks.length cap)] w (RetK w (appG l t)) := by
  induction t using Nd.ind with
  | h t ih =>
  intro l LA lcap A cap w hL hfin hD hcnt
  have HB1 : Below w.heap.size w (w.alloc (.cells #[.int .i64 t.op, .int .i64 t.so, .string t.nm, .int .i64 t.nu, .slice A t.ks.length cap] 24)) := (Below.refl _ _).alloc (Nat.le_refl _) _
  have H5 := Lib.hid (five_new w t (.slice A t.ks.length cap) 24)
  have hn := hL.len
  unfold maxLen at hn
  have hq := Lib.hid (appG_eq l t)
  have hlen := gsN_len l t
  rw [nodesOf_eq, List.length_cons] at hcnt
  have HL := Lib.hid hL
  have HD := Lib.hid hD
  have IH := Lib.hid ih
  clear hL hD ih
  have HB1 := Lib.hid HB1
  by_cases h1 : t.op = 3
  case neg =>
    have hg := Lib.hid (show gsN l t = l from if_neg h1)
    have h1' : (t.op == 3) = false := by simpa using h1
    clear h1
    go_enter Try.func59, Try.ntmps59
    go_wp2_with fail
    go_loopw [0, 16] (fun lv i wr => ∃ k : Nat, k ≤ t.ks.length ∧ i = .int .i64 k ∧ (∃ LA' lc, lv = .slice LA' ((t.ks.take k).foldl appG (gsN l t)).length lc ∧ Lies wr LA' lc ((t.ks.take k).foldl appG (gsN l t))) ∧ Below w.heap.size w wr) (fun _ i _ => t.ks.length - (intOf i).toNat)
    case atStart => exact ⟨0, Nat.zero_le _, rfl, ⟨_, _, by rw [List.take_zero, List.foldl_nil, hg.out], by rw [List.take_zero, List.foldl_nil, hg.out]; exact HD.out.later HB1.out⟩, HB1.out⟩
    case round =>
      obtain ⟨k, hk, rfl, ⟨LA', lc, rfl, hDr⟩, hBr⟩ := hrel
      by_cases hlt : k < t.ks.length
      · obtain ⟨b, o, A', C', rfl, g5, hK⟩ := HL.out.kid hlt
        obtain ⟨a0, a1, a2, a3, a4⟩ := g5.later hBr
        have hK' := Lib.hid (hK.later hBr)
        have hFk := HL.out.fine hlt
        have hDr := Lib.hid hDr
        have hsn := Lib.hid (fold_appG_snoc t.ks (gsN l t) k hlt)
        have hle : ((t.ks.take k).foldl appG (gsN l t)).length + (nodesOf t.ks[k]).length ≤ 1048576 := by
          have h1 := fold_appG_len (t.ks.take k) (gsN l t)
          have h2 := kids_cnt t.ks k hlt
          omega
        have c := Lib.hid (fun LA lcap A cap w hL hD => IH.out k hlt ((t.ks.take k).foldl appG (gsN l t)) LA lcap A cap w hL hFk hD hle)
        have hszr := hBr.size
        have HBr := Lib.hid hBr
        generalize t.ks[k] = q at *
        generalize ((t.ks.take k).foldl appG (gsN l t)) = c0 at *
        clear g5 hK IH HL hle hcnt hlen
        go_wp2_with fail
        refine (c.out _ _ _ _ _ (hK'.out.later ((Below.refl _ _).alloc (Nat.le_refl _) _)) (hDr.out.later ((Below.refl _ _).alloc (Nat.le_refl _) _))).mono ?_
        rintro e w2 ⟨LA2, lc2, rfl, hD2, hb2⟩
        have hB2 := Lib.hid (HBr.out.trans ((((Below.refl _ wr).alloc (Nat.le_refl _) _).trans (hb2.mono (by simp))).mono hszr))
        clear hb2
        go_wp2_with fail
        go_roundw
        case rel => exact ⟨k + 1, by omega, by go_num, by rw [hsn.out]; exact ⟨_, _, rfl, hD2⟩, hB2.out⟩
        case measure => simp [intOf]; omega
      · go_wp2_with fail
        go_ret
        rw [hq.out]
        rw [List.take_of_length_le (by omega)] at hDr ⊢
        exact ⟨_, _, rfl, hDr, hBr⟩
  case pos =>
    have hg := Lib.hid (show gsN l t = insN t l from if_pos h1)
    have h1' : (t.op == 3) = true := by simpa using h1
    clear h1
    go_enter Try.func59, Try.ntmps59
    go_wp2_with fail
    refine (put_any l t _ _ _ _ _ (HD.out.later (by assumption)) (by omega) (HL.out.later (by assumption)) hfin).mono ?_
    rintro e w1 ⟨LA1, lcap1, rfl, hD1, hb1⟩
    have d4 := (H5.out.later hb1).c4
    have HB2 := Lib.hid (HB1.out.trans (hb1.mono (by simp)))
    have HD1 := Lib.hid hD1
    clear hb1 hD1
    go_wp2_with fail
    go_loopw [0, 16] (fun lv i wr => ∃ k : Nat, k ≤ t.ks.length ∧ i = .int .i64 k ∧ (∃ LA' lc, lv = .slice LA' ((t.ks.take k).foldl appG (gsN l t)).length lc ∧ Lies wr LA' lc ((t.ks.take k).foldl appG (gsN l t))) ∧ Below w.heap.size w wr) (fun _ i _ => t.ks.length - (intOf i).toNat)
    case atStart => exact ⟨0, Nat.zero_le _, rfl, ⟨_, _, by rw [List.take_zero, List.foldl_nil, hg.out], by rw [List.take_zero, List.foldl_nil, hg.out]; exact HD1.out⟩, HB2.out⟩
    case round =>
      obtain ⟨k, hk, rfl, ⟨LA', lc, rfl, hDr⟩, hBr⟩ := hrel
      by_cases hlt : k < t.ks.length
      · obtain ⟨b, o, A', C', rfl, g5, hK⟩ := HL.out.kid hlt
        obtain ⟨a0, a1, a2, a3, a4⟩ := g5.later hBr
        have hK' := Lib.hid (hK.later hBr)
        have hFk := HL.out.fine hlt
        have hDr := Lib.hid hDr
        have hsn := Lib.hid (fold_appG_snoc t.ks (gsN l t) k hlt)
        have hle : ((t.ks.take k).foldl appG (gsN l t)).length + (nodesOf t.ks[k]).length ≤ 1048576 := by
          have h1 := fold_appG_len (t.ks.take k) (gsN l t)
          have h2 := kids_cnt t.ks k hlt
          omega
        have c := Lib.hid (fun LA lcap A cap w hL hD => IH.out k hlt ((t.ks.take k).foldl appG (gsN l t)) LA lcap A cap w hL hFk hD hle)
        have hszr := hBr.size
        have HBr := Lib.hid hBr
        generalize t.ks[k] = q at *
        generalize ((t.ks.take k).foldl appG (gsN l t)) = c0 at *
        clear g5 hK IH HL hle hcnt hlen
        go_wp2_with fail
        refine (c.out _ _ _ _ _ (hK'.out.later ((Below.refl _ _).alloc (Nat.le_refl _) _)) (hDr.out.later ((Below.refl _ _).alloc (Nat.le_refl _) _))).mono ?_
        rintro e w2 ⟨LA2, lc2, rfl, hD2, hb2⟩
        have hB2 := Lib.hid (HBr.out.trans ((((Below.refl _ wr).alloc (Nat.le_refl _) _).trans (hb2.mono (by simp))).mono hszr))
        clear hb2
        go_wp2_with fail
        go_roundw
        case rel => exact ⟨k + 1, by omega, by go_num, by rw [hsn.out]; exact ⟨_, _, rfl, hD2⟩, hB2.out⟩
        case measure => simp [intOf]; omega
      · go_wp2_with fail
        go_ret
        rw [hq.out]
        rw [List.take_of_length_le (by omega)] at hDr ⊢
        exact ⟨_, _, rfl, hDr, hBr⟩

theorem lies_nil (w : World) (A : Option Addr) (cap : Nat) : Lies w A cap [] := .mk A cap [] (by simp) 0 0 (fun _ => none) (fun _ => 0) (fun h => by simp at h) (fun i h => by simp at h) (fun i h => by simp at h) (fun i h => by simp at h)
theorem refApps_any (t : Nd) (A : Option Addr) (cap : Nat) (w : World) (hL : Lies w A cap t.ks) (hfin : Fine t) (hcnt : (nodesOf t).length ≤ 1048576) :
    Calls Try.prog 29 #[nv t.op t.so t.nm t.nu (.slice A t.ks.length cap)] w (RetK w (appG [] t)) := by
  have c := appsR_any t [] none 0 A cap
  have HL := Lib.hid hL
  clear hL
  have HB1 := Lib.hid (show Below w.heap.size w (w.alloc (.cells #[.int .i64 t.op, .int .i64 t.so, .string t.nm, .int .i64 t.nu, .slice A t.ks.length cap] 24)) from (Below.refl _ _).alloc (Nat.le_refl _) _)
  have C := Lib.hid c
  clear c
  go_enter Try.func29, Try.ntmps29
  go_wp2_with fail
  refine (C.out _ (HL.out.later HB1.out) hfin (lies_nil _ _ _) (by simpa using hcnt)).mono ?_
  rintro e w1 ⟨LA, lc, rfl, hD, hb⟩
  have HB2 := Lib.hid (HB1.out.trans (hb.mono (by simp)))
  have HD := Lib.hid hD
  clear hb hD
  go_wp2_with fail
  go_ret
  exact ⟨_, _, rfl, HD.out, HB2.out⟩
end Go.Proofs.Ytbadegimohdfeaa
