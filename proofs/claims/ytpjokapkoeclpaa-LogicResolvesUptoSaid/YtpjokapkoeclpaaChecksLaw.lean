/-
  What the law LogicChecks returns: true; conditions: the tree lies in memory and has few nodes.
-/
import Derived.Test.YtpjokapkoeclpaaRefCheck
import Derived.Test.YtpjokapkoeclpaaOrdersLaw
import Derived.Deep.RegionHeld3
namespace Go.Proofs.Ytpjokapkoeclpaa
open Go.RowKit Go.Shelf

attribute [local go_sem] Oper.semAt_some
theorem below_allocs {w1 W : World} (h : Below w1.heap.size w1 W) (O : Obj) : Below w1.heap.size w1 (W.alloc O) := h.alloc h.size _
theorem below_trans2 {w1 W W' : World} (h' : Below W.heap.size W W') (h : Below w1.heap.size w1 W) : Below w1.heap.size w1 W' := h.trans (h'.mono h.size)

set_option maxRecDepth 100000 in
set_option maxHeartbeats 4000000 in
set_option linter.unusedSimpArgs false in
theorem checks_law (t : Nd) (sort : Int) (s : ByteArray) (A : Option Addr) (ca : Nat) (w : World) (hA : Lies w A ca t.ks) (fa : Fine t) (hcnt : cnt t ≤ 1048576) :
    Calls Try.prog 3 #[nv t.op t.so t.nm t.nu (.slice A t.ks.length ca), .int .i64 sort, .string s] w fun e w' => e = .returned (.bool true) ∧ Below w.heap.size w w' := by
  have hBW : Below w.heap.size w (w.alloc (boxO t (.slice A t.ks.length ca))) := (Below.refl _ w).alloc (Nat.le_refl _) _
  have X1 := Lib.hid (five_new w t (.slice A t.ks.length ca) 24)
  have HBW := Lib.hid hBW
  have LA := Lib.hid (hA.later hBW)
  clear hA hBW
  go_enter Try.func3, Try.ntmps3
  go_wp2_with fail
  refine (awake_any _).mono ?_
  rintro e w1 ⟨rfl, b1⟩
  have B1 := Lib.hid (HBW.out.trans (b1.mono HBW.out.size))
  have X2 := Lib.hid (X1.out.later b1)
  have LA1 := Lib.hid (LA.out.later b1)
  clear b1 X1 LA HBW
  have KH := Lib.hid (fun W (h : Below w1.heap.size w1 W) => X2.out.later h)
  have K6 := Lib.hid (fun W (h : Below w1.heap.size w1 W) => (show (fun W => Below w1.heap.size w1 W ∧ W.cell? ⟨w.heap.size, 0, none⟩ = some (.int .i64 t.op) ∧ W.cell? ⟨w.heap.size, 1, none⟩ = some (.int .i64 t.so) ∧ W.cell? ⟨w.heap.size, 2, none⟩ = some (.string t.nm) ∧ W.cell? ⟨w.heap.size, 3, none⟩ = some (.int .i64 t.nu) ∧ W.cell? ⟨w.heap.size, 4, none⟩ = some (.slice A t.ks.length ca)) W from ⟨h, (KH.out W h).c0, (KH.out W h).c1, (KH.out W h).c2, (KH.out W h).c3, (KH.out W h).c4⟩))
  have KC := Lib.hid (fun W (h : Below w1.heap.size w1 W) => check_any t sort A ca W (LA1.out.later h) fa)
  have KR := Lib.hid (fun W (h : Below w1.heap.size w1 W) => refCheck_any t sort A ca W (LA1.out.later h) hcnt)
  rw [← check_eq t sort hcnt] at KR
  have KN := Lib.hid (fun W => (name_any s W).mono (show ∀ e w', e = Ending.returned (.bool (nameB s)) ∧ W = w' → e = .returned (.bool (nameB s)) ∧ Below W.heap.size W w' from fun e w' h => ⟨h.1, h.2 ▸ Below.refl _ _⟩))
  have KM := Lib.hid (refName_any s)
  have hL1 : Lies (w1.alloc (boxO t (.slice A t.ks.length ca))).drew (some ⟨w1.heap.size, 0, none⟩) 1 [t] :=
    (lies_one (c := 1) (five_new w1 t (.slice A t.ks.length ca) 24) (LA1.out.later ((Below.refl _ _).alloc (Nat.le_refl _) _)) fa).later (Below.refl _ _).drew
  have hs := small_any 6000 [t] _ _ _ hL1
  have vv : (checkV t sort == checkV t sort) = true := by simp
  have nn : (nameB s == nameB s) = true := by simp
  generalize checkV t sort = v at *
  generalize nameB s = nb at *
  go_wp2_with fail
  cases s1 : decide (0 ≤ leftOf 6000 [t])
  all_goals rw [s1] at hs
  case false =>
    have HS := Lib.hid hs
    clear hs s1
    refine wp_region_noPanic ?_
    refine wp_region_held_drew (S := (fun W => Below w1.heap.size w1 W ∧ W.cell? ⟨w.heap.size, 0, none⟩ = some (.int .i64 t.op) ∧ W.cell? ⟨w.heap.size, 1, none⟩ = some (.int .i64 t.so) ∧ W.cell? ⟨w.heap.size, 2, none⟩ = some (.string t.nm) ∧ W.cell? ⟨w.heap.size, 3, none⟩ = some (.int .i64 t.nu) ∧ W.cell? ⟨w.heap.size, 4, none⟩ = some (.slice A t.ks.length ca))) (by kernel_rfl) (K6.out _ (Below.refl _ _).drew) (fun hHeld => ?_)
    refine wpAnyH_take (i := 0) (v := nv t.op t.so t.nm t.nu (.slice A t.ks.length ca)) rfl (by kernel_rfl) (by kernel_rfl) (by kernel_rfl) (fun _ _ _ h => h) (Or.inl ⟨by kernel_rfl, ?_⟩) (by assumption) ?_
    · rintro W ⟨_, h0, h1, h2, h3, h4⟩
      go_simp
    try simp only [Act.put, List.setIfInBounds_toArray, List.set_cons_zero, List.set_cons_succ, List.getElem_toArray, List.getElem_cons_succ, List.getElem_cons_zero]
    refine wpAnyH_ready (rs := [1]) (by kernel_rfl) (by simp) ?_
    refine AllReadyH.cons rfl (fun K hK => ?_) AllReadyH.nil
    go_simp
    refine hK.out _ _ (K6.out _ (below_allocs (Below.refl _ _) _).drew) (fun hHeld => ?_)
    clear hK K
    try simp only [Act.put, List.setIfInBounds_toArray, List.set_cons_zero, List.set_cons_succ, List.getElem_toArray, List.getElem_cons_succ, List.getElem_cons_zero]
    refine wpAnyH_ready (rs := [2]) (by kernel_rfl) (by simp) ?_
    refine AllReadyH.cons rfl (fun K hK => ?_) AllReadyH.nil
    go_simp
    refine HS.out.mono ?_
    rintro e w2 ⟨rfl, b2⟩
    have B2 := Lib.hid (below_trans2 b2 (below_allocs (Below.refl w1.heap.size w1) (boxO t (.slice A t.ks.length ca))).drew)
    clear b2
    refine hK.out _ _ (K6.out _ B2.out) (fun hHeld => ?_)
    clear hK K
    try simp only [Act.put, List.setIfInBounds_toArray, List.set_cons_zero, List.set_cons_succ, List.getElem_toArray, List.getElem_cons_succ, List.getElem_cons_zero]
    refine wpAnyH_take (i := 3) (v := .bool true) rfl (by kernel_rfl) (by kernel_rfl) (by kernel_rfl) (fun _ _ _ h => h) (Or.inl ⟨by kernel_rfl, ?_⟩) (by assumption) ?_
    · rintro W _
      go_simp
    try simp only [Act.put, List.setIfInBounds_toArray, List.set_cons_zero, List.set_cons_succ, List.getElem_toArray, List.getElem_cons_succ, List.getElem_cons_zero]
    refine wpAnyH_take (i := 4) (v := .bool true) rfl (by kernel_rfl) (by kernel_rfl) (by kernel_rfl) (fun _ _ _ h => h) (Or.inl ⟨by kernel_rfl, ?_⟩) (by assumption) ?_
    · rintro W _
      go_simp
    try simp only [Act.put, List.setIfInBounds_toArray, List.set_cons_zero, List.set_cons_succ, List.getElem_toArray, List.getElem_cons_succ, List.getElem_cons_zero]
    refine wpAnyH_take (i := 5) (v := undef) rfl (by kernel_rfl) (by kernel_rfl) (by kernel_rfl) (fun _ _ _ h => h) (Or.inr ⟨by kernel_rfl, rfl⟩) (by assumption) ?_
    try simp only [Act.put, List.setIfInBounds_toArray, List.set_cons_zero, List.set_cons_succ, List.getElem_toArray, List.getElem_cons_succ, List.getElem_cons_zero]
    refine wpAnyH_take (i := 6) (v := undef) rfl (by kernel_rfl) (by kernel_rfl) (by kernel_rfl) (fun _ _ _ h => h) (Or.inr ⟨by kernel_rfl, rfl⟩) (by assumption) ?_
    try simp only [Act.put, List.setIfInBounds_toArray, List.set_cons_zero, List.set_cons_succ, List.getElem_toArray, List.getElem_cons_succ, List.getElem_cons_zero]
    refine wpAnyH_take (i := 7) (v := undef) rfl (by kernel_rfl) (by kernel_rfl) (by kernel_rfl) (fun _ _ _ h => h) (Or.inr ⟨by kernel_rfl, rfl⟩) (by assumption) ?_
    try simp only [Act.put, List.setIfInBounds_toArray, List.set_cons_zero, List.set_cons_succ, List.getElem_toArray, List.getElem_cons_succ, List.getElem_cons_zero]
    refine wpAnyH_take (i := 8) (v := undef) rfl (by kernel_rfl) (by kernel_rfl) (by kernel_rfl) (fun _ _ _ h => h) (Or.inr ⟨by kernel_rfl, rfl⟩) (by assumption) ?_
    try simp only [Act.put, List.setIfInBounds_toArray, List.set_cons_zero, List.set_cons_succ, List.getElem_toArray, List.getElem_cons_succ, List.getElem_cons_zero]
    refine wpAnyH_take (i := 9) (v := undef) rfl (by kernel_rfl) (by kernel_rfl) (by kernel_rfl) (fun _ _ _ h => h) (Or.inr ⟨by kernel_rfl, rfl⟩) (by assumption) ?_
    try simp only [Act.put, List.setIfInBounds_toArray, List.set_cons_zero, List.set_cons_succ, List.getElem_toArray, List.getElem_cons_succ, List.getElem_cons_zero]
    refine wpAnyH_take (i := 10) (v := undef) rfl (by kernel_rfl) (by kernel_rfl) (by kernel_rfl) (fun _ _ _ h => h) (Or.inr ⟨by kernel_rfl, rfl⟩) (by assumption) ?_
    try simp only [Act.put, List.setIfInBounds_toArray, List.set_cons_zero, List.set_cons_succ, List.getElem_toArray, List.getElem_cons_succ, List.getElem_cons_zero]
    refine wpAnyH_take (i := 11) (v := undef) rfl (by kernel_rfl) (by kernel_rfl) (by kernel_rfl) (fun _ _ _ h => h) (Or.inr ⟨by kernel_rfl, rfl⟩) (by assumption) ?_
    try simp only [Act.put, List.setIfInBounds_toArray, List.set_cons_zero, List.set_cons_succ, List.getElem_toArray, List.getElem_cons_succ, List.getElem_cons_zero]
    refine wpAnyH_take (i := 12) (v := undef) rfl (by kernel_rfl) (by kernel_rfl) (by kernel_rfl) (fun _ _ _ h => h) (Or.inr ⟨by kernel_rfl, rfl⟩) (by assumption) ?_
    try simp only [Act.put, List.setIfInBounds_toArray, List.set_cons_zero, List.set_cons_succ, List.getElem_toArray, List.getElem_cons_succ, List.getElem_cons_zero]
    refine wpAnyH_take (i := 13) (v := undef) rfl (by kernel_rfl) (by kernel_rfl) (by kernel_rfl) (fun _ _ _ h => h) (Or.inr ⟨by kernel_rfl, rfl⟩) (by assumption) ?_
    try simp only [Act.put, List.setIfInBounds_toArray, List.set_cons_zero, List.set_cons_succ, List.getElem_toArray, List.getElem_cons_succ, List.getElem_cons_zero]
    refine wpAnyH_take (i := 14) (v := undef) rfl (by kernel_rfl) (by kernel_rfl) (by kernel_rfl) (fun _ _ _ h => h) (Or.inr ⟨by kernel_rfl, rfl⟩) (by assumption) ?_
    try simp only [Act.put, List.setIfInBounds_toArray, List.set_cons_zero, List.set_cons_succ, List.getElem_toArray, List.getElem_cons_succ, List.getElem_cons_zero]
    refine wpAnyH_take (i := 15) (v := undef) rfl (by kernel_rfl) (by kernel_rfl) (by kernel_rfl) (fun _ _ _ h => h) (Or.inr ⟨by kernel_rfl, rfl⟩) (by assumption) ?_
    try simp only [Act.put, List.setIfInBounds_toArray, List.set_cons_zero, List.set_cons_succ, List.getElem_toArray, List.getElem_cons_succ, List.getElem_cons_zero]
    refine wpAnyH_take (i := 16) (v := undef) rfl (by kernel_rfl) (by kernel_rfl) (by kernel_rfl) (fun _ _ _ h => h) (Or.inr ⟨by kernel_rfl, rfl⟩) (by assumption) ?_
    try simp only [Act.put, List.setIfInBounds_toArray, List.set_cons_zero, List.set_cons_succ, List.getElem_toArray, List.getElem_cons_succ, List.getElem_cons_zero]
    refine wpAnyH_take (i := 17) (v := undef) rfl (by kernel_rfl) (by kernel_rfl) (by kernel_rfl) (fun _ _ _ h => h) (Or.inr ⟨by kernel_rfl, rfl⟩) (by assumption) ?_
    try simp only [Act.put, List.setIfInBounds_toArray, List.set_cons_zero, List.set_cons_succ, List.getElem_toArray, List.getElem_cons_succ, List.getElem_cons_zero]
    refine wpAnyH_take (i := 18) (v := undef) rfl (by kernel_rfl) (by kernel_rfl) (by kernel_rfl) (fun _ _ _ h => h) (Or.inr ⟨by kernel_rfl, rfl⟩) (by assumption) ?_
    try simp only [Act.put, List.setIfInBounds_toArray, List.set_cons_zero, List.set_cons_succ, List.getElem_toArray, List.getElem_cons_succ, List.getElem_cons_zero]
    refine wpAnyH_take (i := 19) (v := .bool true) rfl (by kernel_rfl) (by kernel_rfl) (by kernel_rfl) (fun _ _ _ h => h) (Or.inl ⟨by kernel_rfl, ?_⟩) (by assumption) ?_
    · rintro W _
      go_simp
    try simp only [Act.put, List.setIfInBounds_toArray, List.set_cons_zero, List.set_cons_succ, List.getElem_toArray, List.getElem_cons_succ, List.getElem_cons_zero]
    refine wpAnyH_take (i := 20) (v := .bool true) rfl (by kernel_rfl) (by kernel_rfl) (by kernel_rfl) (fun _ _ _ h => h) (Or.inl ⟨by kernel_rfl, ?_⟩) (by assumption) ?_
    · rintro W _
      go_simp
    try simp only [Act.put, List.setIfInBounds_toArray, List.set_cons_zero, List.set_cons_succ, List.getElem_toArray, List.getElem_cons_succ, List.getElem_cons_zero]
    refine wpAnyH_done (by kernel_rfl) ?_ _
    refine NoPanic.normal ?_
    go_wp2_with fail
    go_ret
    exact ⟨rfl, B1.out.trans (B2.out.mono B1.out.size)⟩
  case true =>
    have HS := Lib.hid hs
    clear hs s1
    obtain ⟨a0, a1, a2, a3, a4⟩ := X2.out
    first | go_region_held3 (fun W => Below w1.heap.size w1 W ∧ W.cell? ⟨w.heap.size, 0, none⟩ = some (.int .i64 t.op) ∧ W.cell? ⟨w.heap.size, 1, none⟩ = some (.int .i64 t.so) ∧ W.cell? ⟨w.heap.size, 2, none⟩ = some (.string t.nm) ∧ W.cell? ⟨w.heap.size, 3, none⟩ = some (.int .i64 t.nu) ∧ W.cell? ⟨w.heap.size, 4, none⟩ = some (.slice A t.ks.length ca))
      ((go_split_ands; refine K6.out _ ?_; first | exact (Below.refl _ _).drew | exact (below_allocs (Below.refl _ _) _).drew | (refine below_allocs ?_ _; assumption) | (exact below_trans2 (by assumption) (by assumption))))
      (first
        | (go_at_call 9; refine HS.out.mono ?_; rintro e w2 ⟨rfl, b2⟩)
        | (go_at_call 10; go_split_ands; refine (KC.out _ (by assumption)).mono ?_; rintro e w2 ⟨rfl, b2⟩)
        | (go_at_call 11; go_split_ands; refine (KR.out _ (by assumption)).mono ?_; rintro e w2 ⟨rfl, b2⟩)
        | (go_at_call 12; refine (KN.out _).mono ?_; rintro e w2 ⟨rfl, b2⟩)
        | (go_at_call 13; refine (KM.out _).mono ?_; rintro e w2 ⟨rfl, b2⟩))
    all_goals
      go_split_ands
      have hfin : Below w1.heap.size w1 w2 := by assumption
      have HF := Lib.hid (B1.out.trans (hfin.mono B1.out.size))
      clear hfin
      go_wp2_with fail
      go_ret
      exact ⟨rfl, HF.out⟩
end Go.Proofs.Ytpjokapkoeclpaa
