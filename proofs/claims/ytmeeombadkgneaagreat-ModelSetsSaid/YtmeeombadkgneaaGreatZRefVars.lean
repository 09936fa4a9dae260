/-
  What the document's own Vars returns; conditions: the tree lies in memory and has few nodes.
-/
import Derived.Test.YtmeeombadkgneaaGreatZRefPut
import Derived.Test.YtmeeombadkgneaaGreatZOrder
namespace Go.Proofs.YtmeeombadkgneaaGreat
open Go.RowKit Go.Shelf

attribute [local go_sem] Oper.semAt_some
/-- A declaration put into a list in its place, once. -/
def insD (d : ByteArray × Int) : List (ByteArray × Int) → List (ByteArray × Int)
  | [] => [d]
  | x :: xs => if eqD x d = true then x :: xs else if ahB d x = true then d :: x :: xs else x :: insD d xs

theorem foldD_true (d : ByteArray × Int) (l : List (ByteArray × Int)) : ∀ o, l.foldl (stD d) (o, true) = (o ++ l, true) := by
  induction l with
  | nil => intro o; simp
  | cons x xs ih => intro o; rw [List.foldl_cons, stD_t, ih]; simp
theorem foldD_false (d : ByteArray × Int) (l : List (ByteArray × Int)) : ∀ o, (if (l.foldl (stD d) (o, false)).2 = true then (l.foldl (stD d) (o, false)).1 else (l.foldl (stD d) (o, false)).1 ++ [d]) = o ++ insD d l := by
  induction l with
  | nil => intro o; rfl
  | cons x xs ih =>
    intro o
    rw [List.foldl_cons, insD]
    by_cases h1 : eqD x d = true
    · rw [stD_e _ h1, foldD_true, if_pos h1]; simp
    · have h1' : eqD x d = false := by simpa using h1
      rw [if_neg h1]
      by_cases h2 : ahB d x = true
      · rw [stD_a _ h1' h2, foldD_true, if_pos h2]; simp
      · have h2' : ahB d x = false := by simpa using h2
        rw [stD_n _ h1' h2', ih, if_neg h2]; simp
theorem putD_ins (l : List (ByteArray × Int)) (d : ByteArray × Int) : putD l d = insD d l := by
  have := foldD_false d l []
  rw [List.nil_append] at this
  rw [← this, putD, foldD]

theorem toList_inj {a b : ByteArray} (h : a.toList = b.toList) : a = b := by
  rw [ByteArray.toList_eq, ByteArray.toList_eq] at h
  cases a; cases b
  simp only [ByteArray.mk.injEq]
  exact Array.toList_inj.1 h
theorem eqD_iff {x d : ByteArray × Int} : eqD x d = true ↔ x = d := by
  unfold eqD
  rw [Bool.and_eq_true, beq_iff_eq, beq_iff_eq]
  constructor
  · rintro ⟨h1, h2⟩; exact Prod.ext (toList_inj h1) h2
  · rintro rfl; exact ⟨rfl, rfl⟩

/-- The order of declarations. -/
def ltD (d e : ByteArray × Int) : Prop := cmpB d.1.toList e.1.toList < 0 ∨ (d.1 = e.1 ∧ d.2 < e.2)
theorem ahB_iff {d e : ByteArray × Int} : ahB d e = true ↔ ltD d e := by
  unfold ahB ltD
  rw [Bool.or_eq_true, Bool.and_eq_true, less_cmpB, decide_eq_true_iff, beq_iff_eq, decide_eq_true_iff]
  constructor
  · rintro (h | ⟨h1, h2⟩)
    · exact .inl h
    · exact .inr ⟨toList_inj h1, h2⟩
  · rintro (h | ⟨h1, h2⟩)
    · exact .inl h
    · exact .inr ⟨by rw [h1], h2⟩
theorem ltD_trans {a b c : ByteArray × Int} (h : ltD a b) (h' : ltD b c) : ltD a c := by
  unfold ltD at *
  have t := cmpB_tri a.1.toList b.1.toList c.1.toList
  unfold Tri at t
  rcases h with h | ⟨h1, h2⟩
  · rcases h' with h' | ⟨h1', h2'⟩
    · have := t (by omega) (by omega); exact .inl (by omega)
    · rw [h1'] at h; exact .inl h
  · rcases h' with h' | ⟨h1', h2'⟩
    · rw [h1]; exact .inl h'
    · exact .inr ⟨h1.trans h1', by omega⟩
theorem ltD_tri (a b : ByteArray × Int) (h : ¬ a = b) (h' : ¬ ltD a b) : ltD b a := by
  unfold ltD at *
  have n := cmpB_neg a.1.toList b.1.toList
  by_cases e : a.1 = b.1
  · have : a.2 ≠ b.2 := fun e2 => h (Prod.ext e e2)
    exact .inr ⟨e.symm, by have : ¬ a.2 < b.2 := fun q => h' (.inr ⟨e, q⟩); omega⟩
  · have h0 : cmpB a.1.toList b.1.toList ≠ 0 := fun q => e (toList_inj (cmpB_zero q))
    have h1 : ¬ cmpB a.1.toList b.1.toList < 0 := fun q => h' (.inl q)
    exact .inl (by omega)

theorem mem_insD {d y : ByteArray × Int} {l : List (ByteArray × Int)} : y ∈ insD d l ↔ y = d ∨ y ∈ l := by
  induction l with
  | nil => simp [insD]
  | cons x xs ih =>
    rw [insD]
    by_cases h1 : eqD x d = true
    · rw [if_pos h1]
      have := eqD_iff.1 h1
      subst this
      simp
    · rw [if_neg h1]
      by_cases h2 : ahB d x = true
      · rw [if_pos h2]; simp
      · rw [if_neg h2, List.mem_cons, ih, List.mem_cons]
        constructor
        · rintro (h | h | h)
          · exact .inr (.inl h)
          · exact .inl h
          · exact .inr (.inr h)
        · rintro (h | h | h)
          · exact .inr (.inl h)
          · exact .inl h
          · exact .inr (.inr h)
theorem len_insD (d : ByteArray × Int) (l : List (ByteArray × Int)) : (insD d l).length ≤ l.length + 1 := by
  induction l with
  | nil => simp [insD]
  | cons x xs ih =>
    rw [insD]
    by_cases h1 : eqD x d = true
    · rw [if_pos h1]; simp
    · rw [if_neg h1]
      by_cases h2 : ahB d x = true
      · rw [if_pos h2]; simp
      · rw [if_neg h2, List.length_cons, List.length_cons]; omega
theorem sorted_insD {d : ByteArray × Int} {l : List (ByteArray × Int)} (h : l.Pairwise ltD) : (insD d l).Pairwise ltD := by
  induction l with
  | nil => simp [insD]
  | cons x xs ih =>
    rw [insD]
    have h' := List.pairwise_cons.1 h
    by_cases h1 : eqD x d = true
    · rw [if_pos h1]; exact h
    · rw [if_neg h1]
      by_cases h2 : ahB d x = true
      · rw [if_pos h2]
        have h2 := ahB_iff.1 h2
        refine List.pairwise_cons.2 ⟨fun y hy => ?_, h⟩
        rcases List.mem_cons.1 hy with rfl | hy
        · exact h2
        · exact ltD_trans h2 (h'.1 y hy)
      · rw [if_neg h2]
        refine List.pairwise_cons.2 ⟨fun y hy => ?_, ih h'.2⟩
        rcases mem_insD.1 hy with rfl | hy
        · exact ltD_tri _ _ (fun e => h1 (eqD_iff.2 e.symm)) (fun e => h2 (ahB_iff.2 e))
        · exact h'.1 y hy

def gsD (l : List (ByteArray × Int)) (y : Nd) : List (ByteArray × Int) := if y.op = 1 then putD l (y.nm, y.so) else l
def gathL (l : List (ByteArray × Int)) (t : Nd) : List (ByteArray × Int) := (nodesOf t).foldl gsD l
theorem gathL_eq (l : List (ByteArray × Int)) (t : Nd) : gathL l t = t.ks.foldl gathL (gsD l t) := by
  rw [gathL, nodesOf_eq, List.foldl_cons, List.foldl_flatMap]
  rfl
theorem gsD_len (l : List (ByteArray × Int)) (y : Nd) : (gsD l y).length ≤ l.length + 1 := by
  unfold gsD
  split
  · rw [putD_ins]; exact len_insD _ _
  · omega
theorem fold_gsD_len (ys : List Nd) : ∀ l, (ys.foldl gsD l).length ≤ l.length + ys.length := by
  induction ys with
  | nil => intro l; simp
  | cons y ys ih => intro l; rw [List.foldl_cons, List.length_cons]; have := ih (gsD l y); have := gsD_len l y; omega
theorem gathL_len (l : List (ByteArray × Int)) (t : Nd) : (gathL l t).length ≤ l.length + (nodesOf t).length := fold_gsD_len _ _
theorem fold_gsD_mem (ys : List Nd) : ∀ l d, d ∈ ys.foldl gsD l ↔ d ∈ l ∨ ∃ y ∈ ys, y.op = 1 ∧ d = (y.nm, y.so) := by
  induction ys with
  | nil => intro l d; simp
  | cons y ys ih =>
    intro l d
    rw [List.foldl_cons, ih]
    have : d ∈ gsD l y ↔ d ∈ l ∨ (y.op = 1 ∧ d = (y.nm, y.so)) := by
      unfold gsD
      split
      · rename_i h; rw [putD_ins, mem_insD]; simp [h, or_comm]
      · rename_i h; simp [h]
    rw [this]
    simp [or_assoc]
theorem fold_gsD_sorted (ys : List Nd) : ∀ l, l.Pairwise ltD → (ys.foldl gsD l).Pairwise ltD := by
  induction ys with
  | nil => intro l h; exact h
  | cons y ys ih =>
    intro l h
    rw [List.foldl_cons]
    refine ih _ ?_
    unfold gsD
    split
    · rw [putD_ins]; exact sorted_insD h
    · exact h

/-- The nodes of the first kids are no more than those of the tree. -/
theorem kids_cnt (ks : List Nd) (k : Nat) (hk : k < ks.length) : ((ks.take k).flatMap nodesOf).length + (nodesOf ks[k]).length ≤ (ks.flatMap nodesOf).length := by
  have : ks = ks.take k ++ ks[k] :: ks.drop (k + 1) := by
    rw [← List.drop_eq_getElem_cons hk, List.take_append_drop]
  conv => rhs; rw [this]
  rw [List.flatMap_append, List.flatMap_cons, List.length_append, List.length_append]
  omega
theorem fold_gathL (ks : List Nd) (l : List (ByteArray × Int)) : ks.foldl gathL l = (ks.flatMap nodesOf).foldl gsD l := by
  rw [List.foldl_flatMap]; rfl
theorem fold_gathL_len (ks : List Nd) (l : List (ByteArray × Int)) : (ks.foldl gathL l).length ≤ l.length + (ks.flatMap nodesOf).length := by
  rw [fold_gathL]; exact fold_gsD_len _ _
theorem fold_gathL_snoc (ks : List Nd) (l : List (ByteArray × Int)) (k : Nat) (hk : k < ks.length) : (ks.take (k + 1)).foldl gathL l = gathL ((ks.take k).foldl gathL l) ks[k] := by
  rw [List.take_succ_eq_append_getElem hk, List.foldl_append]; rfl
set_option maxRecDepth 100000 in
set_option maxHeartbeats 2000000 in
theorem gather_any (t : Nd) : ∀ (l : List (ByteArray × Int)) (LA : Option Addr) (lcap : Nat) (A : Option Addr) (cap : Nat) (w : World), Lies w A cap t.ks → DeclsAt w LA l → l.length + (nodesOf t).length ≤ 1048576 →
    Calls Tryz.prog 52 #[.slice LA l.length lcap, nv t.op t.so t.nm t.nu (.slice A t.ks.length cap)] w (RetD w (gathL l t)) := by
  induction t using Nd.ind with
  | h t ih =>
  intro l LA lcap A cap w hL hD hcnt
  have HB1 : Below w.heap.size w (w.alloc (.cells #[.int .i64 t.op, .int .i64 t.so, .string t.nm, .int .i64 t.nu, .slice A t.ks.length cap] 44)) := (Below.refl _ _).alloc (Nat.le_refl _) _
  have H5 := Lib.hid (five_new w t (.slice A t.ks.length cap) 44)
  have hn := hL.len
  unfold maxLen at hn
  have hq := Lib.hid (gathL_eq l t)
  have hlen := gsD_len l t
  rw [nodesOf_eq, List.length_cons] at hcnt
  have HL := Lib.hid hL
  have HD := Lib.hid hD
  have IH := Lib.hid ih
  clear hL hD ih
  have HB1 := Lib.hid HB1
  by_cases h1 : t.op = 1
  case neg =>
    have hg := Lib.hid (show gsD l t = l from if_neg h1)
    have h1' : (t.op == 1) = false := by simpa using h1
    clear h1
    go_enter Tryz.func52, Tryz.ntmps52
    go_wp2_with fail
    go_loopw [0, 20] (fun lv i wr => ∃ k : Nat, k ≤ t.ks.length ∧ i = .int .i64 k ∧ (∃ LA' lc, lv = .slice LA' ((t.ks.take k).foldl gathL (gsD l t)).length lc ∧ DeclsAt wr LA' ((t.ks.take k).foldl gathL (gsD l t))) ∧ Below w.heap.size w wr) (fun _ i _ => t.ks.length - (intOf i).toNat)
    case atStart => exact ⟨0, Nat.zero_le _, rfl, ⟨_, _, by rw [List.take_zero, List.foldl_nil, hg.out], by rw [List.take_zero, List.foldl_nil, hg.out]; exact HD.out.later HB1.out⟩, HB1.out⟩
    case round =>
      obtain ⟨k, hk, rfl, ⟨LA', lc, rfl, hDr⟩, hBr⟩ := hrel
      by_cases hlt : k < t.ks.length
      · obtain ⟨b, o, A', C', rfl, g5, hK⟩ := HL.out.kid hlt
        obtain ⟨a0, a1, a2, a3, a4⟩ := g5.later hBr
        have hK' := Lib.hid (hK.later hBr)
        have hDr := Lib.hid hDr
        have hsn := Lib.hid (fold_gathL_snoc t.ks (gsD l t) k hlt)
        have hle : ((t.ks.take k).foldl gathL (gsD l t)).length + (nodesOf t.ks[k]).length ≤ 1048576 := by
          have h1 := fold_gathL_len (t.ks.take k) (gsD l t)
          have h2 := kids_cnt t.ks k hlt
          omega
        have c := Lib.hid (fun LA lcap A cap w hL hD => IH.out k hlt ((t.ks.take k).foldl gathL (gsD l t)) LA lcap A cap w hL hD hle)
        have hszr := hBr.size
        have HBr := Lib.hid hBr
        generalize t.ks[k] = q at *
        generalize ((t.ks.take k).foldl gathL (gsD l t)) = c0 at *
        clear g5 hK IH HL hle hcnt hlen
        go_wp2_with fail
        refine (c.out _ _ _ _ _ (hK'.out.later ((Below.refl _ _).alloc (Nat.le_refl _) _)) (hDr.out.later ((Below.refl _ _).alloc (Nat.le_refl _) _))).mono ?_
        rintro e w2 ⟨LA2, lc2, rfl, hD2, hb2⟩
        have hB2 := Lib.hid (HBr.out.trans ((((Below.refl _ wr).alloc (Nat.le_refl _) _).trans (hb2.mono (by simp))).mono hszr))
        clear hb2
        go_wp2_with fail
        go_roundw
        case rel => exact ⟨k + 1, by omega, by go_num, by rw [hsn.out]; exact ⟨_, _, rfl, hD2⟩, hB2.out⟩
        case measure => simp [intOf]; omega
      · go_wp2_with fail
        go_ret
        rw [hq.out]
        rw [List.take_of_length_le (by omega)] at hDr ⊢
        exact ⟨_, _, rfl, hDr, hBr⟩
  case pos =>
    have hg := Lib.hid (show gsD l t = putD l (t.nm, t.so) from if_pos h1)
    have h1' : (t.op == 1) = true := by simpa using h1
    clear h1
    go_enter Tryz.func52, Tryz.ntmps52
    go_wp2_with fail
    refine (putDecl_any l (t.nm, t.so) _ _ _ (HD.out.later (by assumption)) (by omega)).mono ?_
    rintro e w1 ⟨LA1, lcap1, rfl, hD1, hb1⟩
    have d4 := (H5.out.later hb1).c4
    have HB2 := Lib.hid (HB1.out.trans (hb1.mono (by simp)))
    have HD1 := Lib.hid hD1
    clear hb1 hD1
    go_wp2_with fail
    go_loopw [0, 20] (fun lv i wr => ∃ k : Nat, k ≤ t.ks.length ∧ i = .int .i64 k ∧ (∃ LA' lc, lv = .slice LA' ((t.ks.take k).foldl gathL (gsD l t)).length lc ∧ DeclsAt wr LA' ((t.ks.take k).foldl gathL (gsD l t))) ∧ Below w.heap.size w wr) (fun _ i _ => t.ks.length - (intOf i).toNat)
    case atStart => exact ⟨0, Nat.zero_le _, rfl, ⟨_, _, by rw [List.take_zero, List.foldl_nil, hg.out], by rw [List.take_zero, List.foldl_nil, hg.out]; exact HD1.out⟩, HB2.out⟩
    case round =>
      obtain ⟨k, hk, rfl, ⟨LA', lc, rfl, hDr⟩, hBr⟩ := hrel
      by_cases hlt : k < t.ks.length
      · obtain ⟨b, o, A', C', rfl, g5, hK⟩ := HL.out.kid hlt
        obtain ⟨a0, a1, a2, a3, a4⟩ := g5.later hBr
        have hK' := Lib.hid (hK.later hBr)
        have hDr := Lib.hid hDr
        have hsn := Lib.hid (fold_gathL_snoc t.ks (gsD l t) k hlt)
        have hle : ((t.ks.take k).foldl gathL (gsD l t)).length + (nodesOf t.ks[k]).length ≤ 1048576 := by
          have h1 := fold_gathL_len (t.ks.take k) (gsD l t)
          have h2 := kids_cnt t.ks k hlt
          omega
        have c := Lib.hid (fun LA lcap A cap w hL hD => IH.out k hlt ((t.ks.take k).foldl gathL (gsD l t)) LA lcap A cap w hL hD hle)
        have hszr := hBr.size
        have HBr := Lib.hid hBr
        generalize t.ks[k] = q at *
        generalize ((t.ks.take k).foldl gathL (gsD l t)) = c0 at *
        clear g5 hK IH HL hle hcnt hlen
        go_wp2_with fail
        refine (c.out _ _ _ _ _ (hK'.out.later ((Below.refl _ _).alloc (Nat.le_refl _) _)) (hDr.out.later ((Below.refl _ _).alloc (Nat.le_refl _) _))).mono ?_
        rintro e w2 ⟨LA2, lc2, rfl, hD2, hb2⟩
        have hB2 := Lib.hid (HBr.out.trans ((((Below.refl _ wr).alloc (Nat.le_refl _) _).trans (hb2.mono (by simp))).mono hszr))
        clear hb2
        go_wp2_with fail
        go_roundw
        case rel => exact ⟨k + 1, by omega, by go_num, by rw [hsn.out]; exact ⟨_, _, rfl, hD2⟩, hB2.out⟩
        case measure => simp [intOf]; omega
      · go_wp2_with fail
        go_ret
        rw [hq.out]
        rw [List.take_of_length_le (by omega)] at hDr ⊢
        exact ⟨_, _, rfl, hDr, hBr⟩

theorem refVars_any (t : Nd) (A : Option Addr) (cap : Nat) (w : World) (hL : Lies w A cap t.ks) (hcnt : (nodesOf t).length ≤ 1048576) :
    Calls Tryz.prog 26 #[nv t.op t.so t.nm t.nu (.slice A t.ks.length cap)] w (RetD w (gathL [] t)) := by
  have c := gather_any t [] none 0 A cap
  have HL := Lib.hid hL
  clear hL
  have HB1 := Lib.hid (show Below w.heap.size w (w.alloc (.cells #[.int .i64 t.op, .int .i64 t.so, .string t.nm, .int .i64 t.nu, .slice A t.ks.length cap] 44)) from (Below.refl _ _).alloc (Nat.le_refl _) _)
  have C := Lib.hid c
  clear c
  go_enter Tryz.func26, Tryz.ntmps26
  go_wp2_with fail
  refine (C.out _ (HL.out.later HB1.out) ⟨0, fun h => by simp at h, fun i hi => by simp at hi⟩ (by simpa using hcnt)).mono ?_
  rintro e w1 ⟨LA, lc, rfl, hD, hb⟩
  have HB2 := Lib.hid (HB1.out.trans (hb.mono (by simp)))
  have HD := Lib.hid hD
  clear hb hD
  go_wp2_with fail
  go_ret
  exact ⟨_, _, rfl, HD.out, HB2.out⟩
end Go.Proofs.YtmeeombadkgneaaGreat
