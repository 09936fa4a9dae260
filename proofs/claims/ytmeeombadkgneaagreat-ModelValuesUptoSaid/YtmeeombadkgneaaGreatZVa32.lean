/-
  What Set returns: the model with the entry in its place or at the end, in memory of its own; conditions: the model and the entry lie in memory, the model is not long.
  What Set returns: the model with the entry in its place or at the end, in memory of its own; conditions: the model and the entry lie in memory, the model is not long.
  What the law's models returns of two models that are the same: true; conditions: both lie in memory.
  What BinarySearchFunc returns of a table and an entry; conditions: both lie in memory, the table is in order and not long.
-/
import Derived.Deep.RegionHeld3
import Derived.Test.YtmeeombadkgneaaGreatZVa29
namespace Go.Proofs.YtmeeombadkgneaaGreat
open Go.Proofs Go.RowKit Go.Shelf Go.Sort Go.Lib

attribute [local go_sem] Oper.semAt_some
theorem same_place {x y z : EA} (h1 : placeB x y = true) (h2 : placeB z y = true) : cmpE x z = 0 := by
  rw [← place_eq, beq_iff_eq] at h1 h2
  have n1 := laws_E.neg x y
  have n2 := laws_E.neg z y
  have n3 := laws_E.neg x z
  obtain ⟨a, _⟩ := laws_E.tri x y z (by omega) (by omega)
  obtain ⟨b, _⟩ := laws_E.tri z y x (by omega) (by omega)
  omega
theorem setR_at {l : List EA} {y : EA} (hv : validM l = true) {k : Nat} (hk : k < l.length) (hp : placeB l[k] y = true) : setR l y = l.set k y := by
  have hany : l.any (fun x => placeB x y) = true := List.any_eq_true.2 ⟨l[k], List.getElem_mem hk, hp⟩
  unfold setR
  rw [hany, if_pos rfl, List.append_nil]
  apply List.ext_getElem (by simp)
  intro i h1 h2
  have hi : i < l.length := by simpa using h1
  rw [List.getElem_map, List.getElem_set]
  by_cases e : k = i
  · subst e
    rw [if_pos rfl, repE_yes hp]
  · rw [if_neg e]
    refine repE_no ?_
    rw [Bool.eq_false_iff]
    intro h
    have hz := same_place hp h
    have hpw := List.pairwise_iff_getElem.1 ((validM_iff l).1 hv).2.2
    by_cases hlt : k < i
    · exact hpw k i hk hi hlt hz
    · refine hpw i k hi hk (by omega) ?_
      have := laws_E.neg l[k] l[i]
      omega
theorem setR_new {l : List EA} {y : EA} (h : ∀ j (h : j < l.length), placeB l[j] y = false) : setR l y = l ++ [y] := by
  have hany : l.any (fun x => placeB x y) = false := by
    rw [List.any_eq_false]
    intro x hx
    obtain ⟨i, hi, rfl⟩ := List.getElem_of_mem hx
    rw [h i hi]; simp
  unfold setR
  rw [hany, if_neg (by simp)]
  congr 1
  apply List.ext_getElem (by simp)
  intro i h1 h2
  rw [List.getElem_map, repE_no (h i h2)]
theorem tameV_of {v : Vl} (h : validV v = true) : TameV v := by
  unfold validV smallV at h
  simp only [Bool.and_eq_true, decide_eq_true_eq] at h
  obtain ⟨⟨_, h1, h2⟩, _, _, h3, _⟩ := h
  exact ⟨by omega, by omega, by omega⟩
theorem tameE_of {e : EA} (h : validE e = true) : TameE e := by
  unfold validE at h
  simp only [Bool.and_eq_true, decide_eq_true_eq, List.all_eq_true] at h
  obtain ⟨_, h1, h2, h3⟩ := h
  exact ⟨by omega, fun x hx => tameV_of (h3 x hx), tameV_of h2⟩
theorem hmf (fn : Fn) (first cap : Array Value) (w : World) : (Instr.makeFunc fn first cap).run Tryz.prog w = .ok (.func fn first cap) w := rfl
theorem flatE_len : ∀ l : List EA, (flatE l).length = l.length * 7
  | [] => rfl
  | x :: l => by
    show (cells7E x ++ flatE l).length = _
    rw [List.length_append, flatE_len l]
    show 7 + l.length * 7 = (l.length + 1) * 7
    omega
theorem ME.owns {w : World} {n : Nat} {ks : List (ByteArray × List Vl × Vl)} {wr : World} {cur : Array Value} {xs : List EA} (h : ME w n ks wr cur xs) (hn : xs.length = n) (hm : n ≤ maxLen) : wr.ownsRow w.heap.size 29 7 (.slice (some ⟨w.heap.size, 0, none⟩) n n) n (flatE xs) :=
  ⟨by rw [flatE_len, hn], .inr ⟨w.heap.size, n, cur, rfl, Nat.le_refl _, h.row, Nat.le_refl _, hm, h.size, by have := h.head; rwa [hn] at this⟩⟩
/-- An entry of a row is written anew. -/
theorem ME.put {w : World} {n : Nat} {ks : List (ByteArray × List Vl × Vl)} {wr : World} {cur : Array Value} {xs : List EA} (h : ME w n ks wr cur xs) (hn : xs.length = n) (hm : n ≤ maxLen) {k : Nat} (hk : k < n) {y : EA} (hy : RobE (w.heap.size + 1) wr y) :
    LiesM (putE wr w.heap.size (k * 7) (.string y.nm) (.slice y.A y.args.length y.c) (.int .i64 y.val.v.so) (.int .i64 y.val.v.nu) (.slice y.val.a1 y.val.v.st.length y.val.c1) (.slice y.val.a2 y.val.v.ix.length y.val.c2) (.slice y.val.a3 y.val.v.xs.length y.val.c3)) (some ⟨w.heap.size, 0, none⟩) (xs.set k y) := by
  have hF := putE_same (o := k * 7) (.string y.nm) (.slice y.A y.args.length y.c) (.int .i64 y.val.v.so) (.int .i64 y.val.v.nu) (.slice y.val.a1 y.val.v.st.length y.val.c1) (.slice y.val.a2 y.val.v.ix.length y.val.c2) (.slice y.val.a3 y.val.v.xs.length y.val.c3) h.row
  have rob : ∀ {z : EA}, RobE (w.heap.size + 1) wr z → LiesE (putE wr w.heap.size (k * 7) (.string y.nm) (.slice y.A y.args.length y.c) (.int .i64 y.val.v.so) (.int .i64 y.val.v.nu) (.slice y.val.a1 y.val.v.st.length y.val.c1) (.slice y.val.a2 y.val.v.ix.length y.val.c2) (.slice y.val.a3 y.val.v.xs.length y.val.c3)) z :=
    fun hr => (hr.same (putE_size _ _ _ _ _ _ _ _ _ _) fun k hk => putE_other _ _ _ _ _ _ _ (by omega)).here
  refine ⟨by rw [List.length_set, hn]; exact hm, ⟨w.heap.size, 0, fun _ => rfl, fun i hi => ?_⟩, fun i hi => ?_⟩
  · have hi2 : i < xs.length := by simpa using hi
    have hin : i < n := by omega
    have hcs := h.size
    have hrd : ∀ j, j < 7 → cur[i * 7 + j]? = (cells7E xs[i])[j]? := fun j hj => by
      have := flatE_at xs i hi2 j hj
      rw [← h.head, List.getElem?_take_of_lt (by omega)] at this
      rw [← this]; simp
    rw [List.getElem_set]
    by_cases e : k = i
    · subst e
      rw [if_pos rfl]
      refine ⟨?_, ?_, ?_, ?_, ?_, ?_, ?_⟩ <;> refine cell_row hF ?_ <;> simp [Array.getElem?_setIfInBounds] <;> omega
    · rw [if_neg e]
      refine ⟨?_, ?_, ?_, ?_, ?_, ?_, ?_⟩
      · refine cell_row hF ((?_ : _ = cur[i * 7 + 0]?).trans (hrd 0 (by omega)))
        rw [Nat.zero_add]
        repeat rw [Array.getElem?_setIfInBounds_ne (by omega)]
        rfl
      · refine cell_row hF ((?_ : _ = cur[i * 7 + 1]?).trans (hrd 1 (by omega)))
        rw [Nat.zero_add]
        repeat rw [Array.getElem?_setIfInBounds_ne (by omega)]
      · refine cell_row hF ((?_ : _ = cur[i * 7 + 2]?).trans (hrd 2 (by omega)))
        rw [Nat.zero_add]
        repeat rw [Array.getElem?_setIfInBounds_ne (by omega)]
      · refine cell_row hF ((?_ : _ = cur[i * 7 + 3]?).trans (hrd 3 (by omega)))
        rw [Nat.zero_add]
        repeat rw [Array.getElem?_setIfInBounds_ne (by omega)]
      · refine cell_row hF ((?_ : _ = cur[i * 7 + 4]?).trans (hrd 4 (by omega)))
        rw [Nat.zero_add]
        repeat rw [Array.getElem?_setIfInBounds_ne (by omega)]
      · refine cell_row hF ((?_ : _ = cur[i * 7 + 5]?).trans (hrd 5 (by omega)))
        rw [Nat.zero_add]
        repeat rw [Array.getElem?_setIfInBounds_ne (by omega)]
      · refine cell_row hF ((?_ : _ = cur[i * 7 + 6]?).trans (hrd 6 (by omega)))
        rw [Nat.zero_add]
        repeat rw [Array.getElem?_setIfInBounds_ne (by omega)]
  · rw [List.getElem_set]
    split
    · exact rob hy
    · exact rob (h.each _ (List.getElem_mem _))
end Go.Proofs.YtmeeombadkgneaaGreat
namespace Go.Proofs.YtmeeombadkgneaaGreat
open Go.Proofs Go.RowKit Go.Shelf Go.Sort Go.Lib

attribute [local go_sem] Oper.semAt_some
set_option maxRecDepth 100000 in
set_option maxHeartbeats 4000000 in
theorem set9_any (l : List EA) (y : EA) (A : Option Addr) (cap : Nat) (w : World) (hL : LiesM w A l) (hy : LiesE w y) (hl : l.length ≤ 60) :
    Calls Tryz.prog 9 #[.slice A l.length cap, ev y] w fun e w' => (((validM l && validE y) = false ∧ e = .returned (.tuple #[.slice none 0 0, .int .i64 3])) ∨ ((validM l && validE y) = true ∧ ∃ A' c zs, e = .returned (.tuple #[.slice A' (List.length zs) c, .int .i64 0]) ∧ zs.map keyE = (setR l y).map keyE ∧ LiesM w' A' zs)) ∧ RowKit.Below w.heap.size w w' := by
  obtain ⟨i0, hi, hz0, hz1, hz2⟩ := info_parts info29c
  have I0 := Lib.hid hi
  have Z0 := Lib.hid hz0
  have Z1 := Lib.hid hz1
  have Z2 := Lib.hid hz2
  clear hi hz0 hz1 hz2
  obtain ⟨W0, hW⟩ : ∃ W0, w.alloc (boxE y 29) = W0 := ⟨_, rfl⟩
  have hB0 : RowKit.Below w.heap.size w W0 := by rw [← hW]; exact (RowKit.Below.refl _ _).alloc (Nat.le_refl _) _
  have HS0 := Lib.hid (show SevenE W0 w.heap.size 0 y by rw [← hW]; exact sevenE_new w y 29)
  have HSZ := Lib.hid (show W0.heap.size = w.heap.size + 1 by rw [← hW]; simp)
  have HL := Lib.hid (hL.later hB0)
  have HY := Lib.hid (hy.later hB0)
  have HB0 := Lib.hid hB0
  have HW := Lib.hid hW
  have hm := hmf
  clear hL hy hB0 hW
  cases hv1 : validM l
  case false =>
    have Hv := Lib.hid hv1
    clear hv1
    go_enter Tryz.func9, Tryz.ntmps9
    go_upto_region 1 with fail
    rw [HW.out]
    go_wp2_with fail
    refine (validM_any l A cap _ HL.out).mono ?_
    rintro e w1 ⟨rfl, b1⟩
    rw [Hv.out]
    have B1 := Lib.hid (HB0.out.trans (b1.mono HB0.out.size))
    clear b1
    go_wp2_with fail
    go_ret2
    exact ⟨.inl ⟨rfl, rfl⟩, B1.out⟩
  case true =>
  have Hv := Lib.hid hv1
  clear hv1
  cases hv2 : validE y
  case false =>
    have Hv2 := Lib.hid hv2
    clear hv2
    go_enter Tryz.func9, Tryz.ntmps9
    go_upto_region 1 with fail
    rw [HW.out]
    go_wp2_with fail
    refine (validM_any l A cap _ HL.out).mono ?_
    rintro e w1 ⟨rfl, b1⟩
    rw [Hv.out]
    obtain ⟨s0, s1, s2, s3, s4, s5, s6⟩ := HS0.out.later b1
    simp only [Nat.zero_add] at s0 s1 s2 s3 s4 s5 s6
    have B1 := Lib.hid b1
    clear b1
    go_wp2_with fail
    refine (validE_any y _ (HY.out.later B1.out)).mono ?_
    rintro e w2 ⟨rfl, b2⟩
    rw [Hv2.out]
    have B2 := Lib.hid (B1.out.trans (b2.mono B1.out.size))
    clear b2 B1
    go_wp2_with fail
    go_ret2
    exact ⟨.inl ⟨rfl, rfl⟩, HB0.out.trans (B2.out.mono HB0.out.size)⟩
  case true =>
  have HT := Lib.hid (show ∀ x ∈ l, TameE x from fun x hx => tameE_of (((validM_iff l).1 Hv.out).2.1 x hx))
  have HTY := Lib.hid (tameE_of hv2)
  have Hv2 := Lib.hid hv2
  clear hv2
  go_enter Tryz.func9, Tryz.ntmps9
  go_upto_region 1 with fail
  rw [HW.out]
  go_wp2_with fail
  refine (validM_any l A cap _ HL.out).mono ?_
  rintro e w1 ⟨rfl, b1⟩
  rw [Hv.out]
  obtain ⟨s0, s1, s2, s3, s4, s5, s6⟩ := HS0.out.later b1
  simp only [Nat.zero_add] at s0 s1 s2 s3 s4 s5 s6
  have B1 := Lib.hid b1
  clear b1
  go_wp2_with fail
  refine (validE_any y _ (HY.out.later B1.out)).mono ?_
  rintro e w2 ⟨rfl, b2⟩
  rw [Hv2.out]
  have B2 := Lib.hid (B1.out.trans (b2.mono B1.out.size))
  clear b2 B1
  go_wp2_with fail
  refine (index_any l y w.heap.size A cap _ (HL.out.later B2.out) (HY.out.later B2.out) (HS0.out.later B2.out) (by omega)).mono ?_
  rintro e w3 ⟨⟨r, rfl, hr⟩, b3⟩
  have B3 := Lib.hid (B2.out.trans (b3.mono B2.out.size))
  clear b3 B2 s0 s1 s2 s3 s4 s5 s6
  have hML : l.length ≤ maxLen := by unfold maxLen; omega
  have HML := Lib.hid hML
  have HS3 := Lib.hid (HS0.out.later B3.out)
  have hs3 := B3.out.size
  rcases hr with ⟨k, hk, rfl, hp, _⟩ | ⟨rfl, hno⟩
  · have HR := Lib.hid (setR_at Hv.out hk hp)
    have d1 : decide ((k : Int) < 0) = false := decide_eq_false (by omega)
    clear hp hML
    go_wp2_with fail
    refine (copyM_any l A cap _ (HL.out.later B3.out) (by omega) HT.out).mono ?_
    rintro e w4 ⟨xs, rfl, hlen, hkeys, cur, hM⟩
    have HM := Lib.hid hM
    have HK := Lib.hid hkeys
    have HN := Lib.hid hlen
    have b4 := hM.below
    have hs4 := b4.size
    obtain ⟨s0, s1, s2, s3', s4, s5, s6⟩ := HS3.out.later b4
    simp only [Nat.zero_add] at s0 s1 s2 s3' s4 s5 s6
    have L4 := Lib.hid (HY.out.later (B3.out.trans (b4.mono B3.out.size)))
    clear hM hkeys hlen b4
    go_wp2_with fail
    refine (copyE_any y _ L4.out HTY.out).mono ?_
    rintro e w5 ⟨z, rfl, hz, hrob, b5⟩
    have HM5 := Lib.hid (HM.out.later b5)
    have hrz := (Array.getElem?_eq_some_iff.1 HM.out.row).1
    have hrob5 : RobE (w3.heap.size + 1) w5 z := hrob.less (by omega)
    have HP := Lib.hid (HM5.out.put HN.out HML.out hk hrob5)
    have HBF := Lib.hid (below_putE HM5.out.below (Nat.le_refl _) (k * 7) (.string z.nm) (.slice z.A z.args.length z.c) (.int .i64 z.val.v.so) (.int .i64 z.val.v.nu) (.slice z.val.a1 z.val.v.st.length z.val.c1) (.slice z.val.a2 z.val.v.ix.length z.val.c2) (.slice z.val.a3 z.val.v.xs.length z.val.c3))
    have HZ := Lib.hid hz
    have hcs := HM5.out.size
    have hrow := HM5.out.row
    obtain ⟨y0, hy0⟩ : ∃ y, cur[k * 7]? = some y := ⟨_, Array.getElem?_eq_getElem (by omega)⟩
    have z0 := cell_row hrow hy0
    have f0 := frozen_of_row w5 w3.heap.size (k * 7) _ _ hrow
    obtain ⟨y1, hy1⟩ : ∃ y, cur[k * 7 + 1]? = some y := ⟨_, Array.getElem?_eq_getElem (by omega)⟩
    have z1 := cell_row hrow hy1
    have f1 := frozen_of_row w5 w3.heap.size (k * 7 + 1) _ _ hrow
    obtain ⟨y2, hy2⟩ : ∃ y, cur[k * 7 + 2]? = some y := ⟨_, Array.getElem?_eq_getElem (by omega)⟩
    have z2 := cell_row hrow hy2
    have f2 := frozen_of_row w5 w3.heap.size (k * 7 + 2) _ _ hrow
    obtain ⟨y3, hy3⟩ : ∃ y, cur[k * 7 + 3]? = some y := ⟨_, Array.getElem?_eq_getElem (by omega)⟩
    have z3 := cell_row hrow hy3
    have f3 := frozen_of_row w5 w3.heap.size (k * 7 + 3) _ _ hrow
    obtain ⟨y4, hy4⟩ : ∃ y, cur[k * 7 + 4]? = some y := ⟨_, Array.getElem?_eq_getElem (by omega)⟩
    have z4 := cell_row hrow hy4
    have f4 := frozen_of_row w5 w3.heap.size (k * 7 + 4) _ _ hrow
    obtain ⟨y5, hy5⟩ : ∃ y, cur[k * 7 + 5]? = some y := ⟨_, Array.getElem?_eq_getElem (by omega)⟩
    have z5 := cell_row hrow hy5
    have f5 := frozen_of_row w5 w3.heap.size (k * 7 + 5) _ _ hrow
    obtain ⟨y6, hy6⟩ : ∃ y, cur[k * 7 + 6]? = some y := ⟨_, Array.getElem?_eq_getElem (by omega)⟩
    have z6 := cell_row hrow hy6
    have f6 := frozen_of_row w5 w3.heap.size (k * 7 + 6) _ _ hrow
    clear hrow hy0 hy1 hy2 hy3 hy4 hy5 hy6 hrob hrob5 hz b5 hrz s0 s1 s2 s3' s4 s5 s6 hcs
    go_wp2_with fail
    go_ret2
    refine ⟨.inr ⟨rfl, some ⟨w3.heap.size, 0, none⟩, l.length, xs.set k z, ?_, ?_, HP.out⟩, HB0.out.trans ((B3.out.trans (HBF.out.mono B3.out.size)).mono HB0.out.size)⟩
    · rw [List.length_set, HN.out]; rfl
    · rw [HR.out, List.map_set, List.map_set, HK.out, HZ.out]
  · have HR := Lib.hid (setR_new hno)
    have d2 : ((l.length : Int) == 2000) = false := by simp; omega
    clear hno hML
    go_wp2_with fail
    refine (copyM_any l A cap _ (HL.out.later B3.out) (by omega) HT.out).mono ?_
    rintro e w4 ⟨xs, rfl, hlen, hkeys, cur, hM⟩
    have HM := Lib.hid hM
    have HK := Lib.hid hkeys
    have HN := Lib.hid hlen
    have b4 := hM.below
    have hs4 := b4.size
    obtain ⟨s0, s1, s2, s3', s4, s5, s6⟩ := HS3.out.later b4
    simp only [Nat.zero_add] at s0 s1 s2 s3' s4 s5 s6
    have L4 := Lib.hid (HY.out.later (B3.out.trans (b4.mono B3.out.size)))
    clear hM hkeys hlen b4
    go_wp2_with fail
    refine (copyE_any y _ L4.out HTY.out).mono ?_
    rintro e w5 ⟨z, rfl, hz, hrob, b5⟩
    have HM5 := Lib.hid (HM.out.later b5)
    have hrz := (Array.getElem?_eq_some_iff.1 HM.out.row).1
    have HR5 := Lib.hid (show RobE (w3.heap.size + 1) w5 z from hrob.less (by omega))
    have HZ := Lib.hid hz
    have hs5 := b5.size
    have HOW := Lib.hid (fun O => ownsE_below (HM5.out.owns HN.out HML.out) (show RowKit.Below w5.heap.size w5 (w5.alloc O) from (RowKit.Below.refl _ _).alloc (Nat.le_refl _) _))
    have L5 := Lib.hid (show l.length + 1 ≤ maxLen by unfold maxLen; omega)
    have L6 := Lib.hid (show (l.length + 1) * 128 ≤ 140737488355328 by omega)
    have HLB := Lib.hid (fun O => show w3.heap.size ≤ (w5.alloc O).heap.size by rw [one_size]; omega)
    clear hrob hz b5 hrz s0 s1 s2 s3' s4 s5 s6
    go_wp2_with (at_builtin; refine wpList_append_own _ rfl _ _ 23 rfl w3.heap.size 29 i0 _ 7 128 Tryz.underlying23 I0.out Z0.out Z1.out Z2.out rfl (by decide) _ l.length (flatE xs) rfl (HOW.out _) ⟨w5.heap.size, 0, none⟩ 1 1 (cells7E z) rfl rfl (news7 _ _ _ rfl) (one7 z) L5.out L6.out (HLB.out _) ?_; intro v1 w6 hown1 hgrow1 _)
    have hl2 : (xs ++ [z]).length = l.length + 1 := by rw [List.length_append, HN.out]; rfl
    have hown2 : w6.ownsRow w3.heap.size 29 7 v1 (xs ++ [z]).length (flatE (xs ++ [z])) := by rw [hl2, flatE_snoc]; exact hown1
    have hsame : ∀ k, w3.heap.size + 1 ≤ k → k < w5.heap.size → w6.heap[k]? = w5.heap[k]? := fun k h1 h2 =>
      (hgrow1.block k (by rw [one_size]; omega) (fun e => by injection e with e; exact absurd (show k = w3.heap.size from e) (by omega))).trans (((RowKit.Below.refl w5.heap.size w5).alloc (Nat.le_refl _) _).block k h2)
    obtain ⟨A', c', hv', hlie⟩ := owns_lies hown2 (fun x hx => by
      rcases List.mem_append.1 hx with hx | hx
      · exact HM5.out.each x hx w6 hsame
      · simp at hx; subst hx; exact HR5.out w6 hsame) (by rw [hl2]; exact L5.out)
    subst hv'
    have hBn : RowKit.Below w3.heap.size w3 w6 := (HM5.out.below.alloc (by omega) _).grown hgrow1 (HLB.out _) (fun k e => by injection e with e; exact Nat.le_of_eq (show w3.heap.size = k from e))
    have HBn := Lib.hid hBn
    have HLIE := Lib.hid hlie
    have HL2 := Lib.hid hl2
    clear hown1 hown2 hgrow1 hsame hBn hlie hl2
    go_wp2_with fail
    go_ret2
    refine ⟨.inr ⟨rfl, A', c', xs ++ [z], rfl, ?_, HLIE.out⟩, HB0.out.trans ((B3.out.trans (HBn.out.mono B3.out.size)).mono HB0.out.size)⟩
    rw [HR.out, List.map_append, List.map_append, HK.out]
    simp only [List.map_cons, List.map_nil, HZ.out]
end Go.Proofs.YtmeeombadkgneaaGreat
namespace Go.Proofs.YtmeeombadkgneaaGreat
open Go.Proofs Go.RowKit Go.Shelf Go.Sort Go.Lib

attribute [local go_sem] Oper.semAt_some
theorem below_trans2 {a b c : World} (h : RowKit.Below a.heap.size a b) (k : RowKit.Below b.heap.size b c) : RowKit.Below a.heap.size a c := h.trans (k.mono h.size)
theorem place_key {x y : EA} (h : keyE x = keyE y) : placeB x y = true := by
  unfold keyE at h
  injection h with h1 h2
  injection h2 with h2 h3
  rw [← place_eq, beq_iff_eq]
  show lexI (lexI _ _) _ = 0
  rw [lexI_zero, lexI_zero, cmpS_zero, cmpI_zero, cmpVs_zero]
  exact ⟨⟨by rw [h1], by rw [h3]⟩, h2⟩
theorem same_key {x y : EA} (h : keyE x = keyE y) : sameB x.val.v y.val.v = true := by
  unfold keyE at h
  injection h with h1 h2
  injection h2 with h2 h3
  exact (sameB_iff _ _).2 h3
set_option maxRecDepth 100000 in
set_option maxHeartbeats 4000000 in
theorem models_any (l m : List EA) (A B : Option Addr) (ca cb : Nat) (w : World) (hl : LiesM w A l) (hm : LiesM w B m) (hk : l.map keyE = m.map keyE) :
    Calls Tryz.prog 19 #[.slice A l.length ca, .slice B m.length cb] w fun e w' => e = .returned (.bool true) ∧ RowKit.Below w.heap.size w w' := by
  have hn := hl.len
  unfold maxLen at hn
  have HS := Lib.hid hl
  have HM := Lib.hid hm
  have hlen : l.length = m.length := by have := congrArg List.length hk; simpa using this
  have hd : ((l.length : Int) != (m.length : Int)) = false := by simp; omega
  have HLEN := Lib.hid hlen
  have HK := Lib.hid hk
  clear hl hm hlen hk
  go_enter Tryz.func19, Tryz.ntmps19
  go_wp2_with fail
  go_loopw [13] (fun i wr => ∃ k : Nat, k ≤ l.length ∧ i = .int .i64 k ∧ Hid (RowKit.Below w.heap.size w wr)) (fun i _ => l.length - (intOf i).toNat)
  case atStart => exact ⟨0, Nat.zero_le _, rfl, RowKit.Below.refl _ _⟩
  case round =>
    obtain ⟨k, hk, rfl, hB⟩ := hrel
    by_cases hlt : k < l.length
    · have hlm : k < m.length := by have := HLEN.out; omega
      have h1 := HS.out.later hB.out
      have h2 := HM.out.later hB.out
      obtain ⟨b, o, ha, hc⟩ := h1.at_
      have ha := ha (by omega)
      obtain ⟨b2, o2, ha2, hc2⟩ := h2.at_
      have ha2 := ha2 (by omega)
      have X := hc k hlt
      have Y := hc2 k hlm
      have LX := Lib.hid (h1.each k hlt)
      have LY := Lib.hid (h2.each k hlm)
      have hke : keyE l[k] = keyE m[k] := by
        have h3 : (l.map keyE)[k]? = (m.map keyE)[k]? := by rw [HK.out]
        simpa [hlt, hlm] using h3
      have Hp := Lib.hid (place_key hke)
      have Hz := Lib.hid (same_key hke)
      generalize l[k] = x at *
      generalize m[k] = y at *
      clear hc hc2 HS HM HK hke h1 h2
      rw [ha] at *
      rw [ha2] at *
      have K6 := Lib.hid (fun W (h : RowKit.Below wr.heap.size wr W) => (show (fun W => RowKit.Below wr.heap.size wr W ∧ W.cell? ⟨b, o + k * 7, none⟩ = some (.string x.nm) ∧ W.cell? ⟨b, o + k * 7 + 1, none⟩ = some (.slice x.A x.args.length x.c) ∧ W.cell? ⟨b, o + k * 7 + 2, none⟩ = some (.int .i64 x.val.v.so) ∧ W.cell? ⟨b, o + k * 7 + 3, none⟩ = some (.int .i64 x.val.v.nu) ∧ W.cell? ⟨b, o + k * 7 + 4, none⟩ = some (.slice x.val.a1 x.val.v.st.length x.val.c1) ∧ W.cell? ⟨b, o + k * 7 + 5, none⟩ = some (.slice x.val.a2 x.val.v.ix.length x.val.c2) ∧ W.cell? ⟨b, o + k * 7 + 6, none⟩ = some (.slice x.val.a3 x.val.v.xs.length x.val.c3) ∧ W.cell? ⟨b2, o2 + k * 7, none⟩ = some (.string y.nm) ∧ W.cell? ⟨b2, o2 + k * 7 + 1, none⟩ = some (.slice y.A y.args.length y.c) ∧ W.cell? ⟨b2, o2 + k * 7 + 2, none⟩ = some (.int .i64 y.val.v.so) ∧ W.cell? ⟨b2, o2 + k * 7 + 3, none⟩ = some (.int .i64 y.val.v.nu) ∧ W.cell? ⟨b2, o2 + k * 7 + 4, none⟩ = some (.slice y.val.a1 y.val.v.st.length y.val.c1) ∧ W.cell? ⟨b2, o2 + k * 7 + 5, none⟩ = some (.slice y.val.a2 y.val.v.ix.length y.val.c2) ∧ W.cell? ⟨b2, o2 + k * 7 + 6, none⟩ = some (.slice y.val.a3 y.val.v.xs.length y.val.c3)) W from ⟨h, (X.later h).c0, (X.later h).c1, (X.later h).c2, (X.later h).c3, (X.later h).c4, (X.later h).c5, (X.later h).c6, (Y.later h).c0, (Y.later h).c1, (Y.later h).c2, (Y.later h).c3, (Y.later h).c4, (Y.later h).c5, (Y.later h).c6⟩))
      have KP := Lib.hid (fun W (h : RowKit.Below wr.heap.size wr W) => (show Calls Tryz.prog 38 #[ev x, ev y] W fun e w' => e = .returned (.bool true) ∧ RowKit.Below W.heap.size W w' from (place_any x y W (LX.out.later h) (LY.out.later h)).mono fun e w' ⟨h1, h2⟩ => ⟨by rw [h1, Hp.out], h2⟩))
      have KS := Lib.hid (fun W (h : RowKit.Below wr.heap.size wr W) => (show Calls Tryz.prog 13 #[vv x.val, vv y.val] W fun e w' => e = .returned (.bool true) ∧ RowKit.Below W.heap.size W w' from (refSame_any x.val y.val W (LX.out.later h).val (LY.out.later h).val).mono fun e w' ⟨h1, h2⟩ => ⟨by rw [h1, Hz.out], h2⟩))
      clear X Y LX LY Hp Hz
      go_wp2_with fail
      go_region_held3 (fun W => RowKit.Below wr.heap.size wr W ∧ W.cell? ⟨b, o + k * 7, none⟩ = some (.string x.nm) ∧ W.cell? ⟨b, o + k * 7 + 1, none⟩ = some (.slice x.A x.args.length x.c) ∧ W.cell? ⟨b, o + k * 7 + 2, none⟩ = some (.int .i64 x.val.v.so) ∧ W.cell? ⟨b, o + k * 7 + 3, none⟩ = some (.int .i64 x.val.v.nu) ∧ W.cell? ⟨b, o + k * 7 + 4, none⟩ = some (.slice x.val.a1 x.val.v.st.length x.val.c1) ∧ W.cell? ⟨b, o + k * 7 + 5, none⟩ = some (.slice x.val.a2 x.val.v.ix.length x.val.c2) ∧ W.cell? ⟨b, o + k * 7 + 6, none⟩ = some (.slice x.val.a3 x.val.v.xs.length x.val.c3) ∧ W.cell? ⟨b2, o2 + k * 7, none⟩ = some (.string y.nm) ∧ W.cell? ⟨b2, o2 + k * 7 + 1, none⟩ = some (.slice y.A y.args.length y.c) ∧ W.cell? ⟨b2, o2 + k * 7 + 2, none⟩ = some (.int .i64 y.val.v.so) ∧ W.cell? ⟨b2, o2 + k * 7 + 3, none⟩ = some (.int .i64 y.val.v.nu) ∧ W.cell? ⟨b2, o2 + k * 7 + 4, none⟩ = some (.slice y.val.a1 y.val.v.st.length y.val.c1) ∧ W.cell? ⟨b2, o2 + k * 7 + 5, none⟩ = some (.slice y.val.a2 y.val.v.ix.length y.val.c2) ∧ W.cell? ⟨b2, o2 + k * 7 + 6, none⟩ = some (.slice y.val.a3 y.val.v.xs.length y.val.c3))
        ((go_split_ands; refine K6.out _ ?_; first | exact (RowKit.Below.refl _ _).drew | (exact below_trans2 (by assumption) (by assumption))))
        (first
          | (go_at_call 38; go_split_ands; refine (KP.out _ (by assumption)).mono ?_; rintro e w4 ⟨rfl, b4⟩)
          | (go_at_call 13; go_split_ands; have q4 := b4; refine (KS.out _ (by assumption)).mono ?_; rintro e w5 ⟨rfl, b5⟩))
      all_goals
        go_split_ands
        have hfin : RowKit.Below wr.heap.size wr w5 := by assumption
        have B5 := Lib.hid (hB.out.trans (hfin.mono hB.out.size))
        clear hfin
        go_wp2_with fail
        go_roundw
        case rel => exact ⟨k + 1, by omega, by go_num, B5.out⟩
        case measure => simp [intOf]; omega
    · clear HS HM HK
      go_wp2_with fail
      go_ret
      exact ⟨rfl, hB.out⟩
end Go.Proofs.YtmeeombadkgneaaGreat
namespace Go.Proofs.YtmeeombadkgneaaGreat
open Go.Proofs Go.RowKit Go.Shelf Go.Sort Go.Lib

attribute [local go_sem] Oper.semAt_some
def hitE (l : List EA) (y : EA) (i : Nat) : Bool := match l[i]? with | some x => cmpE x y == 0 | none => false
theorem hitE_in {l : List EA} {y : EA} {i : Nat} (h : i < l.length) : hitE l y i = (cmpE l[i] y == 0) := by unfold hitE; rw [List.getElem?_eq_getElem h]
theorem hitE_out {l : List EA} {y : EA} {i : Nat} (h : l.length ≤ i) : hitE l y i = false := by unfold hitE; rw [List.getElem?_eq_none h]
theorem asc_mono {l : List EA} {y : EA} (h : Asc l) : ∀ i j (hi : i < l.length) (hj : j < l.length), i ≤ j → cmpE l[j] y < 0 → cmpE l[i] y < 0 := by
  intro i j hi hj hij hlt
  by_cases e : i = j
  · subst e; exact hlt
  · have h1 := List.pairwise_iff_getElem.1 h i j hi hj (by omega)
    obtain ⟨a, b⟩ := laws_E.tri l[i] l[j] y (by omega) (by omega)
    omega
set_option maxRecDepth 100000 in
set_option maxHeartbeats 4000000 in
theorem searchE_any (l : List EA) (y : EA) (A : Option Addr) (cap : Nat) (w : World) (hL : LiesM w A l) (hY : LiesE w y) (hl : l.length ≤ 2000) (ha : Asc l) :
    Calls Tryz.prog 144 #[.slice A l.length cap, ev y, .func (.func 34) #[] #[]] w fun e w' => (∃ i : Nat, i ≤ l.length ∧ e = .returned (.tuple #[.int .i64 i, .bool (hitE l y i)]) ∧ (∀ t (_ : t < l.length), t < i → cmpE l[t] y < 0) ∧ (∀ t (_ : t < l.length), i ≤ t → 0 ≤ cmpE l[t] y)) ∧ RowKit.Below w.heap.size w w' := by
  obtain ⟨W, hW⟩ : ∃ W, w.alloc (boxE y 29) = W := ⟨_, rfl⟩
  have HB : RowKit.Below w.heap.size w W := by rw [← hW]; exact (RowKit.Below.refl _ _).alloc (Nat.le_refl _) _
  have H7 := Lib.hid (show SevenE W w.heap.size 0 y by rw [← hW]; exact sevenE_new w y 29)
  have HL := Lib.hid (hL.later HB)
  have HY := Lib.hid (hY.later HB)
  have HBx := Lib.hid HB
  have HM := Lib.hid (asc_mono (y := y) ha)
  have HW := Lib.hid hW
  clear HB hL hY ha hW
  go_enter Tryz.func144, Tryz.ntmps144
  go_upto_region 1 with fail
  rw [HW.out]
  go_wp2_with fail
  go_loopw [9, 10] (fun i j wr => ∃ lo hi : Nat, i = .int .i64 lo ∧ j = .int .i64 hi ∧ lo ≤ hi ∧ hi ≤ l.length ∧ Hid (∀ t (_ : t < l.length), t < lo → cmpE l[t] y < 0) ∧ Hid (∀ t (_ : t < l.length), hi ≤ t → 0 ≤ cmpE l[t] y) ∧ Hid (RowKit.Below W.heap.size W wr)) (fun i j _ => (intOf j - intOf i).toNat)
  case atStart => exact ⟨0, l.length, rfl, rfl, Nat.zero_le _, Nat.le_refl _, Lib.hid (fun t _ h => by omega), Lib.hid (fun t h h' => by omega), RowKit.Below.refl _ _⟩
  case round =>
    obtain ⟨lo, hi, rfl, rfl, hlh, hin, I1, I2, hB⟩ := hrel
    have HLr := HL.out.later hB.out
    have Y := H7.out.later hB.out
    by_cases hlt : lo < hi
    · obtain ⟨m, hm0⟩ : ∃ m, m = (lo + hi) / 2 := ⟨_, rfl⟩
      have em : ((lo : Int) + (hi : Int)) / 2 = (m : Int) := by omega
      have hlm : lo ≤ m := by omega
      have hmh : m < hi := by omega
      have hm : m < l.length := by omega
      have Em := Lib.hid em
      clear hm0 em
      obtain ⟨b, o, ha, hc⟩ := HLr.at_
      have ha := ha (by omega)
      have X := hc m hm
      have HX := Lib.hid (HLr.each m hm)
      have HYr := Lib.hid (HY.out.later hB.out)
      have I3 := Lib.hid (fun h => fun t (ht : t < l.length) (htt : t < m + 1) => HM.out t m ht hm (by omega) h)
      have I4 := Lib.hid (fun (h : ¬ cmpE l[m] y < 0) => fun t (ht : t < l.length) (htt : m ≤ t) => Int.not_lt.1 fun h' => h (HM.out m t hm ht htt h'))
      have KC0 := fun W' (h : RowKit.Below wr.heap.size wr W') => compareE_any l[m] y W' (HX.out.later h) (HYr.out.later h)
      generalize l[m] = q at *
      generalize hx0 : cmpE q y = x at *
      clear HM HL HLr hc hx0
      rw [ha] at *
      have K6 := Lib.hid (fun W' (h : RowKit.Below wr.heap.size wr W') => (show (fun W' => RowKit.Below wr.heap.size wr W' ∧ W'.cell? ⟨b, o + m * 7, none⟩ = some (.string q.nm) ∧ W'.cell? ⟨b, o + m * 7 + 1, none⟩ = some (.slice q.A q.args.length q.c) ∧ W'.cell? ⟨b, o + m * 7 + 2, none⟩ = some (.int .i64 q.val.v.so) ∧ W'.cell? ⟨b, o + m * 7 + 3, none⟩ = some (.int .i64 q.val.v.nu) ∧ W'.cell? ⟨b, o + m * 7 + 4, none⟩ = some (.slice q.val.a1 q.val.v.st.length q.val.c1) ∧ W'.cell? ⟨b, o + m * 7 + 5, none⟩ = some (.slice q.val.a2 q.val.v.ix.length q.val.c2) ∧ W'.cell? ⟨b, o + m * 7 + 6, none⟩ = some (.slice q.val.a3 q.val.v.xs.length q.val.c3) ∧ W'.cell? ⟨w.heap.size, 0, none⟩ = some (.string y.nm) ∧ W'.cell? ⟨w.heap.size, 1, none⟩ = some (.slice y.A y.args.length y.c) ∧ W'.cell? ⟨w.heap.size, 2, none⟩ = some (.int .i64 y.val.v.so) ∧ W'.cell? ⟨w.heap.size, 3, none⟩ = some (.int .i64 y.val.v.nu) ∧ W'.cell? ⟨w.heap.size, 4, none⟩ = some (.slice y.val.a1 y.val.v.st.length y.val.c1) ∧ W'.cell? ⟨w.heap.size, 5, none⟩ = some (.slice y.val.a2 y.val.v.ix.length y.val.c2) ∧ W'.cell? ⟨w.heap.size, 6, none⟩ = some (.slice y.val.a3 y.val.v.xs.length y.val.c3)) W' from ⟨h, (X.later h).c0, (X.later h).c1, (X.later h).c2, (X.later h).c3, (X.later h).c4, (X.later h).c5, (X.later h).c6, by have := (Y.later h).c0; simpa only [Nat.zero_add] using this, by have := (Y.later h).c1; simpa only [Nat.zero_add] using this, by have := (Y.later h).c2; simpa only [Nat.zero_add] using this, by have := (Y.later h).c3; simpa only [Nat.zero_add] using this, by have := (Y.later h).c4; simpa only [Nat.zero_add] using this, by have := (Y.later h).c5; simpa only [Nat.zero_add] using this, by have := (Y.later h).c6; simpa only [Nat.zero_add] using this⟩))
      have KC := Lib.hid KC0
      clear KC0 X Y HX HYr
      by_cases hx : x < 0
      · have hx' : decide (x < 0) = true := decide_eq_true hx
        go_wp2_with fail
        rw [Em.out]
        go_region_held3 (fun W' => RowKit.Below wr.heap.size wr W' ∧ W'.cell? ⟨b, o + m * 7, none⟩ = some (.string q.nm) ∧ W'.cell? ⟨b, o + m * 7 + 1, none⟩ = some (.slice q.A q.args.length q.c) ∧ W'.cell? ⟨b, o + m * 7 + 2, none⟩ = some (.int .i64 q.val.v.so) ∧ W'.cell? ⟨b, o + m * 7 + 3, none⟩ = some (.int .i64 q.val.v.nu) ∧ W'.cell? ⟨b, o + m * 7 + 4, none⟩ = some (.slice q.val.a1 q.val.v.st.length q.val.c1) ∧ W'.cell? ⟨b, o + m * 7 + 5, none⟩ = some (.slice q.val.a2 q.val.v.ix.length q.val.c2) ∧ W'.cell? ⟨b, o + m * 7 + 6, none⟩ = some (.slice q.val.a3 q.val.v.xs.length q.val.c3) ∧ W'.cell? ⟨w.heap.size, 0, none⟩ = some (.string y.nm) ∧ W'.cell? ⟨w.heap.size, 1, none⟩ = some (.slice y.A y.args.length y.c) ∧ W'.cell? ⟨w.heap.size, 2, none⟩ = some (.int .i64 y.val.v.so) ∧ W'.cell? ⟨w.heap.size, 3, none⟩ = some (.int .i64 y.val.v.nu) ∧ W'.cell? ⟨w.heap.size, 4, none⟩ = some (.slice y.val.a1 y.val.v.st.length y.val.c1) ∧ W'.cell? ⟨w.heap.size, 5, none⟩ = some (.slice y.val.a2 y.val.v.ix.length y.val.c2) ∧ W'.cell? ⟨w.heap.size, 6, none⟩ = some (.slice y.val.a3 y.val.v.xs.length y.val.c3))
          ((go_split_ands; refine K6.out _ ?_; first | exact (RowKit.Below.refl _ _).drew | (exact below_trans2 (by assumption) (by assumption))))
          (first
            | (go_at_call 34; go_split_ands; refine (KC.out _ (by assumption)).mono ?_; rintro e w4 ⟨rfl, b4⟩))
        all_goals
          go_split_ands
          have hfin : RowKit.Below wr.heap.size wr w4 := by assumption
          have B5 := Lib.hid (hB.out.trans (hfin.mono hB.out.size))
          clear hfin
          go_wp2_with fail
          go_roundw
          case rel => exact ⟨m + 1, hi, by go_num, rfl, by omega, hin, I3.out hx, I2, B5.out⟩
          case measure => simp [intOf]; omega
      · have hx' : decide (x < 0) = false := decide_eq_false hx
        go_wp2_with fail
        rw [Em.out]
        go_region_held3 (fun W' => RowKit.Below wr.heap.size wr W' ∧ W'.cell? ⟨b, o + m * 7, none⟩ = some (.string q.nm) ∧ W'.cell? ⟨b, o + m * 7 + 1, none⟩ = some (.slice q.A q.args.length q.c) ∧ W'.cell? ⟨b, o + m * 7 + 2, none⟩ = some (.int .i64 q.val.v.so) ∧ W'.cell? ⟨b, o + m * 7 + 3, none⟩ = some (.int .i64 q.val.v.nu) ∧ W'.cell? ⟨b, o + m * 7 + 4, none⟩ = some (.slice q.val.a1 q.val.v.st.length q.val.c1) ∧ W'.cell? ⟨b, o + m * 7 + 5, none⟩ = some (.slice q.val.a2 q.val.v.ix.length q.val.c2) ∧ W'.cell? ⟨b, o + m * 7 + 6, none⟩ = some (.slice q.val.a3 q.val.v.xs.length q.val.c3) ∧ W'.cell? ⟨w.heap.size, 0, none⟩ = some (.string y.nm) ∧ W'.cell? ⟨w.heap.size, 1, none⟩ = some (.slice y.A y.args.length y.c) ∧ W'.cell? ⟨w.heap.size, 2, none⟩ = some (.int .i64 y.val.v.so) ∧ W'.cell? ⟨w.heap.size, 3, none⟩ = some (.int .i64 y.val.v.nu) ∧ W'.cell? ⟨w.heap.size, 4, none⟩ = some (.slice y.val.a1 y.val.v.st.length y.val.c1) ∧ W'.cell? ⟨w.heap.size, 5, none⟩ = some (.slice y.val.a2 y.val.v.ix.length y.val.c2) ∧ W'.cell? ⟨w.heap.size, 6, none⟩ = some (.slice y.val.a3 y.val.v.xs.length y.val.c3))
          ((go_split_ands; refine K6.out _ ?_; first | exact (RowKit.Below.refl _ _).drew | (exact below_trans2 (by assumption) (by assumption))))
          (first
            | (go_at_call 34; go_split_ands; refine (KC.out _ (by assumption)).mono ?_; rintro e w4 ⟨rfl, b4⟩))
        all_goals
          go_split_ands
          have hfin : RowKit.Below wr.heap.size wr w4 := by assumption
          have B5 := Lib.hid (hB.out.trans (hfin.mono hB.out.size))
          clear hfin
          go_wp2_with fail
          go_roundw
          case rel => exact ⟨lo, m, rfl, by go_num, by omega, by omega, I1, I4.out hx, B5.out⟩
          case measure => simp [intOf]; omega
    · obtain rfl : hi = lo := by omega
      by_cases hn : hi < l.length
      · have hh := Lib.hid (hitE_in (l := l) (y := y) hn)
        obtain ⟨b, o, ha, hc⟩ := HLr.at_
        have ha := ha (by omega)
        have X := hc hi hn
        have HX := Lib.hid (HLr.each hi hn)
        have HYr := Lib.hid (HY.out.later hB.out)
        have KC0 := fun W' (h : RowKit.Below wr.heap.size wr W') => compareE_any l[hi] y W' (HX.out.later h) (HYr.out.later h)
        generalize l[hi] = q at *
        generalize hx0 : cmpE q y = x at *
        clear HM HL HLr hc hx0
        rw [ha] at *
        have K6 := Lib.hid (fun W' (h : RowKit.Below wr.heap.size wr W') => (show (fun W' => RowKit.Below wr.heap.size wr W' ∧ W'.cell? ⟨b, o + hi * 7, none⟩ = some (.string q.nm) ∧ W'.cell? ⟨b, o + hi * 7 + 1, none⟩ = some (.slice q.A q.args.length q.c) ∧ W'.cell? ⟨b, o + hi * 7 + 2, none⟩ = some (.int .i64 q.val.v.so) ∧ W'.cell? ⟨b, o + hi * 7 + 3, none⟩ = some (.int .i64 q.val.v.nu) ∧ W'.cell? ⟨b, o + hi * 7 + 4, none⟩ = some (.slice q.val.a1 q.val.v.st.length q.val.c1) ∧ W'.cell? ⟨b, o + hi * 7 + 5, none⟩ = some (.slice q.val.a2 q.val.v.ix.length q.val.c2) ∧ W'.cell? ⟨b, o + hi * 7 + 6, none⟩ = some (.slice q.val.a3 q.val.v.xs.length q.val.c3) ∧ W'.cell? ⟨w.heap.size, 0, none⟩ = some (.string y.nm) ∧ W'.cell? ⟨w.heap.size, 1, none⟩ = some (.slice y.A y.args.length y.c) ∧ W'.cell? ⟨w.heap.size, 2, none⟩ = some (.int .i64 y.val.v.so) ∧ W'.cell? ⟨w.heap.size, 3, none⟩ = some (.int .i64 y.val.v.nu) ∧ W'.cell? ⟨w.heap.size, 4, none⟩ = some (.slice y.val.a1 y.val.v.st.length y.val.c1) ∧ W'.cell? ⟨w.heap.size, 5, none⟩ = some (.slice y.val.a2 y.val.v.ix.length y.val.c2) ∧ W'.cell? ⟨w.heap.size, 6, none⟩ = some (.slice y.val.a3 y.val.v.xs.length y.val.c3)) W' from ⟨h, (X.later h).c0, (X.later h).c1, (X.later h).c2, (X.later h).c3, (X.later h).c4, (X.later h).c5, (X.later h).c6, by have := (Y.later h).c0; simpa only [Nat.zero_add] using this, by have := (Y.later h).c1; simpa only [Nat.zero_add] using this, by have := (Y.later h).c2; simpa only [Nat.zero_add] using this, by have := (Y.later h).c3; simpa only [Nat.zero_add] using this, by have := (Y.later h).c4; simpa only [Nat.zero_add] using this, by have := (Y.later h).c5; simpa only [Nat.zero_add] using this, by have := (Y.later h).c6; simpa only [Nat.zero_add] using this⟩))
        have KC := Lib.hid KC0
        clear KC0 X Y HX HYr
        go_wp2_with fail
        go_region_held3 (fun W' => RowKit.Below wr.heap.size wr W' ∧ W'.cell? ⟨b, o + hi * 7, none⟩ = some (.string q.nm) ∧ W'.cell? ⟨b, o + hi * 7 + 1, none⟩ = some (.slice q.A q.args.length q.c) ∧ W'.cell? ⟨b, o + hi * 7 + 2, none⟩ = some (.int .i64 q.val.v.so) ∧ W'.cell? ⟨b, o + hi * 7 + 3, none⟩ = some (.int .i64 q.val.v.nu) ∧ W'.cell? ⟨b, o + hi * 7 + 4, none⟩ = some (.slice q.val.a1 q.val.v.st.length q.val.c1) ∧ W'.cell? ⟨b, o + hi * 7 + 5, none⟩ = some (.slice q.val.a2 q.val.v.ix.length q.val.c2) ∧ W'.cell? ⟨b, o + hi * 7 + 6, none⟩ = some (.slice q.val.a3 q.val.v.xs.length q.val.c3) ∧ W'.cell? ⟨w.heap.size, 0, none⟩ = some (.string y.nm) ∧ W'.cell? ⟨w.heap.size, 1, none⟩ = some (.slice y.A y.args.length y.c) ∧ W'.cell? ⟨w.heap.size, 2, none⟩ = some (.int .i64 y.val.v.so) ∧ W'.cell? ⟨w.heap.size, 3, none⟩ = some (.int .i64 y.val.v.nu) ∧ W'.cell? ⟨w.heap.size, 4, none⟩ = some (.slice y.val.a1 y.val.v.st.length y.val.c1) ∧ W'.cell? ⟨w.heap.size, 5, none⟩ = some (.slice y.val.a2 y.val.v.ix.length y.val.c2) ∧ W'.cell? ⟨w.heap.size, 6, none⟩ = some (.slice y.val.a3 y.val.v.xs.length y.val.c3))
          ((go_split_ands; refine K6.out _ ?_; first | exact (RowKit.Below.refl _ _).drew | (exact below_trans2 (by assumption) (by assumption))))
          (first
            | (go_at_call 34; go_split_ands; refine (KC.out _ (by assumption)).mono ?_; rintro e w4 ⟨rfl, b4⟩))
        all_goals
          go_split_ands
          have hfin : RowKit.Below wr.heap.size wr w4 := by assumption
          have B5 := Lib.hid (HBx.out.trans ((hB.out.trans (hfin.mono hB.out.size)).mono HBx.out.size))
          clear hfin
          go_wp2_with fail
          go_ret2
          exact ⟨⟨hi, hin, by rw [hh.out]; rfl, I1.out, I2.out⟩, B5.out⟩
      · have hh := Lib.hid (hitE_out (l := l) (y := y) (i := hi) (by omega))
        clear HM HL HLr Y
        go_wp2_with fail
        go_quiet (fail)
        have hB1 := Lib.hid (HBx.out.trans ((below_drewN hB.out nq).mono HBx.out.size))
        go_wp2_with fail
        go_ret2
        exact ⟨⟨hi, hin, by rw [hh.out]; rfl, I1.out, I2.out⟩, hB1.out⟩
end Go.Proofs.YtmeeombadkgneaaGreat
