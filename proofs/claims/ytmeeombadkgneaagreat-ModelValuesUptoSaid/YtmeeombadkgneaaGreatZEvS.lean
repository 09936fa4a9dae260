/-
  What store returns of an array, and apply of a Sto; conditions: the array's lists lie in memory, its indices are ascending.
  What apply returns of a Sto; conditions: the kids' values lie in memory, the first one is a valid array.
  What evaluate returns of a node, by induction on the node; conditions: the table lies in memory and is in order, the node is well sorted and has no Hole.
  What valueOf, Value and Truth return of a node in a model; conditions: the node and the model lie in memory.
-/
import Derived.StillTailTactics
import Derived.Test.YtmeeombadkgneaaGreatZEv19
import Derived.Test.YtmeeombadkgneaaGreatZEv4
import Derived.Test.YtmeeombadkgneaaGreatZEv10
import Derived.Test.YtmeeombadkgneaaGreatZVa36
namespace Go.Proofs.YtmeeombadkgneaaGreat
open Go.Proofs Go.RowKit Go.Shelf Go.Sort Go.Lib

attribute [local go_sem] Oper.semAt_some
theorem ints_take {w : World} {A : Option Addr} {l : List Int} (h : Ints w A l) (i : Nat) : Ints w A (l.take i) := by
  obtain ⟨b, o, ha, hc⟩ := h
  exact ⟨b, o, fun h0 => ha (by rw [List.length_take] at h0; omega), fun j hj => by rw [List.length_take] at hj; rw [List.getElem_take]; exact hc j (by omega)⟩
theorem ints_drop {w : World} {A : Option Addr} {l : List Int} (h : Ints w A l) {c i : Nat} (hc : l.length ≤ c) (hi : i ≤ l.length) : Ints w (if c = i then A else Option.map (fun x => x.add i) A) (l.drop i) := by
  obtain ⟨b, o, ha, hcl⟩ := h
  split
  · have : l.drop i = [] := List.drop_of_length_le (by omega)
    rw [this]
    exact ⟨0, 0, fun h => absurd h (by simp), fun i hi => absurd hi (by simp)⟩
  · refine ⟨b, o + i, fun h0 => ?_, fun j hj => ?_⟩
    · rw [List.length_drop] at h0
      rw [ha (by omega), Option.map_some, Addr.add_lit]
    · rw [List.length_drop] at hj
      rw [List.getElem_drop, Nat.add_assoc]
      exact hcl (i + j) (by omega)
/-- Concat of three lists whose headers have just been laid. -/
theorem concatAt (A1 A2 A3 : Option Addr) (l1 l2 l3 : List Int) (n1 n2 n3 c1 c2 c3 cap : Nat) (ty : TypeId) (e1 : l1.length = n1) (e2 : l2.length = n2) (e3 : l3.length = n3) (w : World)
    (i1 : Ints w A1 l1) (i2 : Ints w A2 l2) (i3 : Ints w A3 l3) (s1 : n1 ≤ 100000) (s2 : n2 ≤ 100000) (s3 : n3 ≤ 100000) :
    Calls Tryz.prog 146 #[.slice (some ⟨w.heap.size, 0, none⟩) 3 cap] (w.alloc (.cells #[.slice A1 n1 c1, .slice A2 n2 c2, .slice A3 n3 c3] ty)).drew fun e w' => ∃ A' c m, e = .returned (.slice A' m c) ∧ m = (l1 ++ (l2 ++ l3)).length ∧ RobI w.heap.size w' A' (l1 ++ (l2 ++ l3)) ∧ (l1 ++ (l2 ++ l3)).length ≤ c ∧ RowKit.Below w.heap.size w w' := by
  subst e1 e2 e3
  have hb : RowKit.Below w.heap.size w (w.alloc (.cells #[.slice A1 l1.length c1, .slice A2 l2.length c2, .slice A3 l3.length c3] ty)).drew := ((RowKit.Below.refl _ _).alloc (Nat.le_refl _) _).drew
  have hr : (w.alloc (.cells #[.slice A1 l1.length c1, .slice A2 l2.length c2, .slice A3 l3.length c3] ty)).drew.heap[w.heap.size]? = some (.cells #[.slice A1 l1.length c1, .slice A2 l2.length c2, .slice A3 l3.length c3] ty (0, 0)) := heap_alloc_new _ _
  refine (concat3_any A1 A2 A3 l1 l2 l3 c1 c2 c3 w.heap.size cap _ (cell_row hr (i := 0) rfl) (cell_row hr (i := 1) rfl) (cell_row hr (i := 2) rfl) (i1.later hb) (i2.later hb) (i3.later hb) s1 s2 s3).mono ?_
  rintro e w' ⟨A', c, h1, h2, h3, h4⟩
  exact ⟨A', c, _, h1, rfl, h2.less (by show w.heap.size ≤ (w.alloc _).heap.size; rw [one_size]; omega), h3, hb.trans (h4.mono hb.size)⟩
theorem RobI.on {n0 : Nat} {w w' : World} {A : Option Addr} {l : List Int} (h : RobI n0 w A l) (hb : RowKit.Below w.heap.size w w') : RobI n0 w' A l :=
  fun W hW => h W fun k h1 h2 => (hW k h1 (Nat.lt_of_lt_of_le h2 hb.size)).trans (hb.block k h2)
theorem RobI.set {n0 : Nat} {w : World} {A : Option Addr} {l : List Int} (h : RobI n0 w A l) {p : Addr} (hp : p.block < n0) (u : Value) : RobI n0 (w.setCell p u) A l :=
  fun W hW => h W fun k h1 h2 => (hW k h1 (by rw [set_size]; exact h2)).trans (heap_setCell_other _ _ _ _ (by omega))
theorem robI_one {w : World} {n : Int} {n0 : Nat} (h : w.heap[n0]? = some (.cells #[.int .i64 n] 2 (0, 0))) : RobI n0 w (some ⟨n0, 0, none⟩) [n] := by
  intro W hW
  refine ⟨n0, 0, fun _ => rfl, fun i hi => ?_⟩
  have hi0 : i = 0 := by simp at hi; exact hi
  subst hi0
  have h1 := (hW n0 (Nat.le_refl _) (Array.getElem?_eq_some_iff.1 h).1).trans h
  have h3 := cell_row h1 (i := 0) rfl
  simpa using h3
theorem robI_nil (n0 : Nat) (w : World) : RobI n0 w none [] := fun W _ => ⟨0, 0, fun h => absurd h (by simp), fun i hi => absurd hi (by simp)⟩
theorem drew_below (w : World) : RowKit.Below w.heap.size w w.drew := (RowKit.Below.refl _ _).drew
/-- What store returns. -/
def StoP (x : VA) (k n : Int) (w : World) (e : Ending) (w' : World) : Prop :=
  ∃ y : VA, e = .returned (vv y) ∧ y.v = stoV x.v k n ∧ (RobI w.heap.size w' y.a2 y.v.ix ∧ RobI w.heap.size w' y.a3 y.v.xs) ∧ (y.a1 = x.a1 ∧ y.c1 = x.c1 ∧ y.v.ix.length ≤ y.c2 ∧ y.v.xs.length ≤ y.c3) ∧ RowKit.Below w.heap.size w w'
set_option maxRecDepth 100000 in
set_option maxHeartbeats 2000000 in
theorem storeNo_any (x : VA) (k n : Int) (w : World) (hx : LiesV w x) (ha : AscI x.v.ix) (hlen : x.v.xs.length = x.v.ix.length) (l2 : x.v.ix.length ≤ 10000) (hc2 : x.v.ix.length ≤ x.c2) (hc3 : x.v.xs.length ≤ x.c3) (hm : ¬ k ∈ x.v.ix) (hn : n ≠ 0) :
    Calls Tryz.prog 122 #[vv x, .int .i64 k, .int .i64 n] w (StoP x k n w) := by
  obtain ⟨W, hW⟩ : ∃ W, (w.alloc (boxV x 63)).alloc (.cells #[.int .i64 0, .int .i64 0, .slice none 0 0, .slice none 0 0, .slice none 0 0] 63) = W := ⟨_, rfl⟩
  have HB := Lib.hid (show RowKit.Below w.heap.size w W by rw [← hW]; exact ((RowKit.Below.refl _ _).alloc (Nat.le_refl _) _).alloc (by rw [one_size]; omega) _)
  have HP := Lib.hid (show W.heap[w.heap.size]? = some (boxV x 63) by rw [← hW]; exact two_fst _ _ _)
  have HQ := Lib.hid (show W.heap[w.heap.size + 1]? = some (.cells #[.int .i64 0, .int .i64 0, .slice none 0 0, .slice none 0 0, .slice none 0 0] 63) by rw [← hW]; exact two_snd _ _ _)
  have HSZ := Lib.hid (show W.heap.size = w.heap.size + 2 by rw [← hW]; exact two_size _ _ _)
  have HX := Lib.hid (fun (W' : World) (h : RowKit.Below w.heap.size w W') => hx.later h)
  have hd := Lib.hid (decide_eq_false hm)
  have hn' : (n == 0) = false := by simp [hn]
  have HW := Lib.hid hW
  have HS := Lib.hid (searchI_any x.v.ix k x.a2 x.c2 W (hx.later HB.out).ix l2 ha)

  have HST : Hid (∀ (l : List Int) (e : Int), stoI x.v.ix l k n e = l.take (plI x.v.ix k) ++ ([e] ++ l.drop (plI x.v.ix k))) := fun l e => by unfold stoI restI; rw [if_neg hn, if_neg hm]
  have hpl : plI x.v.ix k ≤ x.v.ix.length := plI_le _ _
  have hpr : plI x.v.ix k ≤ x.v.ix.length := hpl
  generalize plI x.v.ix k = i at *
  have hl3 : x.v.xs.length ≤ 10000 := by omega
  have hi0 : (0 : Int) ≤ (i : Int) := by omega
  have hi1 : (i : Int) ≤ (x.c2 : Int) := by omega
  have hi2 : (i : Int) ≤ (x.c3 : Int) := by omega
  have hi3 : (i : Int) ≤ (x.v.ix.length : Int) := by omega
  have hi4 : (i : Int) ≤ (x.v.xs.length : Int) := by omega
  have hk2 : (x.v.ix.length : Int) ≤ (x.c2 : Int) := by omega
  have hk3 : (x.v.xs.length : Int) ≤ (x.c3 : Int) := by omega
  have HLEN := Lib.hid hlen
  clear hW hx ha hm hlen
  obtain ⟨z0, z1, z2, z3, z4, f0, f1, f2, f3, f4⟩ := boxT_facts HP.out
  go_enter Tryz.func122, Tryz.ntmps122
  go_upto_region 1 with fail
  rw [HW.out]
  go_wp2_with fail
  refine HS.out.mono ?_
  rintro e w1 ⟨rfl, rfl⟩
  rw [hd.out]
  go_wp2_with fail
  obtain ⟨W2, hW2⟩ : ∃ W2, (W.alloc (.cells #[.int .i64 k] 2)).alloc (.cells #[.int .i64 n] 2) = W2 := ⟨_, rfl⟩
  have b2 : RowKit.Below W.heap.size W W2 := by rw [← hW2]; exact ((RowKit.Below.refl _ _).alloc (Nat.le_refl _) _).alloc (by rw [one_size]; omega) _
  have hs2 : W2.heap.size = W.heap.size + 2 := by rw [← hW2]; exact two_size _ _ _
  have N1 := Lib.hid (show RobI W.heap.size W2 (some ⟨W.heap.size, 0, none⟩) [k] from robI_one (by rw [← hW2]; exact two_fst _ _ _))
  have N2 := Lib.hid (show RobI W.heap.size W2 (some ⟨W.heap.size + 1, 0, none⟩) [n] from (robI_one (by rw [← hW2]; exact two_snd _ _ _)).less (by omega))
  rw [hW2]
  have hP2 := (b2.block _ (Array.getElem?_eq_some_iff.1 HP.out).1).trans HP.out
  have hQ2 := (b2.block _ (Array.getElem?_eq_some_iff.1 HQ.out).1).trans HQ.out
  have HB2 := Lib.hid (HB.out.trans (b2.mono HB.out.size))
  have HS2 := Lib.hid hs2
  have HPS := Lib.hid (show w.heap.size < W.heap.size by have := HSZ.out; omega)
  clear z0 z1 z2 z3 z4 f0 f1 f2 f3 f4 hW2 b2 HW HS hs2
  obtain ⟨z0, z1, z2, z3, z4, f0, f1, f2, f3, f4⟩ := boxT_facts hP2
  have KP := Lib.hid (fun (W' : World) (h : RowKit.Below W2.heap.size W2 W') => (h.block _ (Array.getElem?_eq_some_iff.1 hP2).1).trans hP2)
  have KQ := Lib.hid (fun (W' : World) (h : RowKit.Below W2.heap.size W2 W') => (h.block _ (Array.getElem?_eq_some_iff.1 hQ2).1).trans hQ2)
  have HXD := Lib.hid (HX.out W2 HB2.out)
  obtain ⟨A3, hA3⟩ : ∃ A, (if x.c2 = i then x.a2 else Option.map (fun y => y.add i) x.a2) = A := ⟨_, rfl⟩
  have H3 := Lib.hid (show Ints W2 A3 (x.v.ix.drop i) by rw [← hA3]; exact ints_drop HXD.out.ix hc2 hpr)
  clear hP2 hQ2
  go_still_tail 9, (by kernel_rfl)
  clear hA3
  change wpList _ _ _ _ _ W2.drew
  go_wp2_with fail
  refine (concatAt x.a2 (some ⟨W.heap.size, 0, none⟩) A3 (x.v.ix.take i) [k] (x.v.ix.drop i) i 1 (x.v.ix.length - i) x.c2 1 (x.c2 - i) 3 25 (by rw [List.length_take]; omega) rfl (by rw [List.length_drop]) W2 (ints_take HXD.out.ix i) N1.out.here H3.out (by omega) (by omega) (by omega)).mono ?_
  rintro e w4 ⟨A', c', m2, rfl, hm2, hr, hc, b4⟩
  have HM2 := Lib.hid hm2
  clear hm2
  have HR := Lib.hid hr
  have HCC := Lib.hid hc
  have g4 := b4
  have hP4 := KP.out _ g4
  have hQ4 := KQ.out _ g4
  have HG4 := Lib.hid g4
  have HP5 := Lib.hid (heap_setCell_same w4 w.heap.size 3 _ _ (.slice A' m2 c') hP4)
  have HQ5 := Lib.hid ((set_other w4 w.heap.size 3 (.slice A' m2 c') (by omega : w.heap.size + 1 ≠ w.heap.size)).trans hQ4)
  have HB5 := Lib.hid (show RowKit.Below w.heap.size w (w4.setCell ⟨w.heap.size, 3, none⟩ (.slice A' m2 c')) from (HB2.out.trans (g4.mono HB2.out.size)).setCell (Nat.le_refl _) _)
  have HR5 := Lib.hid (HR.out.set (p := ⟨w.heap.size, 3, none⟩) (show w.heap.size < W2.heap.size by have h1 := HS2.out; have h2 := HPS.out; omega) (.slice A' m2 c'))
  have HN5 := Lib.hid ((N2.out.on g4).set (p := ⟨w.heap.size, 3, none⟩) HPS.out (.slice A' m2 c'))
  have HSZ5 := Lib.hid (show W2.heap.size ≤ (w4.setCell ⟨w.heap.size, 3, none⟩ (.slice A' m2 c')).heap.size by rw [set_size]; exact g4.size)
  clear z0 z1 z2 z3 z4 f0 f1 f2 f3 f4 hQ4 g4 hr hc b4 KP KQ HXD N1 N2 HR HG4 H3
  obtain ⟨z0, z1, z2, z3, z4, f0, f1, f2, f3, f4⟩ := boxT_facts hP4
  clear hP4
  go_wp2_with fail
  generalize w4.setCell ⟨w.heap.size, 3, none⟩ (.slice A' m2 c') = W5 at *
  clear z0 z1 z2 z3 z4 f0 f1 f2 f3 f4
  have hP5 := HP5.out
  obtain ⟨z0, z1, z2, z3, z4, f0, f1, f2, f3, f4⟩ := boxT_facts hP5
  have KP := Lib.hid (fun (W' : World) (h : RowKit.Below W5.heap.size W5 W') => (h.block _ (Array.getElem?_eq_some_iff.1 HP5.out).1).trans HP5.out)
  have KQ := Lib.hid (fun (W' : World) (h : RowKit.Below W5.heap.size W5 W') => (h.block _ (Array.getElem?_eq_some_iff.1 HQ5.out).1).trans HQ5.out)
  have HXD := Lib.hid (HX.out W5 HB5.out)
  obtain ⟨A4, hA4⟩ : ∃ A, (if x.c3 = i then x.a3 else Option.map (fun y => y.add i) x.a3) = A := ⟨_, rfl⟩
  have H4 := Lib.hid (show Ints W5 A4 (x.v.xs.drop i) by rw [← hA4]; exact ints_drop HXD.out.xs hc3 (by have := HLEN.out; omega))
  clear hP5
  go_still_tail 9, (by kernel_rfl)
  clear hA4
  change wpList _ _ _ _ _ W5.drew
  go_wp2_with fail
  refine (concatAt x.a3 (some ⟨W.heap.size + 1, 0, none⟩) A4 (x.v.xs.take i) [n] (x.v.xs.drop i) i 1 (x.v.xs.length - i) x.c3 1 (x.c3 - i) 3 25 (by rw [List.length_take]; omega) rfl (by rw [List.length_drop]) W5 (ints_take HXD.out.xs i) HN5.out.here H4.out (by omega) (by omega) (by omega)).mono ?_
  rintro e w6 ⟨A'', c'', m3, rfl, hm3, hr, hc, b6⟩
  have HM3 := Lib.hid hm3
  clear hm3
  have HR7 := Lib.hid hr
  have HCC2 := Lib.hid hc
  have g6 := b6
  have hP6 := KP.out _ g6
  have hQ6 := KQ.out _ g6
  have HA6 := Lib.hid (HR5.out.on b6)
  have HP7 := Lib.hid (heap_setCell_same w6 w.heap.size 4 _ _ (.slice A'' m3 c'') hP6)
  have hQ7 := (set_other w6 w.heap.size 4 (.slice A'' m3 c'') (by omega : w.heap.size + 1 ≠ w.heap.size)).trans hQ6
  have HB7 := Lib.hid (show RowKit.Below w.heap.size w (w6.setCell ⟨w.heap.size, 4, none⟩ (.slice A'' m3 c'')) from (HB5.out.trans (g6.mono HB5.out.size)).setCell (Nat.le_refl _) _)
  have HF := Lib.hid (setT_same (.int .i64 x.v.so) (.int .i64 x.v.nu) (.slice x.a1 x.v.st.length x.c1) (.slice A' m2 c') (.slice A'' m3 c'') hQ7)
  have HBF := Lib.hid (Below.set5 HB7.out (b := w.heap.size + 1) (by omega) (.int .i64 x.v.so) (.int .i64 x.v.nu) (.slice x.a1 x.v.st.length x.c1) (.slice A' m2 c') (.slice A'' m3 c''))
  have hrob : ∀ {A : Option Addr} {l : List Int} {m : Nat}, W2.heap.size ≤ m → RobI m w6 A l → RobI w.heap.size (set5 (w6.setCell ⟨w.heap.size, 4, none⟩ (.slice A'' m3 c'')) (w.heap.size + 1) (.int .i64 x.v.so) (.int .i64 x.v.nu) (.slice x.a1 x.v.st.length x.c1) (.slice A' m2 c') (.slice A'' m3 c'')) A l := fun {A l m} hm h => by
    have h1 := HS2.out
    have h2 := HSZ.out
    exact RobI.less (n0 := m) (fun W' hW' => h W' fun k k1 k2 => (hW' k k1 (by rw [set5_size, set_size]; exact k2)).trans ((set5_other _ _ _ _ _ (by omega)).trans (set_other _ _ _ _ (by omega)))) (by omega)
  have R2 := Lib.hid (hrob (Nat.le_refl _) (HA6.out.less (Nat.le_refl _)))
  have R3 := Lib.hid (hrob (m := W5.heap.size) HSZ5.out HR7.out)
  clear z0 z1 z2 z3 z4 f0 f1 f2 f3 f4 hrob hr hc b6 g6 hQ6 HA6 HR7 HXD KP KQ HN5 HR5 H4
  obtain ⟨z0, z1, z2, z3, z4, f0, f1, f2, f3, f4⟩ := boxT_facts hP6
  obtain ⟨y0, y1, y2, y3, y4, g0, g1, g2, g3, g4⟩ := boxT_facts hQ7
  clear hP6 hQ7
  go_wp2_with fail
  clear z0 z1 z2 z3 z4 f0 f1 f2 f3 f4 y0 y1 y2 y3 y4 g0 g1 g2 g3 g4
  obtain ⟨y0, y1, y2, y3, y4, _, _, _, _, _⟩ := boxT_facts HF.out
  refine bodyPost_ret (v := .agg #[.int .i64 x.v.so, .int .i64 x.v.nu, .slice x.a1 x.v.st.length x.c1, .slice A' m2 c', .slice A'' m3 c'']) (by simp [results, Tryz.results122, go_sem, y0, y1, y2, y3, y4]) rfl ⟨⟨⟨x.v.so, x.v.nu, x.v.st, (x.v.ix.take i ++ ([k] ++ x.v.ix.drop i)), (x.v.xs.take i ++ ([n] ++ x.v.xs.drop i))⟩, x.a1, x.c1, A', c', A'', c''⟩, by rw [HM2.out, HM3.out], ?_, ⟨R2.out, R3.out⟩, ⟨rfl, rfl, HCC.out, HCC2.out⟩, HBF.out⟩
  unfold stoV
  rw [HST.out, HST.out]
set_option maxRecDepth 100000 in
set_option maxHeartbeats 2000000 in
theorem storeYes_any (x : VA) (k n : Int) (w : World) (hx : LiesV w x) (ha : AscI x.v.ix) (hlen : x.v.xs.length = x.v.ix.length) (l2 : x.v.ix.length ≤ 10000) (hc2 : x.v.ix.length ≤ x.c2) (hc3 : x.v.xs.length ≤ x.c3) (hm : k ∈ x.v.ix) (hn : n ≠ 0) :
    Calls Tryz.prog 122 #[vv x, .int .i64 k, .int .i64 n] w (StoP x k n w) := by
  obtain ⟨W, hW⟩ : ∃ W, (w.alloc (boxV x 63)).alloc (.cells #[.int .i64 0, .int .i64 0, .slice none 0 0, .slice none 0 0, .slice none 0 0] 63) = W := ⟨_, rfl⟩
  have HB := Lib.hid (show RowKit.Below w.heap.size w W by rw [← hW]; exact ((RowKit.Below.refl _ _).alloc (Nat.le_refl _) _).alloc (by rw [one_size]; omega) _)
  have HP := Lib.hid (show W.heap[w.heap.size]? = some (boxV x 63) by rw [← hW]; exact two_fst _ _ _)
  have HQ := Lib.hid (show W.heap[w.heap.size + 1]? = some (.cells #[.int .i64 0, .int .i64 0, .slice none 0 0, .slice none 0 0, .slice none 0 0] 63) by rw [← hW]; exact two_snd _ _ _)
  have HSZ := Lib.hid (show W.heap.size = w.heap.size + 2 by rw [← hW]; exact two_size _ _ _)
  have HX := Lib.hid (fun (W' : World) (h : RowKit.Below w.heap.size w W') => hx.later h)
  have hd := Lib.hid (decide_eq_true hm)
  have hn' : (n == 0) = false := by simp [hn]
  have HW := Lib.hid hW
  have HS := Lib.hid (searchI_any x.v.ix k x.a2 x.c2 W (hx.later HB.out).ix l2 ha)
  obtain ⟨r, hr⟩ : ∃ r, r = plI x.v.ix k + 1 := ⟨_, rfl⟩
  have HST : Hid (∀ (l : List Int) (e : Int), stoI x.v.ix l k n e = l.take (plI x.v.ix k) ++ ([e] ++ l.drop r)) := fun l e => by unfold stoI restI; rw [if_neg hn, if_pos hm, hr]
  have hpl : plI x.v.ix k ≤ x.v.ix.length := plI_le _ _
  have hpr : r ≤ x.v.ix.length := by rw [hr]; exact plI_lt hm
  generalize plI x.v.ix k = i at *
  have hl3 : x.v.xs.length ≤ 10000 := by omega
  have hi0 : (0 : Int) ≤ (i : Int) := by omega
  have hi1 : (i : Int) ≤ (x.c2 : Int) := by omega
  have hi2 : (i : Int) ≤ (x.c3 : Int) := by omega
  have hi3 : (i : Int) ≤ (x.v.ix.length : Int) := by omega
  have hi4 : (i : Int) ≤ (x.v.xs.length : Int) := by omega
  have hri : (i : Int) + 1 = (r : Int) := by omega
  have hj0 : (0 : Int) ≤ (r : Int) := by omega
  have hj1 : (r : Int) ≤ (x.v.ix.length : Int) := by omega
  have hj2 : (r : Int) ≤ (x.v.xs.length : Int) := by omega
  clear hr
  have hk2 : (x.v.ix.length : Int) ≤ (x.c2 : Int) := by omega
  have hk3 : (x.v.xs.length : Int) ≤ (x.c3 : Int) := by omega
  have HLEN := Lib.hid hlen
  clear hW hx ha hm hlen
  obtain ⟨z0, z1, z2, z3, z4, f0, f1, f2, f3, f4⟩ := boxT_facts HP.out
  go_enter Tryz.func122, Tryz.ntmps122
  go_upto_region 1 with fail
  rw [HW.out]
  go_wp2_with fail
  refine HS.out.mono ?_
  rintro e w1 ⟨rfl, rfl⟩
  rw [hd.out]
  go_wp2_with fail
  obtain ⟨W2, hW2⟩ : ∃ W2, (W.alloc (.cells #[.int .i64 k] 2)).alloc (.cells #[.int .i64 n] 2) = W2 := ⟨_, rfl⟩
  have b2 : RowKit.Below W.heap.size W W2 := by rw [← hW2]; exact ((RowKit.Below.refl _ _).alloc (Nat.le_refl _) _).alloc (by rw [one_size]; omega) _
  have hs2 : W2.heap.size = W.heap.size + 2 := by rw [← hW2]; exact two_size _ _ _
  have N1 := Lib.hid (show RobI W.heap.size W2 (some ⟨W.heap.size, 0, none⟩) [k] from robI_one (by rw [← hW2]; exact two_fst _ _ _))
  have N2 := Lib.hid (show RobI W.heap.size W2 (some ⟨W.heap.size + 1, 0, none⟩) [n] from (robI_one (by rw [← hW2]; exact two_snd _ _ _)).less (by omega))
  rw [hW2]
  have hP2 := (b2.block _ (Array.getElem?_eq_some_iff.1 HP.out).1).trans HP.out
  have hQ2 := (b2.block _ (Array.getElem?_eq_some_iff.1 HQ.out).1).trans HQ.out
  have HB2 := Lib.hid (HB.out.trans (b2.mono HB.out.size))
  have HS2 := Lib.hid hs2
  have HPS := Lib.hid (show w.heap.size < W.heap.size by have := HSZ.out; omega)
  clear z0 z1 z2 z3 z4 f0 f1 f2 f3 f4 hW2 b2 HW HS hs2
  obtain ⟨z0, z1, z2, z3, z4, f0, f1, f2, f3, f4⟩ := boxT_facts hP2
  have KP := Lib.hid (fun (W' : World) (h : RowKit.Below W2.heap.size W2 W') => (h.block _ (Array.getElem?_eq_some_iff.1 hP2).1).trans hP2)
  have KQ := Lib.hid (fun (W' : World) (h : RowKit.Below W2.heap.size W2 W') => (h.block _ (Array.getElem?_eq_some_iff.1 hQ2).1).trans hQ2)
  have HXD := Lib.hid (HX.out W2 HB2.out)
  obtain ⟨A3, hA3⟩ : ∃ A, (if x.c2 = r then x.a2 else Option.map (fun y => y.add r) x.a2) = A := ⟨_, rfl⟩
  have H3 := Lib.hid (show Ints W2 A3 (x.v.ix.drop r) by rw [← hA3]; exact ints_drop HXD.out.ix hc2 hpr)
  clear hP2 hQ2
  go_still_tail 9, (by kernel_rfl)
  clear hA3
  change wpList _ _ _ _ _ W2.drew
  go_wp2_with fail
  refine (concatAt x.a2 (some ⟨W.heap.size, 0, none⟩) A3 (x.v.ix.take i) [k] (x.v.ix.drop r) i 1 (x.v.ix.length - r) x.c2 1 (x.c2 - r) 3 25 (by rw [List.length_take]; omega) rfl (by rw [List.length_drop]) W2 (ints_take HXD.out.ix i) N1.out.here H3.out (by omega) (by omega) (by omega)).mono ?_
  rintro e w4 ⟨A', c', m2, rfl, hm2, hr, hc, b4⟩
  have HM2 := Lib.hid hm2
  clear hm2
  have HR := Lib.hid hr
  have HCC := Lib.hid hc
  have g4 := b4
  have hP4 := KP.out _ g4
  have hQ4 := KQ.out _ g4
  have HG4 := Lib.hid g4
  have HP5 := Lib.hid (heap_setCell_same w4 w.heap.size 3 _ _ (.slice A' m2 c') hP4)
  have HQ5 := Lib.hid ((set_other w4 w.heap.size 3 (.slice A' m2 c') (by omega : w.heap.size + 1 ≠ w.heap.size)).trans hQ4)
  have HB5 := Lib.hid (show RowKit.Below w.heap.size w (w4.setCell ⟨w.heap.size, 3, none⟩ (.slice A' m2 c')) from (HB2.out.trans (g4.mono HB2.out.size)).setCell (Nat.le_refl _) _)
  have HR5 := Lib.hid (HR.out.set (p := ⟨w.heap.size, 3, none⟩) (show w.heap.size < W2.heap.size by have h1 := HS2.out; have h2 := HPS.out; omega) (.slice A' m2 c'))
  have HN5 := Lib.hid ((N2.out.on g4).set (p := ⟨w.heap.size, 3, none⟩) HPS.out (.slice A' m2 c'))
  have HSZ5 := Lib.hid (show W2.heap.size ≤ (w4.setCell ⟨w.heap.size, 3, none⟩ (.slice A' m2 c')).heap.size by rw [set_size]; exact g4.size)
  clear z0 z1 z2 z3 z4 f0 f1 f2 f3 f4 hQ4 g4 hr hc b4 KP KQ HXD N1 N2 HR HG4 H3
  obtain ⟨z0, z1, z2, z3, z4, f0, f1, f2, f3, f4⟩ := boxT_facts hP4
  clear hP4
  go_wp2_with fail
  generalize w4.setCell ⟨w.heap.size, 3, none⟩ (.slice A' m2 c') = W5 at *
  clear z0 z1 z2 z3 z4 f0 f1 f2 f3 f4
  have hP5 := HP5.out
  obtain ⟨z0, z1, z2, z3, z4, f0, f1, f2, f3, f4⟩ := boxT_facts hP5
  have KP := Lib.hid (fun (W' : World) (h : RowKit.Below W5.heap.size W5 W') => (h.block _ (Array.getElem?_eq_some_iff.1 HP5.out).1).trans HP5.out)
  have KQ := Lib.hid (fun (W' : World) (h : RowKit.Below W5.heap.size W5 W') => (h.block _ (Array.getElem?_eq_some_iff.1 HQ5.out).1).trans HQ5.out)
  have HXD := Lib.hid (HX.out W5 HB5.out)
  obtain ⟨A4, hA4⟩ : ∃ A, (if x.c3 = r then x.a3 else Option.map (fun y => y.add r) x.a3) = A := ⟨_, rfl⟩
  have H4 := Lib.hid (show Ints W5 A4 (x.v.xs.drop r) by rw [← hA4]; exact ints_drop HXD.out.xs hc3 (by have := HLEN.out; omega))
  clear hP5
  go_still_tail 9, (by kernel_rfl)
  clear hA4
  change wpList _ _ _ _ _ W5.drew
  go_wp2_with fail
  refine (concatAt x.a3 (some ⟨W.heap.size + 1, 0, none⟩) A4 (x.v.xs.take i) [n] (x.v.xs.drop r) i 1 (x.v.xs.length - r) x.c3 1 (x.c3 - r) 3 25 (by rw [List.length_take]; omega) rfl (by rw [List.length_drop]) W5 (ints_take HXD.out.xs i) HN5.out.here H4.out (by omega) (by omega) (by omega)).mono ?_
  rintro e w6 ⟨A'', c'', m3, rfl, hm3, hr, hc, b6⟩
  have HM3 := Lib.hid hm3
  clear hm3
  have HR7 := Lib.hid hr
  have HCC2 := Lib.hid hc
  have g6 := b6
  have hP6 := KP.out _ g6
  have hQ6 := KQ.out _ g6
  have HA6 := Lib.hid (HR5.out.on b6)
  have HP7 := Lib.hid (heap_setCell_same w6 w.heap.size 4 _ _ (.slice A'' m3 c'') hP6)
  have hQ7 := (set_other w6 w.heap.size 4 (.slice A'' m3 c'') (by omega : w.heap.size + 1 ≠ w.heap.size)).trans hQ6
  have HB7 := Lib.hid (show RowKit.Below w.heap.size w (w6.setCell ⟨w.heap.size, 4, none⟩ (.slice A'' m3 c'')) from (HB5.out.trans (g6.mono HB5.out.size)).setCell (Nat.le_refl _) _)
  have HF := Lib.hid (setT_same (.int .i64 x.v.so) (.int .i64 x.v.nu) (.slice x.a1 x.v.st.length x.c1) (.slice A' m2 c') (.slice A'' m3 c'') hQ7)
  have HBF := Lib.hid (Below.set5 HB7.out (b := w.heap.size + 1) (by omega) (.int .i64 x.v.so) (.int .i64 x.v.nu) (.slice x.a1 x.v.st.length x.c1) (.slice A' m2 c') (.slice A'' m3 c''))
  have hrob : ∀ {A : Option Addr} {l : List Int} {m : Nat}, W2.heap.size ≤ m → RobI m w6 A l → RobI w.heap.size (set5 (w6.setCell ⟨w.heap.size, 4, none⟩ (.slice A'' m3 c'')) (w.heap.size + 1) (.int .i64 x.v.so) (.int .i64 x.v.nu) (.slice x.a1 x.v.st.length x.c1) (.slice A' m2 c') (.slice A'' m3 c'')) A l := fun {A l m} hm h => by
    have h1 := HS2.out
    have h2 := HSZ.out
    exact RobI.less (n0 := m) (fun W' hW' => h W' fun k k1 k2 => (hW' k k1 (by rw [set5_size, set_size]; exact k2)).trans ((set5_other _ _ _ _ _ (by omega)).trans (set_other _ _ _ _ (by omega)))) (by omega)
  have R2 := Lib.hid (hrob (Nat.le_refl _) (HA6.out.less (Nat.le_refl _)))
  have R3 := Lib.hid (hrob (m := W5.heap.size) HSZ5.out HR7.out)
  clear z0 z1 z2 z3 z4 f0 f1 f2 f3 f4 hrob hr hc b6 g6 hQ6 HA6 HR7 HXD KP KQ HN5 HR5 H4
  obtain ⟨z0, z1, z2, z3, z4, f0, f1, f2, f3, f4⟩ := boxT_facts hP6
  obtain ⟨y0, y1, y2, y3, y4, g0, g1, g2, g3, g4⟩ := boxT_facts hQ7
  clear hP6 hQ7
  go_wp2_with fail
  clear z0 z1 z2 z3 z4 f0 f1 f2 f3 f4 y0 y1 y2 y3 y4 g0 g1 g2 g3 g4
  obtain ⟨y0, y1, y2, y3, y4, _, _, _, _, _⟩ := boxT_facts HF.out
  refine bodyPost_ret (v := .agg #[.int .i64 x.v.so, .int .i64 x.v.nu, .slice x.a1 x.v.st.length x.c1, .slice A' m2 c', .slice A'' m3 c'']) (by simp [results, Tryz.results122, go_sem, y0, y1, y2, y3, y4]) rfl ⟨⟨⟨x.v.so, x.v.nu, x.v.st, (x.v.ix.take i ++ ([k] ++ x.v.ix.drop r)), (x.v.xs.take i ++ ([n] ++ x.v.xs.drop r))⟩, x.a1, x.c1, A', c', A'', c''⟩, by rw [HM2.out, HM3.out], ?_, ⟨R2.out, R3.out⟩, ⟨rfl, rfl, HCC.out, HCC2.out⟩, HBF.out⟩
  unfold stoV
  rw [HST.out, HST.out]
set_option maxRecDepth 100000 in
set_option maxHeartbeats 2000000 in
theorem storeNoZ_any (x : VA) (k : Int) (w : World) (hx : LiesV w x) (ha : AscI x.v.ix) (hlen : x.v.xs.length = x.v.ix.length) (l2 : x.v.ix.length ≤ 10000) (hc2 : x.v.ix.length ≤ x.c2) (hc3 : x.v.xs.length ≤ x.c3) (hm : ¬ k ∈ x.v.ix) :
    Calls Tryz.prog 122 #[vv x, .int .i64 k, .int .i64 0] w (StoP x k 0 w) := by
  obtain ⟨W, hW⟩ : ∃ W, (w.alloc (boxV x 63)).alloc (.cells #[.int .i64 0, .int .i64 0, .slice none 0 0, .slice none 0 0, .slice none 0 0] 63) = W := ⟨_, rfl⟩
  have HB := Lib.hid (show RowKit.Below w.heap.size w W by rw [← hW]; exact ((RowKit.Below.refl _ _).alloc (Nat.le_refl _) _).alloc (by rw [one_size]; omega) _)
  have HP := Lib.hid (show W.heap[w.heap.size]? = some (boxV x 63) by rw [← hW]; exact two_fst _ _ _)
  have HQ := Lib.hid (show W.heap[w.heap.size + 1]? = some (.cells #[.int .i64 0, .int .i64 0, .slice none 0 0, .slice none 0 0, .slice none 0 0] 63) by rw [← hW]; exact two_snd _ _ _)
  have HSZ := Lib.hid (show W.heap.size = w.heap.size + 2 by rw [← hW]; exact two_size _ _ _)
  have HX := Lib.hid (fun (W' : World) (h : RowKit.Below w.heap.size w W') => hx.later h)
  have hd := Lib.hid (decide_eq_false hm)
  have HW := Lib.hid hW
  have HS := Lib.hid (searchI_any x.v.ix k x.a2 x.c2 W (hx.later HB.out).ix l2 ha)

  have HST : Hid (∀ (l : List Int) (e : Int), stoI x.v.ix l k 0 e = l.take (plI x.v.ix k) ++ ([] ++ l.drop (plI x.v.ix k))) := fun l e => by unfold stoI restI; rw [if_pos rfl, if_neg hm]
  have hpl : plI x.v.ix k ≤ x.v.ix.length := plI_le _ _
  have hpr : plI x.v.ix k ≤ x.v.ix.length := hpl
  generalize plI x.v.ix k = i at *
  have hl3 : x.v.xs.length ≤ 10000 := by omega
  have hi0 : (0 : Int) ≤ (i : Int) := by omega
  have hi1 : (i : Int) ≤ (x.c2 : Int) := by omega
  have hi2 : (i : Int) ≤ (x.c3 : Int) := by omega
  have hi3 : (i : Int) ≤ (x.v.ix.length : Int) := by omega
  have hi4 : (i : Int) ≤ (x.v.xs.length : Int) := by omega
  have hk2 : (x.v.ix.length : Int) ≤ (x.c2 : Int) := by omega
  have hk3 : (x.v.xs.length : Int) ≤ (x.c3 : Int) := by omega
  have HLEN := Lib.hid hlen
  clear hW hx ha hm hlen
  obtain ⟨z0, z1, z2, z3, z4, f0, f1, f2, f3, f4⟩ := boxT_facts HP.out
  go_enter Tryz.func122, Tryz.ntmps122
  go_upto_region 1 with fail
  rw [HW.out]
  go_wp2_with fail
  refine HS.out.mono ?_
  rintro e w1 ⟨rfl, rfl⟩
  rw [hd.out]
  go_wp2_with fail
  obtain ⟨W2, hW2⟩ : ∃ W2, (W.alloc (.cells #[.int .i64 k] 2)).alloc (.cells #[.int .i64 0] 2) = W2 := ⟨_, rfl⟩
  have b2 : RowKit.Below W.heap.size W W2 := by rw [← hW2]; exact ((RowKit.Below.refl _ _).alloc (Nat.le_refl _) _).alloc (by rw [one_size]; omega) _
  have hs2 : W2.heap.size = W.heap.size + 2 := by rw [← hW2]; exact two_size _ _ _
  have N1 := Lib.hid (robI_nil W.heap.size W2)
  have N2 := Lib.hid (robI_nil W.heap.size W2)
  rw [hW2]
  have hP2 := (b2.block _ (Array.getElem?_eq_some_iff.1 HP.out).1).trans HP.out
  have hQ2 := (b2.block _ (Array.getElem?_eq_some_iff.1 HQ.out).1).trans HQ.out
  have HB2 := Lib.hid (HB.out.trans (b2.mono HB.out.size))
  have HS2 := Lib.hid hs2
  have HPS := Lib.hid (show w.heap.size < W.heap.size by have := HSZ.out; omega)
  clear z0 z1 z2 z3 z4 f0 f1 f2 f3 f4 hW2 b2 HW HS hs2
  obtain ⟨z0, z1, z2, z3, z4, f0, f1, f2, f3, f4⟩ := boxT_facts hP2
  have KP := Lib.hid (fun (W' : World) (h : RowKit.Below W2.heap.size W2 W') => (h.block _ (Array.getElem?_eq_some_iff.1 hP2).1).trans hP2)
  have KQ := Lib.hid (fun (W' : World) (h : RowKit.Below W2.heap.size W2 W') => (h.block _ (Array.getElem?_eq_some_iff.1 hQ2).1).trans hQ2)
  have HXD := Lib.hid (HX.out W2 HB2.out)
  obtain ⟨A3, hA3⟩ : ∃ A, (if x.c2 = i then x.a2 else Option.map (fun y => y.add i) x.a2) = A := ⟨_, rfl⟩
  have H3 := Lib.hid (show Ints W2 A3 (x.v.ix.drop i) by rw [← hA3]; exact ints_drop HXD.out.ix hc2 hpr)
  clear hP2 hQ2
  go_still_tail 9, (by kernel_rfl)
  clear hA3
  change wpList _ _ _ _ _ W2.drew
  go_wp2_with fail
  refine (concatAt x.a2 none A3 (x.v.ix.take i) ([] : List Int) (x.v.ix.drop i) i 0 (x.v.ix.length - i) x.c2 0 (x.c2 - i) 3 25 (by rw [List.length_take]; omega) rfl (by rw [List.length_drop]) W2 (ints_take HXD.out.ix i) N1.out.here H3.out (by omega) (by omega) (by omega)).mono ?_
  rintro e w4 ⟨A', c', m2, rfl, hm2, hr, hc, b4⟩
  have HM2 := Lib.hid hm2
  clear hm2
  have HR := Lib.hid hr
  have HCC := Lib.hid hc
  have g4 := b4
  have hP4 := KP.out _ g4
  have hQ4 := KQ.out _ g4
  have HG4 := Lib.hid g4
  have HP5 := Lib.hid (heap_setCell_same w4 w.heap.size 3 _ _ (.slice A' m2 c') hP4)
  have HQ5 := Lib.hid ((set_other w4 w.heap.size 3 (.slice A' m2 c') (by omega : w.heap.size + 1 ≠ w.heap.size)).trans hQ4)
  have HB5 := Lib.hid (show RowKit.Below w.heap.size w (w4.setCell ⟨w.heap.size, 3, none⟩ (.slice A' m2 c')) from (HB2.out.trans (g4.mono HB2.out.size)).setCell (Nat.le_refl _) _)
  have HR5 := Lib.hid (HR.out.set (p := ⟨w.heap.size, 3, none⟩) (show w.heap.size < W2.heap.size by have h1 := HS2.out; have h2 := HPS.out; omega) (.slice A' m2 c'))
  have HN5 := Lib.hid ((N2.out.on g4).set (p := ⟨w.heap.size, 3, none⟩) HPS.out (.slice A' m2 c'))
  have HSZ5 := Lib.hid (show W2.heap.size ≤ (w4.setCell ⟨w.heap.size, 3, none⟩ (.slice A' m2 c')).heap.size by rw [set_size]; exact g4.size)
  clear z0 z1 z2 z3 z4 f0 f1 f2 f3 f4 hQ4 g4 hr hc b4 KP KQ HXD N1 N2 HR HG4 H3
  obtain ⟨z0, z1, z2, z3, z4, f0, f1, f2, f3, f4⟩ := boxT_facts hP4
  clear hP4
  go_wp2_with fail
  generalize w4.setCell ⟨w.heap.size, 3, none⟩ (.slice A' m2 c') = W5 at *
  clear z0 z1 z2 z3 z4 f0 f1 f2 f3 f4
  have hP5 := HP5.out
  obtain ⟨z0, z1, z2, z3, z4, f0, f1, f2, f3, f4⟩ := boxT_facts hP5
  have KP := Lib.hid (fun (W' : World) (h : RowKit.Below W5.heap.size W5 W') => (h.block _ (Array.getElem?_eq_some_iff.1 HP5.out).1).trans HP5.out)
  have KQ := Lib.hid (fun (W' : World) (h : RowKit.Below W5.heap.size W5 W') => (h.block _ (Array.getElem?_eq_some_iff.1 HQ5.out).1).trans HQ5.out)
  have HXD := Lib.hid (HX.out W5 HB5.out)
  obtain ⟨A4, hA4⟩ : ∃ A, (if x.c3 = i then x.a3 else Option.map (fun y => y.add i) x.a3) = A := ⟨_, rfl⟩
  have H4 := Lib.hid (show Ints W5 A4 (x.v.xs.drop i) by rw [← hA4]; exact ints_drop HXD.out.xs hc3 (by have := HLEN.out; omega))
  clear hP5
  go_still_tail 9, (by kernel_rfl)
  clear hA4
  change wpList _ _ _ _ _ W5.drew
  go_wp2_with fail
  refine (concatAt x.a3 none A4 (x.v.xs.take i) ([] : List Int) (x.v.xs.drop i) i 0 (x.v.xs.length - i) x.c3 0 (x.c3 - i) 3 25 (by rw [List.length_take]; omega) rfl (by rw [List.length_drop]) W5 (ints_take HXD.out.xs i) HN5.out.here H4.out (by omega) (by omega) (by omega)).mono ?_
  rintro e w6 ⟨A'', c'', m3, rfl, hm3, hr, hc, b6⟩
  have HM3 := Lib.hid hm3
  clear hm3
  have HR7 := Lib.hid hr
  have HCC2 := Lib.hid hc
  have g6 := b6
  have hP6 := KP.out _ g6
  have hQ6 := KQ.out _ g6
  have HA6 := Lib.hid (HR5.out.on b6)
  have HP7 := Lib.hid (heap_setCell_same w6 w.heap.size 4 _ _ (.slice A'' m3 c'') hP6)
  have hQ7 := (set_other w6 w.heap.size 4 (.slice A'' m3 c'') (by omega : w.heap.size + 1 ≠ w.heap.size)).trans hQ6
  have HB7 := Lib.hid (show RowKit.Below w.heap.size w (w6.setCell ⟨w.heap.size, 4, none⟩ (.slice A'' m3 c'')) from (HB5.out.trans (g6.mono HB5.out.size)).setCell (Nat.le_refl _) _)
  have HF := Lib.hid (setT_same (.int .i64 x.v.so) (.int .i64 x.v.nu) (.slice x.a1 x.v.st.length x.c1) (.slice A' m2 c') (.slice A'' m3 c'') hQ7)
  have HBF := Lib.hid (Below.set5 HB7.out (b := w.heap.size + 1) (by omega) (.int .i64 x.v.so) (.int .i64 x.v.nu) (.slice x.a1 x.v.st.length x.c1) (.slice A' m2 c') (.slice A'' m3 c''))
  have hrob : ∀ {A : Option Addr} {l : List Int} {m : Nat}, W2.heap.size ≤ m → RobI m w6 A l → RobI w.heap.size (set5 (w6.setCell ⟨w.heap.size, 4, none⟩ (.slice A'' m3 c'')) (w.heap.size + 1) (.int .i64 x.v.so) (.int .i64 x.v.nu) (.slice x.a1 x.v.st.length x.c1) (.slice A' m2 c') (.slice A'' m3 c'')) A l := fun {A l m} hm h => by
    have h1 := HS2.out
    have h2 := HSZ.out
    exact RobI.less (n0 := m) (fun W' hW' => h W' fun k k1 k2 => (hW' k k1 (by rw [set5_size, set_size]; exact k2)).trans ((set5_other _ _ _ _ _ (by omega)).trans (set_other _ _ _ _ (by omega)))) (by omega)
  have R2 := Lib.hid (hrob (Nat.le_refl _) (HA6.out.less (Nat.le_refl _)))
  have R3 := Lib.hid (hrob (m := W5.heap.size) HSZ5.out HR7.out)
  clear z0 z1 z2 z3 z4 f0 f1 f2 f3 f4 hrob hr hc b6 g6 hQ6 HA6 HR7 HXD KP KQ HN5 HR5 H4
  obtain ⟨z0, z1, z2, z3, z4, f0, f1, f2, f3, f4⟩ := boxT_facts hP6
  obtain ⟨y0, y1, y2, y3, y4, g0, g1, g2, g3, g4⟩ := boxT_facts hQ7
  clear hP6 hQ7
  go_wp2_with fail
  clear z0 z1 z2 z3 z4 f0 f1 f2 f3 f4 y0 y1 y2 y3 y4 g0 g1 g2 g3 g4
  obtain ⟨y0, y1, y2, y3, y4, _, _, _, _, _⟩ := boxT_facts HF.out
  refine bodyPost_ret (v := .agg #[.int .i64 x.v.so, .int .i64 x.v.nu, .slice x.a1 x.v.st.length x.c1, .slice A' m2 c', .slice A'' m3 c'']) (by simp [results, Tryz.results122, go_sem, y0, y1, y2, y3, y4]) rfl ⟨⟨⟨x.v.so, x.v.nu, x.v.st, (x.v.ix.take i ++ (([] : List Int) ++ x.v.ix.drop i)), (x.v.xs.take i ++ (([] : List Int) ++ x.v.xs.drop i))⟩, x.a1, x.c1, A', c', A'', c''⟩, by rw [HM2.out, HM3.out], ?_, ⟨R2.out, R3.out⟩, ⟨rfl, rfl, HCC.out, HCC2.out⟩, HBF.out⟩
  unfold stoV
  rw [HST.out, HST.out]
set_option maxRecDepth 100000 in
set_option maxHeartbeats 2000000 in
theorem storeYesZ_any (x : VA) (k : Int) (w : World) (hx : LiesV w x) (ha : AscI x.v.ix) (hlen : x.v.xs.length = x.v.ix.length) (l2 : x.v.ix.length ≤ 10000) (hc2 : x.v.ix.length ≤ x.c2) (hc3 : x.v.xs.length ≤ x.c3) (hm : k ∈ x.v.ix) :
    Calls Tryz.prog 122 #[vv x, .int .i64 k, .int .i64 0] w (StoP x k 0 w) := by
  obtain ⟨W, hW⟩ : ∃ W, (w.alloc (boxV x 63)).alloc (.cells #[.int .i64 0, .int .i64 0, .slice none 0 0, .slice none 0 0, .slice none 0 0] 63) = W := ⟨_, rfl⟩
  have HB := Lib.hid (show RowKit.Below w.heap.size w W by rw [← hW]; exact ((RowKit.Below.refl _ _).alloc (Nat.le_refl _) _).alloc (by rw [one_size]; omega) _)
  have HP := Lib.hid (show W.heap[w.heap.size]? = some (boxV x 63) by rw [← hW]; exact two_fst _ _ _)
  have HQ := Lib.hid (show W.heap[w.heap.size + 1]? = some (.cells #[.int .i64 0, .int .i64 0, .slice none 0 0, .slice none 0 0, .slice none 0 0] 63) by rw [← hW]; exact two_snd _ _ _)
  have HSZ := Lib.hid (show W.heap.size = w.heap.size + 2 by rw [← hW]; exact two_size _ _ _)
  have HX := Lib.hid (fun (W' : World) (h : RowKit.Below w.heap.size w W') => hx.later h)
  have hd := Lib.hid (decide_eq_true hm)
  have HW := Lib.hid hW
  have HS := Lib.hid (searchI_any x.v.ix k x.a2 x.c2 W (hx.later HB.out).ix l2 ha)
  obtain ⟨r, hr⟩ : ∃ r, r = plI x.v.ix k + 1 := ⟨_, rfl⟩
  have HST : Hid (∀ (l : List Int) (e : Int), stoI x.v.ix l k 0 e = l.take (plI x.v.ix k) ++ ([] ++ l.drop r)) := fun l e => by unfold stoI restI; rw [if_pos rfl, if_pos hm, hr]
  have hpl : plI x.v.ix k ≤ x.v.ix.length := plI_le _ _
  have hpr : r ≤ x.v.ix.length := by rw [hr]; exact plI_lt hm
  generalize plI x.v.ix k = i at *
  have hl3 : x.v.xs.length ≤ 10000 := by omega
  have hi0 : (0 : Int) ≤ (i : Int) := by omega
  have hi1 : (i : Int) ≤ (x.c2 : Int) := by omega
  have hi2 : (i : Int) ≤ (x.c3 : Int) := by omega
  have hi3 : (i : Int) ≤ (x.v.ix.length : Int) := by omega
  have hi4 : (i : Int) ≤ (x.v.xs.length : Int) := by omega
  have hri : (i : Int) + 1 = (r : Int) := by omega
  have hj0 : (0 : Int) ≤ (r : Int) := by omega
  have hj1 : (r : Int) ≤ (x.v.ix.length : Int) := by omega
  have hj2 : (r : Int) ≤ (x.v.xs.length : Int) := by omega
  clear hr
  have hk2 : (x.v.ix.length : Int) ≤ (x.c2 : Int) := by omega
  have hk3 : (x.v.xs.length : Int) ≤ (x.c3 : Int) := by omega
  have HLEN := Lib.hid hlen
  clear hW hx ha hm hlen
  obtain ⟨z0, z1, z2, z3, z4, f0, f1, f2, f3, f4⟩ := boxT_facts HP.out
  go_enter Tryz.func122, Tryz.ntmps122
  go_upto_region 1 with fail
  rw [HW.out]
  go_wp2_with fail
  refine HS.out.mono ?_
  rintro e w1 ⟨rfl, rfl⟩
  rw [hd.out]
  go_wp2_with fail
  obtain ⟨W2, hW2⟩ : ∃ W2, (W.alloc (.cells #[.int .i64 k] 2)).alloc (.cells #[.int .i64 0] 2) = W2 := ⟨_, rfl⟩
  have b2 : RowKit.Below W.heap.size W W2 := by rw [← hW2]; exact ((RowKit.Below.refl _ _).alloc (Nat.le_refl _) _).alloc (by rw [one_size]; omega) _
  have hs2 : W2.heap.size = W.heap.size + 2 := by rw [← hW2]; exact two_size _ _ _
  have N1 := Lib.hid (robI_nil W.heap.size W2)
  have N2 := Lib.hid (robI_nil W.heap.size W2)
  rw [hW2]
  have hP2 := (b2.block _ (Array.getElem?_eq_some_iff.1 HP.out).1).trans HP.out
  have hQ2 := (b2.block _ (Array.getElem?_eq_some_iff.1 HQ.out).1).trans HQ.out
  have HB2 := Lib.hid (HB.out.trans (b2.mono HB.out.size))
  have HS2 := Lib.hid hs2
  have HPS := Lib.hid (show w.heap.size < W.heap.size by have := HSZ.out; omega)
  clear z0 z1 z2 z3 z4 f0 f1 f2 f3 f4 hW2 b2 HW HS hs2
  obtain ⟨z0, z1, z2, z3, z4, f0, f1, f2, f3, f4⟩ := boxT_facts hP2
  have KP := Lib.hid (fun (W' : World) (h : RowKit.Below W2.heap.size W2 W') => (h.block _ (Array.getElem?_eq_some_iff.1 hP2).1).trans hP2)
  have KQ := Lib.hid (fun (W' : World) (h : RowKit.Below W2.heap.size W2 W') => (h.block _ (Array.getElem?_eq_some_iff.1 hQ2).1).trans hQ2)
  have HXD := Lib.hid (HX.out W2 HB2.out)
  obtain ⟨A3, hA3⟩ : ∃ A, (if x.c2 = r then x.a2 else Option.map (fun y => y.add r) x.a2) = A := ⟨_, rfl⟩
  have H3 := Lib.hid (show Ints W2 A3 (x.v.ix.drop r) by rw [← hA3]; exact ints_drop HXD.out.ix hc2 hpr)
  clear hP2 hQ2
  go_still_tail 9, (by kernel_rfl)
  clear hA3
  change wpList _ _ _ _ _ W2.drew
  go_wp2_with fail
  refine (concatAt x.a2 none A3 (x.v.ix.take i) ([] : List Int) (x.v.ix.drop r) i 0 (x.v.ix.length - r) x.c2 0 (x.c2 - r) 3 25 (by rw [List.length_take]; omega) rfl (by rw [List.length_drop]) W2 (ints_take HXD.out.ix i) N1.out.here H3.out (by omega) (by omega) (by omega)).mono ?_
  rintro e w4 ⟨A', c', m2, rfl, hm2, hr, hc, b4⟩
  have HM2 := Lib.hid hm2
  clear hm2
  have HR := Lib.hid hr
  have HCC := Lib.hid hc
  have g4 := b4
  have hP4 := KP.out _ g4
  have hQ4 := KQ.out _ g4
  have HG4 := Lib.hid g4
  have HP5 := Lib.hid (heap_setCell_same w4 w.heap.size 3 _ _ (.slice A' m2 c') hP4)
  have HQ5 := Lib.hid ((set_other w4 w.heap.size 3 (.slice A' m2 c') (by omega : w.heap.size + 1 ≠ w.heap.size)).trans hQ4)
  have HB5 := Lib.hid (show RowKit.Below w.heap.size w (w4.setCell ⟨w.heap.size, 3, none⟩ (.slice A' m2 c')) from (HB2.out.trans (g4.mono HB2.out.size)).setCell (Nat.le_refl _) _)
  have HR5 := Lib.hid (HR.out.set (p := ⟨w.heap.size, 3, none⟩) (show w.heap.size < W2.heap.size by have h1 := HS2.out; have h2 := HPS.out; omega) (.slice A' m2 c'))
  have HN5 := Lib.hid ((N2.out.on g4).set (p := ⟨w.heap.size, 3, none⟩) HPS.out (.slice A' m2 c'))
  have HSZ5 := Lib.hid (show W2.heap.size ≤ (w4.setCell ⟨w.heap.size, 3, none⟩ (.slice A' m2 c')).heap.size by rw [set_size]; exact g4.size)
  clear z0 z1 z2 z3 z4 f0 f1 f2 f3 f4 hQ4 g4 hr hc b4 KP KQ HXD N1 N2 HR HG4 H3
  obtain ⟨z0, z1, z2, z3, z4, f0, f1, f2, f3, f4⟩ := boxT_facts hP4
  clear hP4
  go_wp2_with fail
  generalize w4.setCell ⟨w.heap.size, 3, none⟩ (.slice A' m2 c') = W5 at *
  clear z0 z1 z2 z3 z4 f0 f1 f2 f3 f4
  have hP5 := HP5.out
  obtain ⟨z0, z1, z2, z3, z4, f0, f1, f2, f3, f4⟩ := boxT_facts hP5
  have KP := Lib.hid (fun (W' : World) (h : RowKit.Below W5.heap.size W5 W') => (h.block _ (Array.getElem?_eq_some_iff.1 HP5.out).1).trans HP5.out)
  have KQ := Lib.hid (fun (W' : World) (h : RowKit.Below W5.heap.size W5 W') => (h.block _ (Array.getElem?_eq_some_iff.1 HQ5.out).1).trans HQ5.out)
  have HXD := Lib.hid (HX.out W5 HB5.out)
  obtain ⟨A4, hA4⟩ : ∃ A, (if x.c3 = r then x.a3 else Option.map (fun y => y.add r) x.a3) = A := ⟨_, rfl⟩
  have H4 := Lib.hid (show Ints W5 A4 (x.v.xs.drop r) by rw [← hA4]; exact ints_drop HXD.out.xs hc3 (by have := HLEN.out; omega))
  clear hP5
  go_still_tail 9, (by kernel_rfl)
  clear hA4
  change wpList _ _ _ _ _ W5.drew
  go_wp2_with fail
  refine (concatAt x.a3 none A4 (x.v.xs.take i) ([] : List Int) (x.v.xs.drop r) i 0 (x.v.xs.length - r) x.c3 0 (x.c3 - r) 3 25 (by rw [List.length_take]; omega) rfl (by rw [List.length_drop]) W5 (ints_take HXD.out.xs i) HN5.out.here H4.out (by omega) (by omega) (by omega)).mono ?_
  rintro e w6 ⟨A'', c'', m3, rfl, hm3, hr, hc, b6⟩
  have HM3 := Lib.hid hm3
  clear hm3
  have HR7 := Lib.hid hr
  have HCC2 := Lib.hid hc
  have g6 := b6
  have hP6 := KP.out _ g6
  have hQ6 := KQ.out _ g6
  have HA6 := Lib.hid (HR5.out.on b6)
  have HP7 := Lib.hid (heap_setCell_same w6 w.heap.size 4 _ _ (.slice A'' m3 c'') hP6)
  have hQ7 := (set_other w6 w.heap.size 4 (.slice A'' m3 c'') (by omega : w.heap.size + 1 ≠ w.heap.size)).trans hQ6
  have HB7 := Lib.hid (show RowKit.Below w.heap.size w (w6.setCell ⟨w.heap.size, 4, none⟩ (.slice A'' m3 c'')) from (HB5.out.trans (g6.mono HB5.out.size)).setCell (Nat.le_refl _) _)
  have HF := Lib.hid (setT_same (.int .i64 x.v.so) (.int .i64 x.v.nu) (.slice x.a1 x.v.st.length x.c1) (.slice A' m2 c') (.slice A'' m3 c'') hQ7)
  have HBF := Lib.hid (Below.set5 HB7.out (b := w.heap.size + 1) (by omega) (.int .i64 x.v.so) (.int .i64 x.v.nu) (.slice x.a1 x.v.st.length x.c1) (.slice A' m2 c') (.slice A'' m3 c''))
  have hrob : ∀ {A : Option Addr} {l : List Int} {m : Nat}, W2.heap.size ≤ m → RobI m w6 A l → RobI w.heap.size (set5 (w6.setCell ⟨w.heap.size, 4, none⟩ (.slice A'' m3 c'')) (w.heap.size + 1) (.int .i64 x.v.so) (.int .i64 x.v.nu) (.slice x.a1 x.v.st.length x.c1) (.slice A' m2 c') (.slice A'' m3 c'')) A l := fun {A l m} hm h => by
    have h1 := HS2.out
    have h2 := HSZ.out
    exact RobI.less (n0 := m) (fun W' hW' => h W' fun k k1 k2 => (hW' k k1 (by rw [set5_size, set_size]; exact k2)).trans ((set5_other _ _ _ _ _ (by omega)).trans (set_other _ _ _ _ (by omega)))) (by omega)
  have R2 := Lib.hid (hrob (Nat.le_refl _) (HA6.out.less (Nat.le_refl _)))
  have R3 := Lib.hid (hrob (m := W5.heap.size) HSZ5.out HR7.out)
  clear z0 z1 z2 z3 z4 f0 f1 f2 f3 f4 hrob hr hc b6 g6 hQ6 HA6 HR7 HXD KP KQ HN5 HR5 H4
  obtain ⟨z0, z1, z2, z3, z4, f0, f1, f2, f3, f4⟩ := boxT_facts hP6
  obtain ⟨y0, y1, y2, y3, y4, g0, g1, g2, g3, g4⟩ := boxT_facts hQ7
  clear hP6 hQ7
  go_wp2_with fail
  clear z0 z1 z2 z3 z4 f0 f1 f2 f3 f4 y0 y1 y2 y3 y4 g0 g1 g2 g3 g4
  obtain ⟨y0, y1, y2, y3, y4, _, _, _, _, _⟩ := boxT_facts HF.out
  refine bodyPost_ret (v := .agg #[.int .i64 x.v.so, .int .i64 x.v.nu, .slice x.a1 x.v.st.length x.c1, .slice A' m2 c', .slice A'' m3 c'']) (by simp [results, Tryz.results122, go_sem, y0, y1, y2, y3, y4]) rfl ⟨⟨⟨x.v.so, x.v.nu, x.v.st, (x.v.ix.take i ++ (([] : List Int) ++ x.v.ix.drop r)), (x.v.xs.take i ++ (([] : List Int) ++ x.v.xs.drop r))⟩, x.a1, x.c1, A', c', A'', c''⟩, by rw [HM2.out, HM3.out], ?_, ⟨R2.out, R3.out⟩, ⟨rfl, rfl, HCC.out, HCC2.out⟩, HBF.out⟩
  unfold stoV
  rw [HST.out, HST.out]
theorem store_any (x : VA) (k n : Int) (w : World) (hx : LiesV w x) (ha : AscI x.v.ix) (hlen : x.v.xs.length = x.v.ix.length) (l2 : x.v.ix.length ≤ 10000) (hc2 : x.v.ix.length ≤ x.c2) (hc3 : x.v.xs.length ≤ x.c3) :
    Calls Tryz.prog 122 #[vv x, .int .i64 k, .int .i64 n] w (StoP x k n w) := by
  by_cases hm : k ∈ x.v.ix
  · by_cases hn : n = 0
    · exact (by subst hn; exact storeYesZ_any x k w hx ha hlen l2 hc2 hc3 hm)
    · exact storeYes_any x k n w hx ha hlen l2 hc2 hc3 hm hn
  · by_cases hn : n = 0
    · exact (by subst hn; exact storeNoZ_any x k w hx ha hlen l2 hc2 hc3 hm)
    · exact storeNo_any x k n w hx ha hlen l2 hc2 hc3 hm hn
end Go.Proofs.YtmeeombadkgneaaGreat
namespace Go.Proofs.YtmeeombadkgneaaGreat
open Go.Proofs Go.RowKit Go.Shelf Go.Sort Go.Lib

attribute [local go_sem] Oper.semAt_some
set_option maxRecDepth 100000 in
set_option maxHeartbeats 2000000 in
theorem applySto_any (t : List EA) (x y z : VA) (A C K : Option Addr) (tl cap cn cc kc : Nat) (so nu : Int) (nm : ByteArray) (w : World) (hK : LiesVs w K [x, y, z]) (hx : OkV x.v) (hs5 : x.v.so = 5) (hc : CapV x) :
    Calls Tryz.prog 98 #[.slice A tl cap, nv 15 so nm nu (.slice C cn cc), .slice K 3 kc] w (ApP t [x, y, z] (stoO x.v y.v.nu z.v.nu) w) := by
  obtain ⟨W, hW⟩ : ∃ W, (w.alloc (.cells #[.int .i64 15, .int .i64 so, .string nm, .int .i64 nu, .slice C cn cc] 44)).alloc (.cells #[.int .i64 0, .int .i64 0, .slice none 0 0, .slice none 0 0, .slice none 0 0] 63) = W := ⟨_, rfl⟩
  have HB := Lib.hid (show RowKit.Below w.heap.size w W by rw [← hW]; exact ((RowKit.Below.refl _ _).alloc (Nat.le_refl _) _).alloc (by rw [one_size]; omega) _)
  have HP := Lib.hid (show W.heap[w.heap.size]? = some (.cells #[.int .i64 15, .int .i64 so, .string nm, .int .i64 nu, .slice C cn cc] 44) by rw [← hW]; exact two_fst _ _ _)
  have HQ := Lib.hid (show W.heap[w.heap.size + 1]? = some (.cells #[.int .i64 0, .int .i64 0, .slice none 0 0, .slice none 0 0, .slice none 0 0] 63) by rw [← hW]; exact two_snd _ _ _)
  have HSZ := Lib.hid (show W.heap.size = w.heap.size + 2 by rw [← hW]; exact two_size _ _ _)
  obtain ⟨b, o, rfl, hf, hg, hh, hlx, _, _⟩ := kids3 (hK.later HB.out)
  have HS := Lib.hid (store_any x y.v.nu z.v.nu W.drew (hlx.later (drew_below W)) hx.s2 hx.len (Nat.le_trans hx.l2 (by omega)) hc.p2 hc.p3)
  have HX := Lib.hid hx
  have HX1 := Lib.hid (hx.arr hs5)
  have HCX := Lib.hid hc
  have HW := Lib.hid hW
  have HQD := Lib.hid (show W.drew.heap[w.heap.size + 1]? = some (.cells #[.int .i64 0, .int .i64 0, .slice none 0 0, .slice none 0 0, .slice none 0 0] 63) from HQ.out)
  clear hW hK hlx hx hs5 hc
  obtain ⟨x0, x1, x2, x3, x4⟩ := hf
  have y1 := hg.c1
  have z1' := hh.c1
  clear hg hh
  obtain ⟨z0, z1, z2, z3, z4, f0, f1, f2, f3, f4⟩ := boxT_facts HP.out
  go_enter Tryz.func98, Tryz.ntmps98
  go_upto_region 1 with fail
  rw [HW.out]
  go_wp2_with fail
  go_still_tail 11, (by kernel_rfl)
  change wpList _ _ _ _ _ W.drew
  go_wp2_with fail
  refine HS.out.mono ?_
  rintro e w1 ⟨r, rfl, hrv, hrob, hrest, b1⟩
  have B1 := Lib.hid b1
  have hb0 := HB.out.trans ((drew_below W).trans (b1.mono (Nat.le_refl _)) |>.mono HB.out.size)
  have hQ3 := (b1.block _ (Array.getElem?_eq_some_iff.1 HQD.out).1).trans HQD.out
  have HX5 := Lib.hid (setT_same (.int .i64 r.v.so) (.int .i64 r.v.nu) (.slice r.a1 r.v.st.length r.c1) (.slice r.a2 r.v.ix.length r.c2) (.slice r.a3 r.v.xs.length r.c3) hQ3)
  have HBX := Lib.hid (Below.set5 hb0 (b := w.heap.size + 1) (by omega) (.int .i64 r.v.so) (.int .i64 r.v.nu) (.slice r.a1 r.v.st.length r.c1) (.slice r.a2 r.v.ix.length r.c2) (.slice r.a3 r.v.xs.length r.c3))
  have HRV := Lib.hid hrv
  have HROB := Lib.hid hrob
  have HREST := Lib.hid hrest
  clear z0 z1 z2 z3 z4 f0 f1 f2 f3 f4 x0 x1 x2 x3 x4 y1 z1' hrv hrob hrest b1 hb0
  obtain ⟨z0, z1, z2, z3, z4, f0, f1, f2, f3, f4⟩ := boxT_facts hQ3
  clear hQ3
  go_wp2_with fail
  clear z0 z1 z2 z3 z4 f0 f1 f2 f3 f4
  obtain ⟨y0, y1, y2, y3, y4, _, _, _, _, _⟩ := boxT_facts HX5.out
  refine bodyPost_ret (v := vv r) (by simp [results, Tryz.results98, go_sem, y0, y1, y2, y3, y4]) rfl ⟨r, rfl, HBX.out, fun hn => ?_, fun v hv => ?_⟩
  · unfold stoO at hn
    split at hn
    · cases hn
    · rename_i hl
      rw [HRV.out]
      unfold smallV
      rw [show decide ((stoV x.v y.v.nu z.v.nu).ix.length ≤ 200) = false from decide_eq_false hl]
      simp
  · unfold stoO at hv
    split at hv
    · rename_i hl
      cases hv
      have hst : r.v.st = [] := by rw [HRV.out]; exact HX1.out.1
      have hil : r.v.ix.length ≤ 200 := by rw [HRV.out]; exact hl
      have hxl : r.v.xs.length ≤ 200 := by rw [HRV.out]; exact Nat.le_trans (Nat.le_of_eq (sto_len _ _ HX.out.len _ _ _ _)) hl
      have hsz := HSZ.out
      have hr : ∀ P : Nat → Prop, (∀ k, w.heap.size ≤ k → ¬ P k) → RobP P (set5 w1 (w.heap.size + 1) (.int .i64 r.v.so) (.int .i64 r.v.nu) (.slice r.a1 r.v.st.length r.c1) (.slice r.a2 r.v.ix.length r.c2) (.slice r.a3 r.v.xs.length r.c3)) r := fun P hP W' hW' => by
        have hag : ∀ k, W.drew.heap.size ≤ k → k < w1.heap.size → W'.heap[k]? = w1.heap[k]? := fun k k1 k2 => by
          have k1' : W.heap.size ≤ k := k1
          exact (hW' k (by rw [set5_size]; exact k2) (hP k (by omega))).trans (set5_other _ _ _ _ _ (by omega))
        exact ⟨by rw [hst]; exact ⟨0, 0, fun h => absurd h (by simp), fun i h => absurd h (by simp)⟩, HROB.out.1 W' hag, HROB.out.2 W' hag, by rw [hst]; simp, by unfold maxLen; omega, by unfold maxLen; omega⟩
      exact ⟨HRV.out, (hr noP (fun _ _ h => h)).here, ⟨by rw [hst]; simp, HREST.out.2.2.1, HREST.out.2.2.2⟩, fun P hP _ _ => hr P hP⟩
    · cases hv
end Go.Proofs.YtmeeombadkgneaaGreat
namespace Go.Proofs.YtmeeombadkgneaaGreat
open Go.Proofs Go.RowKit Go.Shelf Go.Sort Go.Lib

attribute [local go_sem] Oper.semAt_some
theorem eq_two {ks : List Nd} (h : eqB ks = true) : ks.length = 2 := by
  match ks, h with
  | [a, b], _ => rfl
theorem ite_three {ks : List Nd} (h : iteB ks = true) : ks.length = 3 := by
  match ks, h with
  | [a, b, c], _ => rfl
theorem kids_few {op : Int} {ks : List Nd} (hk : kidsB op ks = true) (h42 : op ≠ 42) : ks.length ≤ 8 := by
  have ht : ∀ {sl : List Int}, takesB ks sl = true → ks.length = sl.length := fun {sl} h => by
    have := congrArg List.length (of_decide_eq_true h); simpa using this
  have hop : op ∈ kidOps := by
    by_cases h : op ∈ kidOps
    · exact h
    · simp only [kidOps, List.mem_cons, List.not_mem_nil, or_false, not_or] at h
      simp [kidsB, h] at hk
  simp only [kidOps, List.mem_cons, List.not_mem_nil, or_false] at hop
  rcases hop with rfl | rfl | rfl | rfl | rfl | rfl | rfl | rfl | rfl | rfl | rfl | rfl | rfl | rfl | rfl | rfl | rfl | rfl | rfl | rfl | rfl | rfl | rfl | rfl | rfl | rfl | rfl | rfl | rfl
  all_goals first
    | exact absurd rfl h42
    | (simp [kidsB] at hk
       first
       | (have := ht hk; simp at this; subst this; simp)
       | (have := ht hk; simp at this; omega)
       | (have := eq_two hk; omega)
       | (have := ite_three hk; omega)
       | omega)
/-- What evaluate returns: a value and whether it is small; if so, it is the node's value, in memory. -/
def EvP (t : List EA) (o : Option Vl) (w : World) (e : Ending) (w' : World) : Prop :=
  ∃ (y : VA) (ok : Bool), e = .returned (.tuple #[vv y, .bool ok]) ∧ RowKit.Below w.heap.size w w' ∧ (o = none → ok = false) ∧
    ∀ v, o = some v → ok = true ∧ y.v = v ∧ LiesV w' y ∧ CapV y ∧ ∀ P : Nat → Prop, (∀ k, w.heap.size ≤ k → ¬ P k) → TabP P w t → RobP P w' y
/-- In the midst of evaluate's loop: a row of n values in block g, of which the first ones are written. -/
structure MO (t : List EA) (w : World) (g n : Nat) (wr : World) (cur : Array Value) (xs : List VA) : Prop where
  g1 : w.heap.size ≤ g
  g2 : g < w.heap.size + 3
  row : wr.heap[g]? = some (.cells cur 63 (0, 0))
  size : cur.size = n * 5
  head : cur.toList.take (xs.length * 5) = flatV xs
  rob : ∀ x ∈ xs, ∀ P : Nat → Prop, (∀ k, w.heap.size ≤ k → ¬ P k) → TabP P w t → RobP (fun k => P k ∨ (w.heap.size ≤ k ∧ k < w.heap.size + 3)) wr x
  cap : ∀ x ∈ xs, CapV x
  below : RowKit.Below w.heap.size w wr
  big : w.heap.size + 3 ≤ wr.heap.size
theorem MO.later {t : List EA} {w : World} {g n : Nat} {wr w' : World} {cur : Array Value} {xs : List VA} (h : MO t w g n wr cur xs) (hb : RowKit.Below wr.heap.size wr w') : MO t w g n w' cur xs :=
  ⟨h.g1, h.g2, (hb.block _ (Array.getElem?_eq_some_iff.1 h.row).1).trans h.row, h.size, h.head, fun x hx P h1 h2 => (h.rob x hx P h1 h2).later hb, h.cap, h.below.trans (hb.mono h.below.size), Nat.le_trans h.big hb.size⟩
theorem MO.step {t : List EA} {w : World} {g n : Nat} {wr : World} {cur : Array Value} {xs : List VA} (h : MO t w g n wr cur xs) {k : Nat} (hk : xs.length = k) (hkn : k < n) {x : VA} (hc : CapV x)
    (hx : ∀ P : Nat → Prop, (∀ k, w.heap.size ≤ k → ¬ P k) → TabP P w t → RobP (fun k => P k ∨ (w.heap.size ≤ k ∧ k < w.heap.size + 3)) wr x) :
    ∃ cur', MO t w g n (putV wr g (k * 5) (.int .i64 x.v.so) (.int .i64 x.v.nu) (.slice x.a1 x.v.st.length x.c1) (.slice x.a2 x.v.ix.length x.c2) (.slice x.a3 x.v.xs.length x.c3)) cur' (xs ++ [x]) := by
  subst hk
  have hg1 := h.g1
  have hg2 := h.g2
  have rob : ∀ {y : VA} {P : Nat → Prop}, RobP (fun k => P k ∨ (w.heap.size ≤ k ∧ k < w.heap.size + 3)) wr y → RobP (fun k => P k ∨ (w.heap.size ≤ k ∧ k < w.heap.size + 3)) (putV wr g (xs.length * 5) (.int .i64 x.v.so) (.int .i64 x.v.nu) (.slice x.a1 x.v.st.length x.c1) (.slice x.a2 x.v.ix.length x.c2) (.slice x.a3 x.v.xs.length x.c3)) y :=
    fun hr => hr.same (putV_size _ _ _ _ _ _ _ _) fun k hk => putV_other _ _ _ _ _ (fun e => hk (.inr (by omega)))
  refine ⟨_, hg1, hg2, putV_same _ _ _ _ _ h.row, by simp [h.size], ?_, ?_, ?_, below_putV h.below hg1 _ _ _ _ _ _, by rw [putV_size]; exact h.big⟩
  · have hs' : cur.toList.length = n * 5 := by rw [Array.length_toList]; exact h.size
    rw [flatV_snoc, ← h.head, List.length_append]
    simp only [Array.toList_setIfInBounds, List.length_singleton]
    rw [Nat.add_mul, Nat.one_mul, take_put5 _ _ (by rw [hs']; omega)]
  · intro y hy P h1 h2
    rcases List.mem_append.1 hy with hy | hy
    · exact rob (h.rob y hy P h1 h2)
    · simp at hy; subst hy; exact rob (hx P h1 h2)
  · intro y hy
    rcases List.mem_append.1 hy with hy | hy
    · exact h.cap y hy
    · simp at hy; subst hy; exact hc
theorem MO.lies {t : List EA} {w : World} {g n : Nat} {wr : World} {cur : Array Value} {xs : List VA} {A : Option Addr} (h : MO t w g n wr cur xs) (hn : xs.length = n) (hm : n ≤ maxLen) (hT : LiesM w A t) : LiesVs wr (some ⟨g, 0, none⟩) xs := by
  refine ⟨by rw [hn]; exact hm, ⟨g, 0, fun _ => rfl, fun i hi => ?_⟩, fun i hi => (h.rob xs[i] (List.getElem_mem hi) noP (fun _ _ h => h) (TabP.none hT)).here⟩
  have hc : ∀ j, j < 5 → wr.cell? ⟨g, 0 + i * 5 + j, none⟩ = (cells5V xs[i])[j]? := fun j hj => by
    have := flatV_at xs i hi j hj
    rw [← h.head, List.getElem?_take_of_lt (by omega)] at this
    rw [← this]
    simp [World.cell?, h.row]
  exact ⟨hc 0 (by omega), hc 1 (by omega), hc 2 (by omega), hc 3 (by omega), hc 4 (by omega)⟩
/-- What apply is called with at the loop's end. -/
theorem apply_end {l t : List EA} (hp : t.Perm l) (ha : Asc t) (hl : t.length ≤ 2000) (hcap : ∀ x ∈ t, CapV x.val) (hv : validM l = true) (n : Nd) (hall : allN n = true) (hno : ∀ p ∈ nodesOf n, p.op ≠ 42) (hnm : n.nm.size ≤ maxLen)
    (A C K : Option Addr) (cap cc kc : Nat) (xs : List VA) (w : World) (hT : LiesM w A t) (hC : Lies w C cc n.ks) (hK : LiesVs w K xs) (hcp : ∀ x ∈ xs, CapV x) (he : evOs l n.ks = some (xs.map (·.v))) :
    Calls Tryz.prog 98 #[.slice A t.length cap, nv n.op n.so n.nm n.nu (.slice C n.ks.length cc), .slice K xs.length kc] w (ApP t xs (evO l n) w) := by
  rw [evO_some he]
  rw [allN_eq, Bool.and_eq_true] at hall
  obtain ⟨ho, hks⟩ := hall
  unfold okN at ho
  rw [Bool.and_eq_true] at ho
  rw [nodesOf_eq] at hno
  obtain ⟨hlen, hi⟩ := evOs_len he
  have hlen' : xs.length = n.ks.length := by simpa using hlen
  have hkid : ∀ i (h : i < n.ks.length) (h2 : i < xs.length), OkV xs[i].v ∧ xs[i].v.so = sortN n.ks[i] := fun i h h2 =>
    evO_ok hv n.ks[i] (List.all_eq_true.1 hks _ (List.getElem_mem h)) (fun p hp => hno p (List.mem_cons_of_mem _ (List.mem_flatMap.2 ⟨_, List.getElem_mem h, hp⟩))) _ (by have := hi i h (by simpa using h2); simpa using this)
  have hso : xs.map (fun x => x.v.so) = n.ks.map sortN := by
    apply List.ext_getElem (by simp [hlen'])
    intro i h1 h2
    simp only [List.getElem_map]
    exact (hkid i (by simpa using h2) (by simpa using h1)).2
  have hk := apK_of (so := n.so) (nu := n.nu) (nm := n.nm) ho.1 ho.2 (hno n (by simp)) hso
  obtain ⟨s, hs⟩ : ∃ s, sortN (.mk n.op n.so n.nm n.nu n.ks) = s := ⟨_, rfl⟩
  rw [hs] at hk
  have hok : ∀ x ∈ xs, OkV x.v := fun x hx => by
    obtain ⟨i, hi', rfl⟩ := List.getElem_of_mem hx
    exact (hkid i (by omega) hi').1
  refine apply_any hp ha hl hcap n.op n.so n.nu _ n.nm n.ks xs A C K cap cc kc w hT hC hnm hK hok hcp hs hk ?_
  rintro x y z rfl hop
  have hs5 : x.v.so = 5 := by
    clear hs
    generalize n.op = op at hk hop
    subst hop
    cases hk with
    | sto _ _ _ h1 _ _ => exact h1
  rw [show n.op = 15 from hop]
  exact applySto_any t x y z A C K _ cap _ cc kc n.so n.nu n.nm w hK (hok x (by simp)) hs5 (hcp x (by simp))
set_option maxRecDepth 100000 in
set_option maxHeartbeats 8000000 in
theorem evaluate_any {l t : List EA} (hp : t.Perm l) (ha : Asc t) (hl : t.length ≤ 2000) (hcap : ∀ x ∈ t, CapV x.val) (hv : validM l = true) (n : Nd) : allN n = true → (∀ p ∈ nodesOf n, p.op ≠ 42) → n.nm.size ≤ maxLen →
    ∀ (A C : Option Addr) (cap cc : Nat) (w : World), LiesM w A t → Lies w C cc n.ks →
    Calls Tryz.prog 74 #[.slice A t.length cap, nv n.op n.so n.nm n.nu (.slice C n.ks.length cc)] w (EvP t (evO l n) w) := by
  induction n using Nd.ind with
  | h n ih =>
  intro hall hno hnm A C cap cc w hT hC
  have HALL := hall
  rw [allN_eq, Bool.and_eq_true] at hall
  obtain ⟨ho, hks⟩ := hall
  unfold okN at ho
  rw [Bool.and_eq_true] at ho
  have HNO := hno
  rw [nodesOf_eq] at hno
  have hfew : n.ks.length ≤ 8 := kids_few ho.2 (hno n (by simp))
  have IH := Lib.hid (fun (i : Nat) (hi : i < n.ks.length) (A' : Option Addr) (C' : Nat) (W' : World) (h1 : LiesM W' A t) (h2 : Lies W' A' C' n.ks[i].ks) => ih i hi (List.all_eq_true.1 hks _ (List.getElem_mem hi)) (fun p hp => hno p (List.mem_cons_of_mem _ (List.mem_flatMap.2 ⟨_, List.getElem_mem hi, hp⟩))) (hC.fine hi).nm A A' cap C' W' h1 h2)
  have HAP := Lib.hid (fun (xs : List VA) (K : Option Addr) (kc : Nat) (W' : World) (hb : RowKit.Below w.heap.size w W') (hK : LiesVs W' K xs) (hcp : ∀ x ∈ xs, CapV x) (he : evOs l n.ks = some (xs.map (·.v))) => apply_end hp ha hl hcap hv n HALL HNO hnm A C K cap cc kc xs W' (hT.later hb) (hC.later hb) hK hcp he)
  have HOK := Lib.hid (fun v (h : evO l n = some v) => (evO_ok hv n HALL HNO v h).1.small)
  have HNN := Lib.hid (fun (h : evOs l n.ks = none) => evO_none (t := n) h)
  clear ih ho hks hno HALL HNO hp ha hcap hv
  obtain ⟨i0, hi, hz0, hz1, hz2⟩ := info_parts info63c
  have I0 := Lib.hid hi
  have Z0 := Lib.hid hz0
  have Z1 := Lib.hid hz1
  have Z2 := Lib.hid hz2
  clear hi hz0 hz1 hz2
  obtain ⟨W, hW⟩ : ∃ W, (w.alloc (.cells #[.int .i64 n.op, .int .i64 n.so, .string n.nm, .int .i64 n.nu, .slice C n.ks.length cc] 44)).alloc (.cells #[.int .i64 0, .int .i64 0, .slice none 0 0, .slice none 0 0, .slice none 0 0] 63) = W := ⟨_, rfl⟩
  have HB := Lib.hid (show RowKit.Below w.heap.size w W by rw [← hW]; exact ((RowKit.Below.refl _ _).alloc (Nat.le_refl _) _).alloc (by rw [one_size]; omega) _)
  have HP := Lib.hid (show W.heap[w.heap.size]? = some (.cells #[.int .i64 n.op, .int .i64 n.so, .string n.nm, .int .i64 n.nu, .slice C n.ks.length cc] 44) by rw [← hW]; exact two_fst _ _ _)
  have HQ := Lib.hid (show W.heap[w.heap.size + 1]? = some (.cells #[.int .i64 0, .int .i64 0, .slice none 0 0, .slice none 0 0, .slice none 0 0] 63) by rw [← hW]; exact two_snd _ _ _)
  have HSZ := Lib.hid (show W.heap.size = w.heap.size + 2 by rw [← hW]; exact two_size _ _ _)
  have HT := Lib.hid hT
  have HC := Lib.hid hC
  have HW := Lib.hid hW
  clear hW hT hC
  have hout : ∀ {o : Option Vl}, evO l n = o → o = evO l n := fun h => h.symm
  generalize hev : evO l n = o at *
  generalize hks : n.ks = ks at *
  generalize n.op = op at *
  generalize n.so = so at *
  generalize n.nm = nm at *
  generalize n.nu = nu at *
  clear hout hev hks
  go_enter Tryz.func74, Tryz.ntmps74
  go_upto_region 1 with fail
  rw [HW.out]
  obtain ⟨z0, z1, z2, z3, z4, f0, f1, f2, f3, f4⟩ := boxT_facts HP.out
  have BY : Hid (i0.bytes * ks.length ≤ 281474976710656) := by show _ ≤ _; rw [Z2.out]; omega
  have ML : Hid (ks.length ≤ maxLen) := by show _ ≤ _; unfold maxLen; omega
  go_wp2_with (at_make; refine wpList_make_full _ rfl _ _ 112 rfl W.heap.size 63 i0 _ 5 Tryz.underlying112 I0.out Z0.out Z1.out .i64 .i64 _ _ ks.length rfl rfl rfl rfl BY.out ML.out (Nat.le_refl _) ?_; intro w1 hown1 hgrow1; clear z0 z1 z2 z3 z4 f0 f1 f2 f3 f4; have B1 : RowKit.Below W.heap.size W w1 := (RowKit.Below.refl _ _).grown hgrow1 (Nat.le_refl _) (fun k e => by cases e); obtain ⟨z0, z1, z2, z3, z4, f0, f1, f2, f3, f4⟩ := boxT_facts ((B1.block _ (Array.getElem?_eq_some_iff.1 HP.out).1).trans HP.out); clear B1)
  have M0 : ∃ cur, MO t w W.heap.size ks.length w1 cur [] := by
    rcases hown1.2 with ⟨h, _⟩ | ⟨g, cap', cur, hv, h1, h2, h3, h4, h5, h6⟩
    · cases h
    · cases hv
      have hsz := HSZ.out
      exact ⟨cur, by omega, by omega, h2, h5, by simp [flatV], fun _ h => by simp at h, fun _ h => by simp at h, HB.out.trans (((RowKit.Below.refl _ _).grown hgrow1 (Nat.le_refl _) (fun k e => by cases e)).mono HB.out.size), by have := (Array.getElem?_eq_some_iff.1 h2).1; omega⟩
  have BW1 := Lib.hid (show RowKit.Below W.heap.size W w1 from (RowKit.Below.refl _ _).grown hgrow1 (Nat.le_refl _) (fun k e => by cases e))
  clear hown1 hgrow1
  clear z0 z1 z2 z3 z4 f0 f1 f2 f3 f4
  go_loopw [19] (fun i wr => ∃ k : Nat, k ≤ ks.length ∧ i = .int .i64 k ∧ Hid (∃ cur xs, MO t w W.heap.size ks.length wr cur xs ∧ xs.length = k ∧ evOs l (ks.take k) = some (xs.map (·.v)) ∧ RowKit.Below W.heap.size W wr)) (fun i _ => ks.length - (intOf i).toNat)
  case atStart => exact ⟨0, Nat.zero_le _, rfl, M0.elim fun cur h => ⟨cur, [], h, rfl, by simp [evOs], BW1.out⟩⟩
  case round =>
    obtain ⟨k, hk, rfl, cur, xs, hM, hlen, hev, hB1⟩ := hrel
    have HM := Lib.hid hM
    have HEV := Lib.hid hev
    have HB1 := Lib.hid hB1
    have HXL := Lib.hid hlen
    have hbw := hM.below
    have hrow0 := (HB1.out.block _ (Array.getElem?_eq_some_iff.1 HP.out).1).trans HP.out
    have hrow1 := (HB1.out.block _ (Array.getElem?_eq_some_iff.1 HQ.out).1).trans HQ.out
    have HR0 := Lib.hid hrow0
    have HR1 := Lib.hid hrow1
    clear hM hev hB1 hlen hrow0 hrow1
    by_cases hlt : k < ks.length
    · obtain ⟨b, o, A', C', rfl, h5, hK⟩ := HC.out.kid hlt
      have h5' := h5.later hbw
      have hK' := Lib.hid (hK.later hbw)
      have c := Lib.hid (IH.out k hlt A' C')
      have HTK := Lib.hid (fun (v : Vl) (h : evO l ks[k] = some v) => evOs_take hlt HEV.out h)
      have HNK := Lib.hid (fun (h : evO l ks[k] = none) => HNN.out (evOs_none hlt h))
      have HLT := Lib.hid hlt
      generalize ks[k] = q at *
      obtain ⟨a0, a1, a2, a3, a4⟩ := h5'
      have HBW := Lib.hid hbw
      clear h5 hK IH hbw HAP HOK HNN
      go_wp2_with fail
      have G1 := Lib.hid ((RowKit.Below.refl wr.heap.size wr).alloc (Nat.le_refl _) (.cells #[.int .i64 q.op, .int .i64 q.so, .string q.nm, .int .i64 q.nu, .slice A' q.ks.length C'] 44))
      refine (c.out _ (HT.out.later (HBW.out.trans (G1.out.mono HBW.out.size))) (hK'.out.later G1.out)).mono ?_
      rintro e w2 ⟨y, ok, rfl, b2, hn, hy⟩
      have hg2 := G1.out.trans (b2.mono G1.out.size)
      have G2 := Lib.hid hg2
      have HY := Lib.hid hy
      have hR1 := (hg2.block _ (Array.getElem?_eq_some_iff.1 HR1.out).1).trans HR1.out
      have HM2 := Lib.hid (HM.out.later hg2)
      clear b2 hg2 hy a0 a1 a2 a3 a4 c
      cases ok with
      | false =>
        have hnone : evO l q = none := by
          cases h : evO l q with
          | none => rfl
          | some v => have := (HY.out v h).1; cases this
        have HO := Lib.hid (HNK.out hnone)
        have g3 := (RowKit.Below.refl w2.heap.size w2).alloc (Nat.le_refl _) (boxV y 63)
        have hR3 := (g3.block _ (Array.getElem?_eq_some_iff.1 hR1).1).trans hR1
        obtain ⟨z0, z1, z2, z3, z4, f0, f1, f2, f3, f4⟩ := boxT_facts hR3
        have HF := Lib.hid (setT_same (.int .i64 0) (.int .i64 0) (.slice none 0 0) (.slice none 0 0) (.slice none 0 0) hR3)
        have HBF := Lib.hid (Below.set5 (HBW.out.trans ((G2.out.trans (g3.mono G2.out.size)).mono HBW.out.size)) (b := w.heap.size + 1) (by omega) (.int .i64 0) (.int .i64 0) (.slice none 0 0) (.slice none 0 0) (.slice none 0 0))
        clear hR1 hR3 g3 hn hnone HY HTK HNK HM HM2
        go_wp2_with fail
        clear z0 z1 z2 z3 z4 f0 f1 f2 f3 f4
        obtain ⟨y0, y1, y2, y3, y4, _, _, _, _, _⟩ := boxT_facts HF.out
        exact bodyPost_ret (v := .tuple #[.agg #[.int .i64 0, .int .i64 0, .slice none 0 0, .slice none 0 0, .slice none 0 0], .bool false]) (by simp [results, Tryz.results74, go_sem, y0, y1, y2, y3, y4]) rfl ⟨⟨zV, none, 0, none, 0, none, 0⟩, false, rfl, HBF.out, fun _ => rfl, fun v h => by rw [HO.out] at h; cases h⟩
      | true =>
        obtain ⟨v, hv⟩ : ∃ v, evO l q = some v := by
          cases h : evO l q with
          | none => have := hn h; cases this
          | some v => exact ⟨v, rfl⟩
        obtain ⟨_, hyv, hyl, hyc, hyr⟩ := HY.out v hv
        have HEV2 := Lib.hid (HTK.out v hv)
        obtain ⟨W3, hW3⟩ : ∃ W3, w2.alloc (boxV y 63) = W3 := ⟨_, rfl⟩
        have g3 : RowKit.Below w2.heap.size w2 W3 := by rw [← hW3]; exact (RowKit.Below.refl w2.heap.size w2).alloc (Nat.le_refl _) (boxV y 63)
        have HROB : Hid (∀ P : Nat → Prop, (∀ k, w.heap.size ≤ k → ¬ P k) → TabP P w t → RobP (fun k => P k ∨ (w.heap.size ≤ k ∧ k < w.heap.size + 3)) W3 y) := fun P h1 h2 => by
          have hbg := HM.out.big
          have hs1 := G1.out.size
          refine (hyr _ (fun k hk => ?_) (h2.more (HBW.out.trans (G1.out.mono HBW.out.size)) (fun k h => h.1))).later g3
          rintro (h | h)
          · exact h1 k (by omega) h
          · omega
        have HM3 := Lib.hid (HM2.out.later g3)
        have HST := Lib.hid (HM3.out.step HXL.out HLT.out hyc HROB.out)
        have hrow := HM3.out.row
        have hcs := HM3.out.size
        have HEV3 := Lib.hid (show evOs l (ks.take (k + 1)) = some ((xs ++ [y]).map (·.v)) by rw [HEV2.out, List.map_append, List.map_singleton, hyv])
        obtain ⟨u0, hu0⟩ : ∃ y, cur[k * 5]? = some y := ⟨_, Array.getElem?_eq_getElem (by have := HLT.out; omega)⟩
        obtain ⟨u1, hu1⟩ : ∃ y, cur[k * 5 + 1]? = some y := ⟨_, Array.getElem?_eq_getElem (by have := HLT.out; omega)⟩
        obtain ⟨u2, hu2⟩ : ∃ y, cur[k * 5 + 2]? = some y := ⟨_, Array.getElem?_eq_getElem (by have := HLT.out; omega)⟩
        obtain ⟨u3, hu3⟩ : ∃ y, cur[k * 5 + 3]? = some y := ⟨_, Array.getElem?_eq_getElem (by have := HLT.out; omega)⟩
        obtain ⟨u4, hu4⟩ : ∃ y, cur[k * 5 + 4]? = some y := ⟨_, Array.getElem?_eq_getElem (by have := HLT.out; omega)⟩
        have z0 := cell_row hrow hu0
        have z1 := cell_row hrow hu1
        have z2 := cell_row hrow hu2
        have z3 := cell_row hrow hu3
        have z4 := cell_row hrow hu4
        have f0 := frozen_of_row W3 W.heap.size (k * 5) _ _ hrow
        have f1 := frozen_of_row W3 W.heap.size (k * 5 + 1) _ _ hrow
        have f2 := frozen_of_row W3 W.heap.size (k * 5 + 2) _ _ hrow
        have f3 := frozen_of_row W3 W.heap.size (k * 5 + 3) _ _ hrow
        have f4 := frozen_of_row W3 W.heap.size (k * 5 + 4) _ _ hrow
        have hbx : W3.heap[w2.heap.size]? = some (boxV y 63) := by rw [← hW3]; exact heap_alloc_new _ _
        have HBX := Lib.hid hbx
        have HB3 := Lib.hid (HB1.out.trans ((G2.out.trans (g3.mono G2.out.size)).mono HB1.out.size))
        have HB4 := Lib.hid (below_putV HB3.out (Nat.le_refl _) (k * 5) (.int .i64 y.v.so) (.int .i64 y.v.nu) (.slice y.a1 y.v.st.length y.c1) (.slice y.a2 y.v.ix.length y.c2) (.slice y.a3 y.v.xs.length y.c3))
        have HXL2 := Lib.hid (show (xs ++ [y]).length = k + 1 by rw [List.length_append, HXL.out]; rfl)
        clear hn hv hyv hyl hyc hyr HEV2 HROB HM2 HM3 HTK HNK HY hcs hu0 hu1 hu2 hu3 hu4 hrow g3 hR1 hbx
        subst hW3
        obtain ⟨x0, x1, x2, x3, x4, _, _, _, _, _⟩ := boxT_facts HBX.out
        go_wp2_with fail
        go_roundw
        case rel =>
          obtain ⟨cur', hst⟩ := HST.out
          exact ⟨k + 1, by have := HLT.out; omega, by go_num, cur', xs ++ [y], hst, HXL2.out, HEV3.out, HB4.out⟩
        case measure => simp [intOf]; have := HLT.out; omega
    · have hke : k = ks.length := by omega
      have HLV := Lib.hid (HM.out.lies (by rw [HXL.out]; exact hke) ML.out HT.out)
      have hevf := HEV.out
      rw [List.take_of_length_le (by omega)] at hevf
      have HEF := Lib.hid hevf
      have hxl : xs.length = ks.length := by rw [HXL.out]; exact hke
      obtain ⟨z0, z1, z2, z3, z4, f0, f1, f2, f3, f4⟩ := boxT_facts HR0.out
      have HBW := Lib.hid hbw
      have HXN := Lib.hid hxl
      clear hevf hbw IH
      go_wp2_with fail
      have hap := HAP.out xs (some ⟨W.heap.size, 0, none⟩) ks.length wr HBW.out HLV.out HM.out.cap HEF.out
      rw [hxl] at hap
      refine hap.mono ?_
      rintro e w2 ⟨y, rfl, b2, hn, hy⟩
      have HN := Lib.hid hn
      have HY := Lib.hid hy
      have hQ2 := (b2.block _ (Array.getElem?_eq_some_iff.1 HR1.out).1).trans HR1.out
      have HB2 := Lib.hid b2
      have HQ2 := Lib.hid hQ2
      clear z0 z1 z2 z3 z4 f0 f1 f2 f3 f4 b2 hn hy hap hxl
      obtain ⟨z0, z1, z2, z3, z4, f0, f1, f2, f3, f4⟩ := boxT_facts hQ2
      clear hQ2
      go_wp2_with fail
      obtain ⟨W3, hW3⟩ : ∃ W3, w2.alloc (boxV y 63) = W3 := ⟨_, rfl⟩
      have b3 : RowKit.Below w2.heap.size w2 W3 := by rw [← hW3]; exact (RowKit.Below.refl _ _).alloc (Nat.le_refl _) _
      have hr3 : W3.heap[w2.heap.size]? = some (boxV y 63) := by rw [← hW3]; exact heap_alloc_new _ _
      have hq3 := (b3.block _ (Array.getElem?_eq_some_iff.1 HQ2.out).1).trans HQ2.out
      have hb3 := HB2.out.trans (b3.mono HB2.out.size)
      rw [hW3]
      clear z0 z1 z2 z3 z4 f0 f1 f2 f3 f4 hW3
      obtain ⟨z0, z1, z2, z3, z4, _, _, _, _, _⟩ := boxT_facts hr3
      have hdr : RowKit.Below W3.heap.size W3 W3.drew := ⟨rfl, rfl, rfl, Nat.le_refl _, fun _ _ => rfl⟩
      have KQ := Lib.hid (fun (W' : World) (h : RowKit.Below W3.drew.heap.size W3.drew W') => (h.block _ (Array.getElem?_eq_some_iff.1 hq3).1).trans hq3)
      have KR := Lib.hid (fun (W' : World) (h : RowKit.Below W3.drew.heap.size W3.drew W') => (h.block _ (Array.getElem?_eq_some_iff.1 hr3).1).trans hr3)
      have KW := Lib.hid (fun (W' : World) (h : RowKit.Below W3.drew.heap.size W3.drew W') => b3.trans ((hdr.trans (h.mono (Nat.le_refl _))).mono b3.size))
      have KB := Lib.hid (fun (W' : World) (h : RowKit.Below W3.drew.heap.size W3.drew W') => HBW.out.trans ((hb3.trans ((hdr.trans (h.mono (Nat.le_refl _))).mono hb3.size)).mono HBW.out.size))
      clear hr3 hq3 hb3 b3 hdr
      have HFIN : Hid (∀ W', RowKit.Below W3.drew.heap.size W3.drew W' → EvP t o w (.returned (.tuple #[vv y, .bool (smallV y.v)])) (set5 W' (w.heap.size + 1) (.int .i64 y.v.so) (.int .i64 y.v.nu) (.slice y.a1 y.v.st.length y.c1) (.slice y.a2 y.v.ix.length y.c2) (.slice y.a3 y.v.xs.length y.c3))) := fun W' hb => by
        have hwr := HBW.out.size
        refine ⟨y, smallV y.v, rfl, Below.set5 (KB.out _ hb) (b := w.heap.size + 1) (by omega) _ _ _ _ _, HN.out, fun v hv => ?_⟩
        obtain ⟨h1, h2, h3, h4⟩ := HY.out v hv
        have hr : ∀ P : Nat → Prop, (∀ k, w.heap.size ≤ k → ¬ P k) → TabP P w t → RobP P (set5 W' (w.heap.size + 1) (.int .i64 y.v.so) (.int .i64 y.v.nu) (.slice y.a1 y.v.st.length y.c1) (.slice y.a2 y.v.ix.length y.c2) (.slice y.a3 y.v.xs.length y.c3)) y := fun P p1 p2 => by
          have hbg := HM.out.big
          have h5 := h4 (fun k => P k ∨ (w.heap.size ≤ k ∧ k < w.heap.size + 3)) (fun k hk => by rintro (h | h); exact p1 k (by omega) h; omega) (p2.more HBW.out (fun k h => h.1)) (fun x hx => HM.out.rob x hx P p1 p2)
          exact ((h5.later (KW.out _ hb)).same (set5_size _ _ _ _ _ _ _) (fun k hk => set5_other _ _ _ _ _ (fun e => hk (.inr (by omega))))).fewer (fun k h => .inl h)
        exact ⟨by rw [h1]; exact HOK.out v hv, h1, (hr noP (fun _ _ h => h) (TabP.none HT.out)).here, h3, hr⟩
      clear KB HN HY HAP HOK HNN HEV HEF HXL HXN HLV
      cases hsm : smallV y.v
      all_goals
        rw [hsm] at HFIN
        have HSM := Lib.hid hsm
        clear hsm
        go_region_with ((go_at_call 69; ((with_reducible refine (small_any y _).mono ?_); rintro e w4 ⟨rfl, b4⟩; rw [HSM.out]; obtain ⟨y0, y1, y2, y3, y4, g0, g1, g2, g3, g4⟩ := boxT_facts (KQ.out _ b4); obtain ⟨x0, x1, x2, x3, x4, _, _, _, _, _⟩ := boxT_facts (KR.out _ b4); have HF := Lib.hid (setT_same (.int .i64 y.v.so) (.int .i64 y.v.nu) (.slice y.a1 y.v.st.length y.c1) (.slice y.a2 y.v.ix.length y.c2) (.slice y.a3 y.v.xs.length y.c3) (KQ.out _ b4)); have HBF := Lib.hid (HFIN.out _ b4); clear b4)))
        all_goals
          clear z0 z1 z2 z3 z4 x0 x1 x2 x3 x4 y0 y1 y2 y3 y4 g0 g1 g2 g3 g4
          go_wp2_with fail
          obtain ⟨y0, y1, y2, y3, y4, _, _, _, _, _⟩ := boxT_facts HF.out
          first
          | exact bodyPost_ret (v := .tuple #[vv y, .bool true]) (by simp [results, Tryz.results74, go_sem, y0, y1, y2, y3, y4]) rfl HBF.out
          | exact bodyPost_ret (v := .tuple #[vv y, .bool false]) (by simp [results, Tryz.results74, go_sem, y0, y1, y2, y3, y4]) rfl HBF.out
end Go.Proofs.YtmeeombadkgneaaGreat
namespace Go.Proofs.YtmeeombadkgneaaGreat
open Go.Proofs Go.RowKit Go.Shelf Go.Sort Go.Lib

set_option linter.unusedVariables false
attribute [local go_sem] Oper.semAt_some
open Classical in
/-- Which error the value of a node is. -/
noncomputable def valE (l : List EA) (t : Nd) (sort : Int) : Int :=
  if checkV t sort ≠ 0 then checkV t sort else if validM l = false ∨ holeB (preN 1 t) = true then 3 else if evO l t = none then 2 else 0
noncomputable def valV (l : List EA) (t : Nd) (sort : Int) : Vl := if valE l t sort = 0 then (evO l t).getD zV else zV
theorem valE_check {l : List EA} {t : Nd} {sort : Int} (h : checkV t sort ≠ 0) : valE l t sort = checkV t sort := if_pos h
theorem valE_form {l : List EA} {t : Nd} {sort : Int} (h : checkV t sort = 0) (h2 : validM l = false ∨ holeB (preN 1 t) = true) : valE l t sort = 3 := by
  unfold valE; rw [if_neg (by simpa using h), if_pos h2]
theorem valE_great {l : List EA} {t : Nd} {sort : Int} (h : checkV t sort = 0) (h2 : validM l = true) (h3 : holeB (preN 1 t) = false) (h4 : evO l t = none) : valE l t sort = 2 := by
  unfold valE; rw [if_neg (by simpa using h), if_neg (by simp [h2, h3]), if_pos h4]
theorem valE_ok {l : List EA} {t : Nd} {sort : Int} (h : checkV t sort = 0) (h2 : validM l = true) (h3 : holeB (preN 1 t) = false) {v : Vl} (h4 : evO l t = some v) : valE l t sort = 0 := by
  unfold valE; rw [if_neg (by simpa using h), if_neg (by simp [h2, h3]), if_neg (by simp [h4])]
theorem valV_err {l : List EA} {t : Nd} {sort : Int} (h : valE l t sort ≠ 0) : valV l t sort = zV := if_neg h
theorem valV_ok {l : List EA} {t : Nd} {sort : Int} (h : valE l t sort = 0) {v : Vl} (h4 : evO l t = some v) : valV l t sort = v := by unfold valV; rw [if_pos h, h4]; rfl
theorem check_allN {t : Nd} {sort : Int} (h : checkV t sort = 0) : allN t = true := by
  unfold checkV at h
  split at h
  · cases h
  split at h
  · cases h
  split at h
  · cases h
  · rename_i h3
    rw [← allN_pre]
    simpa using fun e => h3 (.inl e)
theorem hole_no {t : Nd} (h : holeB (preN 1 t) = false) : ∀ p ∈ nodesOf t, p.op ≠ 42 := by
  intro p hp e
  obtain ⟨q, hq, rfl⟩ := List.mem_map.1 hp
  unfold holeB at h
  have := List.any_eq_false.1 h q hq
  exact this (by simp [e])
abbrev z63 : Obj := .cells #[.int .i64 0, .int .i64 0, .slice none 0 0, .slice none 0 0, .slice none 0 0] 27
/-- What Value and its like return. -/
def ValP (l : List EA) (t : Nd) (sort : Int) (w : World) (e : Ending) (w' : World) : Prop :=
  (∃ y : VA, e = .returned (.tuple #[vv y, .int .i64 (valE l t sort)]) ∧ y.v = valV l t sort ∧ RobV w.heap.size w' y) ∧ RowKit.Below w.heap.size w w'
theorem zval_post {l : List EA} {t : Nd} {sort : Int} {w w' : World} {c : Int} (hc : valE l t sort = c) (h0 : c ≠ 0) (hb : RowKit.Below w.heap.size w w') : ValP l t sort w (.returned (.tuple #[.agg #[.int .i64 0, .int .i64 0, .slice none 0 0, .slice none 0 0, .slice none 0 0], .int .i64 c])) w' := by
  subst hc
  exact ⟨⟨⟨zV, none, 0, none, 0, none, 0⟩, rfl, (valV_err h0).symm, fun W _ => ⟨ints_nil W, ints_nil W, ints_nil W, by simp [zV], by simp [zV], by simp [zV]⟩⟩, hb⟩
set_option maxRecDepth 100000 in
set_option maxHeartbeats 4000000 in
theorem valueOf1 (l : List EA) (n : Nd) (sort : Int) (A C : Option Addr) (cap cc : Nat) (w : World) (hL : LiesM w A l) (hcap : ∀ x ∈ l, CapV x.val) (hC : Lies w C cc n.ks) (hF : Fine n) (h : checkV n sort ≠ 0) :
    Calls Tryz.prog 46 #[nv n.op n.so n.nm n.nu (.slice C n.ks.length cc), .int .i64 sort, .slice A l.length cap] w (ValP l n sort w) := by
  have HE := Lib.hid (valE_check (l := l) h)
  have hc := h
  obtain ⟨W, hW⟩ : ∃ W, (w.alloc (.cells #[.int .i64 n.op, .int .i64 n.so, .string n.nm, .int .i64 n.nu, .slice C n.ks.length cc] 44)).alloc (.cells #[.int .i64 0, .int .i64 0, .slice none 0 0, .slice none 0 0, .slice none 0 0] 27) = W := ⟨_, rfl⟩
  have HB := Lib.hid (show RowKit.Below w.heap.size w W by rw [← hW]; exact ((RowKit.Below.refl _ _).alloc (Nat.le_refl _) _).alloc (by rw [one_size]; omega) _)
  have HP := Lib.hid (show W.heap[w.heap.size]? = some (.cells #[.int .i64 n.op, .int .i64 n.so, .string n.nm, .int .i64 n.nu, .slice C n.ks.length cc] 44) by rw [← hW]; exact two_fst _ _ _)
  have HQ := Lib.hid (show W.heap[w.heap.size + 1]? = some (.cells #[.int .i64 0, .int .i64 0, .slice none 0 0, .slice none 0 0, .slice none 0 0] 27) by rw [← hW]; exact two_snd _ _ _)
  have HL := Lib.hid (hL.later HB.out)
  have CK := Lib.hid (check_any n sort C cc W (hC.later HB.out) hF)
  have CH := Lib.hid (fun W' (h : RowKit.Below W.heap.size W W') => holes_any n C cc W' ((hC.later HB.out).later h) hF)
  have HW := Lib.hid hW
  clear hW hL hC
  generalize n.ks.length = len at *
  generalize n.op = op at *
  generalize n.so = so at *
  generalize n.nm = nm at *
  generalize n.nu = nu at *
  obtain ⟨z0, z1, z2, z3, z4, f0, f1, f2, f3, f4⟩ := boxT_facts HP.out
  go_enter Tryz.func46, Tryz.ntmps46
  go_upto_region 1 with fail
  rw [HW.out]
  go_wp2_with fail
  refine CK.out.mono ?_
  rintro e w1 ⟨rfl, b1⟩
  have B1 := Lib.hid b1
  clear b1 z0 z1 z2 z3 z4 f0 f1 f2 f3 f4
  generalize checkV n sort = c at *
  have hcc : (c == 0) = false := by simpa using hc
  have H0 := Lib.hid hc
  clear h
  have hQZ := (B1.out.block _ (Array.getElem?_eq_some_iff.1 HQ.out).1).trans HQ.out
  have HX := Lib.hid (setT_same (.int .i64 0) (.int .i64 0) (.slice none 0 0) (.slice none 0 0) (.slice none 0 0) hQZ)
  have HBX := Lib.hid (Below.set5 (HB.out.trans (B1.out.mono HB.out.size)) (b := w.heap.size + 1) (by omega) (.int .i64 0) (.int .i64 0) (.slice none 0 0) (.slice none 0 0) (.slice none 0 0))
  obtain ⟨y0, y1, y2, y3, y4, g0, g1, g2, g3, g4⟩ := boxT_facts hQZ
  clear hQZ
  go_wp2_with fail
  clear y0 y1 y2 y3 y4 g0 g1 g2 g3 g4
  obtain ⟨y0, y1, y2, y3, y4, _, _, _, _, _⟩ := boxT_facts HX.out
  exact bodyPost_ret (v := .tuple #[.agg #[.int .i64 0, .int .i64 0, .slice none 0 0, .slice none 0 0, .slice none 0 0], .int .i64 c]) (by simp [results, Tryz.results46, go_sem, y0, y1, y2, y3, y4]) rfl (zval_post HE.out H0.out HBX.out)
set_option maxRecDepth 100000 in
set_option maxHeartbeats 4000000 in
theorem valueOf2 (l : List EA) (n : Nd) (sort : Int) (A C : Option Addr) (cap cc : Nat) (w : World) (hL : LiesM w A l) (hcap : ∀ x ∈ l, CapV x.val) (hC : Lies w C cc n.ks) (hF : Fine n) (h : checkV n sort = 0) (h2 : validM l = false) :
    Calls Tryz.prog 46 #[nv n.op n.so n.nm n.nu (.slice C n.ks.length cc), .int .i64 sort, .slice A l.length cap] w (ValP l n sort w) := by
  have HE := Lib.hid (valE_form (l := l) h (.inl h2))
  have HC0 := Lib.hid h
  have HV := Lib.hid h2
  obtain ⟨W, hW⟩ : ∃ W, (w.alloc (.cells #[.int .i64 n.op, .int .i64 n.so, .string n.nm, .int .i64 n.nu, .slice C n.ks.length cc] 44)).alloc (.cells #[.int .i64 0, .int .i64 0, .slice none 0 0, .slice none 0 0, .slice none 0 0] 27) = W := ⟨_, rfl⟩
  have HB := Lib.hid (show RowKit.Below w.heap.size w W by rw [← hW]; exact ((RowKit.Below.refl _ _).alloc (Nat.le_refl _) _).alloc (by rw [one_size]; omega) _)
  have HP := Lib.hid (show W.heap[w.heap.size]? = some (.cells #[.int .i64 n.op, .int .i64 n.so, .string n.nm, .int .i64 n.nu, .slice C n.ks.length cc] 44) by rw [← hW]; exact two_fst _ _ _)
  have HQ := Lib.hid (show W.heap[w.heap.size + 1]? = some (.cells #[.int .i64 0, .int .i64 0, .slice none 0 0, .slice none 0 0, .slice none 0 0] 27) by rw [← hW]; exact two_snd _ _ _)
  have HL := Lib.hid (hL.later HB.out)
  have CK := Lib.hid (check_any n sort C cc W (hC.later HB.out) hF)
  have CH := Lib.hid (fun W' (h : RowKit.Below W.heap.size W W') => holes_any n C cc W' ((hC.later HB.out).later h) hF)
  have HW := Lib.hid hW
  clear hW hL hC
  generalize n.ks.length = len at *
  generalize n.op = op at *
  generalize n.so = so at *
  generalize n.nm = nm at *
  generalize n.nu = nu at *
  obtain ⟨z0, z1, z2, z3, z4, f0, f1, f2, f3, f4⟩ := boxT_facts HP.out
  go_enter Tryz.func46, Tryz.ntmps46
  go_upto_region 1 with fail
  rw [HW.out]
  go_wp2_with fail
  refine CK.out.mono ?_
  rintro e w1 ⟨rfl, b1⟩
  have B1 := Lib.hid b1
  clear b1 z0 z1 z2 z3 z4 f0 f1 f2 f3 f4
  rw [show checkV n sort = 0 from HC0.out]
  obtain ⟨z0, z1, z2, z3, z4, f0, f1, f2, f3, f4⟩ := boxT_facts ((B1.out.block _ (Array.getElem?_eq_some_iff.1 HP.out).1).trans HP.out)
  go_wp2_with fail
  refine (tableOf_any l A cap _ (HL.out.later B1.out)).mono ?_
  rintro e w2 ⟨⟨v, rfl, hv⟩, b2⟩
  rcases hv with ⟨_, rfl⟩ | ⟨hv, _⟩
  case inr => rw [HV.out] at hv; cases hv
  have B2 := Lib.hid (B1.out.trans (b2.mono B1.out.size))
  have H0 := Lib.hid (show (3 : Int) ≠ 0 by decide)
  clear b2 z0 z1 z2 z3 z4 f0 f1 f2 f3 f4 h h2
  have hQZ := (B2.out.block _ (Array.getElem?_eq_some_iff.1 HQ.out).1).trans HQ.out
  have HX := Lib.hid (setT_same (.int .i64 0) (.int .i64 0) (.slice none 0 0) (.slice none 0 0) (.slice none 0 0) hQZ)
  have HBX := Lib.hid (Below.set5 (HB.out.trans (B2.out.mono HB.out.size)) (b := w.heap.size + 1) (by omega) (.int .i64 0) (.int .i64 0) (.slice none 0 0) (.slice none 0 0) (.slice none 0 0))
  obtain ⟨y0, y1, y2, y3, y4, g0, g1, g2, g3, g4⟩ := boxT_facts hQZ
  clear hQZ
  go_wp2_with fail
  clear y0 y1 y2 y3 y4 g0 g1 g2 g3 g4
  obtain ⟨y0, y1, y2, y3, y4, _, _, _, _, _⟩ := boxT_facts HX.out
  exact bodyPost_ret (v := .tuple #[.agg #[.int .i64 0, .int .i64 0, .slice none 0 0, .slice none 0 0, .slice none 0 0], .int .i64 3]) (by simp [results, Tryz.results46, go_sem, y0, y1, y2, y3, y4]) rfl (zval_post HE.out H0.out HBX.out)
set_option maxRecDepth 100000 in
set_option maxHeartbeats 4000000 in
theorem valueOf3 (l : List EA) (n : Nd) (sort : Int) (A C : Option Addr) (cap cc : Nat) (w : World) (hL : LiesM w A l) (hcap : ∀ x ∈ l, CapV x.val) (hC : Lies w C cc n.ks) (hF : Fine n) (h : checkV n sort = 0) (h2 : validM l = true) (h3 : holeB (preN 1 n) = true) :
    Calls Tryz.prog 46 #[nv n.op n.so n.nm n.nu (.slice C n.ks.length cc), .int .i64 sort, .slice A l.length cap] w (ValP l n sort w) := by
  have HE := Lib.hid (valE_form (l := l) h (.inr h3))
  have HC0 := Lib.hid h
  have HV := Lib.hid h2
  have HH := Lib.hid h3
  obtain ⟨W, hW⟩ : ∃ W, (w.alloc (.cells #[.int .i64 n.op, .int .i64 n.so, .string n.nm, .int .i64 n.nu, .slice C n.ks.length cc] 44)).alloc (.cells #[.int .i64 0, .int .i64 0, .slice none 0 0, .slice none 0 0, .slice none 0 0] 27) = W := ⟨_, rfl⟩
  have HB := Lib.hid (show RowKit.Below w.heap.size w W by rw [← hW]; exact ((RowKit.Below.refl _ _).alloc (Nat.le_refl _) _).alloc (by rw [one_size]; omega) _)
  have HP := Lib.hid (show W.heap[w.heap.size]? = some (.cells #[.int .i64 n.op, .int .i64 n.so, .string n.nm, .int .i64 n.nu, .slice C n.ks.length cc] 44) by rw [← hW]; exact two_fst _ _ _)
  have HQ := Lib.hid (show W.heap[w.heap.size + 1]? = some (.cells #[.int .i64 0, .int .i64 0, .slice none 0 0, .slice none 0 0, .slice none 0 0] 27) by rw [← hW]; exact two_snd _ _ _)
  have HL := Lib.hid (hL.later HB.out)
  have CK := Lib.hid (check_any n sort C cc W (hC.later HB.out) hF)
  have CH := Lib.hid (fun W' (h : RowKit.Below W.heap.size W W') => holes_any n C cc W' ((hC.later HB.out).later h) hF)
  have HW := Lib.hid hW
  clear hW hL hC
  generalize n.ks.length = len at *
  generalize n.op = op at *
  generalize n.so = so at *
  generalize n.nm = nm at *
  generalize n.nu = nu at *
  obtain ⟨z0, z1, z2, z3, z4, f0, f1, f2, f3, f4⟩ := boxT_facts HP.out
  go_enter Tryz.func46, Tryz.ntmps46
  go_upto_region 1 with fail
  rw [HW.out]
  go_wp2_with fail
  refine CK.out.mono ?_
  rintro e w1 ⟨rfl, b1⟩
  have B1 := Lib.hid b1
  clear b1 z0 z1 z2 z3 z4 f0 f1 f2 f3 f4
  rw [show checkV n sort = 0 from HC0.out]
  obtain ⟨z0, z1, z2, z3, z4, f0, f1, f2, f3, f4⟩ := boxT_facts ((B1.out.block _ (Array.getElem?_eq_some_iff.1 HP.out).1).trans HP.out)
  go_wp2_with fail
  refine (tableOf_any l A cap _ (HL.out.later B1.out)).mono ?_
  rintro e w2 ⟨⟨v, rfl, hv⟩, b2⟩
  rcases hv with ⟨hv, _⟩ | ⟨_, t, A', c, rfl, hlt, hperm, hasc⟩
  · rw [HV.out] at hv; cases hv
  have B2 := Lib.hid (B1.out.trans (b2.mono B1.out.size))
  have HT := Lib.hid hlt
  have HPM := Lib.hid hperm
  have HA := Lib.hid hasc
  obtain ⟨z0, z1, z2, z3, z4, f0, f1, f2, f3, f4⟩ := boxT_facts ((B2.out.block _ (Array.getElem?_eq_some_iff.1 HP.out).1).trans HP.out)
  clear b2 hlt hasc hperm
  go_wp2_with fail
  refine (CH.out _ B2.out).mono ?_
  rintro e w3 ⟨rfl, b3⟩
  rw [HH.out]
  have HT3 := Lib.hid (HT.out.later b3)
  have B3 := Lib.hid (B2.out.trans (b3.mono B2.out.size))
  clear b3 z0 z1 z2 z3 z4 f0 f1 f2 f3 f4
  have H0 := Lib.hid (show (3 : Int) ≠ 0 by decide)
  clear h h2 h3
  have hQZ := (B3.out.block _ (Array.getElem?_eq_some_iff.1 HQ.out).1).trans HQ.out
  have HX := Lib.hid (setT_same (.int .i64 0) (.int .i64 0) (.slice none 0 0) (.slice none 0 0) (.slice none 0 0) hQZ)
  have HBX := Lib.hid (Below.set5 (HB.out.trans (B3.out.mono HB.out.size)) (b := w.heap.size + 1) (by omega) (.int .i64 0) (.int .i64 0) (.slice none 0 0) (.slice none 0 0) (.slice none 0 0))
  obtain ⟨y0, y1, y2, y3, y4, g0, g1, g2, g3, g4⟩ := boxT_facts hQZ
  clear hQZ
  go_wp2_with fail
  clear y0 y1 y2 y3 y4 g0 g1 g2 g3 g4
  obtain ⟨y0, y1, y2, y3, y4, _, _, _, _, _⟩ := boxT_facts HX.out
  exact bodyPost_ret (v := .tuple #[.agg #[.int .i64 0, .int .i64 0, .slice none 0 0, .slice none 0 0, .slice none 0 0], .int .i64 3]) (by simp [results, Tryz.results46, go_sem, y0, y1, y2, y3, y4]) rfl (zval_post HE.out H0.out HBX.out)
set_option maxRecDepth 100000 in
set_option maxHeartbeats 4000000 in
theorem valueOf4 (l : List EA) (n : Nd) (sort : Int) (A C : Option Addr) (cap cc : Nat) (w : World) (hL : LiesM w A l) (hcap : ∀ x ∈ l, CapV x.val) (hC : Lies w C cc n.ks) (hF : Fine n) (h : checkV n sort = 0) (h2 : validM l = true) (h3 : holeB (preN 1 n) = false) (h4 : evO l n = none) :
    Calls Tryz.prog 46 #[nv n.op n.so n.nm n.nu (.slice C n.ks.length cc), .int .i64 sort, .slice A l.length cap] w (ValP l n sort w) := by
  have HE := Lib.hid (valE_great (l := l) h h2 h3 h4)
  have HC0 := Lib.hid h
  have HV := Lib.hid h2
  have HH := Lib.hid h3
  have HN := Lib.hid h4
  obtain ⟨W, hW⟩ : ∃ W, (w.alloc (.cells #[.int .i64 n.op, .int .i64 n.so, .string n.nm, .int .i64 n.nu, .slice C n.ks.length cc] 44)).alloc (.cells #[.int .i64 0, .int .i64 0, .slice none 0 0, .slice none 0 0, .slice none 0 0] 27) = W := ⟨_, rfl⟩
  have HB := Lib.hid (show RowKit.Below w.heap.size w W by rw [← hW]; exact ((RowKit.Below.refl _ _).alloc (Nat.le_refl _) _).alloc (by rw [one_size]; omega) _)
  have HP := Lib.hid (show W.heap[w.heap.size]? = some (.cells #[.int .i64 n.op, .int .i64 n.so, .string n.nm, .int .i64 n.nu, .slice C n.ks.length cc] 44) by rw [← hW]; exact two_fst _ _ _)
  have HQ := Lib.hid (show W.heap[w.heap.size + 1]? = some (.cells #[.int .i64 0, .int .i64 0, .slice none 0 0, .slice none 0 0, .slice none 0 0] 27) by rw [← hW]; exact two_snd _ _ _)
  have HL := Lib.hid (hL.later HB.out)
  have CK := Lib.hid (check_any n sort C cc W (hC.later HB.out) hF)
  have CH := Lib.hid (fun W' (h : RowKit.Below W.heap.size W W') => holes_any n C cc W' ((hC.later HB.out).later h) hF)
  have HW := Lib.hid hW
  have HEV := Lib.hid (fun (t : List EA) (A' : Option Addr) (c : Nat) (W' : World) (hb : RowKit.Below W.heap.size W W') (hp : t.Perm l) (ha : Asc t) (hT : LiesM W' A' t) => evaluate_any hp ha (by rw [hp.length_eq]; exact ((validM_iff l).1 h2).1) (fun x hx => hcap x (hp.mem_iff.1 hx)) h2 n (check_allN h) (hole_no h3) hF.nm A' C c cc W' hT ((hC.later HB.out).later hb))
  clear hW hL hC
  generalize n.ks.length = len at *
  generalize n.op = op at *
  generalize n.so = so at *
  generalize n.nm = nm at *
  generalize n.nu = nu at *
  obtain ⟨z0, z1, z2, z3, z4, f0, f1, f2, f3, f4⟩ := boxT_facts HP.out
  go_enter Tryz.func46, Tryz.ntmps46
  go_upto_region 1 with fail
  rw [HW.out]
  go_wp2_with fail
  refine CK.out.mono ?_
  rintro e w1 ⟨rfl, b1⟩
  have B1 := Lib.hid b1
  clear b1 z0 z1 z2 z3 z4 f0 f1 f2 f3 f4
  rw [show checkV n sort = 0 from HC0.out]
  obtain ⟨z0, z1, z2, z3, z4, f0, f1, f2, f3, f4⟩ := boxT_facts ((B1.out.block _ (Array.getElem?_eq_some_iff.1 HP.out).1).trans HP.out)
  go_wp2_with fail
  refine (tableOf_any l A cap _ (HL.out.later B1.out)).mono ?_
  rintro e w2 ⟨⟨v, rfl, hv⟩, b2⟩
  rcases hv with ⟨hv, _⟩ | ⟨_, t, A', c, rfl, hlt, hperm, hasc⟩
  · rw [HV.out] at hv; cases hv
  have B2 := Lib.hid (B1.out.trans (b2.mono B1.out.size))
  have HT := Lib.hid hlt
  have HPM := Lib.hid hperm
  have HA := Lib.hid hasc
  obtain ⟨z0, z1, z2, z3, z4, f0, f1, f2, f3, f4⟩ := boxT_facts ((B2.out.block _ (Array.getElem?_eq_some_iff.1 HP.out).1).trans HP.out)
  clear b2 hlt hasc hperm
  go_wp2_with fail
  refine (CH.out _ B2.out).mono ?_
  rintro e w3 ⟨rfl, b3⟩
  rw [HH.out]
  have HT3 := Lib.hid (HT.out.later b3)
  have B3 := Lib.hid (B2.out.trans (b3.mono B2.out.size))
  clear b3 z0 z1 z2 z3 z4 f0 f1 f2 f3 f4
  obtain ⟨z0, z1, z2, z3, z4, f0, f1, f2, f3, f4⟩ := boxT_facts ((B3.out.block _ (Array.getElem?_eq_some_iff.1 HP.out).1).trans HP.out)
  have hev := HEV.out t A' c w3 B3.out HPM.out HA.out HT3.out
  clear HEV HT HT3 HPM HA HL CK CH
  go_wp2_with fail
  refine hev.mono ?_
  rintro e w4 ⟨y, ok, rfl, b4, hn, hy⟩
  obtain rfl := hn HN.out
  have B4 := Lib.hid (B3.out.trans ((b4.trans ((RowKit.Below.refl w4.heap.size w4).alloc (Nat.le_refl _) (boxV y 63) |>.mono b4.size)).mono B3.out.size))
  have H0 := Lib.hid (show (2 : Int) ≠ 0 by decide)
  clear h h2 h3 h4 hev z0 z1 z2 z3 z4 f0 f1 f2 f3 f4 hn hy b4
  have hQZ := (B4.out.block _ (Array.getElem?_eq_some_iff.1 HQ.out).1).trans HQ.out
  have HX := Lib.hid (setT_same (.int .i64 0) (.int .i64 0) (.slice none 0 0) (.slice none 0 0) (.slice none 0 0) hQZ)
  have HBX := Lib.hid (Below.set5 (HB.out.trans (B4.out.mono HB.out.size)) (b := w.heap.size + 1) (by omega) (.int .i64 0) (.int .i64 0) (.slice none 0 0) (.slice none 0 0) (.slice none 0 0))
  obtain ⟨y0, y1, y2, y3, y4, g0, g1, g2, g3, g4⟩ := boxT_facts hQZ
  clear hQZ
  go_wp2_with fail
  clear y0 y1 y2 y3 y4 g0 g1 g2 g3 g4
  obtain ⟨y0, y1, y2, y3, y4, _, _, _, _, _⟩ := boxT_facts HX.out
  exact bodyPost_ret (v := .tuple #[.agg #[.int .i64 0, .int .i64 0, .slice none 0 0, .slice none 0 0, .slice none 0 0], .int .i64 2]) (by simp [results, Tryz.results46, go_sem, y0, y1, y2, y3, y4]) rfl (zval_post HE.out H0.out HBX.out)
set_option maxRecDepth 100000 in
set_option maxHeartbeats 4000000 in
theorem valueOf5 (l : List EA) (n : Nd) (sort : Int) (A C : Option Addr) (cap cc : Nat) (w : World) (hL : LiesM w A l) (hcap : ∀ x ∈ l, CapV x.val) (hC : Lies w C cc n.ks) (hF : Fine n) (v : Vl) (h : checkV n sort = 0) (h2 : validM l = true) (h3 : holeB (preN 1 n) = false) (h4 : evO l n = some v) :
    Calls Tryz.prog 46 #[nv n.op n.so n.nm n.nu (.slice C n.ks.length cc), .int .i64 sort, .slice A l.length cap] w (ValP l n sort w) := by
  have HE := Lib.hid (valE_ok (l := l) h h2 h3 h4)
  have HVV := Lib.hid (valV_ok (valE_ok (l := l) h h2 h3 h4) h4)
  have HC0 := Lib.hid h
  have HV := Lib.hid h2
  have HH := Lib.hid h3
  have HN := Lib.hid h4
  have HOK := Lib.hid (evO_ok h2 n (check_allN h) (hole_no h3) v h4).1
  obtain ⟨W, hW⟩ : ∃ W, (w.alloc (.cells #[.int .i64 n.op, .int .i64 n.so, .string n.nm, .int .i64 n.nu, .slice C n.ks.length cc] 44)).alloc (.cells #[.int .i64 0, .int .i64 0, .slice none 0 0, .slice none 0 0, .slice none 0 0] 27) = W := ⟨_, rfl⟩
  have HB := Lib.hid (show RowKit.Below w.heap.size w W by rw [← hW]; exact ((RowKit.Below.refl _ _).alloc (Nat.le_refl _) _).alloc (by rw [one_size]; omega) _)
  have HP := Lib.hid (show W.heap[w.heap.size]? = some (.cells #[.int .i64 n.op, .int .i64 n.so, .string n.nm, .int .i64 n.nu, .slice C n.ks.length cc] 44) by rw [← hW]; exact two_fst _ _ _)
  have HQ := Lib.hid (show W.heap[w.heap.size + 1]? = some (.cells #[.int .i64 0, .int .i64 0, .slice none 0 0, .slice none 0 0, .slice none 0 0] 27) by rw [← hW]; exact two_snd _ _ _)
  have HL := Lib.hid (hL.later HB.out)
  have CK := Lib.hid (check_any n sort C cc W (hC.later HB.out) hF)
  have CH := Lib.hid (fun W' (h : RowKit.Below W.heap.size W W') => holes_any n C cc W' ((hC.later HB.out).later h) hF)
  have HW := Lib.hid hW
  have HEV := Lib.hid (fun (t : List EA) (A' : Option Addr) (c : Nat) (W' : World) (hb : RowKit.Below W.heap.size W W') (hp : t.Perm l) (ha : Asc t) (hT : LiesM W' A' t) => evaluate_any hp ha (by rw [hp.length_eq]; exact ((validM_iff l).1 h2).1) (fun x hx => hcap x (hp.mem_iff.1 hx)) h2 n (check_allN h) (hole_no h3) hF.nm A' C c cc W' hT ((hC.later HB.out).later hb))
  clear hW hL hC
  generalize n.ks.length = len at *
  generalize n.op = op at *
  generalize n.so = so at *
  generalize n.nm = nm at *
  generalize n.nu = nu at *
  obtain ⟨z0, z1, z2, z3, z4, f0, f1, f2, f3, f4⟩ := boxT_facts HP.out
  go_enter Tryz.func46, Tryz.ntmps46
  go_upto_region 1 with fail
  rw [HW.out]
  go_wp2_with fail
  refine CK.out.mono ?_
  rintro e w1 ⟨rfl, b1⟩
  have B1 := Lib.hid b1
  clear b1 z0 z1 z2 z3 z4 f0 f1 f2 f3 f4
  rw [show checkV n sort = 0 from HC0.out]
  obtain ⟨z0, z1, z2, z3, z4, f0, f1, f2, f3, f4⟩ := boxT_facts ((B1.out.block _ (Array.getElem?_eq_some_iff.1 HP.out).1).trans HP.out)
  go_wp2_with fail
  refine (tableOf_any l A cap _ (HL.out.later B1.out)).mono ?_
  rintro e w2 ⟨⟨v, rfl, hv⟩, b2⟩
  rcases hv with ⟨hv, _⟩ | ⟨_, t, A', c, rfl, hlt, hperm, hasc⟩
  · rw [HV.out] at hv; cases hv
  have B2 := Lib.hid (B1.out.trans (b2.mono B1.out.size))
  have HT := Lib.hid hlt
  have HPM := Lib.hid hperm
  have HA := Lib.hid hasc
  obtain ⟨z0, z1, z2, z3, z4, f0, f1, f2, f3, f4⟩ := boxT_facts ((B2.out.block _ (Array.getElem?_eq_some_iff.1 HP.out).1).trans HP.out)
  clear b2 hlt hasc hperm
  go_wp2_with fail
  refine (CH.out _ B2.out).mono ?_
  rintro e w3 ⟨rfl, b3⟩
  rw [HH.out]
  have HT3 := Lib.hid (HT.out.later b3)
  have B3 := Lib.hid (B2.out.trans (b3.mono B2.out.size))
  clear b3 z0 z1 z2 z3 z4 f0 f1 f2 f3 f4
  obtain ⟨z0, z1, z2, z3, z4, f0, f1, f2, f3, f4⟩ := boxT_facts ((B3.out.block _ (Array.getElem?_eq_some_iff.1 HP.out).1).trans HP.out)
  have hev := HEV.out t A' c w3 B3.out HPM.out HA.out HT3.out
  clear HEV HT HT3 HPM HA HL CK CH
  go_wp2_with fail
  refine hev.mono ?_
  rintro e w4 ⟨y, ok, rfl, b4, hn, hy⟩
  obtain ⟨rfl, hyv, hyl, _, _⟩ := hy v HN.out
  have G1 := Lib.hid ((RowKit.Below.refl w4.heap.size w4).alloc (Nat.le_refl _) (boxV y 63))
  have HLY := Lib.hid (hyl.later G1.out)
  have B4 := Lib.hid (B3.out.trans ((b4.trans (G1.out.mono b4.size)).mono B3.out.size))
  have HYV := Lib.hid hyv
  clear h h2 h3 h4 hev z0 z1 z2 z3 z4 f0 f1 f2 f3 f4 hn hy b4 hyl hyv
  go_wp2_with fail
  refine (copyV_any y _ HLY.out (by rw [HYV.out]; exact Nat.le_trans HOK.out.l1 (by omega)) (by rw [HYV.out]; exact Nat.le_trans HOK.out.l2 (by omega)) (by rw [HYV.out, HOK.out.len]; exact Nat.le_trans HOK.out.l2 (by omega))).mono ?_
  rintro e w5 ⟨x, rfl, hxv, hxr, b5⟩
  have hsz4 := B4.out.size
  have hsz2 := HB.out.size
  have hszq := (Array.getElem?_eq_some_iff.1 HQ.out).1
  have hb5 := B4.out.trans (b5.mono B4.out.size)
  have hQ5 := (hb5.block _ (Array.getElem?_eq_some_iff.1 HQ.out).1).trans HQ.out
  have HX := Lib.hid (setT_same (.int .i64 x.v.so) (.int .i64 x.v.nu) (.slice x.a1 x.v.st.length x.c1) (.slice x.a2 x.v.ix.length x.c2) (.slice x.a3 x.v.xs.length x.c3) hQ5)
  have HBX := Lib.hid (Below.set5 (HB.out.trans (hb5.mono HB.out.size)) (b := w.heap.size + 1) (by omega) (.int .i64 x.v.so) (.int .i64 x.v.nu) (.slice x.a1 x.v.st.length x.c1) (.slice x.a2 x.v.ix.length x.c2) (.slice x.a3 x.v.xs.length x.c3))
  have HLX := Lib.hid (show RobV w.heap.size (set5 w5 (w.heap.size + 1) (.int .i64 x.v.so) (.int .i64 x.v.nu) (.slice x.a1 x.v.st.length x.c1) (.slice x.a2 x.v.ix.length x.c2) (.slice x.a3 x.v.xs.length x.c3)) x from RobV.less (RobV.same hxr (set5_size _ _ _ _ _ _ _) (fun k k1 => set5_other _ _ _ _ _ (by omega))) (by omega))
  have HXV := Lib.hid (hxv.trans HYV.out)
  clear hxv hxr b5 hb5 hsz4 hszq hsz2
  obtain ⟨y0, y1, y2, y3, y4, g0, g1, g2, g3, g4⟩ := boxT_facts hQ5
  clear hQ5
  go_wp2_with fail
  clear y0 y1 y2 y3 y4 g0 g1 g2 g3 g4
  obtain ⟨y0, y1, y2, y3, y4, _, _, _, _, _⟩ := boxT_facts HX.out
  exact bodyPost_ret (v := .tuple #[vv x, .int .i64 0]) (by simp [results, Tryz.results46, go_sem, y0, y1, y2, y3, y4]) rfl ⟨⟨x, by rw [HE.out], by rw [HVV.out]; exact HXV.out, HLX.out⟩, HBX.out⟩
theorem valueOf_any (l : List EA) (n : Nd) (sort : Int) (A C : Option Addr) (cap cc : Nat) (w : World) (hL : LiesM w A l) (hcap : ∀ x ∈ l, CapV x.val) (hC : Lies w C cc n.ks) (hF : Fine n) :
    Calls Tryz.prog 46 #[nv n.op n.so n.nm n.nu (.slice C n.ks.length cc), .int .i64 sort, .slice A l.length cap] w (ValP l n sort w) := by
  by_cases h : checkV n sort = 0
  · cases h2 : validM l with
    | false => exact valueOf2 l n sort A C cap cc w hL hcap hC hF h h2
    | true =>
      cases h3 : holeB (preN 1 n) with
      | true => exact valueOf3 l n sort A C cap cc w hL hcap hC hF h h2 h3
      | false =>
        cases h4 : evO l n with
        | none => exact valueOf4 l n sort A C cap cc w hL hcap hC hF h h2 h3 h4
        | some v => exact valueOf5 l n sort A C cap cc w hL hcap hC hF v h h2 h3 h4
  · exact valueOf1 l n sort A C cap cc w hL hcap hC hF h
def TruP (l : List EA) (t : Nd) (w : World) (e : Ending) (w' : World) : Prop :=
  e = .returned (.tuple #[.bool ((valV l t 2).nu == 1), .int .i64 (valE l t 2)]) ∧ RowKit.Below w.heap.size w w'
set_option maxRecDepth 100000 in
set_option maxHeartbeats 4000000 in
theorem value_any (l : List EA) (n : Nd) (A C : Option Addr) (cap cc : Nat) (w : World) (hL : LiesM w A l) (hcap : ∀ x ∈ l, CapV x.val) (hC : Lies w C cc n.ks) (hF : Fine n) :
    Calls Tryz.prog 21 #[nv n.op n.so n.nm n.nu (.slice C n.ks.length cc), .slice A l.length cap] w (ValP l n 0 w) := by
  obtain ⟨W, hW⟩ : ∃ W, (w.alloc (.cells #[.int .i64 n.op, .int .i64 n.so, .string n.nm, .int .i64 n.nu, .slice C n.ks.length cc] 44)).alloc (.cells #[.int .i64 0, .int .i64 0, .slice none 0 0, .slice none 0 0, .slice none 0 0] 27) = W := ⟨_, rfl⟩
  have HB := Lib.hid (show RowKit.Below w.heap.size w W by rw [← hW]; exact ((RowKit.Below.refl _ _).alloc (Nat.le_refl _) _).alloc (by rw [one_size]; omega) _)
  have HP := Lib.hid (show W.heap[w.heap.size]? = some (.cells #[.int .i64 n.op, .int .i64 n.so, .string n.nm, .int .i64 n.nu, .slice C n.ks.length cc] 44) by rw [← hW]; exact two_fst _ _ _)
  have HQ := Lib.hid (show W.heap[w.heap.size + 1]? = some (.cells #[.int .i64 0, .int .i64 0, .slice none 0 0, .slice none 0 0, .slice none 0 0] 27) by rw [← hW]; exact two_snd _ _ _)
  have HS := Lib.hid (show W.heap.size = w.heap.size + 2 by rw [← hW]; exact two_size _ _ _)
  have HV := Lib.hid (valueOf_any l n 0 A C cap cc W (hL.later HB.out) hcap (hC.later HB.out) hF)
  have HW := Lib.hid hW
  clear hW hL hC
  generalize n.ks.length = len at *
  generalize n.op = op at *
  generalize n.so = so at *
  generalize n.nm = nm at *
  generalize n.nu = nu at *
  obtain ⟨z0, z1, z2, z3, z4, f0, f1, f2, f3, f4⟩ := boxT_facts HP.out
  go_enter Tryz.func21, Tryz.ntmps21
  go_upto_region 1 with fail
  rw [HW.out]
  go_wp2_with fail
  refine HV.out.mono ?_
  rintro e w1 ⟨⟨y, rfl, hy, hr⟩, b1⟩
  have hs0 := HS.out
  have hQ5 := (b1.block _ (Array.getElem?_eq_some_iff.1 HQ.out).1).trans HQ.out
  have HX := Lib.hid (setT_same (.int .i64 y.v.so) (.int .i64 y.v.nu) (.slice y.a1 y.v.st.length y.c1) (.slice y.a2 y.v.ix.length y.c2) (.slice y.a3 y.v.xs.length y.c3) hQ5)
  have HBX := Lib.hid (Below.set5 (HB.out.trans (b1.mono HB.out.size)) (b := w.heap.size + 1) (by omega) (.int .i64 y.v.so) (.int .i64 y.v.nu) (.slice y.a1 y.v.st.length y.c1) (.slice y.a2 y.v.ix.length y.c2) (.slice y.a3 y.v.xs.length y.c3))
  have HR := Lib.hid (show RobV w.heap.size (set5 w1 (w.heap.size + 1) (.int .i64 y.v.so) (.int .i64 y.v.nu) (.slice y.a1 y.v.st.length y.c1) (.slice y.a2 y.v.ix.length y.c2) (.slice y.a3 y.v.xs.length y.c3)) y from RobV.less (RobV.same hr (set5_size _ _ _ _ _ _ _) (fun k k1 => set5_other _ _ _ _ _ (by omega))) (by omega))
  have HY := Lib.hid hy
  obtain ⟨ec, hec⟩ : ∃ ec, valE l n 0 = ec := ⟨_, rfl⟩
  have HE := Lib.hid (show Ending.returned (.tuple #[vv y, .int .i64 ec]) = Ending.returned (.tuple #[vv y, .int .i64 (valE l n 0)]) by rw [hec])
  rw [hec]
  clear hec
  clear z0 z1 z2 z3 z4 f0 f1 f2 f3 f4
  obtain ⟨z0, z1, z2, z3, z4, f0, f1, f2, f3, f4⟩ := boxT_facts hQ5
  clear hQ5 b1 hy hr hs0
  go_wp2_with fail
  clear z0 z1 z2 z3 z4 f0 f1 f2 f3 f4
  obtain ⟨y0, y1, y2, y3, y4, _, _, _, _, _⟩ := boxT_facts HX.out
  exact bodyPost_ret (v := .tuple #[vv y, .int .i64 ec]) (by simp [results, Tryz.results21, go_sem, y0, y1, y2, y3, y4]) rfl ⟨⟨y, HE.out, HY.out, HR.out⟩, HBX.out⟩
set_option maxRecDepth 100000 in
set_option maxHeartbeats 4000000 in
theorem truth_any (l : List EA) (n : Nd) (A C : Option Addr) (cap cc : Nat) (w : World) (hL : LiesM w A l) (hcap : ∀ x ∈ l, CapV x.val) (hC : Lies w C cc n.ks) (hF : Fine n) :
    Calls Tryz.prog 23 #[nv n.op n.so n.nm n.nu (.slice C n.ks.length cc), .slice A l.length cap] w (TruP l n w) := by
  have HB := Lib.hid (show RowKit.Below w.heap.size w (w.alloc (.cells #[.int .i64 n.op, .int .i64 n.so, .string n.nm, .int .i64 n.nu, .slice C n.ks.length cc] 44)) from (RowKit.Below.refl _ _).alloc (Nat.le_refl _) _)
  have HV := Lib.hid (valueOf_any l n 2 A C cap cc _ (hL.later HB.out) hcap (hC.later HB.out) hF)
  clear hL hC
  generalize n.ks.length = len at *
  generalize n.op = op at *
  generalize n.so = so at *
  generalize n.nm = nm at *
  generalize n.nu = nu at *
  go_enter Tryz.func23, Tryz.ntmps23
  go_wp2_with fail
  refine HV.out.mono ?_
  rintro e w1 ⟨⟨y, rfl, hy, hr⟩, b1⟩
  obtain ⟨ec, hec⟩ : ∃ ec, valE l n 2 = ec := ⟨_, rfl⟩
  have HE := Lib.hid (show Ending.returned (.tuple #[.bool (y.v.nu == 1), .int .i64 ec]) = Ending.returned (.tuple #[.bool ((valV l n 2).nu == 1), .int .i64 (valE l n 2)]) by rw [hy, hec])
  rw [hec]
  clear hec
  have G1 := Lib.hid ((HB.out.trans (b1.mono HB.out.size)).alloc (HB.out.trans (b1.mono HB.out.size)).size (boxV y 27))
  clear hy hr b1
  go_wp2_with fail
  refine (holds_any y _).mono ?_
  rintro e w2 ⟨rfl, b2⟩
  have G2 := Lib.hid (G1.out.trans (b2.mono G1.out.size))
  clear b2
  generalize (y.v.nu == 1) = bb at *
  go_wp2_with fail
  exact bodyPost_ret (v := .tuple #[.bool bb, .int .i64 ec]) (by simp [results, Tryz.results23, go_sem]) rfl ⟨HE.out, G2.out⟩
end Go.Proofs.YtmeeombadkgneaaGreat
