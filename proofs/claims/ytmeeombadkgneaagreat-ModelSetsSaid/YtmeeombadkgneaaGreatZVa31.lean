/-
  What the document's Set returns: the model with the entry in its place or at the end; conditions: the model and the entry lie in memory, the model is not long.
-/
import Derived.Test.YtmeeombadkgneaaGreatZVa29
import Derived.Test.YtmeeombadkgneaaGreatZVa30
namespace Go.Proofs.YtmeeombadkgneaaGreat
open Go.Proofs Go.RowKit Go.Shelf Go.Sort Go.Lib

attribute [local go_sem] Oper.semAt_some
/-- A row of entries that a growing list owns holds a model. -/
theorem owns_lies {w : World} {base : Nat} {v : Value} {l : List EA} (h : w.ownsRow base 29 7 v l.length (flatE l)) (he : ∀ x ∈ l, LiesE w x) (hm : l.length ≤ maxLen) : ∃ A c, v = .slice A l.length c ∧ LiesM w A l := by
  rcases h.2 with ⟨hv, hn⟩ | ⟨g, cap, cur, hv, h1, h2, h3, h4, h5, h6⟩
  · exact ⟨none, 0, by rw [hv, hn], hm, ⟨0, 0, fun h => by omega, fun i hi => by omega⟩, fun i hi => by omega⟩
  · refine ⟨_, cap, hv, hm, ⟨g, 0, fun _ => rfl, fun i hi => ?_⟩, fun i hi => he _ (List.getElem_mem hi)⟩
    have hc : ∀ j, j < 7 → w.cell? ⟨g, 0 + i * 7 + j, none⟩ = (cells7E l[i])[j]? := fun j hj => by
      have := flatE_at l i hi j hj
      rw [← h6, List.getElem?_take_of_lt (by omega)] at this
      rw [← this]
      simp [World.cell?, h2]
    exact ⟨hc 0 (by omega), hc 1 (by omega), hc 2 (by omega), hc 3 (by omega), hc 4 (by omega), hc 5 (by omega), hc 6 (by omega)⟩
theorem ownsE_below {w w' : World} {base : Nat} {v : Value} {n : Nat} {xs : List Value} (h : w.ownsRow base 29 7 v n xs) (hb : RowKit.Below w.heap.size w w') : w'.ownsRow base 29 7 v n xs := by
  refine ⟨h.1, ?_⟩
  rcases h.2 with h | ⟨g, cap, cur, hv, h1, h2, h3⟩
  · exact .inl h
  · exact .inr ⟨g, cap, cur, hv, h1, (hb.block g (Array.getElem?_eq_some_iff.1 h2).1).trans h2, h3⟩
theorem news7 (W : World) (x : EA) (bk : Nat) (hb : bk = W.heap.size) :
    ∀ (j : Nat) (u : Value), (cells7E x)[j]? = some u → (W.alloc (boxE x 29)).cell? ((⟨bk, 0, none⟩ : Addr).add j) = some u := by
  subst hb
  intro j u hj
  have S := sevenE_new W x 29
  match j, hj with
  | 0, hj => simp at hj; subst hj; exact S.c0
  | 1, hj => simp at hj; subst hj; exact S.c1
  | 2, hj => simp at hj; subst hj; exact S.c2
  | 3, hj => simp at hj; subst hj; exact S.c3
  | 4, hj => simp at hj; subst hj; exact S.c4
  | 5, hj => simp at hj; subst hj; exact S.c5
  | 6, hj => simp at hj; subst hj; exact S.c6
theorem one7 (x : EA) : ∀ u ∈ cells7E x, u.oneCell' = true := by simp [Value.oneCell']
/-- An entry, or the one in whose place it is. -/
def repE (y x : EA) : EA := if placeB x y = true then y else x
def setR (l : List EA) (y : EA) : List EA := l.map (repE y) ++ (if l.any (fun x => placeB x y) = true then [] else [y])
theorem setR_each {l : List EA} {y : EA} {P : EA → Prop} (h1 : ∀ x ∈ l, P x) (h2 : P y) : ∀ x ∈ setR l y, P x := by
  intro x hx
  unfold setR at hx
  rcases List.mem_append.1 hx with hx | hx
  · obtain ⟨z, hz, rfl⟩ := List.mem_map.1 hx
    unfold repE
    split
    · exact h2
    · exact h1 z hz
  · split at hx
    · cases hx
    · simp at hx; subst hx; exact h2
theorem setR_len (l : List EA) (y : EA) : (setR l y).length ≤ l.length + 1 := by
  unfold setR
  split <;> simp
theorem repE_yes {x y : EA} (h : placeB x y = true) : repE y x = y := if_pos h
theorem repE_no {x y : EA} (h : placeB x y = false) : repE y x = x := if_neg (by rw [h]; simp)
set_option maxRecDepth 100000 in
set_option maxHeartbeats 1000000 in
theorem refSet_any (l : List EA) (y : EA) (A : Option Addr) (cap : Nat) (w : World) (hL : LiesM w A l) (hy : LiesE w y) (hl : l.length ≤ 60) :
    Calls Tryz.prog 10 #[.slice A l.length cap, ev y] w fun e w' => (((validM l && validE y) = false ∧ e = .returned (.tuple #[.slice none 0 0, .int .i64 3])) ∨ ((validM l && validE y) = true ∧ ∃ A' c, e = .returned (.tuple #[.slice A' (setR l y).length c, .int .i64 0]) ∧ LiesM w' A' (setR l y))) ∧ RowKit.Below w.heap.size w w' := by
  obtain ⟨i0, hi, hz0, hz1, hz2⟩ := info_parts info29c
  have I0 := Lib.hid hi
  have Z0 := Lib.hid hz0
  have Z1 := Lib.hid hz1
  have Z2 := Lib.hid hz2
  clear hi hz0 hz1 hz2
  obtain ⟨W0, hW⟩ : ∃ W0, w.alloc (boxE y 29) = W0 := ⟨_, rfl⟩
  have hB0 : RowKit.Below w.heap.size w W0 := by rw [← hW]; exact (RowKit.Below.refl _ _).alloc (Nat.le_refl _) _
  have HS0 := Lib.hid (show SevenE W0 w.heap.size 0 y by rw [← hW]; exact sevenE_new w y 29)
  have HSZ := Lib.hid (show W0.heap.size = w.heap.size + 1 by rw [← hW]; simp)
  have HL := Lib.hid (hL.later hB0)
  have HY := Lib.hid (hy.later hB0)
  have HB0 := Lib.hid hB0
  have HW := Lib.hid hW
  have hveq := Lib.hid (validE_eq y)
  clear hL hy hB0 hW
  cases hv1 : validM l
  case false =>
    have Hv := Lib.hid hv1
    clear hv1
    go_enter Tryz.func10, Tryz.ntmps10
    go_upto_region 1 with fail
    rw [HW.out]
    go_wp2_with fail
    refine (refValidM_any l A cap _ HL.out).mono ?_
    rintro e w1 ⟨rfl, b1⟩
    rw [Hv.out]
    have B1 := Lib.hid (HB0.out.trans (b1.mono HB0.out.size))
    clear b1
    go_wp2_with fail
    go_ret2
    exact ⟨.inl ⟨rfl, rfl⟩, B1.out⟩
  case true =>
  have Hv := Lib.hid hv1
  clear hv1
  cases hv2 : validE y
  case false =>
    have Hv2 := Lib.hid (hveq.out.trans hv2)
    clear hv2
    go_enter Tryz.func10, Tryz.ntmps10
    go_upto_region 1 with fail
    rw [HW.out]
    go_wp2_with fail
    refine (refValidM_any l A cap _ HL.out).mono ?_
    rintro e w1 ⟨rfl, b1⟩
    rw [Hv.out]
    obtain ⟨s0, s1, s2, s3, s4, s5, s6⟩ := HS0.out.later b1
    simp only [Nat.zero_add] at s0 s1 s2 s3 s4 s5 s6
    have B1 := Lib.hid b1
    clear b1
    go_wp2_with fail
    refine (refValidE_any y _ (HY.out.later B1.out)).mono ?_
    rintro e w2 ⟨rfl, b2⟩
    rw [Hv2.out]
    have B2 := Lib.hid (HB0.out.trans ((B1.out.trans (b2.mono B1.out.size)).mono HB0.out.size))
    clear b2
    go_wp2_with fail
    go_ret2
    exact ⟨.inl ⟨rfl, rfl⟩, B2.out⟩
  case true =>
  have Hv2 := Lib.hid (hveq.out.trans hv2)
  clear hv2
  go_enter Tryz.func10, Tryz.ntmps10
  go_upto_region 1 with fail
  rw [HW.out]
  go_wp2_with fail
  refine (refValidM_any l A cap _ HL.out).mono ?_
  rintro e w1 ⟨rfl, b1⟩
  rw [Hv.out]
  obtain ⟨s0, s1, s2, s3, s4, s5, s6⟩ := HS0.out.later b1
  simp only [Nat.zero_add] at s0 s1 s2 s3 s4 s5 s6
  have B1 := Lib.hid b1
  clear b1
  go_wp2_with fail
  refine (refValidE_any y _ (HY.out.later B1.out)).mono ?_
  rintro e w2 ⟨rfl, b2⟩
  rw [Hv2.out]
  have B2 := Lib.hid (B1.out.trans (b2.mono B1.out.size))
  clear b2 s0 s1 s2 s3 s4 s5 s6 B1
  go_wp2_with fail
  go_loopw [6, 7, 20] (fun o dn i wr => ∃ k : Nat, k ≤ l.length ∧ i = .int .i64 k ∧ dn = .bool ((l.take k).any fun x => placeB x y) ∧ Hid (wr.ownsRow W0.heap.size 29 7 o k (flatE ((l.take k).map (repE y)))) ∧ Hid (RowKit.Below W0.heap.size W0 wr)) (fun _ _ i _ => l.length - (intOf i).toNat)
  case atStart => exact ⟨0, Nat.zero_le _, rfl, rfl, World.ownsRow_nil _ _ _ _, B2.out⟩
  case round =>
    obtain ⟨k, hk, rfl, rfl, hown, hB⟩ := hrel
    have hsz0 := hB.out.size
    have hS := HSZ.out
    obtain ⟨s0, s1, s2, s3, s4, s5, s6⟩ := HS0.out.later hB.out
    simp only [Nat.zero_add] at s0 s1 s2 s3 s4 s5 s6
    by_cases hlt : k < l.length
    · obtain ⟨b, o, ha, hc⟩ := (HL.out.later hB.out).at_
      have ha := ha (by omega)
      obtain ⟨c0, c1, c2, c3, c4, c5, c6⟩ := hc k hlt
      have G1 := Lib.hid ((RowKit.Below.refl wr.heap.size wr).alloc (Nat.le_refl _) (boxE l[k] 29))
      have L1 := Lib.hid (((HL.out.each k hlt).later hB.out).later G1.out)
      have L2 := Lib.hid ((HY.out.later hB.out).later G1.out)
      have htk : (l.take (k + 1)) = l.take k ++ [l[k]] := List.take_succ_eq_append_getElem hlt
      have Hmap := Lib.hid (show (l.take (k + 1)).map (repE y) = (l.take k).map (repE y) ++ [repE y l[k]] by rw [htk]; simp only [List.map_append, List.map_cons, List.map_nil])
      have Hany := Lib.hid (show ((l.take (k + 1)).any fun x => placeB x y) = (((l.take k).any fun x => placeB x y) || placeB l[k] y) by rw [htk]; simp only [List.any_append, List.any_cons, List.any_nil, Bool.or_false])
      have hbox := Lib.hid (heap_alloc_new wr (boxE l[k] 29))
      obtain ⟨t0, t1, t2, t3, t4, t5, t6⟩ := sevenE_new wr l[k] 29
      simp only [Nat.zero_add] at t0 t1 t2 t3 t4 t5 t6
      have SY := Lib.hid ((HS0.out.later hB.out).later G1.out)
      generalize l[k] = x at *
      generalize (l.take k).map (repE y) = pre at *
      generalize ((l.take k).any fun x => placeB x y) = dn at *
      have hblk := Lib.hid (show w.heap.size ≠ wr.heap.size by omega)
      have HO0 := Lib.hid hown.out
      have Hg := Lib.hid hown.out.lt
      have HBr := Lib.hid hB.out
      have L3 := Lib.hid (show k + 1 ≤ maxLen by unfold maxLen; omega)
      have L4 := Lib.hid (show (k + 1) * 128 ≤ 140737488355328 by omega)
      have Hs0 := Lib.hid hsz0
      clear hc htk hown hB hsz0 hS
      rw [ha] at *
      cases hp : placeB x y
      case false =>
        have Hp := Lib.hid hp
        have Hr := Lib.hid (repE_no hp)
        clear hp t0 t1 t2 t3 t4 t5 t6
        obtain ⟨p0, p1, p2, p3, p4, p5, p6⟩ := SY.out
        simp only [Nat.zero_add] at p0 p1 p2 p3 p4 p5 p6
        go_wp2_with fail
        refine (place_any x y _ L1.out L2.out).mono ?_
        rintro e w3 ⟨rfl, b3⟩
        rw [Hp.out]
        have hbox3 := (b3.block _ (Array.getElem?_eq_some_iff.1 hbox.out).1).trans hbox.out
        clear c0 c1 c2 c3 c4 c5 c6 s0 s1 s2 s3 s4 s5 s6
        obtain ⟨z0, z1, z2, z3, z4, z5, z6, f0, f1, f2, f3, f4, f5, f6⟩ := boxE_facts hbox3
        have HB3 := Lib.hid (show RowKit.Below wr.heap.size wr w3 from G1.out.trans (b3.mono G1.out.size))
        clear b3 hbox3 p0 p1 p2 p3 p4 p5 p6
        have HO := Lib.hid (fun O => ownsE_below HO0.out (show RowKit.Below wr.heap.size wr (w3.alloc O) from HB3.out.alloc HB3.out.size _))
        have HLB := Lib.hid (fun O => show W0.heap.size ≤ (w3.alloc O).heap.size by have := HB3.out.size; have := Hs0.out; rw [one_size]; omega)
        go_wp2_with (at_builtin; refine wpList_append_own _ rfl _ _ 23 rfl W0.heap.size 29 i0 _ 7 128 Tryz.underlying23 I0.out Z0.out Z1.out Z2.out rfl (by decide) u6 k (flatE pre) rfl (HO.out _) ⟨w3.heap.size, 0, none⟩ 1 1 (cells7E x) rfl rfl (news7 _ _ _ rfl) (one7 x) L3.out L4.out (HLB.out _) ?_; intro v1 w4 hown1 hgrow1 _)
        have hBn : RowKit.Below W0.heap.size W0 w4 := ((HBr.out.trans (HB3.out.mono Hs0.out)).alloc (by have := HB3.out.size; have := Hs0.out; omega) _).grown hgrow1 (by have := HB3.out.size; have := Hs0.out; rw [one_size]; omega) (fun k e => (Hg.out k e).1)
        go_roundw
        case rel => exact ⟨k + 1, by omega, by go_num, by rw [Hany.out, Hp.out]; simp, by rw [Hmap.out, Hr.out, flatE_snoc]; exact hown1, hBn⟩
        case measure => simp [intOf]; omega
      case true =>
        have Hp := Lib.hid hp
        have Hr := Lib.hid (repE_yes hp)
        clear hp t0 t1 t2 t3 t4 t5 t6
        obtain ⟨p0, p1, p2, p3, p4, p5, p6⟩ := SY.out
        simp only [Nat.zero_add] at p0 p1 p2 p3 p4 p5 p6
        go_wp2_with fail
        refine (place_any x y _ L1.out L2.out).mono ?_
        rintro e w3 ⟨rfl, b3⟩
        rw [Hp.out]
        have hbox3 := (b3.block _ (Array.getElem?_eq_some_iff.1 hbox.out).1).trans hbox.out
        clear c0 c1 c2 c3 c4 c5 c6 s0 s1 s2 s3 s4 s5 s6
        obtain ⟨z0, z1, z2, z3, z4, z5, z6, f0, f1, f2, f3, f4, f5, f6⟩ := boxE_facts hbox3
        have SY3 := SY.out.later b3
        clear p0 p1 p2 p3 p4 p5 p6
        obtain ⟨p0, p1, p2, p3, p4, p5, p6⟩ := SY3
        simp only [Nat.zero_add] at p0 p1 p2 p3 p4 p5 p6
        have hs7 : (((((((w3.setCell ⟨wr.heap.size, 0, none⟩ (.string y.nm)).setCell ⟨wr.heap.size, 1, none⟩ (.slice y.A y.args.length y.c)).setCell ⟨wr.heap.size, 2, none⟩ (.int .i64 y.val.v.so)).setCell ⟨wr.heap.size, 3, none⟩ (.int .i64 y.val.v.nu)).setCell ⟨wr.heap.size, 4, none⟩ (.slice y.val.a1 y.val.v.st.length y.val.c1)).setCell ⟨wr.heap.size, 5, none⟩ (.slice y.val.a2 y.val.v.ix.length y.val.c2)).setCell ⟨wr.heap.size, 6, none⟩ (.slice y.val.a3 y.val.v.xs.length y.val.c3)).heap[wr.heap.size]? = some (boxE y 29) := set7_same (.string y.nm) (.slice y.A y.args.length y.c) (.int .i64 y.val.v.so) (.int .i64 y.val.v.nu) (.slice y.val.a1 y.val.v.st.length y.val.c1) (.slice y.val.a2 y.val.v.ix.length y.val.c2) (.slice y.val.a3 y.val.v.xs.length y.val.c3) hbox3
        have hb7 : RowKit.Below wr.heap.size wr (((((((w3.setCell ⟨wr.heap.size, 0, none⟩ (.string y.nm)).setCell ⟨wr.heap.size, 1, none⟩ (.slice y.A y.args.length y.c)).setCell ⟨wr.heap.size, 2, none⟩ (.int .i64 y.val.v.so)).setCell ⟨wr.heap.size, 3, none⟩ (.int .i64 y.val.v.nu)).setCell ⟨wr.heap.size, 4, none⟩ (.slice y.val.a1 y.val.v.st.length y.val.c1)).setCell ⟨wr.heap.size, 5, none⟩ (.slice y.val.a2 y.val.v.ix.length y.val.c2)).setCell ⟨wr.heap.size, 6, none⟩ (.slice y.val.a3 y.val.v.xs.length y.val.c3)) := below_set7 (G1.out.trans (b3.mono G1.out.size)) (Nat.le_refl _) (.string y.nm) (.slice y.A y.args.length y.c) (.int .i64 y.val.v.so) (.int .i64 y.val.v.nu) (.slice y.val.a1 y.val.v.st.length y.val.c1) (.slice y.val.a2 y.val.v.ix.length y.val.c2) (.slice y.val.a3 y.val.v.xs.length y.val.c3)
        have HS7 := Lib.hid hs7
        have HB7 := Lib.hid hb7
        clear b3 hbox3 hs7 hb7
        go_upto_region 11 with fail
        obtain ⟨w5, hw5⟩ : ∃ w5, (((((((w3.setCell ⟨wr.heap.size, 0, none⟩ (.string y.nm)).setCell ⟨wr.heap.size, 1, none⟩ (.slice y.A y.args.length y.c)).setCell ⟨wr.heap.size, 2, none⟩ (.int .i64 y.val.v.so)).setCell ⟨wr.heap.size, 3, none⟩ (.int .i64 y.val.v.nu)).setCell ⟨wr.heap.size, 4, none⟩ (.slice y.val.a1 y.val.v.st.length y.val.c1)).setCell ⟨wr.heap.size, 5, none⟩ (.slice y.val.a2 y.val.v.ix.length y.val.c2)).setCell ⟨wr.heap.size, 6, none⟩ (.slice y.val.a3 y.val.v.xs.length y.val.c3)) = w5 := ⟨_, rfl⟩
        have hs7 := HS7.out
        have hb7 := HB7.out
        rw [hw5] at hs7 hb7
        rw [hw5]
        clear HS7 HB7
        have HS7 := Lib.hid hs7
        have HB7 := Lib.hid hb7
        clear hs7 hb7 hw5 z0 z1 z2 z3 z4 z5 z6 f0 f1 f2 f3 f4 f5 f6 p0 p1 p2 p3 p4 p5 p6
        obtain ⟨z0, z1, z2, z3, z4, z5, z6, f0, f1, f2, f3, f4, f5, f6⟩ := boxE_facts HS7.out
        have HB3 := Lib.hid HB7.out
        have HO := Lib.hid (fun O => ownsE_below HO0.out (show RowKit.Below wr.heap.size wr (w5.alloc O) from HB3.out.alloc HB3.out.size _))
        have HLB := Lib.hid (fun O => show W0.heap.size ≤ (w5.alloc O).heap.size by have := HB3.out.size; have := Hs0.out; rw [one_size]; omega)
        go_wp2_with (at_builtin; refine wpList_append_own _ rfl _ _ 23 rfl W0.heap.size 29 i0 _ 7 128 Tryz.underlying23 I0.out Z0.out Z1.out Z2.out rfl (by decide) u6 k (flatE pre) rfl (HO.out _) ⟨w5.heap.size, 0, none⟩ 1 1 (cells7E y) rfl rfl (news7 _ _ _ rfl) (one7 y) L3.out L4.out (HLB.out _) ?_; intro v1 w4 hown1 hgrow1 _)
        have hBn : RowKit.Below W0.heap.size W0 w4 := ((HBr.out.trans (HB3.out.mono Hs0.out)).alloc (by have := HB3.out.size; have := Hs0.out; omega) _).grown hgrow1 (by have := HB3.out.size; have := Hs0.out; rw [one_size]; omega) (fun k e => (Hg.out k e).1)
        go_roundw
        case rel => exact ⟨k + 1, by omega, by go_num, by rw [Hany.out, Hp.out]; simp, by rw [Hmap.out, Hr.out, flatE_snoc]; exact hown1, hBn⟩
        case measure => simp [intOf]; omega
    · have htake : l.take k = l := List.take_of_length_le (by omega)
      have hown' := hown.out
      rw [htake] at hown'
      rw [htake]
      obtain rfl : k = l.length := by omega
      have hge : decide (2000 ≤ (l.length : Int)) = false := decide_eq_false (by omega)
      have HE := Lib.hid (fun (W : World) (hb : RowKit.Below W0.heap.size W0 W) => (show ∀ x ∈ setR l y, LiesE W x from setR_each (fun x hx => by obtain ⟨i, hi, rfl⟩ := List.getElem_of_mem hx; exact (HL.out.each i hi).later hb) (HY.out.later hb)))
      have HR := Lib.hid (show setR l y = l.map (repE y) ++ (if l.any (fun x => placeB x y) = true then [] else [y]) from rfl)
      have HLEN := Lib.hid (show (setR l y).length ≤ maxLen by have := setR_len l y; unfold maxLen; omega)
      have HO0 := Lib.hid hown'
      have Hg := Lib.hid hown.out.lt
      have HBr := Lib.hid hB.out
      have L3 := Lib.hid (show l.length + 1 ≤ maxLen by unfold maxLen; omega)
      have L4 := Lib.hid (show (l.length + 1) * 128 ≤ 140737488355328 by omega)
      have HLB := Lib.hid (fun O => show W0.heap.size ≤ (wr.alloc O).heap.size by rw [one_size]; omega)
      have HO := Lib.hid (fun O => ownsE_below HO0.out (show RowKit.Below wr.heap.size wr (wr.alloc O) from (RowKit.Below.refl _ _).alloc (Nat.le_refl _) _))
      have Hs0 := Lib.hid hsz0
      clear htake hown hown' hB HL hsz0 hS
      cases hany : l.any (fun x => placeB x y)
      case false =>
        have HR2 := Lib.hid (show setR l y = l.map (repE y) ++ [y] by rw [HR.out, hany]; rfl)
        clear hany HR
        go_wp2_with (at_builtin; refine wpList_append_own _ rfl _ _ 23 rfl W0.heap.size 29 i0 _ 7 128 Tryz.underlying23 I0.out Z0.out Z1.out Z2.out rfl (by decide) u6 l.length (flatE (l.map (repE y))) rfl (HO.out _) ⟨wr.heap.size, 0, none⟩ 1 1 (cells7E y) rfl rfl (news7 _ _ _ rfl) (one7 y) L3.out L4.out (HLB.out _) ?_; intro v1 w4 hown1 hgrow1 _)
        have hBn : RowKit.Below W0.heap.size W0 w4 := (HBr.out.alloc Hs0.out _).grown hgrow1 (HLB.out _) (fun k e => (Hg.out k e).1)
        have hl2 : (setR l y).length = l.length + 1 := by rw [HR2.out]; simp
        have hown2 : w4.ownsRow W0.heap.size 29 7 v1 (setR l y).length (flatE (setR l y)) := by rw [hl2, HR2.out, flatE_snoc]; exact hown1
        obtain ⟨A', c', hv', hlie⟩ := owns_lies hown2 (HE.out _ hBn) HLEN.out
        subst hv'
        clear hown1 hgrow1 hown2 hl2
        go_wp2_with fail
        go_ret2
        exact ⟨.inr ⟨rfl, A', c', rfl, hlie⟩, HB0.out.trans (hBn.mono HB0.out.size)⟩
      case true =>
        have HR2 := Lib.hid (show setR l y = l.map (repE y) by rw [HR.out, hany]; simp)
        clear hany HR
        have hl2 : (setR l y).length = l.length := by rw [HR2.out]; simp
        have hown2 : wr.ownsRow W0.heap.size 29 7 u6 (setR l y).length (flatE (setR l y)) := by rw [hl2, HR2.out]; exact HO0.out
        obtain ⟨A', c', hv', hlie⟩ := owns_lies hown2 (HE.out _ HBr.out) HLEN.out
        subst hv'
        clear hown2 hl2 HO HO0 Hg
        go_wp2_with fail
        go_ret2
        exact ⟨.inr ⟨rfl, A', c', rfl, hlie⟩, HB0.out.trans (HBr.out.mono HB0.out.size)⟩
end Go.Proofs.YtmeeombadkgneaaGreat
