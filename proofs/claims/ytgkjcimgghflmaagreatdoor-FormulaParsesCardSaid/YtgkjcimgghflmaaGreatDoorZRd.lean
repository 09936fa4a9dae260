/-
  What the phrases of the document's own parser do when it has met an error: nothing, and they hand back the zero node; conditions: the text is no longer than a string can be.
-/
import Derived.Test.YtgkjcimgghflmaaGreatDoorZRp1
namespace Go.Proofs.YtgkjcimgghflmaaGreatDoor
set_option maxRecDepth 100000
set_option maxHeartbeats 8000000
open Go.RowKit Go.Shelf
attribute [local go_sem] Oper.semAt_some
theorem info27s : (Tryz.prog.info? 27).map (·.size) = some 5 := by kernel_rfl
theorem res27 {fn : Func} {q : Tmp} (h : fn.results = #[.cell q 27]) (tmps : Array Value) (w : World) (g : Nat) (v0 v1 v2 v3 v4 : Value) (hp : tmps.getD q undef = .pointer (some ⟨g, 0, none⟩)) (hg : w.heap[g]? = some (.cells #[v0, v1, v2, v3, v4] 27 (0, 0))) :
  (results fn tmps).run Tryz.prog w = .ok (.agg #[v0, v1, v2, v3, v4]) w :=
 results_cell_row h tmps w g 27 _ (0, 0) _ hp hg Tryz.underlying27 rfl info27s
theorem nT_dead {s : ByteArray} {a : Nat} {e : Int} (he : e ≠ 0) : nT s a e = [] := if_neg he
theorem taking_none (w : World) : Calls Tryz.prog 165 #[.string ⟨#[]⟩] w fun e w' => e = .returned (.tuple #[.int .i64 0, .int .i64 0]) ∧ w = w' := by
 go_enter Tryz.func165, Tryz.ntmps165
 go_wp2_with fail
 go_ret2
 exact ⟨rfl, rfl⟩
theorem dead_prim : DeadOk 160 := by
 intro p s a o e wh W h ha hs he
 have HB := Lib.hid ((Below.refl W.heap.size W).alloc (Nat.le_refl _) (.cells zero5 27))
 have hz : (W.alloc (.cells zero5 27)).heap[W.heap.size]? = some (.cells zero5 27 (0, 0)) := World.alloc_heap_new _ _
 have c1 := next_any p s a o e wh _ (h.later HB.out) ha hs
 rw [nT_dead he] at c1
 have hne : (bs []).toList = [] := by rw [bs_toList]
 have e0 : bs [] = ⟨#[]⟩ := rfl
 rw [e0] at c1
 have KF := Lib.hid (fun (W' : World) (hb : Below W.heap.size W W') => fail_dead p s a o e wh W' (h.later hb) he)
 have HZ := Lib.hid hz
 have hnm : nameB ⟨#[]⟩ = false := by decide
 have Hnm := Lib.hid hnm
 clear hne e0 h ha hs he hz hnm
 go_enter Tryz.func160, Tryz.ntmps160
 go_wp2_with fail
 refine c1.mono ?_
 rintro e w1 ⟨rfl, b1⟩
 have B1 := Lib.hid (HB.out.trans (b1.mono HB.out.size))
 have z1 := (b1.block W.heap.size (by simp)).trans HZ.out
 have HZ1 := Lib.hid z1
 clear b1 c1 z1
 go_wp2_with fail
 refine (taking_none _).mono ?_
 rintro e w2 ⟨rfl, rfl⟩
 go_wp2_with fail
 refine (refName_any _ _).mono ?_
 rintro e w2 ⟨rfl, b2⟩
 rw [Hnm.out]
 have B2 := Lib.hid (B1.out.trans (b2.mono B1.out.size))
 have z2 := (b2.block W.heap.size (Array.getElem?_eq_some_iff.1 HZ1.out).1).trans HZ1.out
 have HZ2 := Lib.hid z2
 clear b2 z2
 go_wp2_with fail
 refine (KF.out _ B2.out).mono ?_
 rintro e w3 ⟨rfl, rfl⟩
 obtain ⟨z0, z1, z2, z3, z4, f0, f1, f2, f3, f4⟩ := box_facts HZ2.out
 go_wp2_with fail
 exact bodyPost_ret (res27 Tryz.results160 _ _ W.heap.size _ _ _ _ _ rfl (set5_same _ _ _ _ _ HZ2.out)) rfl ⟨rfl, Below.set5 B2.out (Nat.le_refl _) _ _ _ _ _⟩
theorem dead_numeric (p : Nat) (s : ByteArray) (a : Nat) (o e : Int) (wh : Nat) (W : World) (h : PSt W p s a o e wh) (ha : a ≤ s.size) (hs : s.size ≤ 9223372036854775000) (he : e ≠ 0) :
  Calls Tryz.prog 157 #[.pointer (some ⟨p, 0, none⟩)] W fun r W' => r = .returned (.bool false) ∧ Below W.heap.size W W' := by
 have c1 := next_any p s a o e wh _ h ha hs
 rw [nT_dead he] at c1
 have e0 : bs [] = ⟨#[]⟩ := rfl
 rw [e0] at c1
 clear e0 h ha hs he
 go_enter Tryz.func157, Tryz.ntmps157
 go_wp2_with fail
 refine c1.mono ?_
 rintro e w1 ⟨rfl, b1⟩
 have B1 := Lib.hid b1
 clear b1 c1
 go_wp2_with fail
 go_ret
 exact ⟨rfl, B1.out⟩
theorem dead_unary : DeadOk 155 := by
 intro p s a o e wh W h ha hs he
 have HB := Lib.hid ((Below.refl W.heap.size W).alloc (Nat.le_refl _) (.cells zero5 27))
 have HZ := Lib.hid (show (W.alloc (.cells zero5 27)).heap[W.heap.size]? = some (.cells zero5 27 (0, 0)) from World.alloc_heap_new _ _)
 have KP := Lib.hid (fun (W' : World) (hb : Below W.heap.size W W') => h.later hb)
 have ct := Lib.hid (fun (W' : World) (hb : Below W.heap.size W W') => take_no [45] p s a o e wh W' (KP.out _ hb) ha hs (by rw [nT_dead he]; decide))
 have ec : bs [45] = ⟨#[45]⟩ := rfl
 rw [ec] at ct
 have cn := Lib.hid (fun (W' : World) (hb : Below W.heap.size W W') => dead_numeric p s a o e wh W' (KP.out _ hb) ha hs he)
 have cp := Lib.hid (fun (W' : World) (hb : Below W.heap.size W W') => dead_prim p s a o e wh W' (KP.out _ hb) ha hs he)
 clear h ha hs he KP ec
 go_enter Tryz.func155, Tryz.ntmps155
 go_wp2_with fail
 refine (ct.out _ HB.out).mono ?_
 rintro e w1 ⟨rfl, b⟩
 have HZ := Lib.hid ((b.block W.heap.size (Array.getElem?_eq_some_iff.1 HZ.out).1).trans HZ.out)
 have HB := Lib.hid (HB.out.trans (b.mono HB.out.size))
 clear b ct
 go_wp2_with fail
 refine (cn.out _ HB.out).mono ?_
 rintro e w2 ⟨rfl, b⟩
 have HZ := Lib.hid ((b.block W.heap.size (Array.getElem?_eq_some_iff.1 HZ.out).1).trans HZ.out)
 have HB := Lib.hid (HB.out.trans (b.mono HB.out.size))
 clear b cn
 go_wp2_with fail
 refine (cp.out _ HB.out).mono ?_
 rintro e w3 ⟨rfl, b⟩
 have HZ := Lib.hid ((b.block W.heap.size (Array.getElem?_eq_some_iff.1 HZ.out).1).trans HZ.out)
 have HB := Lib.hid (HB.out.trans (b.mono HB.out.size))
 clear b cp
 obtain ⟨z0, z1, z2, z3, z4, f0, f1, f2, f3, f4⟩ := box_facts HZ.out
 go_wp2_with fail
 exact bodyPost_ret (res27 Tryz.results155 _ _ W.heap.size _ _ _ _ _ rfl (set5_same _ _ _ _ _ HZ.out)) rfl ⟨rfl, Below.set5 HB.out (Nat.le_refl _) _ _ _ _ _⟩
theorem dead_sum : DeadOk 150 := by
 intro p s a o e wh W h ha hs he
 have HB := Lib.hid ((Below.refl W.heap.size W).alloc (Nat.le_refl _) (.cells zero5 27))
 have HZ := Lib.hid (show (W.alloc (.cells zero5 27)).heap[W.heap.size]? = some (.cells zero5 27 (0, 0)) from World.alloc_heap_new _ _)
 have KP := Lib.hid (fun (W' : World) (hb : Below W.heap.size W W') => h.later hb)
 have cp := Lib.hid (fun (W' : World) (hb : Below W.heap.size W W') => dead_unary p s a o e wh W' (KP.out _ hb) ha hs he)
 have hne : (e == 0) = false := by simpa using he
 have KC := Lib.hid (fun (W' : World) (hb : Below W.heap.size W W') => (KP.out _ hb).cells)
 clear h ha hs he KP
 go_enter Tryz.func150, Tryz.ntmps150
 go_wp2_with fail
 refine (cp.out _ HB.out).mono ?_
 rintro e w1 ⟨rfl, b⟩
 have HZ := Lib.hid ((b.block W.heap.size (Array.getElem?_eq_some_iff.1 HZ.out).1).trans HZ.out)
 have HB := Lib.hid (HB.out.trans (b.mono HB.out.size))
 clear b cp
 have HL := Lib.hid (show (w1.alloc (.cells zero5 27)).heap[w1.heap.size]? = some (.cells zero5 27 (0, 0)) from World.alloc_heap_new _ _)
 have HX := Lib.hid ((Lib.alloc_old w1 (.cells zero5 27) W.heap.size (Array.getElem?_eq_some_iff.1 HZ.out).1).trans HZ.out)
 have HB := Lib.hid (HB.out.alloc HB.out.size (.cells zero5 27))
 clear HZ
 have HZ := HX
 clear HX
 obtain ⟨p0, p1, p2, p3, p4, _, _, _, _⟩ := KC.out _ HB.out
 go_wp2_with fail
 refine wp_loop_rounds 1 ?_
 rw [rounds_succ]
 obtain ⟨z0, z1, z2, z3, z4, f0, f1, f2, f3, f4⟩ := box_facts HZ.out
 obtain ⟨l0, l1, l2, l3, l4, _, _, _, _, _⟩ := box_facts HL.out
 go_wp2_with fail
 exact bodyPost_ret (res27 Tryz.results150 _ _ W.heap.size _ _ _ _ _ rfl (set5_same _ _ _ _ _ HZ.out)) rfl ⟨rfl, Below.set5 HB.out (Nat.le_refl _) _ _ _ _ _⟩
theorem dead_cmp : DeadOk 140 := by
 intro p s a o e wh W h ha hs he
 have HB := Lib.hid ((Below.refl W.heap.size W).alloc (Nat.le_refl _) (.cells zero5 27))
 have HZ := Lib.hid (show (W.alloc (.cells zero5 27)).heap[W.heap.size]? = some (.cells zero5 27 (0, 0)) from World.alloc_heap_new _ _)
 have KP := Lib.hid (fun (W' : World) (hb : Below W.heap.size W W') => h.later hb)
 have cp := Lib.hid (fun (W' : World) (hb : Below W.heap.size W W') => dead_sum p s a o e wh W' (KP.out _ hb) ha hs he)
 have cn := Lib.hid (fun (W' : World) (hb : Below W.heap.size W W') => next_any p s a o e wh W' (KP.out _ hb) ha hs)
 rw [nT_dead he] at cn
 have ec : bs [] = ⟨#[]⟩ := rfl
 rw [ec] at cn
 clear h ha hs he KP ec
 go_enter Tryz.func140, Tryz.ntmps140
 go_wp2_with fail
 refine (cp.out _ HB.out).mono ?_
 rintro e w1 ⟨rfl, b⟩
 have HZ := Lib.hid ((b.block W.heap.size (Array.getElem?_eq_some_iff.1 HZ.out).1).trans HZ.out)
 have HB := Lib.hid (HB.out.trans (b.mono HB.out.size))
 clear b cp
 have HL := Lib.hid (show (w1.alloc (.cells zero5 27)).heap[w1.heap.size]? = some (.cells zero5 27 (0, 0)) from World.alloc_heap_new _ _)
 have HX := Lib.hid ((Lib.alloc_old w1 (.cells zero5 27) W.heap.size (Array.getElem?_eq_some_iff.1 HZ.out).1).trans HZ.out)
 have HB := Lib.hid (HB.out.alloc HB.out.size (.cells zero5 27))
 clear HZ
 have HZ := HX
 clear HX
 go_wp2_with fail
 refine (cn.out _ HB.out).mono ?_
 rintro e w2 ⟨rfl, b⟩
 have HZ := Lib.hid ((b.block W.heap.size (Array.getElem?_eq_some_iff.1 HZ.out).1).trans HZ.out)
 have HL := Lib.hid ((b.block w1.heap.size (Array.getElem?_eq_some_iff.1 HL.out).1).trans HL.out)
 have HB := Lib.hid (HB.out.trans (b.mono HB.out.size))
 clear b cn
 obtain ⟨z0, z1, z2, z3, z4, f0, f1, f2, f3, f4⟩ := box_facts HZ.out
 obtain ⟨l0, l1, l2, l3, l4, _, _, _, _, _⟩ := box_facts HL.out
 go_wp2_with fail
 exact bodyPost_ret (res27 Tryz.results140 _ _ W.heap.size _ _ _ _ _ rfl (set5_same _ _ _ _ _ HZ.out)) rfl ⟨rfl, Below.set5 HB.out (Nat.le_refl _) _ _ _ _ _⟩
theorem dead_not : DeadOk 129 := by
 intro p s a o e wh W h ha hs he
 have HB := Lib.hid ((Below.refl W.heap.size W).alloc (Nat.le_refl _) (.cells zero5 27))
 have HZ := Lib.hid (show (W.alloc (.cells zero5 27)).heap[W.heap.size]? = some (.cells zero5 27 (0, 0)) from World.alloc_heap_new _ _)
 have KP := Lib.hid (fun (W' : World) (hb : Below W.heap.size W W') => h.later hb)
 have ct := Lib.hid (fun (W' : World) (hb : Below W.heap.size W W') => take_no [33] p s a o e wh W' (KP.out _ hb) ha hs (by rw [nT_dead he]; decide))
 have ec : bs [33] = ⟨#[33]⟩ := rfl
 rw [ec] at ct
 have cp := Lib.hid (fun (W' : World) (hb : Below W.heap.size W W') => dead_cmp p s a o e wh W' (KP.out _ hb) ha hs he)
 clear h ha hs he KP ec
 go_enter Tryz.func129, Tryz.ntmps129
 go_wp2_with fail
 refine (ct.out _ HB.out).mono ?_
 rintro e w1 ⟨rfl, b⟩
 have HZ := Lib.hid ((b.block W.heap.size (Array.getElem?_eq_some_iff.1 HZ.out).1).trans HZ.out)
 have HB := Lib.hid (HB.out.trans (b.mono HB.out.size))
 clear b ct
 go_wp2_with fail
 refine (cp.out _ HB.out).mono ?_
 rintro e w2 ⟨rfl, b⟩
 have HZ := Lib.hid ((b.block W.heap.size (Array.getElem?_eq_some_iff.1 HZ.out).1).trans HZ.out)
 have HB := Lib.hid (HB.out.trans (b.mono HB.out.size))
 clear b cp
 obtain ⟨z0, z1, z2, z3, z4, f0, f1, f2, f3, f4⟩ := box_facts HZ.out
 go_wp2_with fail
 exact bodyPost_ret (res27 Tryz.results129 _ _ W.heap.size _ _ _ _ _ rfl (set5_same _ _ _ _ _ HZ.out)) rfl ⟨rfl, Below.set5 HB.out (Nat.le_refl _) _ _ _ _ _⟩
theorem dead_and : DeadOk 111 := by
 intro p s a o e wh W h ha hs he
 have HB := Lib.hid ((Below.refl W.heap.size W).alloc (Nat.le_refl _) (.cells zero5 27))
 have HZ := Lib.hid (show (W.alloc (.cells zero5 27)).heap[W.heap.size]? = some (.cells zero5 27 (0, 0)) from World.alloc_heap_new _ _)
 have KP := Lib.hid (fun (W' : World) (hb : Below W.heap.size W W') => h.later hb)
 have ct := Lib.hid (fun (W' : World) (hb : Below W.heap.size W W') => take_no [38, 38] p s a o e wh W' (KP.out _ hb) ha hs (by rw [nT_dead he]; decide))
 have ec : bs [38, 38] = ⟨#[38, 38]⟩ := rfl
 rw [ec] at ct
 have cp := Lib.hid (fun (W' : World) (hb : Below W.heap.size W W') => dead_not p s a o e wh W' (KP.out _ hb) ha hs he)
 clear h ha hs he KP ec
 go_enter Tryz.func111, Tryz.ntmps111
 go_wp2_with fail
 refine (cp.out _ HB.out).mono ?_
 rintro e w1 ⟨rfl, b⟩
 have HZ := Lib.hid ((b.block W.heap.size (Array.getElem?_eq_some_iff.1 HZ.out).1).trans HZ.out)
 have HB := Lib.hid (HB.out.trans (b.mono HB.out.size))
 clear b cp
 have HL := Lib.hid (show (w1.alloc (.cells zero5 27)).heap[w1.heap.size]? = some (.cells zero5 27 (0, 0)) from World.alloc_heap_new _ _)
 have HX := Lib.hid ((Lib.alloc_old w1 (.cells zero5 27) W.heap.size (Array.getElem?_eq_some_iff.1 HZ.out).1).trans HZ.out)
 have HB := Lib.hid (HB.out.alloc HB.out.size (.cells zero5 27))
 clear HZ
 have HZ := HX
 clear HX
 go_wp2_with fail
 refine wp_loop_rounds 1 ?_
 rw [rounds_succ]
 go_wp2_with fail
 refine (ct.out _ HB.out).mono ?_
 rintro e w2 ⟨rfl, b⟩
 have HZ := Lib.hid ((b.block W.heap.size (Array.getElem?_eq_some_iff.1 HZ.out).1).trans HZ.out)
 have HL := Lib.hid ((b.block w1.heap.size (Array.getElem?_eq_some_iff.1 HL.out).1).trans HL.out)
 have HB := Lib.hid (HB.out.trans (b.mono HB.out.size))
 clear b ct
 obtain ⟨z0, z1, z2, z3, z4, f0, f1, f2, f3, f4⟩ := box_facts HZ.out
 obtain ⟨l0, l1, l2, l3, l4, _, _, _, _, _⟩ := box_facts HL.out
 go_wp2_with fail
 exact bodyPost_ret (res27 Tryz.results111 _ _ W.heap.size _ _ _ _ _ rfl (set5_same _ _ _ _ _ HZ.out)) rfl ⟨rfl, Below.set5 HB.out (Nat.le_refl _) _ _ _ _ _⟩
theorem dead_or : DeadOk 73 := by
 intro p s a o e wh W h ha hs he
 have HB := Lib.hid ((Below.refl W.heap.size W).alloc (Nat.le_refl _) (.cells zero5 27))
 have HZ := Lib.hid (show (W.alloc (.cells zero5 27)).heap[W.heap.size]? = some (.cells zero5 27 (0, 0)) from World.alloc_heap_new _ _)
 have KP := Lib.hid (fun (W' : World) (hb : Below W.heap.size W W') => h.later hb)
 have ct := Lib.hid (fun (W' : World) (hb : Below W.heap.size W W') => take_no [124, 124] p s a o e wh W' (KP.out _ hb) ha hs (by rw [nT_dead he]; decide))
 have ec : bs [124, 124] = ⟨#[124, 124]⟩ := rfl
 rw [ec] at ct
 have cp := Lib.hid (fun (W' : World) (hb : Below W.heap.size W W') => dead_and p s a o e wh W' (KP.out _ hb) ha hs he)
 clear h ha hs he KP ec
 go_enter Tryz.func73, Tryz.ntmps73
 go_wp2_with fail
 refine (cp.out _ HB.out).mono ?_
 rintro e w1 ⟨rfl, b⟩
 have HZ := Lib.hid ((b.block W.heap.size (Array.getElem?_eq_some_iff.1 HZ.out).1).trans HZ.out)
 have HB := Lib.hid (HB.out.trans (b.mono HB.out.size))
 clear b cp
 have HL := Lib.hid (show (w1.alloc (.cells zero5 27)).heap[w1.heap.size]? = some (.cells zero5 27 (0, 0)) from World.alloc_heap_new _ _)
 have HX := Lib.hid ((Lib.alloc_old w1 (.cells zero5 27) W.heap.size (Array.getElem?_eq_some_iff.1 HZ.out).1).trans HZ.out)
 have HB := Lib.hid (HB.out.alloc HB.out.size (.cells zero5 27))
 clear HZ
 have HZ := HX
 clear HX
 go_wp2_with fail
 refine wp_loop_rounds 1 ?_
 rw [rounds_succ]
 go_wp2_with fail
 refine (ct.out _ HB.out).mono ?_
 rintro e w2 ⟨rfl, b⟩
 have HZ := Lib.hid ((b.block W.heap.size (Array.getElem?_eq_some_iff.1 HZ.out).1).trans HZ.out)
 have HL := Lib.hid ((b.block w1.heap.size (Array.getElem?_eq_some_iff.1 HL.out).1).trans HL.out)
 have HB := Lib.hid (HB.out.trans (b.mono HB.out.size))
 clear b ct
 obtain ⟨z0, z1, z2, z3, z4, f0, f1, f2, f3, f4⟩ := box_facts HZ.out
 obtain ⟨l0, l1, l2, l3, l4, _, _, _, _, _⟩ := box_facts HL.out
 go_wp2_with fail
 exact bodyPost_ret (res27 Tryz.results73 _ _ W.heap.size _ _ _ _ _ rfl (set5_same _ _ _ _ _ HZ.out)) rfl ⟨rfl, Below.set5 HB.out (Nat.le_refl _) _ _ _ _ _⟩
theorem dead_imp : DeadOk 36 := by
 intro p s a o e wh W h ha hs he
 have HB := Lib.hid ((Below.refl W.heap.size W).alloc (Nat.le_refl _) (.cells zero5 27))
 have HZ := Lib.hid (show (W.alloc (.cells zero5 27)).heap[W.heap.size]? = some (.cells zero5 27 (0, 0)) from World.alloc_heap_new _ _)
 have KP := Lib.hid (fun (W' : World) (hb : Below W.heap.size W W') => h.later hb)
 have ct := Lib.hid (fun (W' : World) (hb : Below W.heap.size W W') => take_no [61, 62] p s a o e wh W' (KP.out _ hb) ha hs (by rw [nT_dead he]; decide))
 have ec : bs [61, 62] = ⟨#[61, 62]⟩ := rfl
 rw [ec] at ct
 have cp := Lib.hid (fun (W' : World) (hb : Below W.heap.size W W') => dead_or p s a o e wh W' (KP.out _ hb) ha hs he)
 clear h ha hs he KP ec
 go_enter Tryz.func36, Tryz.ntmps36
 go_wp2_with fail
 refine (cp.out _ HB.out).mono ?_
 rintro e w1 ⟨rfl, b⟩
 have HZ := Lib.hid ((b.block W.heap.size (Array.getElem?_eq_some_iff.1 HZ.out).1).trans HZ.out)
 have HB := Lib.hid (HB.out.trans (b.mono HB.out.size))
 clear b cp
 have HL := Lib.hid (show (w1.alloc (.cells zero5 27)).heap[w1.heap.size]? = some (.cells zero5 27 (0, 0)) from World.alloc_heap_new _ _)
 have HX := Lib.hid ((Lib.alloc_old w1 (.cells zero5 27) W.heap.size (Array.getElem?_eq_some_iff.1 HZ.out).1).trans HZ.out)
 have HB := Lib.hid (HB.out.alloc HB.out.size (.cells zero5 27))
 clear HZ
 have HZ := HX
 clear HX
 go_wp2_with fail
 refine (ct.out _ HB.out).mono ?_
 rintro e w2 ⟨rfl, b⟩
 have HZ := Lib.hid ((b.block W.heap.size (Array.getElem?_eq_some_iff.1 HZ.out).1).trans HZ.out)
 have HL := Lib.hid ((b.block w1.heap.size (Array.getElem?_eq_some_iff.1 HL.out).1).trans HL.out)
 have HB := Lib.hid (HB.out.trans (b.mono HB.out.size))
 clear b ct
 obtain ⟨z0, z1, z2, z3, z4, f0, f1, f2, f3, f4⟩ := box_facts HZ.out
 obtain ⟨l0, l1, l2, l3, l4, _, _, _, _, _⟩ := box_facts HL.out
 go_wp2_with fail
 exact bodyPost_ret (res27 Tryz.results36 _ _ W.heap.size _ _ _ _ _ rfl (set5_same _ _ _ _ _ HZ.out)) rfl ⟨rfl, Below.set5 HB.out (Nat.le_refl _) _ _ _ _ _⟩
theorem dead_form : DeadOk 21 := by
 intro p s a o e wh W h ha hs he
 have HB := Lib.hid ((Below.refl W.heap.size W).alloc (Nat.le_refl _) (.cells zero5 27))
 have HZ := Lib.hid (show (W.alloc (.cells zero5 27)).heap[W.heap.size]? = some (.cells zero5 27 (0, 0)) from World.alloc_heap_new _ _)
 have KP := Lib.hid (fun (W' : World) (hb : Below W.heap.size W W') => h.later hb)
 have ct := Lib.hid (fun (W' : World) (hb : Below W.heap.size W W') => take_no [60, 61, 62] p s a o e wh W' (KP.out _ hb) ha hs (by rw [nT_dead he]; decide))
 have ec : bs [60, 61, 62] = ⟨#[60, 61, 62]⟩ := rfl
 rw [ec] at ct
 have cp := Lib.hid (fun (W' : World) (hb : Below W.heap.size W W') => dead_imp p s a o e wh W' (KP.out _ hb) ha hs he)
 clear h ha hs he KP ec
 go_enter Tryz.func21, Tryz.ntmps21
 go_wp2_with fail
 refine (cp.out _ HB.out).mono ?_
 rintro e w1 ⟨rfl, b⟩
 have HZ := Lib.hid ((b.block W.heap.size (Array.getElem?_eq_some_iff.1 HZ.out).1).trans HZ.out)
 have HB := Lib.hid (HB.out.trans (b.mono HB.out.size))
 clear b cp
 have HL := Lib.hid (show (w1.alloc (.cells zero5 27)).heap[w1.heap.size]? = some (.cells zero5 27 (0, 0)) from World.alloc_heap_new _ _)
 have HX := Lib.hid ((Lib.alloc_old w1 (.cells zero5 27) W.heap.size (Array.getElem?_eq_some_iff.1 HZ.out).1).trans HZ.out)
 have HB := Lib.hid (HB.out.alloc HB.out.size (.cells zero5 27))
 clear HZ
 have HZ := HX
 clear HX
 go_wp2_with fail
 refine (ct.out _ HB.out).mono ?_
 rintro e w2 ⟨rfl, b⟩
 have HZ := Lib.hid ((b.block W.heap.size (Array.getElem?_eq_some_iff.1 HZ.out).1).trans HZ.out)
 have HL := Lib.hid ((b.block w1.heap.size (Array.getElem?_eq_some_iff.1 HL.out).1).trans HL.out)
 have HB := Lib.hid (HB.out.trans (b.mono HB.out.size))
 clear b ct
 obtain ⟨z0, z1, z2, z3, z4, f0, f1, f2, f3, f4⟩ := box_facts HZ.out
 obtain ⟨l0, l1, l2, l3, l4, _, _, _, _, _⟩ := box_facts HL.out
 go_wp2_with fail
 exact bodyPost_ret (res27 Tryz.results21 _ _ W.heap.size _ _ _ _ _ rfl (set5_same _ _ _ _ _ HZ.out)) rfl ⟨rfl, Below.set5 HB.out (Nat.le_refl _) _ _ _ _ _⟩
end Go.Proofs.YtgkjcimgghflmaaGreatDoor
