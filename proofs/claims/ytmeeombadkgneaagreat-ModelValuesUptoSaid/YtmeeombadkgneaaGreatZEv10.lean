/-
  What apply returns at the operators that are no variable, application, Ite or Sto, from what integer, elements and isTrue return; conditions: those of these.
  What apply returns of a variable, of an application and of an Ite; conditions: the table and the kids' values lie in memory, the table is in order and not long.
  What apply returns of each operator, against the mathematics; conditions: the table and the kids' values lie in memory and are valid, the node is well sorted.
-/
import Derived.Test.YtmeeombadkgneaaGreatZEv8
import Derived.Test.YtmeeombadkgneaaGreatZEv9
import Derived.Test.YtmeeombadkgneaaGreatZEv19
namespace Go.Proofs.YtmeeombadkgneaaGreat
open Go.Proofs Go.RowKit Go.Shelf Go.Sort Go.Lib

attribute [local go_sem] Oper.semAt_some
theorem RobI.later' {n0 : Nat} {w w' : World} {A : Option Addr} {l : List Int} (h : RobI n0 w A l) (hb : RowKit.Below w.heap.size w w') : RobI n0 w' A l :=
  fun W hW => h W fun k h1 h2 => (hW k h1 (Nat.lt_of_lt_of_le h2 hb.size)).trans (hb.block k h2)
set_option maxRecDepth 100000 in
set_option maxHeartbeats 4000000 in
theorem applyInt_any (op so nu : Int) (nm : ByteArray) (A C K : Option Addr) (tl cap cn cc kn kc : Nat) (r : Int) (w : World) (o1 : (op == 1) = false) (o3 : (op == 3) = false) (o8 : (op == 8) = false) (o15 : (op == 15) = false)
    (hsort : ∀ W', RowKit.Below w.heap.size w W' → Calls Tryz.prog 96 #[nv op so nm nu (.slice C cn cc)] W' fun e w' => e = .returned (.int .i64 1) ∧ RowKit.Below W'.heap.size W' w')
    (hin : ∀ W', RowKit.Below w.heap.size w W' → Calls Tryz.prog 123 #[nv op so nm nu (.slice C cn cc), .slice K kn kc] W' fun e w' => e = .returned (.int .i64 r) ∧ RowKit.Below W'.heap.size W' w') :
    Calls Tryz.prog 98 #[.slice A tl cap, nv op so nm nu (.slice C cn cc), .slice K kn kc] w fun e w' => e = .returned (pv 1 r) ∧ RowKit.Below w.heap.size w w' := by
  obtain ⟨W, hW⟩ : ∃ W, (w.alloc (.cells #[.int .i64 op, .int .i64 so, .string nm, .int .i64 nu, .slice C cn cc] 44)).alloc (.cells #[.int .i64 0, .int .i64 0, .slice none 0 0, .slice none 0 0, .slice none 0 0] 63) = W := ⟨_, rfl⟩
  have HB := Lib.hid (show RowKit.Below w.heap.size w W by rw [← hW]; exact ((RowKit.Below.refl _ _).alloc (Nat.le_refl _) _).alloc (by rw [one_size]; omega) _)
  have HP := Lib.hid (show W.heap[w.heap.size]? = some (.cells #[.int .i64 op, .int .i64 so, .string nm, .int .i64 nu, .slice C cn cc] 44) by rw [← hW]; exact two_fst _ _ _)
  have HQ := Lib.hid (show W.heap[w.heap.size + 1]? = some (.cells #[.int .i64 0, .int .i64 0, .slice none 0 0, .slice none 0 0, .slice none 0 0] 63) by rw [← hW]; exact two_snd _ _ _)
  have HSO := Lib.hid hsort
  have HIN := Lib.hid hin
  have HW := Lib.hid hW
  clear hW hsort hin
  obtain ⟨z0, z1, z2, z3, z4, f0, f1, f2, f3, f4⟩ := boxT_facts HP.out
  go_enter Tryz.func98, Tryz.ntmps98
  go_upto_region 1 with fail
  rw [HW.out]
  go_wp2_with fail
  refine (HSO.out _ HB.out).mono ?_
  rintro e w1 ⟨rfl, b1⟩
  have B1 := Lib.hid b1
  clear b1 z0 z1 z2 z3 z4 f0 f1 f2 f3 f4
  obtain ⟨z0, z1, z2, z3, z4, f0, f1, f2, f3, f4⟩ := boxT_facts ((B1.out.block _ (Array.getElem?_eq_some_iff.1 HP.out).1).trans HP.out)
  go_wp2_with fail
  refine (HIN.out _ (HB.out.trans (B1.out.mono HB.out.size))).mono ?_
  rintro e w2 ⟨rfl, b2⟩
  have B2 := Lib.hid (B1.out.trans (b2.mono B1.out.size))
  clear b2
  go_wp2_with fail
  refine (number_any r _).mono ?_
  rintro e w3 ⟨rfl, g3⟩
  have B3 := Lib.hid (B2.out.trans (g3.below.mono B2.out.size))
  clear g3
  have hQ3 := (B3.out.block _ (Array.getElem?_eq_some_iff.1 HQ.out).1).trans HQ.out
  have HX := Lib.hid (setT_same (.int .i64 1) (.int .i64 r) (.slice none 0 0) (.slice none 0 0) (.slice none 0 0) hQ3)
  have HBX := Lib.hid (Below.set5 (HB.out.trans (B3.out.mono HB.out.size)) (b := w.heap.size + 1) (by omega) (.int .i64 1) (.int .i64 r) (.slice none 0 0) (.slice none 0 0) (.slice none 0 0))
  clear z0 z1 z2 z3 z4 f0 f1 f2 f3 f4
  obtain ⟨z0, z1, z2, z3, z4, f0, f1, f2, f3, f4⟩ := boxT_facts hQ3
  clear hQ3
  go_wp2_with fail
  clear z0 z1 z2 z3 z4 f0 f1 f2 f3 f4
  obtain ⟨y0, y1, y2, y3, y4, _, _, _, _, _⟩ := boxT_facts HX.out
  exact bodyPost_ret (v := pv 1 r) (by simp [results, Tryz.results98, go_sem, y0, y1, y2, y3, y4]) rfl ⟨rfl, HBX.out⟩
set_option maxRecDepth 100000 in
set_option maxHeartbeats 4000000 in
theorem applyYes_any (op so nu : Int) (nm : ByteArray) (A C K : Option Addr) (tl cap cn cc kn kc : Nat)  (w : World) (o1 : (op == 1) = false) (o3 : (op == 3) = false) (o8 : (op == 8) = false) (o15 : (op == 15) = false)
    (hsort : ∀ W', RowKit.Below w.heap.size w W' → Calls Tryz.prog 96 #[nv op so nm nu (.slice C cn cc)] W' fun e w' => e = .returned (.int .i64 2) ∧ RowKit.Below W'.heap.size W' w')
    (hin : ∀ W', RowKit.Below w.heap.size w W' → Calls Tryz.prog 125 #[.int .i64 op, .slice K kn kc] W' fun e w' => e = .returned (.bool true) ∧ RowKit.Below W'.heap.size W' w') :
    Calls Tryz.prog 98 #[.slice A tl cap, nv op so nm nu (.slice C cn cc), .slice K kn kc] w fun e w' => e = .returned (pv 2 1) ∧ RowKit.Below w.heap.size w w' := by
  obtain ⟨W, hW⟩ : ∃ W, (w.alloc (.cells #[.int .i64 op, .int .i64 so, .string nm, .int .i64 nu, .slice C cn cc] 44)).alloc (.cells #[.int .i64 0, .int .i64 0, .slice none 0 0, .slice none 0 0, .slice none 0 0] 63) = W := ⟨_, rfl⟩
  have HB := Lib.hid (show RowKit.Below w.heap.size w W by rw [← hW]; exact ((RowKit.Below.refl _ _).alloc (Nat.le_refl _) _).alloc (by rw [one_size]; omega) _)
  have HP := Lib.hid (show W.heap[w.heap.size]? = some (.cells #[.int .i64 op, .int .i64 so, .string nm, .int .i64 nu, .slice C cn cc] 44) by rw [← hW]; exact two_fst _ _ _)
  have HQ := Lib.hid (show W.heap[w.heap.size + 1]? = some (.cells #[.int .i64 0, .int .i64 0, .slice none 0 0, .slice none 0 0, .slice none 0 0] 63) by rw [← hW]; exact two_snd _ _ _)
  have HSO := Lib.hid hsort
  have HIN := Lib.hid hin
  have HW := Lib.hid hW
  clear hW hsort hin
  obtain ⟨z0, z1, z2, z3, z4, f0, f1, f2, f3, f4⟩ := boxT_facts HP.out
  go_enter Tryz.func98, Tryz.ntmps98
  go_upto_region 1 with fail
  rw [HW.out]
  go_wp2_with fail
  refine (HSO.out _ HB.out).mono ?_
  rintro e w1 ⟨rfl, b1⟩
  have B1 := Lib.hid b1
  clear b1 z0 z1 z2 z3 z4 f0 f1 f2 f3 f4
  obtain ⟨z0, z1, z2, z3, z4, f0, f1, f2, f3, f4⟩ := boxT_facts ((B1.out.block _ (Array.getElem?_eq_some_iff.1 HP.out).1).trans HP.out)
  go_wp2_with fail
  refine (HIN.out _ (HB.out.trans (B1.out.mono HB.out.size))).mono ?_
  rintro e w2 ⟨rfl, b2⟩
  have B2 := Lib.hid (B1.out.trans (b2.mono B1.out.size))
  clear b2
  go_wp2_with fail
  refine (truth_yes _).mono ?_
  rintro e w3 ⟨rfl, g3⟩
  have B3 := Lib.hid (B2.out.trans (g3.below.mono B2.out.size))
  clear g3
  have hQ3 := (B3.out.block _ (Array.getElem?_eq_some_iff.1 HQ.out).1).trans HQ.out
  have HX := Lib.hid (setT_same (.int .i64 2) (.int .i64 1) (.slice none 0 0) (.slice none 0 0) (.slice none 0 0) hQ3)
  have HBX := Lib.hid (Below.set5 (HB.out.trans (B3.out.mono HB.out.size)) (b := w.heap.size + 1) (by omega) (.int .i64 2) (.int .i64 1) (.slice none 0 0) (.slice none 0 0) (.slice none 0 0))
  clear z0 z1 z2 z3 z4 f0 f1 f2 f3 f4
  obtain ⟨z0, z1, z2, z3, z4, f0, f1, f2, f3, f4⟩ := boxT_facts hQ3
  clear hQ3
  go_wp2_with fail
  clear z0 z1 z2 z3 z4 f0 f1 f2 f3 f4
  obtain ⟨y0, y1, y2, y3, y4, _, _, _, _, _⟩ := boxT_facts HX.out
  exact bodyPost_ret (v := pv 2 1) (by simp [results, Tryz.results98, go_sem, y0, y1, y2, y3, y4]) rfl ⟨rfl, HBX.out⟩
set_option maxRecDepth 100000 in
set_option maxHeartbeats 4000000 in
theorem applyNo_any (op so nu : Int) (nm : ByteArray) (A C K : Option Addr) (tl cap cn cc kn kc : Nat)  (w : World) (o1 : (op == 1) = false) (o3 : (op == 3) = false) (o8 : (op == 8) = false) (o15 : (op == 15) = false)
    (hsort : ∀ W', RowKit.Below w.heap.size w W' → Calls Tryz.prog 96 #[nv op so nm nu (.slice C cn cc)] W' fun e w' => e = .returned (.int .i64 2) ∧ RowKit.Below W'.heap.size W' w')
    (hin : ∀ W', RowKit.Below w.heap.size w W' → Calls Tryz.prog 125 #[.int .i64 op, .slice K kn kc] W' fun e w' => e = .returned (.bool false) ∧ RowKit.Below W'.heap.size W' w') :
    Calls Tryz.prog 98 #[.slice A tl cap, nv op so nm nu (.slice C cn cc), .slice K kn kc] w fun e w' => e = .returned (pv 2 0) ∧ RowKit.Below w.heap.size w w' := by
  obtain ⟨W, hW⟩ : ∃ W, (w.alloc (.cells #[.int .i64 op, .int .i64 so, .string nm, .int .i64 nu, .slice C cn cc] 44)).alloc (.cells #[.int .i64 0, .int .i64 0, .slice none 0 0, .slice none 0 0, .slice none 0 0] 63) = W := ⟨_, rfl⟩
  have HB := Lib.hid (show RowKit.Below w.heap.size w W by rw [← hW]; exact ((RowKit.Below.refl _ _).alloc (Nat.le_refl _) _).alloc (by rw [one_size]; omega) _)
  have HP := Lib.hid (show W.heap[w.heap.size]? = some (.cells #[.int .i64 op, .int .i64 so, .string nm, .int .i64 nu, .slice C cn cc] 44) by rw [← hW]; exact two_fst _ _ _)
  have HQ := Lib.hid (show W.heap[w.heap.size + 1]? = some (.cells #[.int .i64 0, .int .i64 0, .slice none 0 0, .slice none 0 0, .slice none 0 0] 63) by rw [← hW]; exact two_snd _ _ _)
  have HSO := Lib.hid hsort
  have HIN := Lib.hid hin
  have HW := Lib.hid hW
  clear hW hsort hin
  obtain ⟨z0, z1, z2, z3, z4, f0, f1, f2, f3, f4⟩ := boxT_facts HP.out
  go_enter Tryz.func98, Tryz.ntmps98
  go_upto_region 1 with fail
  rw [HW.out]
  go_wp2_with fail
  refine (HSO.out _ HB.out).mono ?_
  rintro e w1 ⟨rfl, b1⟩
  have B1 := Lib.hid b1
  clear b1 z0 z1 z2 z3 z4 f0 f1 f2 f3 f4
  obtain ⟨z0, z1, z2, z3, z4, f0, f1, f2, f3, f4⟩ := boxT_facts ((B1.out.block _ (Array.getElem?_eq_some_iff.1 HP.out).1).trans HP.out)
  go_wp2_with fail
  refine (HIN.out _ (HB.out.trans (B1.out.mono HB.out.size))).mono ?_
  rintro e w2 ⟨rfl, b2⟩
  have B2 := Lib.hid (B1.out.trans (b2.mono B1.out.size))
  clear b2
  go_wp2_with fail
  refine (truth_no _).mono ?_
  rintro e w3 ⟨rfl, g3⟩
  have B3 := Lib.hid (B2.out.trans (g3.below.mono B2.out.size))
  clear g3
  have hQ3 := (B3.out.block _ (Array.getElem?_eq_some_iff.1 HQ.out).1).trans HQ.out
  have HX := Lib.hid (setT_same (.int .i64 2) (.int .i64 0) (.slice none 0 0) (.slice none 0 0) (.slice none 0 0) hQ3)
  have HBX := Lib.hid (Below.set5 (HB.out.trans (B3.out.mono HB.out.size)) (b := w.heap.size + 1) (by omega) (.int .i64 2) (.int .i64 0) (.slice none 0 0) (.slice none 0 0) (.slice none 0 0))
  clear z0 z1 z2 z3 z4 f0 f1 f2 f3 f4
  obtain ⟨z0, z1, z2, z3, z4, f0, f1, f2, f3, f4⟩ := boxT_facts hQ3
  clear hQ3
  go_wp2_with fail
  clear z0 z1 z2 z3 z4 f0 f1 f2 f3 f4
  obtain ⟨y0, y1, y2, y3, y4, _, _, _, _, _⟩ := boxT_facts HX.out
  exact bodyPost_ret (v := pv 2 0) (by simp [results, Tryz.results98, go_sem, y0, y1, y2, y3, y4]) rfl ⟨rfl, HBX.out⟩
set_option maxRecDepth 100000 in
set_option maxHeartbeats 4000000 in
theorem applySet_any (op so nu : Int) (nm : ByteArray) (A C K : Option Addr) (tl cap cn cc kn kc : Nat) (l : List Int) (w : World) (o1 : (op == 1) = false) (o3 : (op == 3) = false) (o8 : (op == 8) = false) (o15 : (op == 15) = false)
    (hsort : ∀ W', RowKit.Below w.heap.size w W' → Calls Tryz.prog 96 #[nv op so nm nu (.slice C cn cc)] W' fun e w' => e = .returned (.int .i64 4) ∧ RowKit.Below W'.heap.size W' w')
    (hin : ∀ W', RowKit.Below w.heap.size w W' → Calls Tryz.prog 124 #[.int .i64 op, .slice K kn kc] W' (RetI W' l)) :
    Calls Tryz.prog 98 #[.slice A tl cap, nv op so nm nu (.slice C cn cc), .slice K kn kc] w fun e w' => (∃ A' c, e = .returned (.agg #[.int .i64 4, .int .i64 0, .slice A' l.length c, .slice none 0 0, .slice none 0 0]) ∧ l.length ≤ c ∧ Ints w' A' l) ∧ RowKit.Below w.heap.size w w' := by
  obtain ⟨W, hW⟩ : ∃ W, (w.alloc (.cells #[.int .i64 op, .int .i64 so, .string nm, .int .i64 nu, .slice C cn cc] 44)).alloc (.cells #[.int .i64 0, .int .i64 0, .slice none 0 0, .slice none 0 0, .slice none 0 0] 63) = W := ⟨_, rfl⟩
  have HB := Lib.hid (show RowKit.Below w.heap.size w W by rw [← hW]; exact ((RowKit.Below.refl _ _).alloc (Nat.le_refl _) _).alloc (by rw [one_size]; omega) _)
  have HP := Lib.hid (show W.heap[w.heap.size]? = some (.cells #[.int .i64 op, .int .i64 so, .string nm, .int .i64 nu, .slice C cn cc] 44) by rw [← hW]; exact two_fst _ _ _)
  have HQ := Lib.hid (show W.heap[w.heap.size + 1]? = some (.cells #[.int .i64 0, .int .i64 0, .slice none 0 0, .slice none 0 0, .slice none 0 0] 63) by rw [← hW]; exact two_snd _ _ _)
  have HSO := Lib.hid hsort
  have HIN := Lib.hid hin
  have HW := Lib.hid hW
  clear hW hsort hin
  obtain ⟨z0, z1, z2, z3, z4, f0, f1, f2, f3, f4⟩ := boxT_facts HP.out
  go_enter Tryz.func98, Tryz.ntmps98
  go_upto_region 1 with fail
  rw [HW.out]
  go_wp2_with fail
  refine (HSO.out _ HB.out).mono ?_
  rintro e w1 ⟨rfl, b1⟩
  have B1 := Lib.hid b1
  clear b1 z0 z1 z2 z3 z4 f0 f1 f2 f3 f4
  obtain ⟨z0, z1, z2, z3, z4, f0, f1, f2, f3, f4⟩ := boxT_facts ((B1.out.block _ (Array.getElem?_eq_some_iff.1 HP.out).1).trans HP.out)
  go_wp2_with fail
  refine (HIN.out _ (HB.out.trans (B1.out.mono HB.out.size))).mono ?_
  rintro e w2 ⟨A', c', rfl, hr, hc, b2⟩
  have HR := Lib.hid hr
  have HC := Lib.hid hc
  have B2 := Lib.hid (B1.out.trans (b2.mono B1.out.size))
  have HS1 := Lib.hid (Nat.le_trans (HB.out.trans (B1.out.mono HB.out.size)).size (Nat.le_refl _))
  have HLQ := Lib.hid (show w.heap.size + 1 < w1.heap.size by have h1 := (Array.getElem?_eq_some_iff.1 HQ.out).1; have h2 := B1.out.size; omega)
  clear b2 hr hc
  go_wp2_with fail
  refine (set_any A' l.length c' _).mono ?_
  rintro e w3 ⟨rfl, g3⟩
  have HR3 := Lib.hid (HR.out.later' g3.below)
  have B3 := Lib.hid (B2.out.trans (g3.below.mono B2.out.size))
  clear g3
  have hQ3 := (B3.out.block _ (Array.getElem?_eq_some_iff.1 HQ.out).1).trans HQ.out
  have HX := Lib.hid (setT_same (.int .i64 4) (.int .i64 0) (.slice A' l.length c') (.slice none 0 0) (.slice none 0 0) hQ3)
  have HBX := Lib.hid (Below.set5 (HB.out.trans (B3.out.mono HB.out.size)) (b := w.heap.size + 1) (by omega) (.int .i64 4) (.int .i64 0) (.slice A' l.length c') (.slice none 0 0) (.slice none 0 0))
  clear z0 z1 z2 z3 z4 f0 f1 f2 f3 f4
  obtain ⟨z0, z1, z2, z3, z4, f0, f1, f2, f3, f4⟩ := boxT_facts hQ3
  clear hQ3
  go_wp2_with fail
  clear z0 z1 z2 z3 z4 f0 f1 f2 f3 f4
  obtain ⟨y0, y1, y2, y3, y4, _, _, _, _, _⟩ := boxT_facts HX.out
  exact bodyPost_ret (v := .agg #[.int .i64 4, .int .i64 0, .slice A' l.length c', .slice none 0 0, .slice none 0 0]) (by simp [results, Tryz.results98, go_sem, y0, y1, y2, y3, y4]) rfl ⟨⟨A', c', rfl, HC.out, HR3.out _ fun k h1 h2 => set5_other _ _ _ _ _ (by have := HLQ.out; omega)⟩, HBX.out⟩
end Go.Proofs.YtmeeombadkgneaaGreat
namespace Go.Proofs.YtmeeombadkgneaaGreat
open Go.Proofs Go.RowKit Go.Shelf Go.Sort Go.Lib

attribute [local go_sem] Oper.semAt_some
set_option maxRecDepth 100000 in
set_option maxHeartbeats 4000000 in
theorem applyVar1_any (l : List EA) (nm : ByteArray) (so nu : Int) (args : List VA) (A C B : Option Addr) (cap cn cc cb : Nat) (w : World) (hL : LiesM w A l) (hl : l.length ≤ 2000) (ha : Asc l) (hnm : nm.size ≤ maxLen) (hB : LiesVs w B args) (hal : args.length ≤ 10000) :
    Calls Tryz.prog 98 #[.slice A l.length cap, nv 1 so nm nu (.slice C cn cc), .slice B args.length cb] w fun e w' => (∃ v : VA, e = .returned (vv v) ∧ FindR l nm args so v) ∧ RowKit.Below w.heap.size w w' := by
  obtain ⟨W, hW⟩ : ∃ W, (w.alloc (.cells #[.int .i64 1, .int .i64 so, .string nm, .int .i64 nu, .slice C cn cc] 44)).alloc (.cells #[.int .i64 0, .int .i64 0, .slice none 0 0, .slice none 0 0, .slice none 0 0] 63) = W := ⟨_, rfl⟩
  have HB := Lib.hid (show RowKit.Below w.heap.size w W by rw [← hW]; exact ((RowKit.Below.refl _ _).alloc (Nat.le_refl _) _).alloc (by rw [one_size]; omega) _)
  have HP := Lib.hid (show W.heap[w.heap.size]? = some (.cells #[.int .i64 1, .int .i64 so, .string nm, .int .i64 nu, .slice C cn cc] 44) by rw [← hW]; exact two_fst _ _ _)
  have HQ := Lib.hid (show W.heap[w.heap.size + 1]? = some (.cells #[.int .i64 0, .int .i64 0, .slice none 0 0, .slice none 0 0, .slice none 0 0] 63) by rw [← hW]; exact two_snd _ _ _)
  have HW := Lib.hid hW
  clear hW
  obtain ⟨z0, z1, z2, z3, z4, f0, f1, f2, f3, f4⟩ := boxT_facts HP.out
  have HC := Lib.hid (find_any l nm args so A B cap cb W (hL.later HB.out) hl ha hnm (hB.later HB.out) hal)
  clear hL ha hB
  go_enter Tryz.func98, Tryz.ntmps98
  go_upto_region 1 with fail
  rw [HW.out]
  go_wp2_with fail
  refine HC.out.mono ?_
  rintro e w1 ⟨⟨v, rfl, hf⟩, b1⟩
  have HF := Lib.hid hf
  have B1 := Lib.hid b1
  clear hf b1 HC
  have hQ3 := (B1.out.block _ (Array.getElem?_eq_some_iff.1 HQ.out).1).trans HQ.out
  have HX := Lib.hid (setT_same (.int .i64 v.v.so) (.int .i64 v.v.nu) (.slice v.a1 v.v.st.length v.c1) (.slice v.a2 v.v.ix.length v.c2) (.slice v.a3 v.v.xs.length v.c3) hQ3)
  have HBX := Lib.hid (Below.set5 (HB.out.trans (B1.out.mono HB.out.size)) (b := w.heap.size + 1) (by omega) (.int .i64 v.v.so) (.int .i64 v.v.nu) (.slice v.a1 v.v.st.length v.c1) (.slice v.a2 v.v.ix.length v.c2) (.slice v.a3 v.v.xs.length v.c3))
  clear z0 z1 z2 z3 z4 f0 f1 f2 f3 f4
  obtain ⟨z0, z1, z2, z3, z4, f0, f1, f2, f3, f4⟩ := boxT_facts hQ3
  clear hQ3
  go_wp2_with fail
  clear z0 z1 z2 z3 z4 f0 f1 f2 f3 f4
  obtain ⟨y0, y1, y2, y3, y4, _, _, _, _, _⟩ := boxT_facts HX.out
  exact bodyPost_ret (v := vv v) (by simp [results, Tryz.results98, go_sem, y0, y1, y2, y3, y4]) rfl ⟨⟨v, rfl, HF.out⟩, HBX.out⟩
set_option maxRecDepth 100000 in
set_option maxHeartbeats 4000000 in
theorem applyApp3_any (l : List EA) (nm : ByteArray) (so nu : Int) (args : List VA) (A C B : Option Addr) (cap cn cc cb : Nat) (w : World) (hL : LiesM w A l) (hl : l.length ≤ 2000) (ha : Asc l) (hnm : nm.size ≤ maxLen) (hB : LiesVs w B args) (hal : args.length ≤ 10000) :
    Calls Tryz.prog 98 #[.slice A l.length cap, nv 3 so nm nu (.slice C cn cc), .slice B args.length cb] w fun e w' => (∃ v : VA, e = .returned (vv v) ∧ FindR l nm args so v) ∧ RowKit.Below w.heap.size w w' := by
  obtain ⟨W, hW⟩ : ∃ W, (w.alloc (.cells #[.int .i64 3, .int .i64 so, .string nm, .int .i64 nu, .slice C cn cc] 44)).alloc (.cells #[.int .i64 0, .int .i64 0, .slice none 0 0, .slice none 0 0, .slice none 0 0] 63) = W := ⟨_, rfl⟩
  have HB := Lib.hid (show RowKit.Below w.heap.size w W by rw [← hW]; exact ((RowKit.Below.refl _ _).alloc (Nat.le_refl _) _).alloc (by rw [one_size]; omega) _)
  have HP := Lib.hid (show W.heap[w.heap.size]? = some (.cells #[.int .i64 3, .int .i64 so, .string nm, .int .i64 nu, .slice C cn cc] 44) by rw [← hW]; exact two_fst _ _ _)
  have HQ := Lib.hid (show W.heap[w.heap.size + 1]? = some (.cells #[.int .i64 0, .int .i64 0, .slice none 0 0, .slice none 0 0, .slice none 0 0] 63) by rw [← hW]; exact two_snd _ _ _)
  have HW := Lib.hid hW
  clear hW
  obtain ⟨z0, z1, z2, z3, z4, f0, f1, f2, f3, f4⟩ := boxT_facts HP.out
  have HC := Lib.hid (find_any l nm args so A B cap cb W (hL.later HB.out) hl ha hnm (hB.later HB.out) hal)
  clear hL ha hB
  go_enter Tryz.func98, Tryz.ntmps98
  go_upto_region 1 with fail
  rw [HW.out]
  go_wp2_with fail
  refine HC.out.mono ?_
  rintro e w1 ⟨⟨v, rfl, hf⟩, b1⟩
  have HF := Lib.hid hf
  have B1 := Lib.hid b1
  clear hf b1 HC
  have hQ3 := (B1.out.block _ (Array.getElem?_eq_some_iff.1 HQ.out).1).trans HQ.out
  have HX := Lib.hid (setT_same (.int .i64 v.v.so) (.int .i64 v.v.nu) (.slice v.a1 v.v.st.length v.c1) (.slice v.a2 v.v.ix.length v.c2) (.slice v.a3 v.v.xs.length v.c3) hQ3)
  have HBX := Lib.hid (Below.set5 (HB.out.trans (B1.out.mono HB.out.size)) (b := w.heap.size + 1) (by omega) (.int .i64 v.v.so) (.int .i64 v.v.nu) (.slice v.a1 v.v.st.length v.c1) (.slice v.a2 v.v.ix.length v.c2) (.slice v.a3 v.v.xs.length v.c3))
  clear z0 z1 z2 z3 z4 f0 f1 f2 f3 f4
  obtain ⟨z0, z1, z2, z3, z4, f0, f1, f2, f3, f4⟩ := boxT_facts hQ3
  clear hQ3
  go_wp2_with fail
  clear z0 z1 z2 z3 z4 f0 f1 f2 f3 f4
  obtain ⟨y0, y1, y2, y3, y4, _, _, _, _, _⟩ := boxT_facts HX.out
  exact bodyPost_ret (v := vv v) (by simp [results, Tryz.results98, go_sem, y0, y1, y2, y3, y4]) rfl ⟨⟨v, rfl, HF.out⟩, HBX.out⟩
set_option maxRecDepth 100000 in
set_option maxHeartbeats 4000000 in
theorem applyIte_any (nm : ByteArray) (so nu : Int) (x y z : VA) (A C B : Option Addr) (tl cap cn cc cb : Nat) (w : World) (hB : LiesVs w B [x, y, z]) :
    Calls Tryz.prog 98 #[.slice A tl cap, nv 8 so nm nu (.slice C cn cc), .slice B 3 cb] w fun e w' => e = .returned (vv (if (x.v.nu == 1) = true then y else z)) ∧ RowKit.Below w.heap.size w w' := by
  obtain ⟨b, o, hb, X, Y, Z, _, _, _⟩ := kids3 hB
  subst hb
  clear hB
  obtain ⟨W, hW⟩ : ∃ W, (w.alloc (.cells #[.int .i64 8, .int .i64 so, .string nm, .int .i64 nu, .slice C cn cc] 44)).alloc (.cells #[.int .i64 0, .int .i64 0, .slice none 0 0, .slice none 0 0, .slice none 0 0] 63) = W := ⟨_, rfl⟩
  have HB := Lib.hid (show RowKit.Below w.heap.size w W by rw [← hW]; exact ((RowKit.Below.refl _ _).alloc (Nat.le_refl _) _).alloc (by rw [one_size]; omega) _)
  have HP := Lib.hid (show W.heap[w.heap.size]? = some (.cells #[.int .i64 8, .int .i64 so, .string nm, .int .i64 nu, .slice C cn cc] 44) by rw [← hW]; exact two_fst _ _ _)
  have HQ := Lib.hid (show W.heap[w.heap.size + 1]? = some (.cells #[.int .i64 0, .int .i64 0, .slice none 0 0, .slice none 0 0, .slice none 0 0] 63) by rw [← hW]; exact two_snd _ _ _)
  have HW := Lib.hid hW
  clear hW
  obtain ⟨z0, z1, z2, z3, z4, f0, f1, f2, f3, f4⟩ := boxT_facts HP.out
  obtain ⟨c0, c1, c2, c3, c4⟩ := X.later HB.out
  have KY := Lib.hid (fun W' (h : RowKit.Below w.heap.size w W') => Y.later h)
  have KZ := Lib.hid (fun W' (h : RowKit.Below w.heap.size w W') => Z.later h)
  have HH := Lib.hid (holds_any x)
  clear X Y Z
  generalize (x.v.nu == 1) = p at *
  cases p
  case true =>
    go_enter Tryz.func98, Tryz.ntmps98
    go_upto_region 1 with fail
    rw [HW.out]
    go_wp2_with fail
    refine (HH.out _).mono ?_
    rintro e w1 ⟨rfl, b1⟩
    obtain ⟨d0, d1, d2, d3, d4⟩ := KY.out _ (HB.out.trans (b1.mono HB.out.size))
    have B1 := Lib.hid b1
    clear b1 c0 c1 c2 c3 c4
    have hQ3 := (B1.out.block _ (Array.getElem?_eq_some_iff.1 HQ.out).1).trans HQ.out
    have HX := Lib.hid (setT_same (.int .i64 y.v.so) (.int .i64 y.v.nu) (.slice y.a1 y.v.st.length y.c1) (.slice y.a2 y.v.ix.length y.c2) (.slice y.a3 y.v.xs.length y.c3) hQ3)
    have HBX := Lib.hid (Below.set5 (HB.out.trans (B1.out.mono HB.out.size)) (b := w.heap.size + 1) (by omega) (.int .i64 y.v.so) (.int .i64 y.v.nu) (.slice y.a1 y.v.st.length y.c1) (.slice y.a2 y.v.ix.length y.c2) (.slice y.a3 y.v.xs.length y.c3))
    clear z0 z1 z2 z3 z4 f0 f1 f2 f3 f4
    obtain ⟨z0, z1, z2, z3, z4, f0, f1, f2, f3, f4⟩ := boxT_facts hQ3
    clear hQ3
    go_wp2_with fail
    clear z0 z1 z2 z3 z4 f0 f1 f2 f3 f4
    obtain ⟨y0, y1, y2, y3, y4, _, _, _, _, _⟩ := boxT_facts HX.out
    exact bodyPost_ret (v := vv y) (by simp [results, Tryz.results98, go_sem, y0, y1, y2, y3, y4]) rfl ⟨rfl, HBX.out⟩
  case false =>
    go_enter Tryz.func98, Tryz.ntmps98
    go_upto_region 1 with fail
    rw [HW.out]
    go_wp2_with fail
    refine (HH.out _).mono ?_
    rintro e w1 ⟨rfl, b1⟩
    obtain ⟨d0, d1, d2, d3, d4⟩ := KZ.out _ (HB.out.trans (b1.mono HB.out.size))
    have B1 := Lib.hid b1
    clear b1 c0 c1 c2 c3 c4
    have hQ3 := (B1.out.block _ (Array.getElem?_eq_some_iff.1 HQ.out).1).trans HQ.out
    have HX := Lib.hid (setT_same (.int .i64 z.v.so) (.int .i64 z.v.nu) (.slice z.a1 z.v.st.length z.c1) (.slice z.a2 z.v.ix.length z.c2) (.slice z.a3 z.v.xs.length z.c3) hQ3)
    have HBX := Lib.hid (Below.set5 (HB.out.trans (B1.out.mono HB.out.size)) (b := w.heap.size + 1) (by omega) (.int .i64 z.v.so) (.int .i64 z.v.nu) (.slice z.a1 z.v.st.length z.c1) (.slice z.a2 z.v.ix.length z.c2) (.slice z.a3 z.v.xs.length z.c3))
    clear z0 z1 z2 z3 z4 f0 f1 f2 f3 f4
    obtain ⟨z0, z1, z2, z3, z4, f0, f1, f2, f3, f4⟩ := boxT_facts hQ3
    clear hQ3
    go_wp2_with fail
    clear z0 z1 z2 z3 z4 f0 f1 f2 f3 f4
    obtain ⟨y0, y1, y2, y3, y4, _, _, _, _, _⟩ := boxT_facts HX.out
    exact bodyPost_ret (v := vv z) (by simp [results, Tryz.results98, go_sem, y0, y1, y2, y3, y4]) rfl ⟨rfl, HBX.out⟩
end Go.Proofs.YtmeeombadkgneaaGreat
namespace Go.Proofs.YtmeeombadkgneaaGreat
open Go.Proofs Go.RowKit Go.Shelf Go.Sort Go.Lib

attribute [local go_sem] Oper.semAt_some
set_option maxRecDepth 100000 in
set_option maxHeartbeats 4000000 in
theorem applySet2_any (op so nu : Int) (nm : ByteArray) (A C K : Option Addr) (tl cap cn cc kn kc : Nat) (l : List Int) (w : World) (o1 : (op == 1) = false) (o3 : (op == 3) = false) (o8 : (op == 8) = false) (o15 : (op == 15) = false)
    (hsort : ∀ W', RowKit.Below w.heap.size w W' → Calls Tryz.prog 96 #[nv op so nm nu (.slice C cn cc)] W' fun e w' => e = .returned (.int .i64 4) ∧ RowKit.Below W'.heap.size W' w')
    (hin : ∀ W', RowKit.Below w.heap.size w W' → Calls Tryz.prog 124 #[.int .i64 op, .slice K kn kc] W' (RetI W' l)) :
    Calls Tryz.prog 98 #[.slice A tl cap, nv op so nm nu (.slice C cn cc), .slice K kn kc] w fun e w' => (∃ A' c, e = .returned (.agg #[.int .i64 4, .int .i64 0, .slice A' l.length c, .slice none 0 0, .slice none 0 0]) ∧ l.length ≤ c ∧ RobI w.heap.size w' A' l) ∧ RowKit.Below w.heap.size w w' := by
  obtain ⟨W, hW⟩ : ∃ W, (w.alloc (.cells #[.int .i64 op, .int .i64 so, .string nm, .int .i64 nu, .slice C cn cc] 44)).alloc (.cells #[.int .i64 0, .int .i64 0, .slice none 0 0, .slice none 0 0, .slice none 0 0] 63) = W := ⟨_, rfl⟩
  have HB := Lib.hid (show RowKit.Below w.heap.size w W by rw [← hW]; exact ((RowKit.Below.refl _ _).alloc (Nat.le_refl _) _).alloc (by rw [one_size]; omega) _)
  have HP := Lib.hid (show W.heap[w.heap.size]? = some (.cells #[.int .i64 op, .int .i64 so, .string nm, .int .i64 nu, .slice C cn cc] 44) by rw [← hW]; exact two_fst _ _ _)
  have HQ := Lib.hid (show W.heap[w.heap.size + 1]? = some (.cells #[.int .i64 0, .int .i64 0, .slice none 0 0, .slice none 0 0, .slice none 0 0] 63) by rw [← hW]; exact two_snd _ _ _)
  have HSO := Lib.hid hsort
  have HIN := Lib.hid hin
  have HW := Lib.hid hW
  clear hW hsort hin
  obtain ⟨z0, z1, z2, z3, z4, f0, f1, f2, f3, f4⟩ := boxT_facts HP.out
  go_enter Tryz.func98, Tryz.ntmps98
  go_upto_region 1 with fail
  rw [HW.out]
  go_wp2_with fail
  refine (HSO.out _ HB.out).mono ?_
  rintro e w1 ⟨rfl, b1⟩
  have B1 := Lib.hid b1
  clear b1 z0 z1 z2 z3 z4 f0 f1 f2 f3 f4
  obtain ⟨z0, z1, z2, z3, z4, f0, f1, f2, f3, f4⟩ := boxT_facts ((B1.out.block _ (Array.getElem?_eq_some_iff.1 HP.out).1).trans HP.out)
  go_wp2_with fail
  refine (HIN.out _ (HB.out.trans (B1.out.mono HB.out.size))).mono ?_
  rintro e w2 ⟨A', c', rfl, hr, hc, b2⟩
  have HR := Lib.hid hr
  have HC := Lib.hid hc
  have B2 := Lib.hid (B1.out.trans (b2.mono B1.out.size))
  have HS1 := Lib.hid (Nat.le_trans (HB.out.trans (B1.out.mono HB.out.size)).size (Nat.le_refl _))
  have HLQ := Lib.hid (show w.heap.size + 1 < w1.heap.size by have h1 := (Array.getElem?_eq_some_iff.1 HQ.out).1; have h2 := B1.out.size; omega)
  clear b2 hr hc
  go_wp2_with fail
  refine (set_any A' l.length c' _).mono ?_
  rintro e w3 ⟨rfl, g3⟩
  have HR3 := Lib.hid (HR.out.later' g3.below)
  have B3 := Lib.hid (B2.out.trans (g3.below.mono B2.out.size))
  clear g3
  have hQ3 := (B3.out.block _ (Array.getElem?_eq_some_iff.1 HQ.out).1).trans HQ.out
  have HX := Lib.hid (setT_same (.int .i64 4) (.int .i64 0) (.slice A' l.length c') (.slice none 0 0) (.slice none 0 0) hQ3)
  have HBX := Lib.hid (Below.set5 (HB.out.trans (B3.out.mono HB.out.size)) (b := w.heap.size + 1) (by omega) (.int .i64 4) (.int .i64 0) (.slice A' l.length c') (.slice none 0 0) (.slice none 0 0))
  clear z0 z1 z2 z3 z4 f0 f1 f2 f3 f4
  obtain ⟨z0, z1, z2, z3, z4, f0, f1, f2, f3, f4⟩ := boxT_facts hQ3
  clear hQ3
  go_wp2_with fail
  clear z0 z1 z2 z3 z4 f0 f1 f2 f3 f4
  obtain ⟨y0, y1, y2, y3, y4, _, _, _, _, _⟩ := boxT_facts HX.out
  exact bodyPost_ret (v := .agg #[.int .i64 4, .int .i64 0, .slice A' l.length c', .slice none 0 0, .slice none 0 0]) (by simp [results, Tryz.results98, go_sem, y0, y1, y2, y3, y4]) rfl ⟨⟨A', c', rfl, HC.out, RobI.less (n0 := w1.heap.size) (fun W hW => HR3.out W fun k h1 h2 => (hW k h1 (by rw [set5_size]; exact h2)).trans (set5_other _ _ _ _ _ (by have := HLQ.out; omega))) (by have := HLQ.out; omega)⟩, HBX.out⟩
/-- What apply returns: a value that is not small, or the operator's value, in memory. -/
def ApP (t : List EA) (xs : List VA) (o : Option Vl) (w : World) (e : Ending) (w' : World) : Prop :=
  ∃ y : VA, e = .returned (vv y) ∧ RowKit.Below w.heap.size w w' ∧ (o = none → smallV y.v = false) ∧
    ∀ v, o = some v → y.v = v ∧ LiesV w' y ∧ CapV y ∧ ∀ P : Nat → Prop, (∀ k, w.heap.size ≤ k → ¬ P k) → TabP P w t → (∀ x ∈ xs, RobP P w x) → RobP P w' y
theorem small_no {so n : Int} (h : bndB n = false) : smallV ⟨so, n, [], [], []⟩ = false := by unfold smallV; rw [show (⟨so, n, [], [], []⟩ : Vl).nu = n from rfl, h]; rfl
theorem lies_plain (w : World) (so nu : Int) : LiesV w ⟨⟨so, nu, [], [], []⟩, none, 0, none, 0, none, 0⟩ := ⟨ints_nil w, ints_nil w, ints_nil w, by simp, by simp, by simp⟩
theorem cap_plain (so nu : Int) : CapV ⟨⟨so, nu, [], [], []⟩, none, 0, none, 0, none, 0⟩ := ⟨by simp, by simp, by simp⟩
theorem intPost {t : List EA} {xs : List VA} {o : Option Vl} {w w' : World} {e : Ending} {r : Int} (ho : o = intO r) (h : e = .returned (pv 1 r) ∧ RowKit.Below w.heap.size w w') : ApP t xs o w e w' := by
  refine ⟨⟨⟨1, r, [], [], []⟩, none, 0, none, 0, none, 0⟩, h.1, h.2, fun hn => ?_, fun v hv => ?_⟩
  · subst ho
    unfold intO at hn
    split at hn
    · cases hn
    · rename_i hb; exact small_no (by simpa using hb)
  · subst ho
    unfold intO at hv
    split at hv
    · cases hv
      exact ⟨rfl, lies_plain _ _ _, cap_plain _ _, fun _ _ _ _ => robP_plain _ _⟩
    · cases hv
theorem mulPost {t : List EA} {xs : List VA} {o : Option Vl} {w w' : World} {e : Ending} {c n : Int} (ho : o = intO (c * n)) (h : e = .returned (pv 1 (mulI c n)) ∧ RowKit.Below w.heap.size w w') : ApP t xs o w e w' := by
  by_cases hb : bndB (c * n) = true
  · rw [(mul_scl hb).1] at h
    exact intPost ho h
  · refine ⟨⟨⟨1, mulI c n, [], [], []⟩, none, 0, none, 0, none, 0⟩, h.1, h.2, fun _ => small_no (mul_great (by simpa using hb)), fun v hv => ?_⟩
    subst ho
    unfold intO at hv
    rw [if_neg hb] at hv
    cases hv
theorem boolPost {t : List EA} {xs : List VA} {o : Option Vl} {w w' : World} {e : Ending} {b : Bool} (ho : o = some (trV b)) (h : e = .returned (vv ⟨trV b, none, 0, none, 0, none, 0⟩) ∧ RowKit.Below w.heap.size w w') : ApP t xs o w e w' := by
  refine ⟨⟨trV b, none, 0, none, 0, none, 0⟩, h.1, h.2, fun hn => (by subst ho; cases hn), fun v hv => ?_⟩
  subst ho
  cases hv
  exact ⟨rfl, lies_plain _ _ _, cap_plain _ _, fun _ _ _ _ => robP_plain _ _⟩
theorem setPost {t : List EA} {xs : List VA} {o : Option Vl} {w w' : World} {e : Ending} {l : List Int} (hlen : l.length ≤ maxLen) (ho : o = setO l)
    (h : (∃ A' c, e = .returned (.agg #[.int .i64 4, .int .i64 0, .slice A' l.length c, .slice none 0 0, .slice none 0 0]) ∧ l.length ≤ c ∧ RobI w.heap.size w' A' l) ∧ RowKit.Below w.heap.size w w') : ApP t xs o w e w' := by
  obtain ⟨⟨A', c, h1, h2, h3⟩, h4⟩ := h
  refine ⟨⟨⟨4, 0, l, [], []⟩, A', c, none, 0, none, 0⟩, h1, h4, fun hn => ?_, fun v hv => ?_⟩
  · subst ho
    unfold setO at hn
    split at hn
    · cases hn
    · rename_i hb
      unfold smallV
      rw [show decide ((⟨4, 0, l, [], []⟩ : Vl).st.length ≤ 200) = false from decide_eq_false hb]
      simp
  · subst ho
    unfold setO at hv
    split at hv
    · cases hv
      refine ⟨rfl, ⟨h3.here, ints_nil _, ints_nil _, hlen, by simp, by simp⟩, ⟨h2, by simp, by simp⟩, fun P hb _ _ W hW => ⟨h3 W fun k k1 k2 => hW k k2 (hb k k1), ints_nil _, ints_nil _, hlen, by simp, by simp⟩⟩
    · cases hv
theorem applyBool (op so nu : Int) (nm : ByteArray) (A C K : Option Addr) (tl cap cn cc kn kc : Nat) (w : World) (o1 : (op == 1) = false) (o3 : (op == 3) = false) (o8 : (op == 8) = false) (o15 : (op == 15) = false) (b : Bool)
    (hsort : ∀ W', RowKit.Below w.heap.size w W' → Calls Tryz.prog 96 #[nv op so nm nu (.slice C cn cc)] W' fun e w' => e = .returned (.int .i64 2) ∧ RowKit.Below W'.heap.size W' w')
    (hin : ∀ W', RowKit.Below w.heap.size w W' → Calls Tryz.prog 125 #[.int .i64 op, .slice K kn kc] W' fun e w' => e = .returned (.bool b) ∧ RowKit.Below W'.heap.size W' w') :
    Calls Tryz.prog 98 #[.slice A tl cap, nv op so nm nu (.slice C cn cc), .slice K kn kc] w fun e w' => e = .returned (vv ⟨trV b, none, 0, none, 0, none, 0⟩) ∧ RowKit.Below w.heap.size w w' := by
  cases b
  · exact applyNo_any op so nu nm A C K tl cap cn cc kn kc w o1 o3 o8 o15 hsort hin
  · exact applyYes_any op so nu nm A C K tl cap cn cc kn kc w o1 o3 o8 o15 hsort hin
theorem sub_eq (l m : List Int) : (((l.filter fun n => decide (n ∈ m)).length : Int) == (l.length : Int)) = decide (∀ n ∈ l, n ∈ m) := by
  rw [Bool.eq_iff_iff, beq_iff_eq, decide_eq_true_eq, Int.ofNat_inj, List.length_filter_eq_length_iff]
  simp
set_option maxHeartbeats 4000000 in
theorem apply_any {l t : List EA} (hp : t.Perm l) (ha : Asc t) (hl : t.length ≤ 2000) (hcap : ∀ x ∈ t, CapV x.val) (op so nu s : Int) (nm : ByteArray) (ks : List Nd) (xs : List VA) (A C K : Option Addr) (cap cc kc : Nat) (w : World)
    (hT : LiesM w A t) (hC : Lies w C cc ks) (hnm : nm.size ≤ maxLen) (hK : LiesVs w K xs) (hok : ∀ x ∈ xs, OkV x.v) (hcp : ∀ x ∈ xs, CapV x) (hs : sortN (.mk op so nm nu ks) = s) (hk : ApK so nu nm s op xs)
    (hsto : ∀ x y z, xs = [x, y, z] → op = 15 → Calls Tryz.prog 98 #[.slice A t.length cap, nv op so nm nu (.slice C ks.length cc), .slice K xs.length kc] w (ApP t xs (stoO x.v y.v.nu z.v.nu) w)) :
    Calls Tryz.prog 98 #[.slice A t.length cap, nv op so nm nu (.slice C ks.length cc), .slice K xs.length kc] w (ApP t xs (apO l op so nm nu (xs.map (·.v))) w) := by
  have hsort : ∀ W', RowKit.Below w.heap.size w W' → Calls Tryz.prog 96 #[nv op so nm nu (.slice C ks.length cc)] W' fun e w' => e = .returned (.int .i64 s) ∧ RowKit.Below W'.heap.size W' w' := fun W' hb => by
    have := sort_any (.mk op so nm nu ks) C cc W' (hC.later hb)
    rw [hs] at this
    exact this
  have hfind : ∀ {e : Ending} {w' : World}, ((∃ v : VA, e = .returned (vv v) ∧ FindR t nm xs so v) ∧ RowKit.Below w.heap.size w w') → ApP t xs (some (valF l nm (xs.map (·.v)) so)) w e w' := by
    rintro e w' ⟨⟨v, h1, h2⟩, h3⟩
    refine ⟨v, h1, h3, fun hn => (nomatch hn), fun u hu => ?_⟩
    cases hu
    exact ⟨find_valF hp ha h2, find_lies h2 (hT.later h3), find_cap h2 hcap, fun P _ ht _ => find_rob h2 (ht.later h3)⟩
  cases hk
  case var f1 f2 f3 =>
    rw [show apO l 1 so nm nu (([] : List VA).map (·.v)) = some (valF l nm (([] : List VA).map (·.v)) so) by simp [apO]]
    exact (applyVar1_any t nm so nu [] A C K cap _ cc kc w hT hl ha hnm hK (by simp)).mono fun e w' h => hfind h
  case app f1 f2 f3 f4 =>
    rw [show apO l 3 so nm nu (xs.map (·.v)) = some (valF l nm (xs.map (·.v)) so) by simp [apO]]
    exact (applyApp3_any t nm so nu xs A C K cap _ cc kc w hT hl ha hnm hK (by omega)).mono fun e w' h => hfind h
  case ite x y z h1 h2 =>
    rw [show apO l 8 so nm nu (([x, y, z] : List VA).map (·.v)) = some (if (x.v.nu == 1) = true then y.v else z.v) by simp [apO, k0, k1, k2]]
    refine (applyIte_any nm so nu x y z A C K t.length cap _ cc kc w hK).mono fun e w' h => ?_
    refine ⟨_, h.1, h.2, fun hn => (nomatch hn), fun u hu => ?_⟩
    cases hu
    have h3 := (hK.later h.2)
    split
    · exact ⟨rfl, h3.each 1 (by simp), hcp y (by simp), fun P _ _ hx => (hx y (by simp)).later h.2⟩
    · exact ⟨rfl, h3.each 2 (by simp), hcp z (by simp), fun P _ _ hx => (hx z (by simp)).later h.2⟩
  case eq x y h1 =>
    have eb : (cmpV x.v y.v == 0) = trB 37 [x.v, y.v] := (same_eq _ _).trans (by simp [trB, k0, k1])
    exact (applyBool 37 so nu nm A C K t.length cap _ cc 2 kc w (by decide) (by decide) (by decide) (by decide) (cmpV x.v y.v == 0) hsort (fun W' hb => trEq_any K kc x y W' (hK.later hb))).mono fun e w' h => boolPost (by rw [eb]; simp [apO]) h
  case sto x y z h1 h2 h3 =>
    rw [show apO l 15 so nm nu (([x, y, z] : List VA).map (·.v)) = stoO x.v y.v.nu z.v.nu by simp [apO, k0, k1, k2]]
    exact hsto x y z rfl rfl
  case num f1 f2 => exact (applyInt_any 2 so nu nm A C K t.length cap _ cc 0 kc nu w (by decide) (by decide) (by decide) (by decide) hsort (fun W' hb => intNum_any so nu nm C K _ cc kc W')).mono fun e w' h => intPost (by simp [apO]) h
  case empty  => exact (applySet2_any 9 so nu nm A C K t.length cap _ cc 0 kc [] w (by decide) (by decide) (by decide) (by decide) hsort (fun W' hb => elEmpty_any K kc W')).mono fun e w' h => setPost (by simp) (by simp [apO, setO]) h
  case tru  =>
    have eb : true = trB 30 ([] : List Vl) := by simp [trB]
    exact (applyBool 30 so nu nm A C K t.length cap _ cc 0 kc w (by decide) (by decide) (by decide) (by decide) true hsort (fun W' hb => trTrue_any K kc W')).mono fun e w' h => boolPost (by rw [eb]; simp [apO]) h
  case fls  =>
    have eb : false = trB 31 ([] : List Vl) := by simp [trB]
    exact (applyBool 31 so nu nm A C K t.length cap _ cc 0 kc w (by decide) (by decide) (by decide) (by decide) false hsort (fun W' hb => trFalse_any K kc W')).mono fun e w' h => boolPost (by rw [eb]; simp [apO]) h
  case neg x h1 => exact (applyInt_any 6 so nu nm A C K t.length cap _ cc 1 kc (-x.v.nu) w (by decide) (by decide) (by decide) (by decide) hsort (fun W' hb => intNeg_any so nu nm C K _ cc kc x W' (hK.later hb) (hok x (by simp)).nu)).mono fun e w' h => intPost (by simp [apO, k0]) h
  case scale x f1 f2 h1 => exact (applyInt_any 7 so nu nm A C K t.length cap _ cc 1 kc (mulI nu x.v.nu) w (by decide) (by decide) (by decide) (by decide) hsort (fun W' hb => intScale_any so nu nm C K _ cc kc x W' (hK.later hb) (hok x (by simp)).nu f1 f2)).mono fun e w' h => mulPost (by simp [apO, k0]) h
  case sing x h1 => exact (applySet2_any 10 so nu nm A C K t.length cap _ cc 1 kc [x.v.nu] w (by decide) (by decide) (by decide) (by decide) hsort (fun W' hb => elSing_any K kc x W' (hK.later hb))).mono fun e w' h => setPost (by simp [maxLen]) (by simp [apO, k0, setO]) h
  case len x h1 => exact (applyInt_any 16 so nu nm A C K t.length cap _ cc 1 kc x.v.nu w (by decide) (by decide) (by decide) (by decide) hsort (fun W' hb => intLen_any so nu nm C K _ cc kc x W' (hK.later hb))).mono fun e w' h => intPost (by simp [apO, k0]) h
  case not x h1 =>
    have eb : (!(x.v.nu == 1)) = trB 32 [x.v] := by simp [trB, k0]
    exact (applyBool 32 so nu nm A C K t.length cap _ cc 1 kc w (by decide) (by decide) (by decide) (by decide) (!(x.v.nu == 1)) hsort (fun W' hb => trNot_any K kc x W' (hK.later hb))).mono fun e w' h => boolPost (by rw [eb]; simp [apO]) h
  case add x y h1 h2 => exact (applyInt_any 4 so nu nm A C K t.length cap _ cc 2 kc (x.v.nu + y.v.nu) w (by decide) (by decide) (by decide) (by decide) hsort (fun W' hb => intAdd_any so nu nm C K _ cc kc x y W' (hK.later hb) (hok x (by simp)).nu (hok y (by simp)).nu)).mono fun e w' h => intPost (by simp [apO, k0, k1]) h
  case sub x y h1 h2 => exact (applyInt_any 5 so nu nm A C K t.length cap _ cc 2 kc (x.v.nu - y.v.nu) w (by decide) (by decide) (by decide) (by decide) hsort (fun W' hb => intSub_any so nu nm C K _ cc kc x y W' (hK.later hb) (hok x (by simp)).nu (hok y (by simp)).nu)).mono fun e w' h => intPost (by simp [apO, k0, k1]) h
  case le x y h1 h2 =>
    have eb : (decide (x.v.nu ≤ y.v.nu)) = trB 38 [x.v, y.v] := by simp [trB, k0, k1]
    exact (applyBool 38 so nu nm A C K t.length cap _ cc 2 kc w (by decide) (by decide) (by decide) (by decide) (decide (x.v.nu ≤ y.v.nu)) hsort (fun W' hb => trLe_any K kc x y W' (hK.later hb))).mono fun e w' h => boolPost (by rw [eb]; simp [apO]) h
  case lt x y h1 h2 =>
    have eb : (decide (x.v.nu < y.v.nu)) = trB 39 [x.v, y.v] := by simp [trB, k0, k1]
    exact (applyBool 39 so nu nm A C K t.length cap _ cc 2 kc w (by decide) (by decide) (by decide) (by decide) (decide (x.v.nu < y.v.nu)) hsort (fun W' hb => trLt_any K kc x y W' (hK.later hb))).mono fun e w' h => boolPost (by rw [eb]; simp [apO]) h
  case cup x y h1 h2 => exact (applySet2_any 11 so nu nm A C K t.length cap _ cc 2 kc (uniI x.v.st y.v.st) w (by decide) (by decide) (by decide) (by decide) hsort (fun W' hb => elCup_any K kc x y W' (hK.later hb) (hcp x (by simp)).p1 (hcp y (by simp)).p1 (Nat.le_trans (hok x (by simp)).l1 (by omega)) (Nat.le_trans (hok y (by simp)).l1 (by omega)))).mono fun e w' h => setPost (by have h5 := uniI_len _ x.v.st y.v.st (Nat.le_refl _); have h6 := (hok x (by simp)).l1; have h7 := (hok y (by simp)).l1; unfold maxLen; omega) (by simp [apO, k0, k1]) h
  case cap x y h1 h2 => exact (applySet2_any 12 so nu nm A C K t.length cap _ cc 2 kc (x.v.st.filter fun n => decide (n ∈ y.v.st)) w (by decide) (by decide) (by decide) (by decide) hsort (fun W' hb => elCap_any K kc x y W' (hK.later hb) (hok y (by simp)).s1 (Nat.le_trans (hok x (by simp)).l1 (by omega)) (Nat.le_trans (hok y (by simp)).l1 (by omega)))).mono fun e w' h => setPost (by have h5 := List.length_filter_le (fun n => decide (n ∈ y.v.st)) x.v.st; have h6 := (hok x (by simp)).l1; unfold maxLen; omega) (by simp [apO, k0, k1]) h
  case minus x y h1 h2 => exact (applySet2_any 13 so nu nm A C K t.length cap _ cc 2 kc (x.v.st.filter fun n => !decide (n ∈ y.v.st)) w (by decide) (by decide) (by decide) (by decide) hsort (fun W' hb => elMinus_any K kc x y W' (hK.later hb) (hok y (by simp)).s1 (Nat.le_trans (hok x (by simp)).l1 (by omega)) (Nat.le_trans (hok y (by simp)).l1 (by omega)))).mono fun e w' h => setPost (by have h5 := List.length_filter_le (fun n => !decide (n ∈ y.v.st)) x.v.st; have h6 := (hok x (by simp)).l1; unfold maxLen; omega) (by simp [apO, k0, k1]) h
  case subset x y h1 h2 =>
    have eb : (((x.v.st.filter fun n => decide (n ∈ y.v.st)).length : Int) == (x.v.st.length : Int)) = trB 41 [x.v, y.v] := (sub_eq _ _).trans (by simp [trB, k0, k1])
    exact (applyBool 41 so nu nm A C K t.length cap _ cc 2 kc w (by decide) (by decide) (by decide) (by decide) (((x.v.st.filter fun n => decide (n ∈ y.v.st)).length : Int) == (x.v.st.length : Int)) hsort (fun W' hb => trSub_any K kc x y W' (hK.later hb) (Nat.le_trans (hok x (by simp)).l1 (by omega)) (Nat.le_trans (hok y (by simp)).l1 (by omega)) (hok y (by simp)).s1)).mono fun e w' h => boolPost (by rw [eb]; simp [apO]) h
  case mem x y h1 h2 =>
    have eb : (decide (x.v.nu ∈ y.v.st)) = trB 40 [x.v, y.v] := by simp [trB, k0, k1]
    exact (applyBool 40 so nu nm A C K t.length cap _ cc 2 kc w (by decide) (by decide) (by decide) (by decide) (decide (x.v.nu ∈ y.v.st)) hsort (fun W' hb => trMem_any K kc x y W' (hK.later hb) (Nat.le_trans (hok y (by simp)).l1 (by omega)) (hok y (by simp)).s1)).mono fun e w' h => boolPost (by rw [eb]; simp [apO]) h
  case sel x y h1 h2 => exact (applyInt_any 14 so nu nm A C K t.length cap _ cc 2 kc (atI x.v.ix x.v.xs y.v.nu) w (by decide) (by decide) (by decide) (by decide) hsort (fun W' hb => intSel_any so nu nm C K _ cc kc x y W' (hK.later hb) (Nat.le_trans (hok x (by simp)).l2 (by omega)) (hok x (by simp)).s2 (hok x (by simp)).len)).mono fun e w' h => intPost (by simp [apO, k0, k1]) h
  case and x y h1 h2 =>
    have eb : ((x.v.nu == 1) && (y.v.nu == 1)) = trB 33 [x.v, y.v] := by simp [trB, k0, k1]
    exact (applyBool 33 so nu nm A C K t.length cap _ cc 2 kc w (by decide) (by decide) (by decide) (by decide) ((x.v.nu == 1) && (y.v.nu == 1)) hsort (fun W' hb => trAnd_any K kc x y W' (hK.later hb))).mono fun e w' h => boolPost (by rw [eb]; simp [apO]) h
  case or x y h1 h2 =>
    have eb : ((x.v.nu == 1) || (y.v.nu == 1)) = trB 34 [x.v, y.v] := by simp [trB, k0, k1]
    exact (applyBool 34 so nu nm A C K t.length cap _ cc 2 kc w (by decide) (by decide) (by decide) (by decide) ((x.v.nu == 1) || (y.v.nu == 1)) hsort (fun W' hb => trOr_any K kc x y W' (hK.later hb))).mono fun e w' h => boolPost (by rw [eb]; simp [apO]) h
  case imp x y h1 h2 =>
    have eb : (!(x.v.nu == 1) || (y.v.nu == 1)) = trB 35 [x.v, y.v] := by simp [trB, k0, k1]
    exact (applyBool 35 so nu nm A C K t.length cap _ cc 2 kc w (by decide) (by decide) (by decide) (by decide) (!(x.v.nu == 1) || (y.v.nu == 1)) hsort (fun W' hb => trImp_any K kc x y W' (hK.later hb))).mono fun e w' h => boolPost (by rw [eb]; simp [apO]) h
  case iff x y h1 h2 =>
    have eb : (cmpV x.v y.v == 0) = trB 36 [x.v, y.v] := (same_eq _ _).trans (by simp [trB, k0, k1])
    exact (applyBool 36 so nu nm A C K t.length cap _ cc 2 kc w (by decide) (by decide) (by decide) (by decide) (cmpV x.v y.v == 0) hsort (fun W' hb => trIff_any K kc x y W' (hK.later hb))).mono fun e w' h => boolPost (by rw [eb]; simp [apO]) h
end Go.Proofs.YtmeeombadkgneaaGreat
