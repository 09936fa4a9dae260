/-
  What the document's apply returns of a union, an intersection, a difference and a Sto; conditions: the kids' values lie in memory.
-/
import Derived.Deep.RegionHeld3
import Derived.BigRegion
import Derived.Test.YtmeeombadkgneaaGreatZEv26
import Derived.Test.YtmeeombadkgneaaGreatZVa32
namespace Go.Proofs.YtmeeombadkgneaaGreat
open Go.Proofs Go.RowKit Go.Shelf Go.Sort Go.Lib

attribute [local go_sem] Oper.semAt_some
theorem RobI.on {n0 : Nat} {w w' : World} {A : Option Addr} {l : List Int} (h : RobI n0 w A l) (hb : RowKit.Below w.heap.size w w') : RobI n0 w' A l :=
  fun W hW => h W fun k h1 h2 => (hW k h1 (Nat.lt_of_lt_of_le h2 hb.size)).trans (hb.block k h2)
theorem below_alloc2 {a b : World} (h : RowKit.Below a.heap.size a b) (o : Obj) : RowKit.Below a.heap.size a (b.alloc o) := h.alloc h.size o
set_option maxRecDepth 100000 in
set_option maxHeartbeats 6000000 in
theorem raCup (so nu : Int) (nm : ByteArray) (C K : Option Addr) (cn cc kc : Nat) (x y : VA) (w : World) (hk : LiesVs w K [x, y]) (l : List Int) (hll : l.length ≤ 100000) (hin : ∀ W', RowKit.Below w.heap.size w W' → Calls Tryz.prog 132 #[.int .i64 11, .slice x.a1 x.v.st.length x.c1, .slice y.a1 y.v.st.length y.c1] W' (RetI W' l)) : Calls Tryz.prog 103 #[nv 11 so nm nu (.slice C cn cc), .slice K 2 kc] w fun e w' => (∃ A' c, e = .returned (.tuple #[.agg #[.int .i64 4, .int .i64 0, .slice A' l.length c, .slice none 0 0, .slice none 0 0], .bool (decide (l.length ≤ 200))]) ∧ RobI w.heap.size w' A' l) ∧ RowKit.Below w.heap.size w w' := by
  obtain ⟨W, hW⟩ : ∃ W, (w.alloc (.cells #[.int .i64 11, .int .i64 so, .string nm, .int .i64 nu, .slice C cn cc] 44)).alloc (.cells #[.int .i64 0, .int .i64 0, .slice none 0 0, .slice none 0 0, .slice none 0 0] 27) = W := ⟨_, rfl⟩
  have HB := Lib.hid (show RowKit.Below w.heap.size w W by rw [← hW]; exact ((RowKit.Below.refl _ _).alloc (Nat.le_refl _) _).alloc (by rw [one_size]; omega) _)
  have HP := Lib.hid (show W.heap[w.heap.size]? = some (.cells #[.int .i64 11, .int .i64 so, .string nm, .int .i64 nu, .slice C cn cc] 44) by rw [← hW]; exact two_fst _ _ _)
  have HQ := Lib.hid (show W.heap[w.heap.size + 1]? = some (.cells #[.int .i64 0, .int .i64 0, .slice none 0 0, .slice none 0 0, .slice none 0 0] 27) by rw [← hW]; exact two_snd _ _ _)
  have HSZ := Lib.hid (show W.heap.size = w.heap.size + 2 by rw [← hW]; exact two_size _ _ _)
  have HKW := Lib.hid (hk.later HB.out)
  obtain ⟨b, o, rfl, hf, hg, hlx, hly⟩ := kids2 HKW.out
  obtain ⟨x0, x1, x2, x3, x4⟩ := hf
  obtain ⟨y0, y1, y2, y3, y4⟩ := hg
  have HW := Lib.hid hW
  clear hW hk
  have HIN := Lib.hid (fun (W' : World) (h : RowKit.Below W.heap.size W W') => hin W' (HB.out.trans (h.mono HB.out.size)))
  obtain ⟨z0, z1, z2, z3, z4, f0, f1, f2, f3, f4⟩ := boxT_facts HP.out
  have KS := Lib.hid (fun W' (h : RowKit.Below W.heap.size W W') => (show (fun W' => RowKit.Below W.heap.size W W' ∧ W'.cell? ⟨w.heap.size, 0, none⟩ = some (.int .i64 11) ∧ W'.cell? ⟨b, o + 2, none⟩ = some (.slice x.a1 x.v.st.length x.c1) ∧ W'.cell? ⟨b, o + 5 + 2, none⟩ = some (.slice y.a1 y.v.st.length y.c1)) W' from ⟨h, cellB h (Nat.le_refl _) z0, cellB h (Nat.le_refl _) x2, cellB h (Nat.le_refl _) y2⟩))
  clear hin
  go_enter Tryz.func103, Tryz.ntmps103
  go_upto_region 1 with fail
  rw [HW.out]
  go_wp2_with fail
  go_region_held3 (fun W' => RowKit.Below W.heap.size W W' ∧ W'.cell? ⟨w.heap.size, 0, none⟩ = some (.int .i64 11) ∧ W'.cell? ⟨b, o + 2, none⟩ = some (.slice x.a1 x.v.st.length x.c1) ∧ W'.cell? ⟨b, o + 5 + 2, none⟩ = some (.slice y.a1 y.v.st.length y.c1))
    ((go_split_ands; refine KS.out _ ?_; first | exact (RowKit.Below.refl _ _).drew | exact below_alloc2 (by assumption) _ | exact below_alloc2 (below_trans2 ((RowKit.Below.refl W.heap.size W).drew) (by assumption)) _ | (exact below_trans2 (by assumption) (by assumption)) | (refine Below.set5 ?_ (Nat.le_refl _) _ _ _ _ _; exact below_trans2 (below_alloc2 ((RowKit.Below.refl W.heap.size W).drew) _) (by assumption))))
    (first
      | (go_at_call 132; go_split_ands; refine (HIN.out _ (by assumption)).mono ?_; rintro e w9 ⟨A', c', rfl, hr, hc, b9⟩; first | (have hbx : w9.heap[W.heap.size]? = some (.cells #[.int .i64 0, .int .i64 0, .slice none 0 0, .slice none 0 0, .slice none 0 0] 27 (0, 0)) := (b9.block W.heap.size (show W.heap.size < (W.drew.alloc _).heap.size by rw [one_size]; exact Nat.lt_succ_self _)).trans (heap_alloc_new W.drew _); obtain ⟨q0, q1, q2, q3, q4, r0, r1, r2, r3, r4⟩ := boxT_facts hbx) | skip))
  · obtain ⟨V, hV⟩ : ∃ V, w9.alloc (.cells #[.int .i64 4, .int .i64 0, .slice A' l.length c', .slice none 0 0, .slice none 0 0] 27) = V := ⟨_, rfl⟩
    have hbV : RowKit.Below W.heap.size W V := by rw [← hV]; exact below_alloc2 (below_trans2 ((RowKit.Below.refl W.heap.size W).drew) b9) _
    have hrow : V.heap[w9.heap.size]? = some (.cells #[.int .i64 4, .int .i64 0, .slice A' l.length c', .slice none 0 0, .slice none 0 0] 27) := by rw [← hV]; exact heap_alloc_new _ _
    have hrV : RobI W.heap.size V A' l := (hr.on (show RowKit.Below w9.heap.size w9 V by rw [← hV]; exact (RowKit.Below.refl _ _).alloc (Nat.le_refl _) _))
    have hne : w9.heap.size ≠ w.heap.size + 1 := by have h1 := HSZ.out; have h2 := (below_trans2 ((RowKit.Below.refl W.heap.size W).drew) b9).size; omega
    have hne2 : w.heap.size + 1 ≠ w9.heap.size := fun h => hne h.symm
    clear x0 x1 x2 x3 x4 y0 y1 y2 y3 y4 z0 z1 z2 z3 z4 f0 f1 f2 f3 f4 KS HIN hr hc
    rw [hV]
    clear hV b9
    have hQV := (hbV.block _ (Array.getElem?_eq_some_iff.1 HQ.out).1).trans HQ.out
    have HX9 := Lib.hid (setT_same (.int .i64 4) (.int .i64 0) (.slice A' l.length c') (.slice none 0 0) (.slice none 0 0) hQV)
    have HBX9 := Lib.hid (Below.set5 (HB.out.trans (hbV.mono HB.out.size)) (b := w.heap.size + 1) (by omega) (.int .i64 4) (.int .i64 0) (.slice A' l.length c') (.slice none 0 0) (.slice none 0 0))
    have HROB := Lib.hid (show RobI w.heap.size (set5 V (w.heap.size + 1) (.int .i64 4) (.int .i64 0) (.slice A' l.length c') (.slice none 0 0) (.slice none 0 0)) A' l from fun W' hW' => hrV W' fun k k1 k2 => by
      have hsz := HSZ.out
      exact (hW' k (by omega) (by rw [set5_size]; exact k2)).trans (set5_other _ _ _ _ _ (by omega)))
    have hdl : decide ((l.length : Int) ≤ 200) = decide (l.length ≤ 200) := decide_eq_decide.2 (by omega)
    obtain ⟨bb, hbb⟩ : ∃ bb, decide (l.length ≤ 200) = bb := ⟨_, rfl⟩
    rw [hbb] at hdl
    have HBB := Lib.hid hbb
    clear hbb
    obtain ⟨z0, z1, z2, z3, z4, f0, f1, f2, f3, f4⟩ := boxT_facts hrow
    obtain ⟨g0, g1, g2, g3, g4, k0, k1, k2, k3, k4⟩ := boxT_facts hQV
    clear hrow hQV hrV hbV
    go_wp2_with fail
    go_region
    all_goals
      clear z0 z1 z2 z3 z4 f0 f1 f2 f3 f4 g0 g1 g2 g3 g4 k0 k1 k2 k3 k4
      go_wp2_with fail
      obtain ⟨y0, y1, y2, y3, y4, _, _, _, _, _⟩ := boxT_facts HX9.out
      exact bodyPost_ret (v := .tuple #[.agg #[.int .i64 4, .int .i64 0, .slice A' l.length c', .slice none 0 0, .slice none 0 0], .bool bb]) (by simp [results, Tryz.results103, go_sem, y0, y1, y2, y3, y4]) rfl ⟨⟨A', c', by rw [HBB.out], fun W' hW' => HROB.out W' hW'⟩, HBX9.out.drew⟩
  · obtain ⟨V, hV⟩ : ∃ V, ((((w9.setCell ⟨W.heap.size, 0, none⟩ (.int .i64 4)).setCell ⟨W.heap.size, 1, none⟩ (.int .i64 0)).setCell ⟨W.heap.size, 2, none⟩ (.slice A' l.length c')).setCell ⟨W.heap.size, 3, none⟩ (.slice none 0 0)).setCell ⟨W.heap.size, 4, none⟩ (.slice none 0 0) = V := ⟨_, rfl⟩
    have hbw := below_trans2 (below_alloc2 (RowKit.Below.refl W.heap.size W) _).drew b9
    have hbV : RowKit.Below W.heap.size W V := by rw [← hV]; exact Below.set5 hbw (Nat.le_refl _) (.int .i64 4) (.int .i64 0) (.slice A' l.length c') (.slice none 0 0) (.slice none 0 0)
    have hrow : V.heap[W.heap.size]? = some (.cells #[.int .i64 4, .int .i64 0, .slice A' l.length c', .slice none 0 0, .slice none 0 0] 27) := by rw [← hV]; exact setT_same (.int .i64 4) (.int .i64 0) (.slice A' l.length c') (.slice none 0 0) (.slice none 0 0) hbx
    have hrV : RobI (W.heap.size + 1) V A' l := by
      rw [← hV]
      intro W' hW'
      refine hr W' fun k k1 k2 => (hW' k ?_ (by rw [show (((((w9.setCell ⟨W.heap.size, 0, none⟩ (.int .i64 4)).setCell ⟨W.heap.size, 1, none⟩ (.int .i64 0)).setCell ⟨W.heap.size, 2, none⟩ (.slice A' l.length c')).setCell ⟨W.heap.size, 3, none⟩ (.slice none 0 0)).setCell ⟨W.heap.size, 4, none⟩ (.slice none 0 0)).heap.size = w9.heap.size from set5_size w9 W.heap.size _ _ _ _ _]; exact k2)).trans (set5_other (.int .i64 4) (.int .i64 0) (.slice A' l.length c') (.slice none 0 0) (.slice none 0 0) ?_)
      all_goals
        have h1 : (W.alloc (.cells #[.int .i64 0, .int .i64 0, .slice none 0 0, .slice none 0 0, .slice none 0 0] 27)).drew.heap.size = W.heap.size + 1 := one_size _ _
        omega
    have hne : W.heap.size ≠ w.heap.size + 1 := by have h1 := HSZ.out; omega
    have hne2 : w.heap.size + 1 ≠ W.heap.size := fun h => hne h.symm
    clear x0 x1 x2 x3 x4 y0 y1 y2 y3 y4 z0 z1 z2 z3 z4 f0 f1 f2 f3 f4 KS HIN hr hc q0 q1 q2 q3 q4 r0 r1 r2 r3 r4
    rw [hV]
    clear hV b9 hbx hbw
    have hQV := (hbV.block _ (Array.getElem?_eq_some_iff.1 HQ.out).1).trans HQ.out
    have HX9 := Lib.hid (setT_same (.int .i64 4) (.int .i64 0) (.slice A' l.length c') (.slice none 0 0) (.slice none 0 0) hQV)
    have HBX9 := Lib.hid (Below.set5 (HB.out.trans (hbV.mono HB.out.size)) (b := w.heap.size + 1) (by omega) (.int .i64 4) (.int .i64 0) (.slice A' l.length c') (.slice none 0 0) (.slice none 0 0))
    have HROB := Lib.hid (show RobI w.heap.size (set5 V (w.heap.size + 1) (.int .i64 4) (.int .i64 0) (.slice A' l.length c') (.slice none 0 0) (.slice none 0 0)) A' l from fun W' hW' => hrV W' fun k k1 k2 => by
      have hsz := HSZ.out
      exact (hW' k (by omega) (by rw [set5_size]; exact k2)).trans (set5_other _ _ _ _ _ (by omega)))
    have hdl : decide ((l.length : Int) ≤ 200) = decide (l.length ≤ 200) := decide_eq_decide.2 (by omega)
    obtain ⟨bb, hbb⟩ : ∃ bb, decide (l.length ≤ 200) = bb := ⟨_, rfl⟩
    rw [hbb] at hdl
    have HBB := Lib.hid hbb
    clear hbb
    obtain ⟨z0, z1, z2, z3, z4, f0, f1, f2, f3, f4⟩ := boxT_facts hrow
    obtain ⟨g0, g1, g2, g3, g4, k0, k1, k2, k3, k4⟩ := boxT_facts hQV
    clear hrow hQV hrV hbV
    go_wp2_with fail
    go_region
    all_goals
      clear z0 z1 z2 z3 z4 f0 f1 f2 f3 f4 g0 g1 g2 g3 g4 k0 k1 k2 k3 k4
      go_wp2_with fail
      obtain ⟨y0, y1, y2, y3, y4, _, _, _, _, _⟩ := boxT_facts HX9.out
      exact bodyPost_ret (v := .tuple #[.agg #[.int .i64 4, .int .i64 0, .slice A' l.length c', .slice none 0 0, .slice none 0 0], .bool bb]) (by simp [results, Tryz.results103, go_sem, y0, y1, y2, y3, y4]) rfl ⟨⟨A', c', by rw [HBB.out], fun W' hW' => HROB.out W' hW'⟩, HBX9.out.drew⟩
end Go.Proofs.YtmeeombadkgneaaGreat
