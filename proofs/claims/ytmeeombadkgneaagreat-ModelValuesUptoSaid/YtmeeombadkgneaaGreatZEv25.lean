/-
  What the document's decide returns of each operator; conditions: the kids' values lie in memory.
-/
import Derived.StillTailTactics
import Derived.Test.YtmeeombadkgneaaGreatZEv19
import Derived.Test.YtmeeombadkgneaaGreatZEv4
namespace Go.Proofs.YtmeeombadkgneaaGreat
open Go.Proofs Go.RowKit Go.Shelf Go.Sort Go.Lib

attribute [local go_sem] Oper.semAt_some
/-- A truth as a value in memory. -/
def tr (b : Bool) : VA := ⟨trV b, none, 0, none, 0, none, 0⟩
theorem refTruth_any (b : Bool) (w : World) : Calls Tryz.prog 155 #[.bool b] w fun e w' => (∃ r : VA, e = .returned (vv r) ∧ r = tr b) ∧ RowKit.Below w.heap.size w w' := by
  cases b
  · exact (refTruth_no w).mono fun e w' h => ⟨⟨_, h.1, rfl⟩, h.2⟩
  · exact (refTruth_yes w).mono fun e w' h => ⟨⟨_, h.1, rfl⟩, h.2⟩
/-- What decide returns. -/
def DecP (b : Bool) (w : World) (e : Ending) (w' : World) : Prop := e = .returned (vv (tr b)) ∧ RowKit.Below w.heap.size w w'
set_option maxRecDepth 100000 in
set_option maxHeartbeats 2000000 in
theorem dcTrue (K : Option Addr) (kc : Nat) (w : World) : Calls Tryz.prog 135 #[.int .i64 30, .slice K 0 kc] w (DecP true w) := by
  obtain ⟨W, hW⟩ : ∃ W, w.alloc (.cells #[.int .i64 0, .int .i64 0, .slice none 0 0, .slice none 0 0, .slice none 0 0] 27) = W := ⟨_, rfl⟩
  have HB := Lib.hid (show RowKit.Below w.heap.size w W by rw [← hW]; exact (RowKit.Below.refl _ _).alloc (Nat.le_refl _) _)
  have HP := Lib.hid (show W.heap[w.heap.size]? = some (.cells #[.int .i64 0, .int .i64 0, .slice none 0 0, .slice none 0 0, .slice none 0 0] 27 (0, 0)) by rw [← hW]; exact heap_alloc_new _ _)
  have HW := Lib.hid hW
  clear hW
  go_enter Tryz.func135, Tryz.ntmps135
  go_upto_region 1 with fail
  rw [HW.out]
  go_wp2_with fail
  refine (refTruth_any true _).mono ?_
  rintro e w9 ⟨⟨r, rfl, hr⟩, b9⟩
  have hb9 := HB.out.trans (((RowKit.Below.refl W.heap.size W).trans (b9.mono (RowKit.Below.refl W.heap.size W).size)).mono HB.out.size)
  have hQ9 := ((((RowKit.Below.refl W.heap.size W).trans (b9.mono (RowKit.Below.refl W.heap.size W).size))).block _ (Array.getElem?_eq_some_iff.1 HP.out).1).trans HP.out
  have HX9 := Lib.hid (setT_same (.int .i64 r.v.so) (.int .i64 r.v.nu) (.slice r.a1 r.v.st.length r.c1) (.slice r.a2 r.v.ix.length r.c2) (.slice r.a3 r.v.xs.length r.c3) hQ9)
  have HBX9 := Lib.hid (Below.set5 hb9 (b := w.heap.size) (Nat.le_refl _) (.int .i64 r.v.so) (.int .i64 r.v.nu) (.slice r.a1 r.v.st.length r.c1) (.slice r.a2 r.v.ix.length r.c2) (.slice r.a3 r.v.xs.length r.c3))
  have HR9 := Lib.hid hr
  clear hr b9 hb9
  obtain ⟨z0, z1, z2, z3, z4, f0, f1, f2, f3, f4⟩ := boxT_facts hQ9
  clear hQ9
  go_wp2_with fail
  clear z0 z1 z2 z3 z4 f0 f1 f2 f3 f4
  obtain ⟨y0, y1, y2, y3, y4, _, _, _, _, _⟩ := boxT_facts HX9.out
  exact bodyPost_ret (v := vv r) (by simp [results, Tryz.results135, go_sem, y0, y1, y2, y3, y4]) rfl ⟨by rw [HR9.out], HBX9.out⟩
set_option maxRecDepth 100000 in
set_option maxHeartbeats 2000000 in
theorem dcFalse (K : Option Addr) (kc : Nat) (w : World) : Calls Tryz.prog 135 #[.int .i64 31, .slice K 0 kc] w (DecP false w) := by
  obtain ⟨W, hW⟩ : ∃ W, w.alloc (.cells #[.int .i64 0, .int .i64 0, .slice none 0 0, .slice none 0 0, .slice none 0 0] 27) = W := ⟨_, rfl⟩
  have HB := Lib.hid (show RowKit.Below w.heap.size w W by rw [← hW]; exact (RowKit.Below.refl _ _).alloc (Nat.le_refl _) _)
  have HP := Lib.hid (show W.heap[w.heap.size]? = some (.cells #[.int .i64 0, .int .i64 0, .slice none 0 0, .slice none 0 0, .slice none 0 0] 27 (0, 0)) by rw [← hW]; exact heap_alloc_new _ _)
  have HW := Lib.hid hW
  clear hW
  go_enter Tryz.func135, Tryz.ntmps135
  go_upto_region 1 with fail
  rw [HW.out]
  go_wp2_with fail
  refine (refTruth_any false _).mono ?_
  rintro e w9 ⟨⟨r, rfl, hr⟩, b9⟩
  have hb9 := HB.out.trans (((RowKit.Below.refl W.heap.size W).trans (b9.mono (RowKit.Below.refl W.heap.size W).size)).mono HB.out.size)
  have hQ9 := ((((RowKit.Below.refl W.heap.size W).trans (b9.mono (RowKit.Below.refl W.heap.size W).size))).block _ (Array.getElem?_eq_some_iff.1 HP.out).1).trans HP.out
  have HX9 := Lib.hid (setT_same (.int .i64 r.v.so) (.int .i64 r.v.nu) (.slice r.a1 r.v.st.length r.c1) (.slice r.a2 r.v.ix.length r.c2) (.slice r.a3 r.v.xs.length r.c3) hQ9)
  have HBX9 := Lib.hid (Below.set5 hb9 (b := w.heap.size) (Nat.le_refl _) (.int .i64 r.v.so) (.int .i64 r.v.nu) (.slice r.a1 r.v.st.length r.c1) (.slice r.a2 r.v.ix.length r.c2) (.slice r.a3 r.v.xs.length r.c3))
  have HR9 := Lib.hid hr
  clear hr b9 hb9
  obtain ⟨z0, z1, z2, z3, z4, f0, f1, f2, f3, f4⟩ := boxT_facts hQ9
  clear hQ9
  go_wp2_with fail
  clear z0 z1 z2 z3 z4 f0 f1 f2 f3 f4
  obtain ⟨y0, y1, y2, y3, y4, _, _, _, _, _⟩ := boxT_facts HX9.out
  exact bodyPost_ret (v := vv r) (by simp [results, Tryz.results135, go_sem, y0, y1, y2, y3, y4]) rfl ⟨by rw [HR9.out], HBX9.out⟩
set_option maxRecDepth 100000 in
set_option maxHeartbeats 2000000 in
theorem dcNot (K : Option Addr) (kc : Nat) (x : VA) (w : World) (hk : LiesVs w K [x]) : Calls Tryz.prog 135 #[.int .i64 32, .slice K 1 kc] w (DecP (x.v.nu == 0) w) := by
  obtain ⟨W, hW⟩ : ∃ W, w.alloc (.cells #[.int .i64 0, .int .i64 0, .slice none 0 0, .slice none 0 0, .slice none 0 0] 27) = W := ⟨_, rfl⟩
  have HB := Lib.hid (show RowKit.Below w.heap.size w W by rw [← hW]; exact (RowKit.Below.refl _ _).alloc (Nat.le_refl _) _)
  have HP := Lib.hid (show W.heap[w.heap.size]? = some (.cells #[.int .i64 0, .int .i64 0, .slice none 0 0, .slice none 0 0, .slice none 0 0] 27 (0, 0)) by rw [← hW]; exact heap_alloc_new _ _)
  obtain ⟨b, o, rfl, hf, hlx⟩ := kids1 (hk.later HB.out)
  obtain ⟨x0, x1, x2, x3, x4⟩ := hf
  have HW := Lib.hid hW
  clear hW hk
  go_enter Tryz.func135, Tryz.ntmps135
  go_upto_region 1 with fail
  rw [HW.out]
  go_wp2_with fail
  refine (refTruth_any (x.v.nu == 0) _).mono ?_
  rintro e w9 ⟨⟨r, rfl, hr⟩, b9⟩
  have hb9 := HB.out.trans (((RowKit.Below.refl W.heap.size W).trans (b9.mono (RowKit.Below.refl W.heap.size W).size)).mono HB.out.size)
  have hQ9 := ((((RowKit.Below.refl W.heap.size W).trans (b9.mono (RowKit.Below.refl W.heap.size W).size))).block _ (Array.getElem?_eq_some_iff.1 HP.out).1).trans HP.out
  have HX9 := Lib.hid (setT_same (.int .i64 r.v.so) (.int .i64 r.v.nu) (.slice r.a1 r.v.st.length r.c1) (.slice r.a2 r.v.ix.length r.c2) (.slice r.a3 r.v.xs.length r.c3) hQ9)
  have HBX9 := Lib.hid (Below.set5 hb9 (b := w.heap.size) (Nat.le_refl _) (.int .i64 r.v.so) (.int .i64 r.v.nu) (.slice r.a1 r.v.st.length r.c1) (.slice r.a2 r.v.ix.length r.c2) (.slice r.a3 r.v.xs.length r.c3))
  have HR9 := Lib.hid hr
  clear hr b9 hb9 x0 x1 x2 x3 x4
  obtain ⟨z0, z1, z2, z3, z4, f0, f1, f2, f3, f4⟩ := boxT_facts hQ9
  clear hQ9
  go_wp2_with fail
  clear z0 z1 z2 z3 z4 f0 f1 f2 f3 f4
  obtain ⟨y0, y1, y2, y3, y4, _, _, _, _, _⟩ := boxT_facts HX9.out
  exact bodyPost_ret (v := vv r) (by simp [results, Tryz.results135, go_sem, y0, y1, y2, y3, y4]) rfl ⟨by rw [HR9.out], HBX9.out⟩
set_option maxRecDepth 100000 in
set_option maxHeartbeats 2000000 in
theorem dcAnd (K : Option Addr) (kc : Nat) (x y : VA) (w : World) (hk : LiesVs w K [x, y]) : Calls Tryz.prog 135 #[.int .i64 33, .slice K 2 kc] w (DecP ((x.v.nu == 1) && (y.v.nu == 1)) w) := by
  obtain ⟨W, hW⟩ : ∃ W, w.alloc (.cells #[.int .i64 0, .int .i64 0, .slice none 0 0, .slice none 0 0, .slice none 0 0] 27) = W := ⟨_, rfl⟩
  have HB := Lib.hid (show RowKit.Below w.heap.size w W by rw [← hW]; exact (RowKit.Below.refl _ _).alloc (Nat.le_refl _) _)
  have HP := Lib.hid (show W.heap[w.heap.size]? = some (.cells #[.int .i64 0, .int .i64 0, .slice none 0 0, .slice none 0 0, .slice none 0 0] 27 (0, 0)) by rw [← hW]; exact heap_alloc_new _ _)
  obtain ⟨b, o, rfl, hf, hg, hlx, hly⟩ := kids2 (hk.later HB.out)
  obtain ⟨x0, x1, x2, x3, x4⟩ := hf
  obtain ⟨y0, y1, y2, y3, y4⟩ := hg
  have HW := Lib.hid hW
  clear hW hk
  obtain ⟨d, hd⟩ : ∃ d, (x.v.nu == 1) = d := ⟨_, rfl⟩
  rw [hd]
  cases d
  · go_enter Tryz.func135, Tryz.ntmps135
    go_upto_region 1 with fail
    rw [HW.out]
    go_wp2_with fail
    refine (refTruth_any false _).mono ?_
    rintro e w9 ⟨⟨r, rfl, hr⟩, b9⟩
    have hb9 := HB.out.trans (((RowKit.Below.refl W.heap.size W).trans (b9.mono (RowKit.Below.refl W.heap.size W).size)).mono HB.out.size)
    have hQ9 := ((((RowKit.Below.refl W.heap.size W).trans (b9.mono (RowKit.Below.refl W.heap.size W).size))).block _ (Array.getElem?_eq_some_iff.1 HP.out).1).trans HP.out
    have HX9 := Lib.hid (setT_same (.int .i64 r.v.so) (.int .i64 r.v.nu) (.slice r.a1 r.v.st.length r.c1) (.slice r.a2 r.v.ix.length r.c2) (.slice r.a3 r.v.xs.length r.c3) hQ9)
    have HBX9 := Lib.hid (Below.set5 hb9 (b := w.heap.size) (Nat.le_refl _) (.int .i64 r.v.so) (.int .i64 r.v.nu) (.slice r.a1 r.v.st.length r.c1) (.slice r.a2 r.v.ix.length r.c2) (.slice r.a3 r.v.xs.length r.c3))
    have HR9 := Lib.hid hr
    clear hr b9 hb9 x0 x1 x2 x3 x4 y0 y1 y2 y3 y4
    obtain ⟨z0, z1, z2, z3, z4, f0, f1, f2, f3, f4⟩ := boxT_facts hQ9
    clear hQ9
    go_wp2_with fail
    clear z0 z1 z2 z3 z4 f0 f1 f2 f3 f4
    obtain ⟨y0, y1, y2, y3, y4, _, _, _, _, _⟩ := boxT_facts HX9.out
    exact bodyPost_ret (v := vv r) (by simp [results, Tryz.results135, go_sem, y0, y1, y2, y3, y4]) rfl ⟨by rw [HR9.out]; simp, HBX9.out⟩
  · go_enter Tryz.func135, Tryz.ntmps135
    go_upto_region 1 with fail
    rw [HW.out]
    go_wp2_with fail
    refine (refTruth_any (y.v.nu == 1) _).mono ?_
    rintro e w9 ⟨⟨r, rfl, hr⟩, b9⟩
    have hb9 := HB.out.trans (((RowKit.Below.refl W.heap.size W).trans (b9.mono (RowKit.Below.refl W.heap.size W).size)).mono HB.out.size)
    have hQ9 := ((((RowKit.Below.refl W.heap.size W).trans (b9.mono (RowKit.Below.refl W.heap.size W).size))).block _ (Array.getElem?_eq_some_iff.1 HP.out).1).trans HP.out
    have HX9 := Lib.hid (setT_same (.int .i64 r.v.so) (.int .i64 r.v.nu) (.slice r.a1 r.v.st.length r.c1) (.slice r.a2 r.v.ix.length r.c2) (.slice r.a3 r.v.xs.length r.c3) hQ9)
    have HBX9 := Lib.hid (Below.set5 hb9 (b := w.heap.size) (Nat.le_refl _) (.int .i64 r.v.so) (.int .i64 r.v.nu) (.slice r.a1 r.v.st.length r.c1) (.slice r.a2 r.v.ix.length r.c2) (.slice r.a3 r.v.xs.length r.c3))
    have HR9 := Lib.hid hr
    clear hr b9 hb9 x0 x1 x2 x3 x4 y0 y1 y2 y3 y4
    obtain ⟨z0, z1, z2, z3, z4, f0, f1, f2, f3, f4⟩ := boxT_facts hQ9
    clear hQ9
    go_wp2_with fail
    clear z0 z1 z2 z3 z4 f0 f1 f2 f3 f4
    obtain ⟨y0, y1, y2, y3, y4, _, _, _, _, _⟩ := boxT_facts HX9.out
    exact bodyPost_ret (v := vv r) (by simp [results, Tryz.results135, go_sem, y0, y1, y2, y3, y4]) rfl ⟨by rw [HR9.out]; simp, HBX9.out⟩
set_option maxRecDepth 100000 in
set_option maxHeartbeats 2000000 in
theorem dcOr (K : Option Addr) (kc : Nat) (x y : VA) (w : World) (hk : LiesVs w K [x, y]) : Calls Tryz.prog 135 #[.int .i64 34, .slice K 2 kc] w (DecP ((x.v.nu == 1) || (y.v.nu == 1)) w) := by
  obtain ⟨W, hW⟩ : ∃ W, w.alloc (.cells #[.int .i64 0, .int .i64 0, .slice none 0 0, .slice none 0 0, .slice none 0 0] 27) = W := ⟨_, rfl⟩
  have HB := Lib.hid (show RowKit.Below w.heap.size w W by rw [← hW]; exact (RowKit.Below.refl _ _).alloc (Nat.le_refl _) _)
  have HP := Lib.hid (show W.heap[w.heap.size]? = some (.cells #[.int .i64 0, .int .i64 0, .slice none 0 0, .slice none 0 0, .slice none 0 0] 27 (0, 0)) by rw [← hW]; exact heap_alloc_new _ _)
  obtain ⟨b, o, rfl, hf, hg, hlx, hly⟩ := kids2 (hk.later HB.out)
  obtain ⟨x0, x1, x2, x3, x4⟩ := hf
  obtain ⟨y0, y1, y2, y3, y4⟩ := hg
  have HW := Lib.hid hW
  clear hW hk
  obtain ⟨d, hd⟩ : ∃ d, (x.v.nu == 1) = d := ⟨_, rfl⟩
  rw [hd]
  cases d
  · go_enter Tryz.func135, Tryz.ntmps135
    go_upto_region 1 with fail
    rw [HW.out]
    go_wp2_with fail
    refine (refTruth_any (y.v.nu == 1) _).mono ?_
    rintro e w9 ⟨⟨r, rfl, hr⟩, b9⟩
    have hb9 := HB.out.trans (((RowKit.Below.refl W.heap.size W).trans (b9.mono (RowKit.Below.refl W.heap.size W).size)).mono HB.out.size)
    have hQ9 := ((((RowKit.Below.refl W.heap.size W).trans (b9.mono (RowKit.Below.refl W.heap.size W).size))).block _ (Array.getElem?_eq_some_iff.1 HP.out).1).trans HP.out
    have HX9 := Lib.hid (setT_same (.int .i64 r.v.so) (.int .i64 r.v.nu) (.slice r.a1 r.v.st.length r.c1) (.slice r.a2 r.v.ix.length r.c2) (.slice r.a3 r.v.xs.length r.c3) hQ9)
    have HBX9 := Lib.hid (Below.set5 hb9 (b := w.heap.size) (Nat.le_refl _) (.int .i64 r.v.so) (.int .i64 r.v.nu) (.slice r.a1 r.v.st.length r.c1) (.slice r.a2 r.v.ix.length r.c2) (.slice r.a3 r.v.xs.length r.c3))
    have HR9 := Lib.hid hr
    clear hr b9 hb9 x0 x1 x2 x3 x4 y0 y1 y2 y3 y4
    obtain ⟨z0, z1, z2, z3, z4, f0, f1, f2, f3, f4⟩ := boxT_facts hQ9
    clear hQ9
    go_wp2_with fail
    clear z0 z1 z2 z3 z4 f0 f1 f2 f3 f4
    obtain ⟨y0, y1, y2, y3, y4, _, _, _, _, _⟩ := boxT_facts HX9.out
    exact bodyPost_ret (v := vv r) (by simp [results, Tryz.results135, go_sem, y0, y1, y2, y3, y4]) rfl ⟨by rw [HR9.out]; simp, HBX9.out⟩
  · go_enter Tryz.func135, Tryz.ntmps135
    go_upto_region 1 with fail
    rw [HW.out]
    go_wp2_with fail
    refine (refTruth_any true _).mono ?_
    rintro e w9 ⟨⟨r, rfl, hr⟩, b9⟩
    have hb9 := HB.out.trans (((RowKit.Below.refl W.heap.size W).trans (b9.mono (RowKit.Below.refl W.heap.size W).size)).mono HB.out.size)
    have hQ9 := ((((RowKit.Below.refl W.heap.size W).trans (b9.mono (RowKit.Below.refl W.heap.size W).size))).block _ (Array.getElem?_eq_some_iff.1 HP.out).1).trans HP.out
    have HX9 := Lib.hid (setT_same (.int .i64 r.v.so) (.int .i64 r.v.nu) (.slice r.a1 r.v.st.length r.c1) (.slice r.a2 r.v.ix.length r.c2) (.slice r.a3 r.v.xs.length r.c3) hQ9)
    have HBX9 := Lib.hid (Below.set5 hb9 (b := w.heap.size) (Nat.le_refl _) (.int .i64 r.v.so) (.int .i64 r.v.nu) (.slice r.a1 r.v.st.length r.c1) (.slice r.a2 r.v.ix.length r.c2) (.slice r.a3 r.v.xs.length r.c3))
    have HR9 := Lib.hid hr
    clear hr b9 hb9 x0 x1 x2 x3 x4 y0 y1 y2 y3 y4
    obtain ⟨z0, z1, z2, z3, z4, f0, f1, f2, f3, f4⟩ := boxT_facts hQ9
    clear hQ9
    go_wp2_with fail
    clear z0 z1 z2 z3 z4 f0 f1 f2 f3 f4
    obtain ⟨y0, y1, y2, y3, y4, _, _, _, _, _⟩ := boxT_facts HX9.out
    exact bodyPost_ret (v := vv r) (by simp [results, Tryz.results135, go_sem, y0, y1, y2, y3, y4]) rfl ⟨by rw [HR9.out]; simp, HBX9.out⟩
set_option maxRecDepth 100000 in
set_option maxHeartbeats 2000000 in
theorem dcImp (K : Option Addr) (kc : Nat) (x y : VA) (w : World) (hk : LiesVs w K [x, y]) : Calls Tryz.prog 135 #[.int .i64 35, .slice K 2 kc] w (DecP ((x.v.nu == 0) || (y.v.nu == 1)) w) := by
  obtain ⟨W, hW⟩ : ∃ W, w.alloc (.cells #[.int .i64 0, .int .i64 0, .slice none 0 0, .slice none 0 0, .slice none 0 0] 27) = W := ⟨_, rfl⟩
  have HB := Lib.hid (show RowKit.Below w.heap.size w W by rw [← hW]; exact (RowKit.Below.refl _ _).alloc (Nat.le_refl _) _)
  have HP := Lib.hid (show W.heap[w.heap.size]? = some (.cells #[.int .i64 0, .int .i64 0, .slice none 0 0, .slice none 0 0, .slice none 0 0] 27 (0, 0)) by rw [← hW]; exact heap_alloc_new _ _)
  obtain ⟨b, o, rfl, hf, hg, hlx, hly⟩ := kids2 (hk.later HB.out)
  obtain ⟨x0, x1, x2, x3, x4⟩ := hf
  obtain ⟨y0, y1, y2, y3, y4⟩ := hg
  have HW := Lib.hid hW
  clear hW hk
  obtain ⟨d, hd⟩ : ∃ d, (x.v.nu == 0) = d := ⟨_, rfl⟩
  rw [hd]
  cases d
  · go_enter Tryz.func135, Tryz.ntmps135
    go_upto_region 1 with fail
    rw [HW.out]
    go_wp2_with fail
    refine (refTruth_any (y.v.nu == 1) _).mono ?_
    rintro e w9 ⟨⟨r, rfl, hr⟩, b9⟩
    have hb9 := HB.out.trans (((RowKit.Below.refl W.heap.size W).trans (b9.mono (RowKit.Below.refl W.heap.size W).size)).mono HB.out.size)
    have hQ9 := ((((RowKit.Below.refl W.heap.size W).trans (b9.mono (RowKit.Below.refl W.heap.size W).size))).block _ (Array.getElem?_eq_some_iff.1 HP.out).1).trans HP.out
    have HX9 := Lib.hid (setT_same (.int .i64 r.v.so) (.int .i64 r.v.nu) (.slice r.a1 r.v.st.length r.c1) (.slice r.a2 r.v.ix.length r.c2) (.slice r.a3 r.v.xs.length r.c3) hQ9)
    have HBX9 := Lib.hid (Below.set5 hb9 (b := w.heap.size) (Nat.le_refl _) (.int .i64 r.v.so) (.int .i64 r.v.nu) (.slice r.a1 r.v.st.length r.c1) (.slice r.a2 r.v.ix.length r.c2) (.slice r.a3 r.v.xs.length r.c3))
    have HR9 := Lib.hid hr
    clear hr b9 hb9 x0 x1 x2 x3 x4 y0 y1 y2 y3 y4
    obtain ⟨z0, z1, z2, z3, z4, f0, f1, f2, f3, f4⟩ := boxT_facts hQ9
    clear hQ9
    go_wp2_with fail
    clear z0 z1 z2 z3 z4 f0 f1 f2 f3 f4
    obtain ⟨y0, y1, y2, y3, y4, _, _, _, _, _⟩ := boxT_facts HX9.out
    exact bodyPost_ret (v := vv r) (by simp [results, Tryz.results135, go_sem, y0, y1, y2, y3, y4]) rfl ⟨by rw [HR9.out]; simp, HBX9.out⟩
  · go_enter Tryz.func135, Tryz.ntmps135
    go_upto_region 1 with fail
    rw [HW.out]
    go_wp2_with fail
    refine (refTruth_any true _).mono ?_
    rintro e w9 ⟨⟨r, rfl, hr⟩, b9⟩
    have hb9 := HB.out.trans (((RowKit.Below.refl W.heap.size W).trans (b9.mono (RowKit.Below.refl W.heap.size W).size)).mono HB.out.size)
    have hQ9 := ((((RowKit.Below.refl W.heap.size W).trans (b9.mono (RowKit.Below.refl W.heap.size W).size))).block _ (Array.getElem?_eq_some_iff.1 HP.out).1).trans HP.out
    have HX9 := Lib.hid (setT_same (.int .i64 r.v.so) (.int .i64 r.v.nu) (.slice r.a1 r.v.st.length r.c1) (.slice r.a2 r.v.ix.length r.c2) (.slice r.a3 r.v.xs.length r.c3) hQ9)
    have HBX9 := Lib.hid (Below.set5 hb9 (b := w.heap.size) (Nat.le_refl _) (.int .i64 r.v.so) (.int .i64 r.v.nu) (.slice r.a1 r.v.st.length r.c1) (.slice r.a2 r.v.ix.length r.c2) (.slice r.a3 r.v.xs.length r.c3))
    have HR9 := Lib.hid hr
    clear hr b9 hb9 x0 x1 x2 x3 x4 y0 y1 y2 y3 y4
    obtain ⟨z0, z1, z2, z3, z4, f0, f1, f2, f3, f4⟩ := boxT_facts hQ9
    clear hQ9
    go_wp2_with fail
    clear z0 z1 z2 z3 z4 f0 f1 f2 f3 f4
    obtain ⟨y0, y1, y2, y3, y4, _, _, _, _, _⟩ := boxT_facts HX9.out
    exact bodyPost_ret (v := vv r) (by simp [results, Tryz.results135, go_sem, y0, y1, y2, y3, y4]) rfl ⟨by rw [HR9.out]; simp, HBX9.out⟩
set_option maxRecDepth 100000 in
set_option maxHeartbeats 2000000 in
theorem dcIff (K : Option Addr) (kc : Nat) (x y : VA) (w : World) (hk : LiesVs w K [x, y]) : Calls Tryz.prog 135 #[.int .i64 36, .slice K 2 kc] w (DecP (x.v.nu == y.v.nu) w) := by
  obtain ⟨W, hW⟩ : ∃ W, w.alloc (.cells #[.int .i64 0, .int .i64 0, .slice none 0 0, .slice none 0 0, .slice none 0 0] 27) = W := ⟨_, rfl⟩
  have HB := Lib.hid (show RowKit.Below w.heap.size w W by rw [← hW]; exact (RowKit.Below.refl _ _).alloc (Nat.le_refl _) _)
  have HP := Lib.hid (show W.heap[w.heap.size]? = some (.cells #[.int .i64 0, .int .i64 0, .slice none 0 0, .slice none 0 0, .slice none 0 0] 27 (0, 0)) by rw [← hW]; exact heap_alloc_new _ _)
  obtain ⟨b, o, rfl, hf, hg, hlx, hly⟩ := kids2 (hk.later HB.out)
  obtain ⟨x0, x1, x2, x3, x4⟩ := hf
  obtain ⟨y0, y1, y2, y3, y4⟩ := hg
  have HW := Lib.hid hW
  clear hW hk
  go_enter Tryz.func135, Tryz.ntmps135
  go_upto_region 1 with fail
  rw [HW.out]
  go_wp2_with fail
  go_still_tail 9, (by kernel_rfl)
  change wpList _ _ _ _ _ W.drew
  go_wp2_with fail
  refine (refTruth_any (x.v.nu == y.v.nu) _).mono ?_
  rintro e w9 ⟨⟨r, rfl, hr⟩, b9⟩
  have hb9 := HB.out.trans ((((RowKit.Below.refl W.heap.size W).drew).trans (b9.mono ((RowKit.Below.refl W.heap.size W).drew).size)).mono HB.out.size)
  have hQ9 := (((((RowKit.Below.refl W.heap.size W).drew).trans (b9.mono ((RowKit.Below.refl W.heap.size W).drew).size))).block _ (Array.getElem?_eq_some_iff.1 HP.out).1).trans HP.out
  have HX9 := Lib.hid (setT_same (.int .i64 r.v.so) (.int .i64 r.v.nu) (.slice r.a1 r.v.st.length r.c1) (.slice r.a2 r.v.ix.length r.c2) (.slice r.a3 r.v.xs.length r.c3) hQ9)
  have HBX9 := Lib.hid (Below.set5 hb9 (b := w.heap.size) (Nat.le_refl _) (.int .i64 r.v.so) (.int .i64 r.v.nu) (.slice r.a1 r.v.st.length r.c1) (.slice r.a2 r.v.ix.length r.c2) (.slice r.a3 r.v.xs.length r.c3))
  have HR9 := Lib.hid hr
  clear hr b9 hb9 x0 x1 x2 x3 x4 y0 y1 y2 y3 y4
  obtain ⟨z0, z1, z2, z3, z4, f0, f1, f2, f3, f4⟩ := boxT_facts hQ9
  clear hQ9
  go_wp2_with fail
  clear z0 z1 z2 z3 z4 f0 f1 f2 f3 f4
  obtain ⟨y0, y1, y2, y3, y4, _, _, _, _, _⟩ := boxT_facts HX9.out
  exact bodyPost_ret (v := vv r) (by simp [results, Tryz.results135, go_sem, y0, y1, y2, y3, y4]) rfl ⟨by rw [HR9.out], HBX9.out⟩
set_option maxRecDepth 100000 in
set_option maxHeartbeats 2000000 in
theorem dcLe (K : Option Addr) (kc : Nat) (x y : VA) (w : World) (hk : LiesVs w K [x, y]) : Calls Tryz.prog 135 #[.int .i64 38, .slice K 2 kc] w (DecP (decide (x.v.nu ≤ y.v.nu)) w) := by
  obtain ⟨W, hW⟩ : ∃ W, w.alloc (.cells #[.int .i64 0, .int .i64 0, .slice none 0 0, .slice none 0 0, .slice none 0 0] 27) = W := ⟨_, rfl⟩
  have HB := Lib.hid (show RowKit.Below w.heap.size w W by rw [← hW]; exact (RowKit.Below.refl _ _).alloc (Nat.le_refl _) _)
  have HP := Lib.hid (show W.heap[w.heap.size]? = some (.cells #[.int .i64 0, .int .i64 0, .slice none 0 0, .slice none 0 0, .slice none 0 0] 27 (0, 0)) by rw [← hW]; exact heap_alloc_new _ _)
  obtain ⟨b, o, rfl, hf, hg, hlx, hly⟩ := kids2 (hk.later HB.out)
  obtain ⟨x0, x1, x2, x3, x4⟩ := hf
  obtain ⟨y0, y1, y2, y3, y4⟩ := hg
  have HW := Lib.hid hW
  clear hW hk
  go_enter Tryz.func135, Tryz.ntmps135
  go_upto_region 1 with fail
  rw [HW.out]
  go_wp2_with fail
  go_still_tail 9, (by kernel_rfl)
  change wpList _ _ _ _ _ W.drew
  go_wp2_with fail
  refine (refTruth_any (decide (x.v.nu ≤ y.v.nu)) _).mono ?_
  rintro e w9 ⟨⟨r, rfl, hr⟩, b9⟩
  have hb9 := HB.out.trans ((((RowKit.Below.refl W.heap.size W).drew).trans (b9.mono ((RowKit.Below.refl W.heap.size W).drew).size)).mono HB.out.size)
  have hQ9 := (((((RowKit.Below.refl W.heap.size W).drew).trans (b9.mono ((RowKit.Below.refl W.heap.size W).drew).size))).block _ (Array.getElem?_eq_some_iff.1 HP.out).1).trans HP.out
  have HX9 := Lib.hid (setT_same (.int .i64 r.v.so) (.int .i64 r.v.nu) (.slice r.a1 r.v.st.length r.c1) (.slice r.a2 r.v.ix.length r.c2) (.slice r.a3 r.v.xs.length r.c3) hQ9)
  have HBX9 := Lib.hid (Below.set5 hb9 (b := w.heap.size) (Nat.le_refl _) (.int .i64 r.v.so) (.int .i64 r.v.nu) (.slice r.a1 r.v.st.length r.c1) (.slice r.a2 r.v.ix.length r.c2) (.slice r.a3 r.v.xs.length r.c3))
  have HR9 := Lib.hid hr
  clear hr b9 hb9 x0 x1 x2 x3 x4 y0 y1 y2 y3 y4
  obtain ⟨z0, z1, z2, z3, z4, f0, f1, f2, f3, f4⟩ := boxT_facts hQ9
  clear hQ9
  go_wp2_with fail
  clear z0 z1 z2 z3 z4 f0 f1 f2 f3 f4
  obtain ⟨y0, y1, y2, y3, y4, _, _, _, _, _⟩ := boxT_facts HX9.out
  exact bodyPost_ret (v := vv r) (by simp [results, Tryz.results135, go_sem, y0, y1, y2, y3, y4]) rfl ⟨by rw [HR9.out], HBX9.out⟩
set_option maxRecDepth 100000 in
set_option maxHeartbeats 2000000 in
theorem dcLt (K : Option Addr) (kc : Nat) (x y : VA) (w : World) (hk : LiesVs w K [x, y]) : Calls Tryz.prog 135 #[.int .i64 39, .slice K 2 kc] w (DecP (decide (x.v.nu < y.v.nu)) w) := by
  obtain ⟨W, hW⟩ : ∃ W, w.alloc (.cells #[.int .i64 0, .int .i64 0, .slice none 0 0, .slice none 0 0, .slice none 0 0] 27) = W := ⟨_, rfl⟩
  have HB := Lib.hid (show RowKit.Below w.heap.size w W by rw [← hW]; exact (RowKit.Below.refl _ _).alloc (Nat.le_refl _) _)
  have HP := Lib.hid (show W.heap[w.heap.size]? = some (.cells #[.int .i64 0, .int .i64 0, .slice none 0 0, .slice none 0 0, .slice none 0 0] 27 (0, 0)) by rw [← hW]; exact heap_alloc_new _ _)
  obtain ⟨b, o, rfl, hf, hg, hlx, hly⟩ := kids2 (hk.later HB.out)
  obtain ⟨x0, x1, x2, x3, x4⟩ := hf
  obtain ⟨y0, y1, y2, y3, y4⟩ := hg
  have HW := Lib.hid hW
  clear hW hk
  go_enter Tryz.func135, Tryz.ntmps135
  go_upto_region 1 with fail
  rw [HW.out]
  go_wp2_with fail
  go_still_tail 9, (by kernel_rfl)
  change wpList _ _ _ _ _ W.drew
  go_wp2_with fail
  refine (refTruth_any (decide (x.v.nu < y.v.nu)) _).mono ?_
  rintro e w9 ⟨⟨r, rfl, hr⟩, b9⟩
  have hb9 := HB.out.trans ((((RowKit.Below.refl W.heap.size W).drew).trans (b9.mono ((RowKit.Below.refl W.heap.size W).drew).size)).mono HB.out.size)
  have hQ9 := (((((RowKit.Below.refl W.heap.size W).drew).trans (b9.mono ((RowKit.Below.refl W.heap.size W).drew).size))).block _ (Array.getElem?_eq_some_iff.1 HP.out).1).trans HP.out
  have HX9 := Lib.hid (setT_same (.int .i64 r.v.so) (.int .i64 r.v.nu) (.slice r.a1 r.v.st.length r.c1) (.slice r.a2 r.v.ix.length r.c2) (.slice r.a3 r.v.xs.length r.c3) hQ9)
  have HBX9 := Lib.hid (Below.set5 hb9 (b := w.heap.size) (Nat.le_refl _) (.int .i64 r.v.so) (.int .i64 r.v.nu) (.slice r.a1 r.v.st.length r.c1) (.slice r.a2 r.v.ix.length r.c2) (.slice r.a3 r.v.xs.length r.c3))
  have HR9 := Lib.hid hr
  clear hr b9 hb9 x0 x1 x2 x3 x4 y0 y1 y2 y3 y4
  obtain ⟨z0, z1, z2, z3, z4, f0, f1, f2, f3, f4⟩ := boxT_facts hQ9
  clear hQ9
  go_wp2_with fail
  clear z0 z1 z2 z3 z4 f0 f1 f2 f3 f4
  obtain ⟨y0, y1, y2, y3, y4, _, _, _, _, _⟩ := boxT_facts HX9.out
  exact bodyPost_ret (v := vv r) (by simp [results, Tryz.results135, go_sem, y0, y1, y2, y3, y4]) rfl ⟨by rw [HR9.out], HBX9.out⟩
set_option maxRecDepth 100000 in
set_option maxHeartbeats 2000000 in
theorem dcEq (K : Option Addr) (kc : Nat) (x y : VA) (w : World) (hk : LiesVs w K [x, y]) : Calls Tryz.prog 135 #[.int .i64 37, .slice K 2 kc] w (DecP (sameB x.v y.v) w) := by
  obtain ⟨W, hW⟩ : ∃ W, w.alloc (.cells #[.int .i64 0, .int .i64 0, .slice none 0 0, .slice none 0 0, .slice none 0 0] 27) = W := ⟨_, rfl⟩
  have HB := Lib.hid (show RowKit.Below w.heap.size w W by rw [← hW]; exact (RowKit.Below.refl _ _).alloc (Nat.le_refl _) _)
  have HP := Lib.hid (show W.heap[w.heap.size]? = some (.cells #[.int .i64 0, .int .i64 0, .slice none 0 0, .slice none 0 0, .slice none 0 0] 27 (0, 0)) by rw [← hW]; exact heap_alloc_new _ _)
  obtain ⟨b, o, rfl, hf, hg, hlx, hly⟩ := kids2 (hk.later HB.out)
  obtain ⟨x0, x1, x2, x3, x4⟩ := hf
  obtain ⟨y0, y1, y2, y3, y4⟩ := hg
  have HW := Lib.hid hW
  clear hW hk
  have HS := Lib.hid (refSame_any x y W.drew (hlx.later (RowKit.Below.refl _ _).drew) (hly.later (RowKit.Below.refl _ _).drew))
  go_enter Tryz.func135, Tryz.ntmps135
  go_upto_region 1 with fail
  rw [HW.out]
  go_wp2_with fail
  go_still_tail 6, (by kernel_rfl)
  change wpList _ _ _ _ _ W.drew
  go_wp2_with fail
  refine HS.out.mono ?_
  rintro e w8 ⟨rfl, b8⟩
  have B8 := Lib.hid (((RowKit.Below.refl W.heap.size W).drew).trans (b8.mono (Nat.le_refl _)))
  clear b8 x0 x1 x2 x3 x4 y0 y1 y2 y3 y4
  go_wp2_with fail
  refine (refTruth_any (sameB x.v y.v) _).mono ?_
  rintro e w9 ⟨⟨r, rfl, hr⟩, b9⟩
  have hb9 := HB.out.trans (((B8.out).trans (b9.mono (B8.out).size)).mono HB.out.size)
  have hQ9 := ((((B8.out).trans (b9.mono (B8.out).size))).block _ (Array.getElem?_eq_some_iff.1 HP.out).1).trans HP.out
  have HX9 := Lib.hid (setT_same (.int .i64 r.v.so) (.int .i64 r.v.nu) (.slice r.a1 r.v.st.length r.c1) (.slice r.a2 r.v.ix.length r.c2) (.slice r.a3 r.v.xs.length r.c3) hQ9)
  have HBX9 := Lib.hid (Below.set5 hb9 (b := w.heap.size) (Nat.le_refl _) (.int .i64 r.v.so) (.int .i64 r.v.nu) (.slice r.a1 r.v.st.length r.c1) (.slice r.a2 r.v.ix.length r.c2) (.slice r.a3 r.v.xs.length r.c3))
  have HR9 := Lib.hid hr
  clear hr b9 hb9
  obtain ⟨z0, z1, z2, z3, z4, f0, f1, f2, f3, f4⟩ := boxT_facts hQ9
  clear hQ9
  go_wp2_with fail
  clear z0 z1 z2 z3 z4 f0 f1 f2 f3 f4
  obtain ⟨y0, y1, y2, y3, y4, _, _, _, _, _⟩ := boxT_facts HX9.out
  exact bodyPost_ret (v := vv r) (by simp [results, Tryz.results135, go_sem, y0, y1, y2, y3, y4]) rfl ⟨by rw [HR9.out], HBX9.out⟩
set_option maxRecDepth 100000 in
set_option maxHeartbeats 2000000 in
theorem dcMem (K : Option Addr) (kc : Nat) (x y : VA) (w : World) (hk : LiesVs w K [x, y]) (hl : y.v.st.length ≤ 100000) : Calls Tryz.prog 135 #[.int .i64 40, .slice K 2 kc] w (DecP (decide (x.v.nu ∈ y.v.st)) w) := by
  obtain ⟨W, hW⟩ : ∃ W, w.alloc (.cells #[.int .i64 0, .int .i64 0, .slice none 0 0, .slice none 0 0, .slice none 0 0] 27) = W := ⟨_, rfl⟩
  have HB := Lib.hid (show RowKit.Below w.heap.size w W by rw [← hW]; exact (RowKit.Below.refl _ _).alloc (Nat.le_refl _) _)
  have HP := Lib.hid (show W.heap[w.heap.size]? = some (.cells #[.int .i64 0, .int .i64 0, .slice none 0 0, .slice none 0 0, .slice none 0 0] 27 (0, 0)) by rw [← hW]; exact heap_alloc_new _ _)
  obtain ⟨b, o, rfl, hf, hg, hlx, hly⟩ := kids2 (hk.later HB.out)
  obtain ⟨x0, x1, x2, x3, x4⟩ := hf
  obtain ⟨y0, y1, y2, y3, y4⟩ := hg
  have HW := Lib.hid hW
  clear hW hk
  have HS := Lib.hid (refHas_any y.v.st x.v.nu y.a1 y.c1 W.drew (hly.later (RowKit.Below.refl _ _).drew).st hl)
  go_enter Tryz.func135, Tryz.ntmps135
  go_upto_region 1 with fail
  rw [HW.out]
  go_wp2_with fail
  go_still_tail 8, (by kernel_rfl)
  change wpList _ _ _ _ _ W.drew
  go_wp2_with fail
  refine HS.out.mono ?_
  rintro e w8 ⟨rfl, rfl⟩
  clear x0 x1 x2 x3 x4 y0 y1 y2 y3 y4
  go_wp2_with fail
  refine (refTruth_any (decide (x.v.nu ∈ y.v.st)) _).mono ?_
  rintro e w9 ⟨⟨r, rfl, hr⟩, b9⟩
  have hb9 := HB.out.trans ((((RowKit.Below.refl W.heap.size W).drew).trans (b9.mono ((RowKit.Below.refl W.heap.size W).drew).size)).mono HB.out.size)
  have hQ9 := (((((RowKit.Below.refl W.heap.size W).drew).trans (b9.mono ((RowKit.Below.refl W.heap.size W).drew).size))).block _ (Array.getElem?_eq_some_iff.1 HP.out).1).trans HP.out
  have HX9 := Lib.hid (setT_same (.int .i64 r.v.so) (.int .i64 r.v.nu) (.slice r.a1 r.v.st.length r.c1) (.slice r.a2 r.v.ix.length r.c2) (.slice r.a3 r.v.xs.length r.c3) hQ9)
  have HBX9 := Lib.hid (Below.set5 hb9 (b := w.heap.size) (Nat.le_refl _) (.int .i64 r.v.so) (.int .i64 r.v.nu) (.slice r.a1 r.v.st.length r.c1) (.slice r.a2 r.v.ix.length r.c2) (.slice r.a3 r.v.xs.length r.c3))
  have HR9 := Lib.hid hr
  clear hr b9 hb9 hl
  obtain ⟨z0, z1, z2, z3, z4, f0, f1, f2, f3, f4⟩ := boxT_facts hQ9
  clear hQ9
  go_wp2_with fail
  clear z0 z1 z2 z3 z4 f0 f1 f2 f3 f4
  obtain ⟨y0, y1, y2, y3, y4, _, _, _, _, _⟩ := boxT_facts HX9.out
  exact bodyPost_ret (v := vv r) (by simp [results, Tryz.results135, go_sem, y0, y1, y2, y3, y4]) rfl ⟨by rw [HR9.out], HBX9.out⟩
set_option maxRecDepth 100000 in
set_option maxHeartbeats 2000000 in
theorem dcSub (K : Option Addr) (kc : Nat) (x y : VA) (w : World) (hk : LiesVs w K [x, y]) (hl : x.v.st.length ≤ 100000) (hl2 : y.v.st.length ≤ 100000) : Calls Tryz.prog 135 #[.int .i64 41, .slice K 2 kc] w (DecP (decide (∀ n ∈ x.v.st, n ∈ y.v.st)) w) := by
  obtain ⟨W, hW⟩ : ∃ W, w.alloc (.cells #[.int .i64 0, .int .i64 0, .slice none 0 0, .slice none 0 0, .slice none 0 0] 27) = W := ⟨_, rfl⟩
  have HB := Lib.hid (show RowKit.Below w.heap.size w W by rw [← hW]; exact (RowKit.Below.refl _ _).alloc (Nat.le_refl _) _)
  have HP := Lib.hid (show W.heap[w.heap.size]? = some (.cells #[.int .i64 0, .int .i64 0, .slice none 0 0, .slice none 0 0, .slice none 0 0] 27 (0, 0)) by rw [← hW]; exact heap_alloc_new _ _)
  obtain ⟨b, o, rfl, hf, hg, hlx, hly⟩ := kids2 (hk.later HB.out)
  obtain ⟨x0, x1, x2, x3, x4⟩ := hf
  obtain ⟨y0, y1, y2, y3, y4⟩ := hg
  have HW := Lib.hid hW
  clear hW hk
  have HS := Lib.hid (fun n => refHas_any y.v.st n y.a1 y.c1 W hly.st hl2)
  have HX := Lib.hid hlx.st
  have HN := Lib.hid (fun (k : Nat) (h : k < x.v.st.length) (e : decide (x.v.st[k] ∈ y.v.st) = false) => (show decide (∀ n ∈ x.v.st, n ∈ y.v.st) = false from decide_eq_false fun hh => by have := hh _ (List.getElem_mem h); rw [decide_eq_true this] at e; cases e))
  have HY := Lib.hid (fun (h : ∀ j (h : j < x.v.st.length), x.v.st[j] ∈ y.v.st) => (show decide (∀ n ∈ x.v.st, n ∈ y.v.st) = true from decide_eq_true fun n hn => by obtain ⟨i, hi, rfl⟩ := List.getElem_of_mem hn; exact h i hi))
  generalize decide (∀ n ∈ x.v.st, n ∈ y.v.st) = res at *
  go_enter Tryz.func135, Tryz.ntmps135
  go_upto_region 1 with fail
  rw [HW.out]
  go_wp2_with fail
  go_loopw [129] (fun i wr => ∃ k : Nat, k ≤ x.v.st.length ∧ i = .int .i64 k ∧ Hid (∀ j (h : j < x.v.st.length), j < k → x.v.st[j] ∈ y.v.st) ∧ W = wr) (fun i _ => x.v.st.length - (intOf i).toNat)
  case atStart => exact ⟨0, Nat.zero_le _, rfl, fun j hj hjk => absurd hjk (by omega), rfl⟩
  case round =>
    obtain ⟨k, hk, rfl, hj, rfl⟩ := hrel
    by_cases hlt : k < x.v.st.length
    · obtain ⟨b2, o2, ha, hc⟩ := HX.out
      have ha := ha (by omega)
      have c0 := hc k hlt
      have HJ := Lib.hid (fun (e : x.v.st[k] ∈ y.v.st) => (show Hid (∀ j (h : j < x.v.st.length), j < k + 1 → x.v.st[j] ∈ y.v.st) from fun j h h2 => by
        by_cases e' : j = k
        · subst e'; exact e
        · exact hj.out j h (by omega)))
      have hN := Lib.hid (HN.out k hlt)
      generalize x.v.st[k] = q at *
      rw [ha] at *
      clear hj hc HN HY
      cases hm : decide (q ∈ y.v.st)
      case false =>
        have HR := Lib.hid (hN.out hm)
        have HM := Lib.hid hm
        clear hm hN HJ
        go_wp2_with fail
        refine (HS.out q).mono ?_
        rintro e w8 ⟨rfl, rfl⟩
        rw [HM.out]
        clear x0 x1 x3 x4 y0 y1 y2 y3 y4 x2 c0
        go_wp2_with fail
        refine (refTruth_any false _).mono ?_
        rintro e w9 ⟨⟨r, rfl, hr⟩, b9⟩
        have hb9 := HB.out.trans (((RowKit.Below.refl W.heap.size W).trans (b9.mono (RowKit.Below.refl W.heap.size W).size)).mono HB.out.size)
        have hQ9 := ((((RowKit.Below.refl W.heap.size W).trans (b9.mono (RowKit.Below.refl W.heap.size W).size))).block _ (Array.getElem?_eq_some_iff.1 HP.out).1).trans HP.out
        have HX9 := Lib.hid (setT_same (.int .i64 r.v.so) (.int .i64 r.v.nu) (.slice r.a1 r.v.st.length r.c1) (.slice r.a2 r.v.ix.length r.c2) (.slice r.a3 r.v.xs.length r.c3) hQ9)
        have HBX9 := Lib.hid (Below.set5 hb9 (b := w.heap.size) (Nat.le_refl _) (.int .i64 r.v.so) (.int .i64 r.v.nu) (.slice r.a1 r.v.st.length r.c1) (.slice r.a2 r.v.ix.length r.c2) (.slice r.a3 r.v.xs.length r.c3))
        have HR9 := Lib.hid hr
        clear hr b9 hb9 hk hl hl2
        obtain ⟨z0, z1, z2, z3, z4, f0, f1, f2, f3, f4⟩ := boxT_facts hQ9
        clear hQ9
        go_wp2_with fail
        clear z0 z1 z2 z3 z4 f0 f1 f2 f3 f4
        obtain ⟨y0, y1, y2, y3, y4, _, _, _, _, _⟩ := boxT_facts HX9.out
        exact bodyPost_ret (v := vv r) (by simp [results, Tryz.results135, go_sem, y0, y1, y2, y3, y4]) rfl ⟨by rw [HR9.out, HR.out], HBX9.out⟩
      case true =>
        have Hn := HJ.out (of_decide_eq_true hm)
        have HM := Lib.hid hm
        clear hm hN HJ
        go_wp2_with fail
        refine (HS.out q).mono ?_
        rintro e w8 ⟨rfl, rfl⟩
        rw [HM.out]
        go_wp2_with fail
        go_roundw
        case rel => exact ⟨k + 1, by omega, by go_num, Hn, by first | trivial | rfl⟩
        case measure => simp [intOf]; omega
    · have HR := Lib.hid (HY.out fun j h => hj.out j h (by omega))
      clear hj HN HY
      go_wp2_with fail
      refine (refTruth_any true _).mono ?_
      rintro e w9 ⟨⟨r, rfl, hr⟩, b9⟩
      have hb9 := HB.out.trans (((RowKit.Below.refl W.heap.size W).trans (b9.mono (RowKit.Below.refl W.heap.size W).size)).mono HB.out.size)
      have hQ9 := ((((RowKit.Below.refl W.heap.size W).trans (b9.mono (RowKit.Below.refl W.heap.size W).size))).block _ (Array.getElem?_eq_some_iff.1 HP.out).1).trans HP.out
      have HX9 := Lib.hid (setT_same (.int .i64 r.v.so) (.int .i64 r.v.nu) (.slice r.a1 r.v.st.length r.c1) (.slice r.a2 r.v.ix.length r.c2) (.slice r.a3 r.v.xs.length r.c3) hQ9)
      have HBX9 := Lib.hid (Below.set5 hb9 (b := w.heap.size) (Nat.le_refl _) (.int .i64 r.v.so) (.int .i64 r.v.nu) (.slice r.a1 r.v.st.length r.c1) (.slice r.a2 r.v.ix.length r.c2) (.slice r.a3 r.v.xs.length r.c3))
      have HR9 := Lib.hid hr
      clear hr b9 hb9 x0 x1 x2 x3 x4 y0 y1 y2 y3 y4 hk hl hl2
      obtain ⟨z0, z1, z2, z3, z4, f0, f1, f2, f3, f4⟩ := boxT_facts hQ9
      clear hQ9
      go_wp2_with fail
      clear z0 z1 z2 z3 z4 f0 f1 f2 f3 f4
      obtain ⟨y0, y1, y2, y3, y4, _, _, _, _, _⟩ := boxT_facts HX9.out
      exact bodyPost_ret (v := vv r) (by simp [results, Tryz.results135, go_sem, y0, y1, y2, y3, y4]) rfl ⟨by rw [HR9.out, HR.out], HBX9.out⟩
end Go.Proofs.YtmeeombadkgneaaGreat
