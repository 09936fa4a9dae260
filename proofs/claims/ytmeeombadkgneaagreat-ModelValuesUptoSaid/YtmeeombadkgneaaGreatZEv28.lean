/-
  What the document's apply returns of each operator, against the mathematics; conditions: the kids' values lie in memory and are valid, the node is well sorted and no variable or application.
-/
import Derived.Deep.RegionWith
import Derived.BigRegion
import Derived.Test.YtmeeombadkgneaaGreatZEv25
import Derived.Test.YtmeeombadkgneaaGreatZEv26
import Derived.Test.YtmeeombadkgneaaGreatZEv19
namespace Go.Proofs.YtmeeombadkgneaaGreat
open Go.Proofs Go.RowKit Go.Shelf Go.Sort Go.Lib

attribute [local go_sem] Oper.semAt_some
/-- What the document's apply returns. -/
def RapP (xs : List VA) (o : Option Vl) (w : World) (e : Ending) (w' : World) : Prop :=
  ∃ (y : VA) (ok : Bool), e = .returned (.tuple #[vv y, .bool ok]) ∧ RowKit.Below w.heap.size w w' ∧ (o = none → ok = false) ∧
    ∀ v, o = some v → ok = true ∧ y.v = v ∧ LiesV w' y ∧ ∀ P : Nat → Prop, (∀ k, w.heap.size ≤ k → ¬ P k) → (∀ x ∈ xs, RobP P w x) → RobP P w' y
theorem lies_plainR (w : World) (so nu : Int) : LiesV w ⟨⟨so, nu, [], [], []⟩, none, 0, none, 0, none, 0⟩ := ⟨ints_nil w, ints_nil w, ints_nil w, by simp, by simp, by simp⟩
theorem numQ {xs : List VA} {o : Option Vl} {w w' : World} {e : Ending} {r : Int} (ho : o = intO r) (h : e = .returned (.tuple #[pv 1 r, .bool (bndB r)]) ∧ RowKit.Below w.heap.size w w') : RapP xs o w e w' := by
  refine ⟨⟨⟨1, r, [], [], []⟩, none, 0, none, 0, none, 0⟩, bndB r, h.1, h.2, fun hn => ?_, fun v hv => ?_⟩
  · subst ho
    unfold intO at hn
    split at hn
    · cases hn
    · rename_i hb; simpa using hb
  · subst ho
    unfold intO at hv
    split at hv
    · rename_i hb
      cases hv
      exact ⟨hb, rfl, lies_plainR _ _ _, fun _ _ _ => robP_plain _ _⟩
    · cases hv
theorem sclQ {xs : List VA} {o : Option Vl} {w w' : World} {e : Ending} {c n : Int} (ho : o = intO (c * n)) (h : e = .returned (.tuple #[pv 1 (sclI c n), .bool (bndB (c * n))]) ∧ RowKit.Below w.heap.size w w') : RapP xs o w e w' := by
  by_cases hb : bndB (c * n) = true
  · rw [(mul_scl hb).2] at h
    exact numQ ho h
  · refine ⟨⟨⟨1, sclI c n, [], [], []⟩, none, 0, none, 0, none, 0⟩, _, h.1, h.2, fun _ => by simpa using hb, fun v hv => ?_⟩
    subst ho
    unfold intO at hv
    rw [if_neg hb] at hv
    cases hv
theorem boolQ {xs : List VA} {o : Option Vl} {w w' : World} {e : Ending} {b : Bool} (ho : o = some (trV b)) (h : e = .returned (.tuple #[vv (tr b), .bool true]) ∧ RowKit.Below w.heap.size w w') : RapP xs o w e w' := by
  refine ⟨tr b, true, h.1, h.2, fun hn => (by subst ho; cases hn), fun v hv => ?_⟩
  subst ho
  cases hv
  exact ⟨rfl, rfl, lies_plainR _ _ _, fun _ _ _ => robP_plain _ _⟩
theorem setQ {xs : List VA} {o : Option Vl} {w w' : World} {e : Ending} {l : List Int} (hlen : l.length ≤ maxLen) (ho : o = setO l)
    (h : (∃ A' c, e = .returned (.tuple #[.agg #[.int .i64 4, .int .i64 0, .slice A' l.length c, .slice none 0 0, .slice none 0 0], .bool (decide (l.length ≤ 200))]) ∧ RobI w.heap.size w' A' l) ∧ RowKit.Below w.heap.size w w') : RapP xs o w e w' := by
  obtain ⟨⟨A', c, h1, h3⟩, h4⟩ := h
  refine ⟨⟨⟨4, 0, l, [], []⟩, A', c, none, 0, none, 0⟩, _, h1, h4, fun hn => ?_, fun v hv => ?_⟩
  · subst ho
    unfold setO at hn
    split at hn
    · cases hn
    · rename_i hb; exact decide_eq_false hb
  · subst ho
    unfold setO at hv
    split at hv
    · rename_i hb
      cases hv
      exact ⟨decide_eq_true hb, rfl, ⟨h3.here, ints_nil _, ints_nil _, hlen, by simp, by simp⟩, fun P hP _ W hW => ⟨h3 W fun k k1 k2 => hW k k2 (hP k k1), ints_nil _, ints_nil _, hlen, by simp, by simp⟩⟩
    · cases hv
set_option maxRecDepth 100000 in
set_option maxHeartbeats 2000000 in
theorem raNum (so nu : Int) (nm : ByteArray) (C K : Option Addr) (cn cc kc : Nat) (w : World) : Calls Tryz.prog 103 #[nv 2 so nm nu (.slice C cn cc), .slice K 0 kc] w fun e w' => e = .returned (.tuple #[pv 1 (nu), .bool (bndB (nu))]) ∧ RowKit.Below w.heap.size w w' := by
  obtain ⟨W, hW⟩ : ∃ W, (w.alloc (.cells #[.int .i64 2, .int .i64 so, .string nm, .int .i64 nu, .slice C cn cc] 44)).alloc (.cells #[.int .i64 0, .int .i64 0, .slice none 0 0, .slice none 0 0, .slice none 0 0] 27) = W := ⟨_, rfl⟩
  have HB := Lib.hid (show RowKit.Below w.heap.size w W by rw [← hW]; exact ((RowKit.Below.refl _ _).alloc (Nat.le_refl _) _).alloc (by rw [one_size]; omega) _)
  have HP := Lib.hid (show W.heap[w.heap.size]? = some (.cells #[.int .i64 2, .int .i64 so, .string nm, .int .i64 nu, .slice C cn cc] 44) by rw [← hW]; exact two_fst _ _ _)
  have HQ := Lib.hid (show W.heap[w.heap.size + 1]? = some (.cells #[.int .i64 0, .int .i64 0, .slice none 0 0, .slice none 0 0, .slice none 0 0] 27) by rw [← hW]; exact two_snd _ _ _)
  have HSZ := Lib.hid (show W.heap.size = w.heap.size + 2 by rw [← hW]; exact two_size _ _ _)
  have HW := Lib.hid hW
  clear hW
  obtain ⟨z0, z1, z2, z3, z4, f0, f1, f2, f3, f4⟩ := boxT_facts HP.out
  go_enter Tryz.func103, Tryz.ntmps103
  go_upto_region 1 with fail
  rw [HW.out]
  go_wp2_with fail
  refine (refNumber_any (nu) _).mono ?_
  rintro e w9 ⟨rfl, b9⟩
  have hw9 := (RowKit.Below.refl W.heap.size W).trans (b9.mono (RowKit.Below.refl W.heap.size W).size)
  have hb9 := HB.out.trans (hw9.mono HB.out.size)
  have hQ9 := (hw9.block _ (Array.getElem?_eq_some_iff.1 HQ.out).1).trans HQ.out
  have HX9 := Lib.hid (setT_same (.int .i64 1) (.int .i64 (nu)) (.slice none 0 0) (.slice none 0 0) (.slice none 0 0) hQ9)
  have HBX9 := Lib.hid (Below.set5 hb9 (b := w.heap.size + 1) (by omega) (.int .i64 1) (.int .i64 (nu)) (.slice none 0 0) (.slice none 0 0) (.slice none 0 0))
  clear b9 hb9 hw9 z0 z1 z2 z3 z4 f0 f1 f2 f3 f4
  obtain ⟨z0, z1, z2, z3, z4, f0, f1, f2, f3, f4⟩ := boxT_facts hQ9
  clear hQ9
  obtain ⟨bb, hbb⟩ : ∃ bb, bndB (nu) = bb := ⟨_, rfl⟩
  rw [hbb]
  have HBB := Lib.hid hbb
  clear hbb
  go_wp2_with fail
  clear z0 z1 z2 z3 z4 f0 f1 f2 f3 f4
  obtain ⟨y0, y1, y2, y3, y4, _, _, _, _, _⟩ := boxT_facts HX9.out
  exact bodyPost_ret (v := .tuple #[pv 1 (nu), .bool bb]) (by simp [results, Tryz.results103, go_sem, y0, y1, y2, y3, y4]) rfl ⟨by rw [HBB.out], HBX9.out⟩
set_option maxRecDepth 100000 in
set_option maxHeartbeats 2000000 in
theorem raAdd (so nu : Int) (nm : ByteArray) (C K : Option Addr) (cn cc kc : Nat) (x y : VA) (w : World) (hk : LiesVs w K [x, y]) (hx : bndB x.v.nu = true) (hy : bndB y.v.nu = true) : Calls Tryz.prog 103 #[nv 4 so nm nu (.slice C cn cc), .slice K 2 kc] w fun e w' => e = .returned (.tuple #[pv 1 (x.v.nu + y.v.nu), .bool (bndB (x.v.nu + y.v.nu))]) ∧ RowKit.Below w.heap.size w w' := by
  obtain ⟨W, hW⟩ : ∃ W, (w.alloc (.cells #[.int .i64 4, .int .i64 so, .string nm, .int .i64 nu, .slice C cn cc] 44)).alloc (.cells #[.int .i64 0, .int .i64 0, .slice none 0 0, .slice none 0 0, .slice none 0 0] 27) = W := ⟨_, rfl⟩
  have HB := Lib.hid (show RowKit.Below w.heap.size w W by rw [← hW]; exact ((RowKit.Below.refl _ _).alloc (Nat.le_refl _) _).alloc (by rw [one_size]; omega) _)
  have HP := Lib.hid (show W.heap[w.heap.size]? = some (.cells #[.int .i64 4, .int .i64 so, .string nm, .int .i64 nu, .slice C cn cc] 44) by rw [← hW]; exact two_fst _ _ _)
  have HQ := Lib.hid (show W.heap[w.heap.size + 1]? = some (.cells #[.int .i64 0, .int .i64 0, .slice none 0 0, .slice none 0 0, .slice none 0 0] 27) by rw [← hW]; exact two_snd _ _ _)
  have HSZ := Lib.hid (show W.heap.size = w.heap.size + 2 by rw [← hW]; exact two_size _ _ _)
  have HKW := Lib.hid (hk.later HB.out)
  obtain ⟨b, o, rfl, hf, hg, hlx, hly⟩ := kids2 HKW.out
  obtain ⟨x0, x1, x2, x3, x4⟩ := hf
  obtain ⟨y0, y1, y2, y3, y4⟩ := hg
  have h1 := bnd_of hx
  have h2 := bnd_of hy
  have hwr : IntKind.i64.wrap (x.v.nu + y.v.nu) = x.v.nu + y.v.nu := wrap_in (by omega) (by omega)
  have KQ := Lib.hid (fun (W' : World) (h : RowKit.Below W.drew.heap.size W.drew W') => (h.block (w.heap.size + 1) (Array.getElem?_eq_some_iff.1 HQ.out).1).trans HQ.out)
  have KB := Lib.hid (fun (W' : World) (h : RowKit.Below W.drew.heap.size W.drew W') => HB.out.trans (((RowKit.Below.refl W.heap.size W).drew.trans (h.mono (Nat.le_refl _))).mono HB.out.size))
  obtain ⟨bb, hbb⟩ : ∃ bb, bndB (x.v.nu + y.v.nu) = bb := ⟨_, rfl⟩
  obtain ⟨rr, hrr⟩ : ∃ rr, x.v.nu + y.v.nu = rr := ⟨_, rfl⟩
  have HC := Lib.hid (fun W' => (show Calls Tryz.prog 130 #[.int .i64 (x.v.nu + y.v.nu)] W' fun e w' => e = .returned (.tuple #[pv 1 rr, .bool bb]) ∧ RowKit.Below W'.heap.size W' w' from by first | (rw [← hbb, ← hrr]; exact refNumber_any _ W') | (rw [← hbb]; simp only [← hrr]; exact refNumber_any _ W')))
  have HBB := Lib.hid hbb
  have HRR := Lib.hid hrr
  clear hbb hrr
  have HW := Lib.hid hW
  clear hW hk
  obtain ⟨z0, z1, z2, z3, z4, f0, f1, f2, f3, f4⟩ := boxT_facts HP.out
  go_enter Tryz.func103, Tryz.ntmps103
  go_upto_region 1 with fail
  rw [HW.out]
  go_wp2_with fail
  go_region_with ((go_at_call 130; ((with_reducible refine (HC.out _).mono ?_); rintro e w9 ⟨rfl, b9⟩; clear z0 z1 z2 z3 z4 f0 f1 f2 f3 f4; obtain ⟨z0, z1, z2, z3, z4, f0, f1, f2, f3, f4⟩ := boxT_facts (KQ.out _ b9); have HX9 := Lib.hid (setT_same (.int .i64 1) (.int .i64 rr) (.slice none 0 0) (.slice none 0 0) (.slice none 0 0) (KQ.out _ b9)); have HBX9 := Lib.hid (Below.set5 (KB.out _ b9) (b := w.heap.size + 1) (by omega) (.int .i64 1) (.int .i64 rr) (.slice none 0 0) (.slice none 0 0) (.slice none 0 0)); clear b9)))
  all_goals
    clear x0 x1 x2 x3 x4 y0 y1 y2 y3 y4 z0 z1 z2 z3 z4 f0 f1 f2 f3 f4
    go_wp2_with fail
    obtain ⟨y0, y1, y2, y3, y4, _, _, _, _, _⟩ := boxT_facts HX9.out
    exact bodyPost_ret (v := .tuple #[pv 1 rr, .bool bb]) (by simp [results, Tryz.results103, go_sem, y0, y1, y2, y3, y4]) rfl ⟨by rw [HBB.out, HRR.out], HBX9.out⟩
set_option maxRecDepth 100000 in
set_option maxHeartbeats 2000000 in
theorem raSub (so nu : Int) (nm : ByteArray) (C K : Option Addr) (cn cc kc : Nat) (x y : VA) (w : World) (hk : LiesVs w K [x, y]) (hx : bndB x.v.nu = true) (hy : bndB y.v.nu = true) : Calls Tryz.prog 103 #[nv 5 so nm nu (.slice C cn cc), .slice K 2 kc] w fun e w' => e = .returned (.tuple #[pv 1 (x.v.nu - y.v.nu), .bool (bndB (x.v.nu - y.v.nu))]) ∧ RowKit.Below w.heap.size w w' := by
  obtain ⟨W, hW⟩ : ∃ W, (w.alloc (.cells #[.int .i64 5, .int .i64 so, .string nm, .int .i64 nu, .slice C cn cc] 44)).alloc (.cells #[.int .i64 0, .int .i64 0, .slice none 0 0, .slice none 0 0, .slice none 0 0] 27) = W := ⟨_, rfl⟩
  have HB := Lib.hid (show RowKit.Below w.heap.size w W by rw [← hW]; exact ((RowKit.Below.refl _ _).alloc (Nat.le_refl _) _).alloc (by rw [one_size]; omega) _)
  have HP := Lib.hid (show W.heap[w.heap.size]? = some (.cells #[.int .i64 5, .int .i64 so, .string nm, .int .i64 nu, .slice C cn cc] 44) by rw [← hW]; exact two_fst _ _ _)
  have HQ := Lib.hid (show W.heap[w.heap.size + 1]? = some (.cells #[.int .i64 0, .int .i64 0, .slice none 0 0, .slice none 0 0, .slice none 0 0] 27) by rw [← hW]; exact two_snd _ _ _)
  have HSZ := Lib.hid (show W.heap.size = w.heap.size + 2 by rw [← hW]; exact two_size _ _ _)
  have HKW := Lib.hid (hk.later HB.out)
  obtain ⟨b, o, rfl, hf, hg, hlx, hly⟩ := kids2 HKW.out
  obtain ⟨x0, x1, x2, x3, x4⟩ := hf
  obtain ⟨y0, y1, y2, y3, y4⟩ := hg
  have h1 := bnd_of hx
  have h2 := bnd_of hy
  have hwr : IntKind.i64.wrap (x.v.nu - y.v.nu) = x.v.nu - y.v.nu := wrap_in (by omega) (by omega)
  have KQ := Lib.hid (fun (W' : World) (h : RowKit.Below W.drew.heap.size W.drew W') => (h.block (w.heap.size + 1) (Array.getElem?_eq_some_iff.1 HQ.out).1).trans HQ.out)
  have KB := Lib.hid (fun (W' : World) (h : RowKit.Below W.drew.heap.size W.drew W') => HB.out.trans (((RowKit.Below.refl W.heap.size W).drew.trans (h.mono (Nat.le_refl _))).mono HB.out.size))
  obtain ⟨bb, hbb⟩ : ∃ bb, bndB (x.v.nu - y.v.nu) = bb := ⟨_, rfl⟩
  obtain ⟨rr, hrr⟩ : ∃ rr, x.v.nu - y.v.nu = rr := ⟨_, rfl⟩
  have HC := Lib.hid (fun W' => (show Calls Tryz.prog 130 #[.int .i64 (x.v.nu - y.v.nu)] W' fun e w' => e = .returned (.tuple #[pv 1 rr, .bool bb]) ∧ RowKit.Below W'.heap.size W' w' from by first | (rw [← hbb, ← hrr]; exact refNumber_any _ W') | (rw [← hbb]; simp only [← hrr]; exact refNumber_any _ W')))
  have HBB := Lib.hid hbb
  have HRR := Lib.hid hrr
  clear hbb hrr
  have HW := Lib.hid hW
  clear hW hk
  obtain ⟨z0, z1, z2, z3, z4, f0, f1, f2, f3, f4⟩ := boxT_facts HP.out
  go_enter Tryz.func103, Tryz.ntmps103
  go_upto_region 1 with fail
  rw [HW.out]
  go_wp2_with fail
  go_region_with ((go_at_call 130; ((with_reducible refine (HC.out _).mono ?_); rintro e w9 ⟨rfl, b9⟩; clear z0 z1 z2 z3 z4 f0 f1 f2 f3 f4; obtain ⟨z0, z1, z2, z3, z4, f0, f1, f2, f3, f4⟩ := boxT_facts (KQ.out _ b9); have HX9 := Lib.hid (setT_same (.int .i64 1) (.int .i64 rr) (.slice none 0 0) (.slice none 0 0) (.slice none 0 0) (KQ.out _ b9)); have HBX9 := Lib.hid (Below.set5 (KB.out _ b9) (b := w.heap.size + 1) (by omega) (.int .i64 1) (.int .i64 rr) (.slice none 0 0) (.slice none 0 0) (.slice none 0 0)); clear b9)))
  all_goals
    clear x0 x1 x2 x3 x4 y0 y1 y2 y3 y4 z0 z1 z2 z3 z4 f0 f1 f2 f3 f4
    go_wp2_with fail
    obtain ⟨y0, y1, y2, y3, y4, _, _, _, _, _⟩ := boxT_facts HX9.out
    exact bodyPost_ret (v := .tuple #[pv 1 rr, .bool bb]) (by simp [results, Tryz.results103, go_sem, y0, y1, y2, y3, y4]) rfl ⟨by rw [HBB.out, HRR.out], HBX9.out⟩
set_option maxRecDepth 100000 in
set_option maxHeartbeats 2000000 in
theorem raNeg (so nu : Int) (nm : ByteArray) (C K : Option Addr) (cn cc kc : Nat) (x : VA) (w : World) (hk : LiesVs w K [x]) (hx : bndB x.v.nu = true) : Calls Tryz.prog 103 #[nv 6 so nm nu (.slice C cn cc), .slice K 1 kc] w fun e w' => e = .returned (.tuple #[pv 1 (-x.v.nu), .bool (bndB (-x.v.nu))]) ∧ RowKit.Below w.heap.size w w' := by
  obtain ⟨W, hW⟩ : ∃ W, (w.alloc (.cells #[.int .i64 6, .int .i64 so, .string nm, .int .i64 nu, .slice C cn cc] 44)).alloc (.cells #[.int .i64 0, .int .i64 0, .slice none 0 0, .slice none 0 0, .slice none 0 0] 27) = W := ⟨_, rfl⟩
  have HB := Lib.hid (show RowKit.Below w.heap.size w W by rw [← hW]; exact ((RowKit.Below.refl _ _).alloc (Nat.le_refl _) _).alloc (by rw [one_size]; omega) _)
  have HP := Lib.hid (show W.heap[w.heap.size]? = some (.cells #[.int .i64 6, .int .i64 so, .string nm, .int .i64 nu, .slice C cn cc] 44) by rw [← hW]; exact two_fst _ _ _)
  have HQ := Lib.hid (show W.heap[w.heap.size + 1]? = some (.cells #[.int .i64 0, .int .i64 0, .slice none 0 0, .slice none 0 0, .slice none 0 0] 27) by rw [← hW]; exact two_snd _ _ _)
  have HSZ := Lib.hid (show W.heap.size = w.heap.size + 2 by rw [← hW]; exact two_size _ _ _)
  have HKW := Lib.hid (hk.later HB.out)
  obtain ⟨b, o, rfl, hf, hlx⟩ := kids1 HKW.out
  obtain ⟨x0, x1, x2, x3, x4⟩ := hf
  have h1 := bnd_of hx
  have hwr : IntKind.i64.wrap (-x.v.nu) = -x.v.nu := wrap_in (by omega) (by omega)
  have HW := Lib.hid hW
  clear hW hk
  obtain ⟨z0, z1, z2, z3, z4, f0, f1, f2, f3, f4⟩ := boxT_facts HP.out
  go_enter Tryz.func103, Tryz.ntmps103
  go_upto_region 1 with fail
  rw [HW.out]
  go_wp2_with fail
  refine (refNumber_any (-x.v.nu) _).mono ?_
  rintro e w9 ⟨rfl, b9⟩
  have hw9 := (RowKit.Below.refl W.heap.size W).trans (b9.mono (RowKit.Below.refl W.heap.size W).size)
  have hb9 := HB.out.trans (hw9.mono HB.out.size)
  have hQ9 := (hw9.block _ (Array.getElem?_eq_some_iff.1 HQ.out).1).trans HQ.out
  have HX9 := Lib.hid (setT_same (.int .i64 1) (.int .i64 (-x.v.nu)) (.slice none 0 0) (.slice none 0 0) (.slice none 0 0) hQ9)
  have HBX9 := Lib.hid (Below.set5 hb9 (b := w.heap.size + 1) (by omega) (.int .i64 1) (.int .i64 (-x.v.nu)) (.slice none 0 0) (.slice none 0 0) (.slice none 0 0))
  clear b9 hb9 hw9 x0 x1 x2 x3 x4 z0 z1 z2 z3 z4 f0 f1 f2 f3 f4
  obtain ⟨z0, z1, z2, z3, z4, f0, f1, f2, f3, f4⟩ := boxT_facts hQ9
  clear hQ9
  obtain ⟨bb, hbb⟩ : ∃ bb, bndB (-x.v.nu) = bb := ⟨_, rfl⟩
  rw [hbb]
  have HBB := Lib.hid hbb
  clear hbb
  go_wp2_with fail
  clear z0 z1 z2 z3 z4 f0 f1 f2 f3 f4
  obtain ⟨y0, y1, y2, y3, y4, _, _, _, _, _⟩ := boxT_facts HX9.out
  exact bodyPost_ret (v := .tuple #[pv 1 (-x.v.nu), .bool bb]) (by simp [results, Tryz.results103, go_sem, y0, y1, y2, y3, y4]) rfl ⟨by rw [HBB.out], HBX9.out⟩
set_option maxRecDepth 100000 in
set_option maxHeartbeats 2000000 in
theorem raScale (so nu : Int) (nm : ByteArray) (C K : Option Addr) (cn cc kc : Nat) (x : VA) (w : World) (hk : LiesVs w K [x]) (hx : bndB x.v.nu = true) (hn1 : -1000000000000 ≤ nu) (hn2 : nu ≤ 1000000000000) : Calls Tryz.prog 103 #[nv 7 so nm nu (.slice C cn cc), .slice K 1 kc] w fun e w' => e = .returned (.tuple #[pv 1 (sclI nu x.v.nu), .bool (bndB (nu * x.v.nu))]) ∧ RowKit.Below w.heap.size w w' := by
  obtain ⟨W, hW⟩ : ∃ W, (w.alloc (.cells #[.int .i64 7, .int .i64 so, .string nm, .int .i64 nu, .slice C cn cc] 44)).alloc (.cells #[.int .i64 0, .int .i64 0, .slice none 0 0, .slice none 0 0, .slice none 0 0] 27) = W := ⟨_, rfl⟩
  have HB := Lib.hid (show RowKit.Below w.heap.size w W by rw [← hW]; exact ((RowKit.Below.refl _ _).alloc (Nat.le_refl _) _).alloc (by rw [one_size]; omega) _)
  have HP := Lib.hid (show W.heap[w.heap.size]? = some (.cells #[.int .i64 7, .int .i64 so, .string nm, .int .i64 nu, .slice C cn cc] 44) by rw [← hW]; exact two_fst _ _ _)
  have HQ := Lib.hid (show W.heap[w.heap.size + 1]? = some (.cells #[.int .i64 0, .int .i64 0, .slice none 0 0, .slice none 0 0, .slice none 0 0] 27) by rw [← hW]; exact two_snd _ _ _)
  have HSZ := Lib.hid (show W.heap.size = w.heap.size + 2 by rw [← hW]; exact two_size _ _ _)
  have HKW := Lib.hid (hk.later HB.out)
  obtain ⟨b, o, rfl, hf, hlx⟩ := kids1 HKW.out
  obtain ⟨x0, x1, x2, x3, x4⟩ := hf
  have KQ := Lib.hid (fun (W' : World) (h : RowKit.Below W.drew.heap.size W.drew W') => (h.block (w.heap.size + 1) (Array.getElem?_eq_some_iff.1 HQ.out).1).trans HQ.out)
  have KB := Lib.hid (fun (W' : World) (h : RowKit.Below W.drew.heap.size W.drew W') => HB.out.trans (((RowKit.Below.refl W.heap.size W).drew.trans (h.mono (Nat.le_refl _))).mono HB.out.size))
  obtain ⟨bb, hbb⟩ : ∃ bb, bndB (nu * x.v.nu) = bb := ⟨_, rfl⟩
  obtain ⟨rr, hrr⟩ : ∃ rr, sclI nu x.v.nu = rr := ⟨_, rfl⟩
  have HC := Lib.hid (fun W' => (show Calls Tryz.prog 131 #[.int .i64 nu, .int .i64 x.v.nu] W' fun e w' => e = .returned (.tuple #[pv 1 rr, .bool bb]) ∧ RowKit.Below W'.heap.size W' w' from by first | (rw [← hbb, ← hrr]; exact refScaled_any nu x.v.nu W' hn1 hn2 (bnd_of hx).1 (bnd_of hx).2) | (rw [← hbb]; simp only [← hrr]; exact refScaled_any nu x.v.nu W' hn1 hn2 (bnd_of hx).1 (bnd_of hx).2)))
  have HBB := Lib.hid hbb
  have HRR := Lib.hid hrr
  clear hbb hrr
  have HW := Lib.hid hW
  clear hW hk
  obtain ⟨z0, z1, z2, z3, z4, f0, f1, f2, f3, f4⟩ := boxT_facts HP.out
  go_enter Tryz.func103, Tryz.ntmps103
  go_upto_region 1 with fail
  rw [HW.out]
  go_wp2_with fail
  go_region_with ((go_at_call 131; ((with_reducible refine (HC.out _).mono ?_); rintro e w9 ⟨rfl, b9⟩; clear z0 z1 z2 z3 z4 f0 f1 f2 f3 f4; obtain ⟨z0, z1, z2, z3, z4, f0, f1, f2, f3, f4⟩ := boxT_facts (KQ.out _ b9); have HX9 := Lib.hid (setT_same (.int .i64 1) (.int .i64 rr) (.slice none 0 0) (.slice none 0 0) (.slice none 0 0) (KQ.out _ b9)); have HBX9 := Lib.hid (Below.set5 (KB.out _ b9) (b := w.heap.size + 1) (by omega) (.int .i64 1) (.int .i64 rr) (.slice none 0 0) (.slice none 0 0) (.slice none 0 0)); clear b9)))
  all_goals
    clear x0 x1 x2 x3 x4 z0 z1 z2 z3 z4 f0 f1 f2 f3 f4
    go_wp2_with fail
    obtain ⟨y0, y1, y2, y3, y4, _, _, _, _, _⟩ := boxT_facts HX9.out
    exact bodyPost_ret (v := .tuple #[pv 1 rr, .bool bb]) (by simp [results, Tryz.results103, go_sem, y0, y1, y2, y3, y4]) rfl ⟨by rw [HBB.out, HRR.out], HBX9.out⟩
set_option maxRecDepth 100000 in
set_option maxHeartbeats 2000000 in
theorem raLen (so nu : Int) (nm : ByteArray) (C K : Option Addr) (cn cc kc : Nat) (x : VA) (w : World) (hk : LiesVs w K [x]) : Calls Tryz.prog 103 #[nv 16 so nm nu (.slice C cn cc), .slice K 1 kc] w fun e w' => e = .returned (.tuple #[pv 1 (x.v.nu), .bool (bndB (x.v.nu))]) ∧ RowKit.Below w.heap.size w w' := by
  obtain ⟨W, hW⟩ : ∃ W, (w.alloc (.cells #[.int .i64 16, .int .i64 so, .string nm, .int .i64 nu, .slice C cn cc] 44)).alloc (.cells #[.int .i64 0, .int .i64 0, .slice none 0 0, .slice none 0 0, .slice none 0 0] 27) = W := ⟨_, rfl⟩
  have HB := Lib.hid (show RowKit.Below w.heap.size w W by rw [← hW]; exact ((RowKit.Below.refl _ _).alloc (Nat.le_refl _) _).alloc (by rw [one_size]; omega) _)
  have HP := Lib.hid (show W.heap[w.heap.size]? = some (.cells #[.int .i64 16, .int .i64 so, .string nm, .int .i64 nu, .slice C cn cc] 44) by rw [← hW]; exact two_fst _ _ _)
  have HQ := Lib.hid (show W.heap[w.heap.size + 1]? = some (.cells #[.int .i64 0, .int .i64 0, .slice none 0 0, .slice none 0 0, .slice none 0 0] 27) by rw [← hW]; exact two_snd _ _ _)
  have HSZ := Lib.hid (show W.heap.size = w.heap.size + 2 by rw [← hW]; exact two_size _ _ _)
  have HKW := Lib.hid (hk.later HB.out)
  obtain ⟨b, o, rfl, hf, hlx⟩ := kids1 HKW.out
  obtain ⟨x0, x1, x2, x3, x4⟩ := hf
  have HW := Lib.hid hW
  clear hW hk
  obtain ⟨z0, z1, z2, z3, z4, f0, f1, f2, f3, f4⟩ := boxT_facts HP.out
  go_enter Tryz.func103, Tryz.ntmps103
  go_upto_region 1 with fail
  rw [HW.out]
  go_wp2_with fail
  refine (refNumber_any (x.v.nu) _).mono ?_
  rintro e w9 ⟨rfl, b9⟩
  have hw9 := (RowKit.Below.refl W.heap.size W).trans (b9.mono (RowKit.Below.refl W.heap.size W).size)
  have hb9 := HB.out.trans (hw9.mono HB.out.size)
  have hQ9 := (hw9.block _ (Array.getElem?_eq_some_iff.1 HQ.out).1).trans HQ.out
  have HX9 := Lib.hid (setT_same (.int .i64 1) (.int .i64 (x.v.nu)) (.slice none 0 0) (.slice none 0 0) (.slice none 0 0) hQ9)
  have HBX9 := Lib.hid (Below.set5 hb9 (b := w.heap.size + 1) (by omega) (.int .i64 1) (.int .i64 (x.v.nu)) (.slice none 0 0) (.slice none 0 0) (.slice none 0 0))
  clear b9 hb9 hw9 x0 x1 x2 x3 x4 z0 z1 z2 z3 z4 f0 f1 f2 f3 f4
  obtain ⟨z0, z1, z2, z3, z4, f0, f1, f2, f3, f4⟩ := boxT_facts hQ9
  clear hQ9
  obtain ⟨bb, hbb⟩ : ∃ bb, bndB (x.v.nu) = bb := ⟨_, rfl⟩
  rw [hbb]
  have HBB := Lib.hid hbb
  clear hbb
  go_wp2_with fail
  clear z0 z1 z2 z3 z4 f0 f1 f2 f3 f4
  obtain ⟨y0, y1, y2, y3, y4, _, _, _, _, _⟩ := boxT_facts HX9.out
  exact bodyPost_ret (v := .tuple #[pv 1 (x.v.nu), .bool bb]) (by simp [results, Tryz.results103, go_sem, y0, y1, y2, y3, y4]) rfl ⟨by rw [HBB.out], HBX9.out⟩
set_option maxRecDepth 100000 in
set_option maxHeartbeats 2000000 in
theorem raEmpty (so nu : Int) (nm : ByteArray) (C K : Option Addr) (cn cc kc : Nat) (w : World) : Calls Tryz.prog 103 #[nv 9 so nm nu (.slice C cn cc), .slice K 0 kc] w fun e w' => e = .returned (.tuple #[.agg #[.int .i64 4, .int .i64 0, .slice none 0 0, .slice none 0 0, .slice none 0 0], .bool true]) ∧ RowKit.Below w.heap.size w w' := by
  obtain ⟨W, hW⟩ : ∃ W, (w.alloc (.cells #[.int .i64 9, .int .i64 so, .string nm, .int .i64 nu, .slice C cn cc] 44)).alloc (.cells #[.int .i64 0, .int .i64 0, .slice none 0 0, .slice none 0 0, .slice none 0 0] 27) = W := ⟨_, rfl⟩
  have HB := Lib.hid (show RowKit.Below w.heap.size w W by rw [← hW]; exact ((RowKit.Below.refl _ _).alloc (Nat.le_refl _) _).alloc (by rw [one_size]; omega) _)
  have HP := Lib.hid (show W.heap[w.heap.size]? = some (.cells #[.int .i64 9, .int .i64 so, .string nm, .int .i64 nu, .slice C cn cc] 44) by rw [← hW]; exact two_fst _ _ _)
  have HQ := Lib.hid (show W.heap[w.heap.size + 1]? = some (.cells #[.int .i64 0, .int .i64 0, .slice none 0 0, .slice none 0 0, .slice none 0 0] 27) by rw [← hW]; exact two_snd _ _ _)
  have HSZ := Lib.hid (show W.heap.size = w.heap.size + 2 by rw [← hW]; exact two_size _ _ _)
  have HW := Lib.hid hW
  clear hW
  have HX9 := Lib.hid (setT_same (.int .i64 4) (.int .i64 0) (.slice none 0 0) (.slice none 0 0) (.slice none 0 0) HQ.out)
  have HBX9 := Lib.hid (Below.set5 HB.out (b := w.heap.size + 1) (by omega) (.int .i64 4) (.int .i64 0) (.slice none 0 0) (.slice none 0 0) (.slice none 0 0))
  obtain ⟨y0, y1, y2, y3, y4, g0, g1, g2, g3, g4⟩ := boxT_facts HQ.out
  obtain ⟨z0, z1, z2, z3, z4, f0, f1, f2, f3, f4⟩ := boxT_facts HP.out
  go_enter Tryz.func103, Tryz.ntmps103
  go_upto_region 1 with fail
  rw [HW.out]
  go_wp2_with fail
  clear z0 z1 z2 z3 z4 f0 f1 f2 f3 f4 y0 y1 y2 y3 y4 g0 g1 g2 g3 g4
  obtain ⟨y0, y1, y2, y3, y4, _, _, _, _, _⟩ := boxT_facts HX9.out
  exact bodyPost_ret (v := .tuple #[.agg #[.int .i64 4, .int .i64 0, .slice none 0 0, .slice none 0 0, .slice none 0 0], .bool true]) (by simp [results, Tryz.results103, go_sem, y0, y1, y2, y3, y4]) rfl ⟨rfl, HBX9.out⟩
set_option maxRecDepth 100000 in
set_option maxHeartbeats 2000000 in
theorem raIte (so nu : Int) (nm : ByteArray) (C K : Option Addr) (cn cc kc : Nat) (x y z : VA) (w : World) (hk : LiesVs w K [x, y, z]) : Calls Tryz.prog 103 #[nv 8 so nm nu (.slice C cn cc), .slice K 3 kc] w fun e w' => e = .returned (.tuple #[vv (if (x.v.nu == 1) = true then y else z), .bool true]) ∧ RowKit.Below w.heap.size w w' := by
  obtain ⟨W, hW⟩ : ∃ W, (w.alloc (.cells #[.int .i64 8, .int .i64 so, .string nm, .int .i64 nu, .slice C cn cc] 44)).alloc (.cells #[.int .i64 0, .int .i64 0, .slice none 0 0, .slice none 0 0, .slice none 0 0] 27) = W := ⟨_, rfl⟩
  have HB := Lib.hid (show RowKit.Below w.heap.size w W by rw [← hW]; exact ((RowKit.Below.refl _ _).alloc (Nat.le_refl _) _).alloc (by rw [one_size]; omega) _)
  have HP := Lib.hid (show W.heap[w.heap.size]? = some (.cells #[.int .i64 8, .int .i64 so, .string nm, .int .i64 nu, .slice C cn cc] 44) by rw [← hW]; exact two_fst _ _ _)
  have HQ := Lib.hid (show W.heap[w.heap.size + 1]? = some (.cells #[.int .i64 0, .int .i64 0, .slice none 0 0, .slice none 0 0, .slice none 0 0] 27) by rw [← hW]; exact two_snd _ _ _)
  have HSZ := Lib.hid (show W.heap.size = w.heap.size + 2 by rw [← hW]; exact two_size _ _ _)
  have HKW := Lib.hid (hk.later HB.out)
  obtain ⟨b, o, rfl, hf, hg, hh, hlx, hly, hlz⟩ := kids3 HKW.out
  obtain ⟨x0, x1, x2, x3, x4⟩ := hf
  obtain ⟨y0, y1, y2, y3, y4⟩ := hg
  obtain ⟨c0, c1, c2, c3, c4⟩ := hh
  have HW := Lib.hid hW
  clear hW hk
  obtain ⟨g0, g1, g2, g3, g4, k0, k1, k2, k3, k4⟩ := boxT_facts HQ.out
  cases hc : (x.v.nu == 1)
  · have HX9 := Lib.hid (setT_same (.int .i64 z.v.so) (.int .i64 z.v.nu) (.slice z.a1 z.v.st.length z.c1) (.slice z.a2 z.v.ix.length z.c2) (.slice z.a3 z.v.xs.length z.c3) HQ.out)
    have HBX9 := Lib.hid (Below.set5 HB.out (b := w.heap.size + 1) (by omega) (.int .i64 z.v.so) (.int .i64 z.v.nu) (.slice z.a1 z.v.st.length z.c1) (.slice z.a2 z.v.ix.length z.c2) (.slice z.a3 z.v.xs.length z.c3))
    have HC := Lib.hid hc
    obtain ⟨z0, z1, z2, z3, z4, f0, f1, f2, f3, f4⟩ := boxT_facts HP.out
    go_enter Tryz.func103, Tryz.ntmps103
    go_upto_region 1 with fail
    rw [HW.out]
    go_wp2_with fail
    clear z0 z1 z2 z3 z4 f0 f1 f2 f3 f4 g0 g1 g2 g3 g4 k0 k1 k2 k3 k4 x0 x1 x2 x3 x4 y0 y1 y2 y3 y4 c0 c1 c2 c3 c4 
    obtain ⟨y0, y1, y2, y3, y4, _, _, _, _, _⟩ := boxT_facts HX9.out
    exact bodyPost_ret (v := .tuple #[vv z, .bool true]) (by simp [results, Tryz.results103, go_sem, y0, y1, y2, y3, y4]) rfl ⟨rfl, HBX9.out⟩
  · have HX9 := Lib.hid (setT_same (.int .i64 y.v.so) (.int .i64 y.v.nu) (.slice y.a1 y.v.st.length y.c1) (.slice y.a2 y.v.ix.length y.c2) (.slice y.a3 y.v.xs.length y.c3) HQ.out)
    have HBX9 := Lib.hid (Below.set5 HB.out (b := w.heap.size + 1) (by omega) (.int .i64 y.v.so) (.int .i64 y.v.nu) (.slice y.a1 y.v.st.length y.c1) (.slice y.a2 y.v.ix.length y.c2) (.slice y.a3 y.v.xs.length y.c3))
    have HC := Lib.hid hc
    obtain ⟨z0, z1, z2, z3, z4, f0, f1, f2, f3, f4⟩ := boxT_facts HP.out
    go_enter Tryz.func103, Tryz.ntmps103
    go_upto_region 1 with fail
    rw [HW.out]
    go_wp2_with fail
    clear z0 z1 z2 z3 z4 f0 f1 f2 f3 f4 g0 g1 g2 g3 g4 k0 k1 k2 k3 k4 x0 x1 x2 x3 x4 y0 y1 y2 y3 y4 c0 c1 c2 c3 c4 
    obtain ⟨y0, y1, y2, y3, y4, _, _, _, _, _⟩ := boxT_facts HX9.out
    exact bodyPost_ret (v := .tuple #[vv y, .bool true]) (by simp [results, Tryz.results103, go_sem, y0, y1, y2, y3, y4]) rfl ⟨rfl, HBX9.out⟩
set_option maxRecDepth 100000 in
set_option maxHeartbeats 2000000 in
theorem raSel (so nu : Int) (nm : ByteArray) (C K : Option Addr) (cn cc kc : Nat) (x y : VA) (w : World) (hk : LiesVs w K [x, y]) (hl : x.v.ix.length ≤ 100000) (ha : AscI x.v.ix) (hlen : x.v.xs.length = x.v.ix.length) : Calls Tryz.prog 103 #[nv 14 so nm nu (.slice C cn cc), .slice K 2 kc] w fun e w' => e = .returned (.tuple #[pv 1 (atI x.v.ix x.v.xs y.v.nu), .bool (bndB (atI x.v.ix x.v.xs y.v.nu))]) ∧ RowKit.Below w.heap.size w w' := by
  obtain ⟨W, hW⟩ : ∃ W, (w.alloc (.cells #[.int .i64 14, .int .i64 so, .string nm, .int .i64 nu, .slice C cn cc] 44)).alloc (.cells #[.int .i64 0, .int .i64 0, .slice none 0 0, .slice none 0 0, .slice none 0 0] 27) = W := ⟨_, rfl⟩
  have HB := Lib.hid (show RowKit.Below w.heap.size w W by rw [← hW]; exact ((RowKit.Below.refl _ _).alloc (Nat.le_refl _) _).alloc (by rw [one_size]; omega) _)
  have HP := Lib.hid (show W.heap[w.heap.size]? = some (.cells #[.int .i64 14, .int .i64 so, .string nm, .int .i64 nu, .slice C cn cc] 44) by rw [← hW]; exact two_fst _ _ _)
  have HQ := Lib.hid (show W.heap[w.heap.size + 1]? = some (.cells #[.int .i64 0, .int .i64 0, .slice none 0 0, .slice none 0 0, .slice none 0 0] 27) by rw [← hW]; exact two_snd _ _ _)
  have HSZ := Lib.hid (show W.heap.size = w.heap.size + 2 by rw [← hW]; exact two_size _ _ _)
  have HKW := Lib.hid (hk.later HB.out)
  obtain ⟨b, o, rfl, hf, hg, hlx, hly⟩ := kids2 HKW.out
  obtain ⟨x0, x1, x2, x3, x4⟩ := hf
  obtain ⟨y0, y1, y2, y3, y4⟩ := hg
  have HS := Lib.hid (fun (W' : World) (h : RowKit.Below W.heap.size W W') => refAt_any x y.v.nu W' (hlx.later h) hl ha hlen)
  clear ha hlen hl
  have KQ := Lib.hid (fun (W' : World) (h : RowKit.Below W.drew.heap.size W.drew W') => (h.block (w.heap.size + 1) (Array.getElem?_eq_some_iff.1 HQ.out).1).trans HQ.out)
  have KB := Lib.hid (fun (W' : World) (h : RowKit.Below W.drew.heap.size W.drew W') => HB.out.trans (((RowKit.Below.refl W.heap.size W).drew.trans (h.mono (Nat.le_refl _))).mono HB.out.size))
  obtain ⟨bb, hbb⟩ : ∃ bb, bndB (atI x.v.ix x.v.xs y.v.nu) = bb := ⟨_, rfl⟩
  obtain ⟨rr, hrr⟩ : ∃ rr, atI x.v.ix x.v.xs y.v.nu = rr := ⟨_, rfl⟩
  have HC := Lib.hid (fun W' => (show Calls Tryz.prog 130 #[.int .i64 rr] W' fun e w' => e = .returned (.tuple #[pv 1 rr, .bool bb]) ∧ RowKit.Below W'.heap.size W' w' from by first | (rw [← hbb, ← hrr]; exact refNumber_any _ W') | (rw [← hbb]; simp only [← hrr]; exact refNumber_any _ W')))
  have HBB := Lib.hid hbb
  have HRR := Lib.hid hrr
  clear hbb 
  have HW := Lib.hid hW
  clear hW hk
  obtain ⟨z0, z1, z2, z3, z4, f0, f1, f2, f3, f4⟩ := boxT_facts HP.out
  go_enter Tryz.func103, Tryz.ntmps103
  go_upto_region 1 with fail
  rw [HW.out]
  go_wp2_with fail
  have HD := Lib.hid ((RowKit.Below.refl W.heap.size W).drew)
  have HRQ := Lib.hid hrr
  clear hrr
  go_region_with (first | (go_at_call 133; ((with_reducible refine (HS.out _ HD.out).mono ?_); rintro e w8 ⟨rfl, b8⟩; rw [HRQ.out])) | (go_at_call 130; ((with_reducible refine (HC.out _).mono ?_); rintro e w9 ⟨rfl, b9⟩; clear z0 z1 z2 z3 z4 f0 f1 f2 f3 f4; obtain ⟨z0, z1, z2, z3, z4, f0, f1, f2, f3, f4⟩ := boxT_facts (KQ.out _ (b8.trans (b9.mono b8.size))); have HX9 := Lib.hid (setT_same (.int .i64 1) (.int .i64 rr) (.slice none 0 0) (.slice none 0 0) (.slice none 0 0) (KQ.out _ (b8.trans (b9.mono b8.size)))); have HBX9 := Lib.hid (Below.set5 (KB.out _ (b8.trans (b9.mono b8.size))) (b := w.heap.size + 1) (by omega) (.int .i64 1) (.int .i64 rr) (.slice none 0 0) (.slice none 0 0) (.slice none 0 0)); clear b9)))
  all_goals
    clear x0 x1 x2 x3 x4 y0 y1 y2 y3 y4 z0 z1 z2 z3 z4 f0 f1 f2 f3 f4
    go_wp2_with fail
    obtain ⟨y0, y1, y2, y3, y4, _, _, _, _, _⟩ := boxT_facts HX9.out
    exact bodyPost_ret (v := .tuple #[pv 1 rr, .bool bb]) (by simp [results, Tryz.results103, go_sem, y0, y1, y2, y3, y4]) rfl ⟨by rw [HBB.out, HRR.out], HBX9.out⟩
set_option maxRecDepth 100000 in
set_option maxHeartbeats 2000000 in
theorem raSing (so nu : Int) (nm : ByteArray) (C K : Option Addr) (cn cc kc : Nat) (x : VA) (w : World) (hk : LiesVs w K [x]) : Calls Tryz.prog 103 #[nv 10 so nm nu (.slice C cn cc), .slice K 1 kc] w fun e w' => (∃ A' c, e = .returned (.tuple #[.agg #[.int .i64 4, .int .i64 0, .slice A' 1 c, .slice none 0 0, .slice none 0 0], .bool true]) ∧ RobI w.heap.size w' A' [x.v.nu]) ∧ RowKit.Below w.heap.size w w' := by
  obtain ⟨W, hW⟩ : ∃ W, (w.alloc (.cells #[.int .i64 10, .int .i64 so, .string nm, .int .i64 nu, .slice C cn cc] 44)).alloc (.cells #[.int .i64 0, .int .i64 0, .slice none 0 0, .slice none 0 0, .slice none 0 0] 27) = W := ⟨_, rfl⟩
  have HB := Lib.hid (show RowKit.Below w.heap.size w W by rw [← hW]; exact ((RowKit.Below.refl _ _).alloc (Nat.le_refl _) _).alloc (by rw [one_size]; omega) _)
  have HP := Lib.hid (show W.heap[w.heap.size]? = some (.cells #[.int .i64 10, .int .i64 so, .string nm, .int .i64 nu, .slice C cn cc] 44) by rw [← hW]; exact two_fst _ _ _)
  have HQ := Lib.hid (show W.heap[w.heap.size + 1]? = some (.cells #[.int .i64 0, .int .i64 0, .slice none 0 0, .slice none 0 0, .slice none 0 0] 27) by rw [← hW]; exact two_snd _ _ _)
  have HSZ := Lib.hid (show W.heap.size = w.heap.size + 2 by rw [← hW]; exact two_size _ _ _)
  have HKW := Lib.hid (hk.later HB.out)
  obtain ⟨b, o, rfl, hf, hlx⟩ := kids1 HKW.out
  obtain ⟨x0, x1, x2, x3, x4⟩ := hf
  have HW := Lib.hid hW
  clear hW hk
  obtain ⟨W2, hW2⟩ : ∃ W2, W.alloc (.cells #[.int .i64 x.v.nu] 2) = W2 := ⟨_, rfl⟩
  have g2 : RowKit.Below W.heap.size W W2 := by rw [← hW2]; exact (RowKit.Below.refl _ _).alloc (Nat.le_refl _) _
  have hr2 : W2.heap[W.heap.size]? = some (.cells #[.int .i64 x.v.nu] 2 (0, 0)) := by rw [← hW2]; exact heap_alloc_new _ _
  have hQ2 := (g2.block _ (Array.getElem?_eq_some_iff.1 HQ.out).1).trans HQ.out
  have HX9 := Lib.hid (setT_same (.int .i64 4) (.int .i64 0) (.slice (some ⟨W.heap.size, 0, none⟩) 1 1) (.slice none 0 0) (.slice none 0 0) hQ2)
  have HBX9 := Lib.hid (Below.set5 (HB.out.trans (g2.mono HB.out.size)) (b := w.heap.size + 1) (by omega) (.int .i64 4) (.int .i64 0) (.slice (some ⟨W.heap.size, 0, none⟩) 1 1) (.slice none 0 0) (.slice none 0 0))
  have HROB := Lib.hid (show RobI w.heap.size (set5 W2 (w.heap.size + 1) (.int .i64 4) (.int .i64 0) (.slice (some ⟨W.heap.size, 0, none⟩) 1 1) (.slice none 0 0) (.slice none 0 0)) (some ⟨W.heap.size, 0, none⟩) [x.v.nu] from fun W' hW' => by
    have hsz := HSZ.out
    have hlt := (Array.getElem?_eq_some_iff.1 hr2).1
    have h1 := ((hW' W.heap.size (by omega) (by rw [set5_size]; exact hlt)).trans (set5_other _ _ _ _ _ (by omega))).trans hr2
    refine ⟨W.heap.size, 0, fun _ => rfl, fun i hi => ?_⟩
    have hi0 : i = 0 := by simp at hi; exact hi
    subst hi0
    simpa using cell_row h1 (i := 0) rfl)
  obtain ⟨y0, y1, y2, y3, y4, g0, g1, g2', g3, g4⟩ := boxT_facts hQ2
  clear hr2 hQ2 g2
  obtain ⟨z0, z1, z2, z3, z4, f0, f1, f2, f3, f4⟩ := boxT_facts HP.out
  go_enter Tryz.func103, Tryz.ntmps103
  go_upto_region 1 with fail
  rw [HW.out]
  subst hW2
  go_wp2_with fail
  clear z0 z1 z2 z3 z4 f0 f1 f2 f3 f4 y0 y1 y2 y3 y4 g0 g1 g2' g3 g4 x0 x1 x2 x3 x4
  obtain ⟨y0, y1, y2, y3, y4, _, _, _, _, _⟩ := boxT_facts HX9.out
  exact bodyPost_ret (v := .tuple #[.agg #[.int .i64 4, .int .i64 0, .slice (some ⟨W.heap.size, 0, none⟩) 1 1, .slice none 0 0, .slice none 0 0], .bool true]) (by simp [results, Tryz.results103, go_sem, y0, y1, y2, y3, y4]) rfl ⟨⟨_, _, rfl, HROB.out⟩, HBX9.out⟩
end Go.Proofs.YtmeeombadkgneaaGreat
