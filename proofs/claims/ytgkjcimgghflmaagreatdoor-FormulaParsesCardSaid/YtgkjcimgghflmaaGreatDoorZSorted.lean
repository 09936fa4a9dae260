/-
  What the document's own resolved returns; conditions: the tree and the lists lie in memory, and none of the tree's lists is too long to be grown.
-/
import Derived.Deep.Cut
import Derived.RegionTactic
import Derived.BigRegion
import Derived.Test.YtgkjcimgghflmaaGreatDoorZFit
import Derived.Test.YtgkjcimgghflmaaGreatDoorZCnt
namespace Go.Proofs.YtgkjcimgghflmaaGreatDoor
set_option maxRecDepth 100000
set_option maxHeartbeats 8000000
open Go.RowKit Go.Shelf Go.WideMaps
attribute [local go_sem] Oper.semAt_some
theorem mapped_bound (mv : Value) (ks outs : List Nd) (A : Option Addr) (cap : Nat) (w : World) (hL : Lies w A cap ks) (hsh : ks.length ≤ 2199023255488) (a : Addr) (hA : A = some a) (ho : outs.length = ks.length)
  (HC : ∀ i (hi : i < ks.length) (A : Option Addr) (C : Nat) (W : World), Below w.heap.size w W → Lies W A C ks[i].ks → Calls Tryz.prog 45 #[mv, nv ks[i].op ks[i].so ks[i].nm ks[i].nu (.slice A ks[i].ks.length C)] W (RetN W (outs[i]'(by omega)))) :
  Calls Tryz.prog 78 #[.slice A ks.length cap, .func (.func 45) #[mv] #[]] w (RetL w outs) := by
 subst hA
 have hnil : ∀ W, (binOp .eql 25 (.slice (some a) ks.length cap) (.slice none 0 0)).run Tryz.prog W = .ok (.bool false) W := fun W => Lib.run_eql_slice_nil (h := Tryz.underlying25) ..
 obtain ⟨i0, hi, hz0, hz1, hz2⟩ := info_parts info27
 have I0 := Lib.hid hi
 have Z0 := Lib.hid hz0
 have Z1 := Lib.hid hz1
 have Z2 := Lib.hid hz2
 clear hi hz0 hz1 hz2
 have hn := hL.len
 unfold maxLen at hn
 have HL := Lib.hid hL
 have HCC := Lib.hid HC
 clear hL HC
 go_enter Tryz.func78, Tryz.ntmps78
 have BY : Hid (i0.bytes * ks.length ≤ 281474976710656) := by show _ ≤ _; rw [Z2.out]; omega
 have ML : Hid (ks.length ≤ maxLen) := by show _ ≤ _; unfold maxLen; omega
 go_wp2_with (at_make; refine wpList_make_full _ rfl _ _ 25 rfl w.heap.size 27 i0 _ 5 Tryz.underlying25 I0.out Z0.out Z1.out .i64 .i64 _ _ ks.length rfl rfl rfl rfl BY.out ML.out (Nat.le_refl _) ?_; intro w1 hown1 hgrow1)
 have M0 : MInv w w.heap.size ks.length [] w1 := by
  rcases hown1.2 with ⟨h, _⟩ | ⟨g, cap', cur, hv, h1, h2, h3, h4, h5, h6⟩
  ·cases h
  ·cases hv
   exact ⟨cur, [], rfl, h2, h5, by simp [flatN], fun _ h => by simp at h, fun _ h => by simp at h, (Below.refl _ _).grown hgrow1 (Nat.le_refl _) (fun k e => by cases e)⟩
 clear hown1 hgrow1
 go_loopw [15] (fun i wr => ∃ k : Nat, k ≤ ks.length ∧ i = .int .i64 k ∧ Hid (MInv w w.heap.size ks.length (outs.take k) wr)) (fun i _ => ks.length - (intOf i).toNat)
 case atStart => exact ⟨0, Nat.zero_le _, rfl, M0⟩
 case round =>
  obtain ⟨k, hk, rfl, cur, xs, hM⟩ := hrel
  have HM := Lib.hid hM
  have hBr := hM.below
  have hgz := (Array.getElem?_eq_some_iff.1 hM.row).1
  by_cases hlt : k < ks.length
  ·obtain ⟨b', o', A', C', hA', g5, hK⟩ := HL.out.kid hlt
   cases hA'
   have hFk := HL.out.fine hlt
   obtain ⟨a0, a1, a2, a3, a4⟩ := g5.later hBr
   have hK' := Lib.hid (hK.later hBr)
   have hsz := hBr.size
   have hlen : xs.length = k := by
    have := congrArg List.length hM.outs
    simp only [List.length_map, List.length_take] at this
    omega
   have c := Lib.hid (HCC.out k hlt A' C')
   have hok : k < outs.length := by omega
   have htk := Lib.hid (show outs.take (k + 1) = outs.take k ++ [outs[k]] from List.take_succ_eq_append_getElem hok)
   clear hM
   generalize outs[k] = u at *
   generalize ks[k] = q at *
   clear g5 hK HL HCC
   go_wp2_with fail
   refine (c.out _ (hBr.alloc hsz _) (hK'.out.later ((Below.refl _ _).alloc (Nat.le_refl _) _))).mono ?_
   rintro e w2 ⟨A2, C2, rfl, hrob, hFu, hb2⟩
   have hb3 : Below wr.heap.size wr w2 := ((Below.refl _ _).alloc (Nat.le_refl _) _).trans (hb2.mono (by simp))
   have HM2 := Lib.hid (HM.out.later hb3)
   have HR := Lib.hid (show Rob w.heap.size w2 (some w.heap.size) A2 C2 u.ks from hrob.newNone (fun g hg => by cases hg; simp; omega) (by simp; omega))
   have hcs := HM2.out.size
   have hrow := HM2.out.row
   obtain ⟨y0, hy0⟩ : ∃ y, cur[k * 5]? = some y := ⟨_, Array.getElem?_eq_getElem (by omega)⟩
   obtain ⟨y1, hy1⟩ : ∃ y, cur[k * 5 + 1]? = some y := ⟨_, Array.getElem?_eq_getElem (by omega)⟩
   obtain ⟨y2, hy2⟩ : ∃ y, cur[k * 5 + 2]? = some y := ⟨_, Array.getElem?_eq_getElem (by omega)⟩
   obtain ⟨y3, hy3⟩ : ∃ y, cur[k * 5 + 3]? = some y := ⟨_, Array.getElem?_eq_getElem (by omega)⟩
   obtain ⟨y4, hy4⟩ : ∃ y, cur[k * 5 + 4]? = some y := ⟨_, Array.getElem?_eq_getElem (by omega)⟩
   have z0 := cell_row hrow hy0
   have z1 := cell_row hrow hy1
   have z2 := cell_row hrow hy2
   have z3 := cell_row hrow hy3
   have z4 := cell_row hrow hy4
   have f0 := frozen_of_row w2 w.heap.size (k * 5) _ _ hrow
   have f1 := frozen_of_row w2 w.heap.size (k * 5 + 1) _ _ hrow
   have f2 := frozen_of_row w2 w.heap.size (k * 5 + 2) _ _ hrow
   have f3 := frozen_of_row w2 w.heap.size (k * 5 + 3) _ _ hrow
   have f4 := frozen_of_row w2 w.heap.size (k * 5 + 4) _ _ hrow
   have HST := Lib.hid (HM2.out.step (x := (u, A2, C2)) (Nat.le_refl _) (by omega) HR.out hFu)
   clear hrow hy0 hy1 hy2 hy3 hy4 hb2 hb3 hrob hcs a0 a1 a2 a3 a4
   go_wp2_with fail
   go_roundw
   case rel => exact ⟨k + 1, by omega, by go_num, by rw [htk.out]; have := HST.out; rw [hlen] at this; exact this⟩
   case measure => simp [intOf]; omega
  ·have hlen : xs.length = k := by
    have := congrArg List.length hM.outs
    simp only [List.length_map, List.length_take] at this
    omega
   have hrob := hM.rob (Nat.le_refl _) (by omega) ML.out
   rw [List.take_of_length_le (by omega)] at hrob
   have HR := Lib.hid hrob
   clear hrob hM
   go_wp2_with fail
   go_ret
   exact ⟨_, _, by rw [ho]; rfl, HR.out, hBr⟩
theorem run_field83 (a b c : Value) (W : World) : (Instr.field 80 (.agg #[a, b, c]) 2).run Tryz.prog W = .ok c W := by
 kernel_rfl
theorem resG_at {b : Bool} {dl : List (ByteArray × Int)} {sl : List SgA} {t : Nd} {x y : Int} (h : topR b dl sl t (t.ks.map (resG b dl sl)) = (x, y)) : resG b dl sl t = .mk x y t.nm t.nu (t.ks.map (resG b dl sl)) := by
 rw [resG_eq, h]
theorem fine_at {t : Nd} (h : Fine t) {x y : Int} (hx : (Lit.int .i64 x).wf = true) (hy : (Lit.int .i64 y).wf = true) (ks : List Nd) : Fine (.mk x y t.nm t.nu ks) := ⟨h.nm, hx, hy, h.nu⟩
theorem lookD_wf {dl : List (ByteArray × Int)} (h : ∀ d ∈ dl, (Lit.int .i64 d.2).wf = true) {s : ByteArray} {x : Int} (hx : lookD dl s = some x) : (Lit.int .i64 x).wf = true := by
 unfold lookD at hx
 obtain ⟨d, hd, rfl⟩ := Option.map_eq_some_iff.1 hx
 exact h d (List.mem_of_find?_eq_some hd)
theorem NameMap.set {W : World} {m : Nat} {f : ByteArray → Option Value} (h : NameMap W m f) {p : Addr} (hp : m ≠ p.block) (v : Value) : NameMap (W.setCell p v) m f := h.kept (heap_setCell_other W p m v hp)
theorem NameMap.later {W W' : World} {m : Nat} {f : ByteArray → Option Value} (h : NameMap W m f) (hb : Below W.heap.size W W') : NameMap W' m f := h.kept (hb.block m h.lt)
theorem sorted_any (m1 m2 : Nat) (dl : List (ByteArray × Int)) (sl : List SgA) (hdw : ∀ d ∈ dl, (Lit.int .i64 d.2).wf = true) (hsw : ∀ s, (Lit.int .i64 (sigAt sl s).1.so).wf = true) (t : Nd) : ∀ (A : Option Addr) (cap : Nat) (w : World), Lies w A cap t.ks → Fine t → Short t → NameMap w m1 (fD dl) → NameMap w m2 (fS sl) →
  Calls Tryz.prog 45 #[.agg #[.map (some m1), .map (some m2)], nv t.op t.so t.nm t.nu (.slice A t.ks.length cap)] w (RetN w (resG false dl sl t)) := by
 induction t using Nd.ind with
 | h t ih =>
 intro A cap w hL hfine hsh hm1 hm2
 have hlt1 := hm1.lt
 have hlt2 := hm2.lt
 obtain ⟨W3, hW3⟩ : ∃ W3, (((w.alloc (.cells #[.map (some m1), .map (some m2)] 74)).alloc (.cells #[.int .i64 t.op, .int .i64 t.so, .string t.nm, .int .i64 t.nu, .slice A t.ks.length cap] 27)).alloc (.cells zero5 27)) = W3 := ⟨_, rfl⟩
 have hB3 : Below w.heap.size w W3 := by
  rw [← hW3]
  exact (((Below.refl _ _).alloc (Nat.le_refl _) _).alloc (by simp) _).alloc (by simp; omega) _
 have hs3 : W3.heap.size = w.heap.size + 1 + 1 + 1 := by rw [← hW3]; simp
 have mb : W3.heap[w.heap.size]? = some (.cells #[.map (some m1), .map (some m2)] 74 (0, 0)) := by
  rw [← hW3]
  exact ((((Below.refl _ _).alloc (Nat.le_refl _) _).alloc (by simp) _).block _ (by simp)).trans (heap_alloc_new w _)
 have nb : W3.heap[w.heap.size + 1]? = some (.cells #[.int .i64 t.op, .int .i64 t.so, .string t.nm, .int .i64 t.nu, .slice A t.ks.length cap] 27 (0, 0)) := by
  rw [← hW3]
  exact (((Below.refl _ _).alloc (Nat.le_refl _) _).block _ (by simp)).trans (by have := heap_alloc_new (w.alloc (.cells #[.map (some m1), .map (some m2)] 74)) (.cells #[.int .i64 t.op, .int .i64 t.so, .string t.nm, .int .i64 t.nu, .slice A t.ks.length cap] 27); rwa [World.size_alloc] at this)
 have zb : W3.heap[w.heap.size + 1 + 1]? = some (.cells zero5 27 (0, 0)) := by
  rw [← hW3]
  have := heap_alloc_new ((w.alloc (.cells #[.map (some m1), .map (some m2)] 74)).alloc (.cells #[.int .i64 t.op, .int .i64 t.so, .string t.nm, .int .i64 t.nu, .slice A t.ks.length cap] 27)) (.cells zero5 27)
  rwa [World.size_alloc, World.size_alloc] at this
 have MB := Lib.hid mb
 have NB := Lib.hid nb
 have ZB := Lib.hid zb
 have B3 := Lib.hid hB3
 have S3 := Lib.hid hs3
 have HW := Lib.hid hW3
 have M1 := Lib.hid hm1
 have M2 := Lib.hid hm2
 have hmap : Calls Tryz.prog 78 #[.slice A t.ks.length cap, .func (.func 45) #[.agg #[.map (some m1), .map (some m2)]] #[]] W3 (RetL W3 (t.ks.map (resG false dl sl))) := by
  cases hA : A with
  | none =>
   rw [hA] at hL
   have h0 := lies_none hL
   rw [h0]
   exact mapped_nil _ _ _
  | some a =>
   rw [hA] at hL
   refine mapped_bound _ t.ks _ _ cap W3 (hL.later hB3) hsh.self a rfl (by rw [List.length_map]) (fun i hi A' C W' hb hl => ?_)
   rw [List.getElem_map]
   have hBW : Below w.heap.size w W' := hB3.trans (hb.mono hB3.size)
   exact ih i hi A' C W' hl (hL.fine hi) (hsh.kid hi) (hm1.later hBW) (hm2.later hBW)
 have HM := Lib.hid hmap
 have HF := Lib.hid hfine
 clear hB3 hs3 mb nb zb hmap ih hL hsh hfine hW3 hm1 hm2
 -- what stands behind the call that maps the kids
 have AFTER : Hid (∀ (A1 : Option Addr) (c1 : Nat) (w1 : World), Rob W3.heap.size w1 none A1 c1 (t.ks.map (resG false dl sl)) → Below W3.heap.size W3 w1 →
   w1.heap[w.heap.size]? = some (.cells #[.map (some m1), .map (some m2)] 74 (0, 0)) ∧ w1.heap[w.heap.size + 1]? = some (.cells #[.int .i64 t.op, .int .i64 t.so, .string t.nm, .int .i64 t.nu, .slice A t.ks.length cap] 27 (0, 0)) ∧ w1.heap[w.heap.size + 1 + 1]? = some (.cells zero5 27 (0, 0)) ∧ NameMap w1 m1 (fD dl) ∧ NameMap w1 m2 (fS sl) ∧ w.heap.size + 1 + 1 + 1 ≤ w1.heap.size ∧ Below w.heap.size w w1) := fun A1 c1 w1 _ hb => by
  have hs3 := S3.out
  have hBw : Below w.heap.size w w1 := B3.out.trans (hb.mono (by omega))
  have hsz := hb.size
  exact ⟨(hb.block _ (by omega)).trans MB.out, (hb.block _ (by omega)).trans NB.out, (hb.block _ (by omega)).trans ZB.out, M1.out.later hBw, M2.out.later hBw, by omega, hBw⟩
 by_cases h1 : t.op = 1
 ·have h1' : (t.op == 1) = true := by simpa using h1
  cases hd : lookD dl t.nm with
  | some x =>
   have hsub := Lib.hid (resG_at (b := false) (dl := dl) (sl := sl) (t := t) (x := t.op) (y := x) (by unfold topR; rw [if_pos h1, hd, h1]))
   have hy := Lib.hid (lookD_wf hdw hd)
   have Hd := Lib.hid hd
   clear h1 hd
   go_enter Tryz.func45, Tryz.ntmps45
   go_wp2_with fail
   rw [HW.out]
   refine HM.out.mono ?_
   rintro e w1 ⟨A1, c1, rfl, hr, hb⟩
   obtain ⟨hm, hn, hz, hM1, hM2, hsz, hBw⟩ := AFTER.out A1 c1 w1 hr hb
   have hs3 : w.heap.size + 1 + 1 + 1 ≤ W3.heap.size := Nat.le_of_eq S3.out.symm
   have q0 := cell_row hm (i := 0) rfl
   have q1 := cell_row hm (i := 1) rfl
   have n0 := cell_row hn (i := 0) rfl
   have n1 := cell_row hn (i := 1) rfl
   have n2 := cell_row hn (i := 2) rfl
   have n3 := cell_row hn (i := 3) rfl
   have n4 := cell_row hn (i := 4) rfl
   have g0 := frozen_of_row w1 (w.heap.size + 1) 0 _ _ hn
   have g1 := frozen_of_row w1 (w.heap.size + 1) 1 _ _ hn
   have g4 := frozen_of_row w1 (w.heap.size + 1) 4 _ _ hn
   obtain ⟨z0, z1, z2, z3, z4, f0, f1, f2, f3, f4⟩ := box_facts hz
   rw [List.length_map] at *
   have hlk := (hM1.set (p := ⟨w.heap.size + 1, 4, none⟩) (by simp; omega) (.slice A1 t.ks.length c1)).look54 t.nm
   unfold fD at hlk
   rw [Hd.out] at hlk
   replace hlk : (Instr.lookup 71 (.map (some m1)) (.string t.nm) true).run Tryz.prog _ = .ok (.tuple #[.int .i64 x, .bool true]) _ := hlk
   clear hM1 hM2
   have hz1x := (heap_setCell_other _ ⟨w.heap.size + 1, 4, none⟩ (w.heap.size + 1 + 1) (.slice A1 t.ks.length c1) (by simp)).trans hz
   have hr1x := hr.set1 (p := ⟨w.heap.size + 1, 4, none⟩) (by simp; omega) (.slice A1 t.ks.length c1)
   have hb1x := hBw.setCell (p := ⟨w.heap.size + 1, 4, none⟩) (by simp) (.slice A1 t.ks.length c1)
   have hz2x := (heap_setCell_other _ ⟨w.heap.size + 1, 1, none⟩ (w.heap.size + 1 + 1) (.int .i64 x) (by simp)).trans hz1x
   have hr2x := hr1x.set1 (p := ⟨w.heap.size + 1, 1, none⟩) (by simp; omega) (.int .i64 x)
   have hb2x := hb1x.setCell (p := ⟨w.heap.size + 1, 1, none⟩) (by simp) (.int .i64 x)
   have Hfin := Lib.hid (set5_same (.int .i64 t.op) (.int .i64 x) (.string t.nm) (.int .i64 t.nu) (.slice A1 t.ks.length c1) hz2x)
   have HR := Lib.hid (hr2x.set5 (b := w.heap.size + 1 + 1) (n1 := w.heap.size) (by omega) (by omega) (.int .i64 t.op) (.int .i64 x) (.string t.nm) (.int .i64 t.nu) (.slice A1 t.ks.length c1))
   have HBf := Lib.hid (Below.set5 hb2x (b := w.heap.size + 1 + 1) (by omega) (.int .i64 t.op) (.int .i64 x) (.string t.nm) (.int .i64 t.nu) (.slice A1 t.ks.length c1))
   clear hz1x hr1x hb1x hz2x hr2x hb2x hr hb hm hn hz hBw
   go_wp2_with fail
   have hf := Hfin.out
   obtain ⟨y0, y1, y2, y3, y4, _, _, _, _, _⟩ := box_facts hf
   rw [hsub.out]
   refine bodyPost_ret (v := nv t.op x t.nm t.nu (.slice A1 t.ks.length c1)) ?_ rfl ⟨A1, c1, by show Ending.returned (nv t.op x t.nm t.nu (.slice A1 t.ks.length c1)) = .returned (nv t.op x t.nm t.nu (.slice A1 (t.ks.map (resG false dl sl)).length c1)); rw [List.length_map], HR.out, fine_at HF.out HF.out.op hy.out _, HBf.out⟩
   clear hf Hfin HR HBf
   simp [results, Tryz.f45, go_sem, y0, y1, y2, y3, y4]
  | none =>
   by_cases h0 : t.ks.length = 0
   ·have hsub := Lib.hid (resG_at (b := false) (dl := dl) (sl := sl) (t := t) (x := 3) (y := (sigAt sl t.nm).1.so) (by unfold topR; rw [if_pos h1, hd]; simp only [List.length_map, h0]; rfl))
    have hx := Lib.hid (show (Lit.int .i64 3).wf = true by decide)
    have hy := Lib.hid (hsw t.nm)
    have Hd := Lib.hid hd
    have h0' : ((t.ks.length : Int) == 0) = true := by rw [h0]; rfl
    clear h1 hd h0
    go_enter Tryz.func45, Tryz.ntmps45
    go_wp2_with fail
    rw [HW.out]
    refine HM.out.mono ?_
    rintro e w1 ⟨A1, c1, rfl, hr, hb⟩
    obtain ⟨hm, hn, hz, hM1, hM2, hsz, hBw⟩ := AFTER.out A1 c1 w1 hr hb
    have hs3 : w.heap.size + 1 + 1 + 1 ≤ W3.heap.size := Nat.le_of_eq S3.out.symm
    have q0 := cell_row hm (i := 0) rfl
    have q1 := cell_row hm (i := 1) rfl
    have n0 := cell_row hn (i := 0) rfl
    have n1 := cell_row hn (i := 1) rfl
    have n2 := cell_row hn (i := 2) rfl
    have n3 := cell_row hn (i := 3) rfl
    have n4 := cell_row hn (i := 4) rfl
    have g0 := frozen_of_row w1 (w.heap.size + 1) 0 _ _ hn
    have g1 := frozen_of_row w1 (w.heap.size + 1) 1 _ _ hn
    have g4 := frozen_of_row w1 (w.heap.size + 1) 4 _ _ hn
    obtain ⟨z0, z1, z2, z3, z4, f0, f1, f2, f3, f4⟩ := box_facts hz
    rw [List.length_map] at *
    have hlk := (hM1.set (p := ⟨w.heap.size + 1, 4, none⟩) (by simp; omega) (.slice A1 t.ks.length c1)).look54 t.nm
    have hm3 := (heap_setCell_other _ ⟨w.heap.size + 1, 0, none⟩ w.heap.size (.int .i64 3) (by simp)).trans ((heap_setCell_other _ ⟨w.heap.size + 1, 1, none⟩ w.heap.size (.int .i64 0) (by simp)).trans ((heap_setCell_other w1 ⟨w.heap.size + 1, 4, none⟩ w.heap.size (.slice A1 t.ks.length c1) (by simp)).trans hm))
    have hn3 := heap_setCell_same _ (w.heap.size + 1) 0 _ _ (.int .i64 3) (heap_setCell_same _ (w.heap.size + 1) 1 _ _ (.int .i64 0) (heap_setCell_same w1 (w.heap.size + 1) 4 _ _ (.slice A1 t.ks.length c1) hn))
    have hM3 := (((hM2.set (p := ⟨w.heap.size + 1, 4, none⟩) (by simp; omega) (.slice A1 t.ks.length c1)).set (p := ⟨w.heap.size + 1, 1, none⟩) (by simp; omega) (.int .i64 0)).set (p := ⟨w.heap.size + 1, 0, none⟩) (by simp; omega) (.int .i64 3))
    unfold fD at hlk
    rw [Hd.out] at hlk
    replace hlk : (Instr.lookup 71 (.map (some m1)) (.string t.nm) true).run Tryz.prog _ = .ok (.tuple #[.int .i64 0, .bool false]) _ := hlk
    clear hM1 hM2
    have hz1x := (heap_setCell_other _ ⟨w.heap.size + 1, 4, none⟩ (w.heap.size + 1 + 1) (.slice A1 t.ks.length c1) (by simp)).trans hz
    have hr1x := hr.set1 (p := ⟨w.heap.size + 1, 4, none⟩) (by simp; omega) (.slice A1 t.ks.length c1)
    have hb1x := hBw.setCell (p := ⟨w.heap.size + 1, 4, none⟩) (by simp) (.slice A1 t.ks.length c1)
    have hz2x := (heap_setCell_other _ ⟨w.heap.size + 1, 1, none⟩ (w.heap.size + 1 + 1) (.int .i64 0) (by simp)).trans hz1x
    have hr2x := hr1x.set1 (p := ⟨w.heap.size + 1, 1, none⟩) (by simp; omega) (.int .i64 0)
    have hb2x := hb1x.setCell (p := ⟨w.heap.size + 1, 1, none⟩) (by simp) (.int .i64 0)
    have hz3x := (heap_setCell_other _ ⟨w.heap.size + 1, 0, none⟩ (w.heap.size + 1 + 1) (.int .i64 3) (by simp)).trans hz2x
    have hr3x := hr2x.set1 (p := ⟨w.heap.size + 1, 0, none⟩) (by simp; omega) (.int .i64 3)
    have hb3x := hb2x.setCell (p := ⟨w.heap.size + 1, 0, none⟩) (by simp) (.int .i64 3)
    have HM3 := Lib.hid hm3
    have HN3 := Lib.hid hn3
    have HL3 := Lib.hid hM3
    have HZ3 := Lib.hid hz3x
    have HR3 := Lib.hid hr3x
    have HB3 := Lib.hid hb3x
    clear hz1x hr1x hb1x hz2x hr2x hb2x hz3x hr3x hb3x hm3 hn3 hM3 hr hb hm hn hz hBw
    go_upto_region 8 with fail
    have hm3 := HM3.out
    have hn3 := HN3.out
    have hM3 := HL3.out
    have hz3 := HZ3.out
    have hr3 := HR3.out
    have hB3 := HB3.out
    clear HM3 HN3 HL3 HZ3 HR3 HB3 hlk n0 n1 n2 n3 n4 g0 g1 g4 z0 z1 z2 z3 z4 f0 f1 f2 f3 f4 q0 q1
    generalize ((w1.setCell ⟨w.heap.size + 1, 4, none⟩ (.slice A1 t.ks.length c1)).setCell ⟨w.heap.size + 1, 1, none⟩ (.int .i64 0)).setCell ⟨w.heap.size + 1, 0, none⟩ (.int .i64 3) = w2 at *
    have hlk2 := hM3.plain77 t.nm
    rw [fS_plain] at hlk2
    generalize sigAt sl t.nm = y at *
    have hfld := run_field83
    replace hlk2 : (Instr.lookup 72 (.map (some m2)) (.string t.nm) false).run Tryz.prog _ = .ok (.agg #[.string y.1.nm, .slice y.2.1 y.1.args.length y.2.2, .int .i64 y.1.so]) _ := hlk2
    clear hM3
    have q1 := cell_row hm3 (i := 1) rfl
    have n0 := cell_row hn3 (i := 0) rfl
    have n1 := cell_row hn3 (i := 1) rfl
    have n2 := cell_row hn3 (i := 2) rfl
    have n3 := cell_row hn3 (i := 3) rfl
    have n4 := cell_row hn3 (i := 4) rfl
    have g1 := frozen_of_row w2 (w.heap.size + 1) 1 _ _ hn3
    obtain ⟨z0, z1, z2, z3, z4, f0, f1, f2, f3, f4⟩ := box_facts hz3
    have hz1x := (heap_setCell_other _ ⟨w.heap.size + 1, 1, none⟩ (w.heap.size + 1 + 1) (.int .i64 y.1.so) (by simp)).trans hz3
    have hr1x := hr3.set1 (p := ⟨w.heap.size + 1, 1, none⟩) (by simp; omega) (.int .i64 y.1.so)
    have hb1x := hB3.setCell (p := ⟨w.heap.size + 1, 1, none⟩) (by simp) (.int .i64 y.1.so)
    have Hfin := Lib.hid (set5_same (.int .i64 3) (.int .i64 y.1.so) (.string t.nm) (.int .i64 t.nu) (.slice A1 t.ks.length c1) hz1x)
    have HR := Lib.hid (hr1x.set5 (b := w.heap.size + 1 + 1) (n1 := w.heap.size) (by omega) (by omega) (.int .i64 3) (.int .i64 y.1.so) (.string t.nm) (.int .i64 t.nu) (.slice A1 t.ks.length c1))
    have HBf := Lib.hid (Below.set5 hb1x (b := w.heap.size + 1 + 1) (by omega) (.int .i64 3) (.int .i64 y.1.so) (.string t.nm) (.int .i64 t.nu) (.slice A1 t.ks.length c1))
    clear hz1x hr1x hb1x hr3 hB3 hn3 hz3 hm3
    go_wp2_with fail
    have hf := Hfin.out
    obtain ⟨y0, y1, y2, y3, y4, _, _, _, _, _⟩ := box_facts hf
    rw [hsub.out]
    refine bodyPost_ret (v := nv 3 y.1.so t.nm t.nu (.slice A1 t.ks.length c1)) ?_ rfl ⟨A1, c1, by show Ending.returned (nv 3 y.1.so t.nm t.nu (.slice A1 t.ks.length c1)) = .returned (nv 3 y.1.so t.nm t.nu (.slice A1 (t.ks.map (resG false dl sl)).length c1)); rw [List.length_map], HR.out, fine_at HF.out hx.out hy.out _, HBf.out⟩
    clear hf Hfin HR HBf
    simp [results, Tryz.f45, go_sem, y0, y1, y2, y3, y4]
   ·have hsub := Lib.hid (resG_at (b := false) (dl := dl) (sl := sl) (t := t) (x := t.op) (y := 0) (by
     have : ¬ ((false : Bool) = true ∨ (t.ks.map (resG false dl sl)).length = 0) := by simpa using h0
     unfold topR; rw [if_pos h1, hd, h1]; simp only [if_neg this]))
    have hy := Lib.hid (show (Lit.int .i64 0).wf = true by decide)
    have Hd := Lib.hid hd
    have h0' : ((t.ks.length : Int) == 0) = false := by rw [beq_eq_false_iff_ne]; omega
    clear h1 hd h0
    go_enter Tryz.func45, Tryz.ntmps45
    go_wp2_with fail
    rw [HW.out]
    refine HM.out.mono ?_
    rintro e w1 ⟨A1, c1, rfl, hr, hb⟩
    obtain ⟨hm, hn, hz, hM1, hM2, hsz, hBw⟩ := AFTER.out A1 c1 w1 hr hb
    have hs3 : w.heap.size + 1 + 1 + 1 ≤ W3.heap.size := Nat.le_of_eq S3.out.symm
    have q0 := cell_row hm (i := 0) rfl
    have q1 := cell_row hm (i := 1) rfl
    have n0 := cell_row hn (i := 0) rfl
    have n1 := cell_row hn (i := 1) rfl
    have n2 := cell_row hn (i := 2) rfl
    have n3 := cell_row hn (i := 3) rfl
    have n4 := cell_row hn (i := 4) rfl
    have g0 := frozen_of_row w1 (w.heap.size + 1) 0 _ _ hn
    have g1 := frozen_of_row w1 (w.heap.size + 1) 1 _ _ hn
    have g4 := frozen_of_row w1 (w.heap.size + 1) 4 _ _ hn
    obtain ⟨z0, z1, z2, z3, z4, f0, f1, f2, f3, f4⟩ := box_facts hz
    rw [List.length_map] at *
    have hlk := (hM1.set (p := ⟨w.heap.size + 1, 4, none⟩) (by simp; omega) (.slice A1 t.ks.length c1)).look54 t.nm
    unfold fD at hlk
    rw [Hd.out] at hlk
    replace hlk : (Instr.lookup 71 (.map (some m1)) (.string t.nm) true).run Tryz.prog _ = .ok (.tuple #[.int .i64 0, .bool false]) _ := hlk
    clear hM1 hM2
    have hz1x := (heap_setCell_other _ ⟨w.heap.size + 1, 4, none⟩ (w.heap.size + 1 + 1) (.slice A1 t.ks.length c1) (by simp)).trans hz
    have hr1x := hr.set1 (p := ⟨w.heap.size + 1, 4, none⟩) (by simp; omega) (.slice A1 t.ks.length c1)
    have hb1x := hBw.setCell (p := ⟨w.heap.size + 1, 4, none⟩) (by simp) (.slice A1 t.ks.length c1)
    have hz2x := (heap_setCell_other _ ⟨w.heap.size + 1, 1, none⟩ (w.heap.size + 1 + 1) (.int .i64 0) (by simp)).trans hz1x
    have hr2x := hr1x.set1 (p := ⟨w.heap.size + 1, 1, none⟩) (by simp; omega) (.int .i64 0)
    have hb2x := hb1x.setCell (p := ⟨w.heap.size + 1, 1, none⟩) (by simp) (.int .i64 0)
    have Hfin := Lib.hid (set5_same (.int .i64 t.op) (.int .i64 0) (.string t.nm) (.int .i64 t.nu) (.slice A1 t.ks.length c1) hz2x)
    have HR := Lib.hid (hr2x.set5 (b := w.heap.size + 1 + 1) (n1 := w.heap.size) (by omega) (by omega) (.int .i64 t.op) (.int .i64 0) (.string t.nm) (.int .i64 t.nu) (.slice A1 t.ks.length c1))
    have HBf := Lib.hid (Below.set5 hb2x (b := w.heap.size + 1 + 1) (by omega) (.int .i64 t.op) (.int .i64 0) (.string t.nm) (.int .i64 t.nu) (.slice A1 t.ks.length c1))
    clear hz1x hr1x hb1x hz2x hr2x hb2x hr hb hm hn hz hBw
    go_wp2_with fail
    have hf := Hfin.out
    obtain ⟨y0, y1, y2, y3, y4, _, _, _, _, _⟩ := box_facts hf
    rw [hsub.out]
    refine bodyPost_ret (v := nv t.op 0 t.nm t.nu (.slice A1 t.ks.length c1)) ?_ rfl ⟨A1, c1, by show Ending.returned (nv t.op 0 t.nm t.nu (.slice A1 t.ks.length c1)) = .returned (nv t.op 0 t.nm t.nu (.slice A1 (t.ks.map (resG false dl sl)).length c1)); rw [List.length_map], HR.out, fine_at HF.out HF.out.op hy.out _, HBf.out⟩
    clear hf Hfin HR HBf
    simp [results, Tryz.f45, go_sem, y0, y1, y2, y3, y4]
 ·have h1' : (t.op == 1) = false := by simpa using h1
  by_cases h3 : t.op = 3
  ·have h3' : (t.op == 3) = true := by simpa using h3
   have hsub := Lib.hid (resG_at (b := false) (dl := dl) (sl := sl) (t := t) (x := t.op) (y := (sigAt sl t.nm).1.so) (by unfold topR; rw [if_neg h1, if_pos h3, h3]; rfl))
   have hy := Lib.hid (hsw t.nm)
   clear h1 h3
   go_enter Tryz.func45, Tryz.ntmps45
   go_wp2_with fail
   rw [HW.out]
   refine HM.out.mono ?_
   rintro e w1 ⟨A1, c1, rfl, hr, hb⟩
   obtain ⟨hm, hn, hz, hM1, hM2, hsz, hBw⟩ := AFTER.out A1 c1 w1 hr hb
   have hs3 : w.heap.size + 1 + 1 + 1 ≤ W3.heap.size := Nat.le_of_eq S3.out.symm
   have q0 := cell_row hm (i := 0) rfl
   have q1 := cell_row hm (i := 1) rfl
   have n0 := cell_row hn (i := 0) rfl
   have n1 := cell_row hn (i := 1) rfl
   have n2 := cell_row hn (i := 2) rfl
   have n3 := cell_row hn (i := 3) rfl
   have n4 := cell_row hn (i := 4) rfl
   have g0 := frozen_of_row w1 (w.heap.size + 1) 0 _ _ hn
   have g1 := frozen_of_row w1 (w.heap.size + 1) 1 _ _ hn
   have g4 := frozen_of_row w1 (w.heap.size + 1) 4 _ _ hn
   obtain ⟨z0, z1, z2, z3, z4, f0, f1, f2, f3, f4⟩ := box_facts hz
   rw [List.length_map] at *
   have hlk2 := (hM2.set (p := ⟨w.heap.size + 1, 4, none⟩) (by simp; omega) (.slice A1 t.ks.length c1)).plain77 t.nm
   rw [fS_plain] at hlk2
   generalize sigAt sl t.nm = y at *
   have hfld := run_field83
   replace hlk2 : (Instr.lookup 72 (.map (some m2)) (.string t.nm) false).run Tryz.prog _ = .ok (.agg #[.string y.1.nm, .slice y.2.1 y.1.args.length y.2.2, .int .i64 y.1.so]) _ := hlk2
   clear hM1 hM2
   have hz1x := (heap_setCell_other _ ⟨w.heap.size + 1, 4, none⟩ (w.heap.size + 1 + 1) (.slice A1 t.ks.length c1) (by simp)).trans hz
   have hr1x := hr.set1 (p := ⟨w.heap.size + 1, 4, none⟩) (by simp; omega) (.slice A1 t.ks.length c1)
   have hb1x := hBw.setCell (p := ⟨w.heap.size + 1, 4, none⟩) (by simp) (.slice A1 t.ks.length c1)
   have hz2x := (heap_setCell_other _ ⟨w.heap.size + 1, 1, none⟩ (w.heap.size + 1 + 1) (.int .i64 y.1.so) (by simp)).trans hz1x
   have hr2x := hr1x.set1 (p := ⟨w.heap.size + 1, 1, none⟩) (by simp; omega) (.int .i64 y.1.so)
   have hb2x := hb1x.setCell (p := ⟨w.heap.size + 1, 1, none⟩) (by simp) (.int .i64 y.1.so)
   have Hfin := Lib.hid (set5_same (.int .i64 t.op) (.int .i64 y.1.so) (.string t.nm) (.int .i64 t.nu) (.slice A1 t.ks.length c1) hz2x)
   have HR := Lib.hid (hr2x.set5 (b := w.heap.size + 1 + 1) (n1 := w.heap.size) (by omega) (by omega) (.int .i64 t.op) (.int .i64 y.1.so) (.string t.nm) (.int .i64 t.nu) (.slice A1 t.ks.length c1))
   have HBf := Lib.hid (Below.set5 hb2x (b := w.heap.size + 1 + 1) (by omega) (.int .i64 t.op) (.int .i64 y.1.so) (.string t.nm) (.int .i64 t.nu) (.slice A1 t.ks.length c1))
   clear hz1x hr1x hb1x hz2x hr2x hb2x hr hb hm hn hz hBw
   go_wp2_with fail
   have hf := Hfin.out
   obtain ⟨y0, y1, y2, y3, y4, _, _, _, _, _⟩ := box_facts hf
   rw [hsub.out]
   refine bodyPost_ret (v := nv t.op y.1.so t.nm t.nu (.slice A1 t.ks.length c1)) ?_ rfl ⟨A1, c1, by show Ending.returned (nv t.op y.1.so t.nm t.nu (.slice A1 t.ks.length c1)) = .returned (nv t.op y.1.so t.nm t.nu (.slice A1 (t.ks.map (resG false dl sl)).length c1)); rw [List.length_map], HR.out, fine_at HF.out HF.out.op hy.out _, HBf.out⟩
   clear hf Hfin HR HBf
   simp [results, Tryz.f45, go_sem, y0, y1, y2, y3, y4]
  ·have h3' : (t.op == 3) = false := by simpa using h3
   by_cases h37 : t.op = 37
   ·have h37' : (t.op == 37) = true := by simpa using h37
    have hop := Lib.hid h37
    have htop := Lib.hid (show topR false dl sl t (t.ks.map (resG false dl sl)) = (if takesB (t.ks.map (resG false dl sl)) [2, 2] = true then 36 else 37, t.so) by unfold topR; rw [if_neg h1, if_neg h3, if_pos h37])
    clear h1 h3 h37
    cases htk : takesB (t.ks.map (resG false dl sl)) [2, 2]
    case false =>
     have hsub := Lib.hid (resG_at (b := false) (dl := dl) (sl := sl) (t := t) (x := t.op) (y := t.so) (by rw [htop.out, htk, hop.out]; rfl))
     have Htk := Lib.hid htk
     clear htk
     go_enter Tryz.func45, Tryz.ntmps45
     go_wp2_with fail
     rw [HW.out]
     refine HM.out.mono ?_
     rintro e w1 ⟨A1, c1, rfl, hr, hb⟩
     obtain ⟨hm, hn, hz, hM1, hM2, hsz, hBw⟩ := AFTER.out A1 c1 w1 hr hb
     have hs3 : w.heap.size + 1 + 1 + 1 ≤ W3.heap.size := Nat.le_of_eq S3.out.symm
     have q0 := cell_row hm (i := 0) rfl
     have q1 := cell_row hm (i := 1) rfl
     have n0 := cell_row hn (i := 0) rfl
     have n1 := cell_row hn (i := 1) rfl
     have n2 := cell_row hn (i := 2) rfl
     have n3 := cell_row hn (i := 3) rfl
     have n4 := cell_row hn (i := 4) rfl
     have g0 := frozen_of_row w1 (w.heap.size + 1) 0 _ _ hn
     have g1 := frozen_of_row w1 (w.heap.size + 1) 1 _ _ hn
     have g4 := frozen_of_row w1 (w.heap.size + 1) 4 _ _ hn
     obtain ⟨z0, z1, z2, z3, z4, f0, f1, f2, f3, f4⟩ := box_facts hz
     rw [List.length_map] at *
     clear hM1 hM2
     have hr1 := hr.set1 (p := ⟨w.heap.size + 1, 4, none⟩) (by simp; omega) (.slice A1 t.ks.length c1)
     have hn1 := heap_setCell_same w1 (w.heap.size + 1) 4 _ _ (.slice A1 t.ks.length c1) hn
     have hz1 := (heap_setCell_other w1 ⟨w.heap.size + 1, 4, none⟩ (w.heap.size + 1 + 1) (.slice A1 t.ks.length c1) (by simp)).trans hz
     have hB1 := hBw.setCell (p := ⟨w.heap.size + 1, 4, none⟩) (by simp) (.slice A1 t.ks.length c1)
     have hsz1 : w.heap.size + 1 + 1 + 1 ≤ (w1.setCell ⟨w.heap.size + 1, 4, none⟩ (.slice A1 t.ks.length c1)).heap.size := by simpa [World.setCell] using hsz
     have HT := Lib.hid (takes_any (t.ks.map (resG false dl sl)) [2, 2] A1 _ c1 2 _ ((hr1.lies).later ((Below.refl _ _).alloc (Nat.le_refl _) (.cells #[.int .i64 2, .int .i64 2] 3))) (ints_2 (w1.setCell ⟨w.heap.size + 1, 4, none⟩ (.slice A1 t.ks.length c1)) 2 2 3) (by decide))
     rw [List.length_map, show ([2, 2] : List Int).length = 2 from rfl, show (w1.setCell ⟨w.heap.size + 1, 4, none⟩ (.slice A1 t.ks.length c1)).heap.size = w1.heap.size by simp [World.setCell]] at HT
     have HR1 := Lib.hid hr1
     have HN1 := Lib.hid hn1
     have HZ1 := Lib.hid hz1
     have HB1 := Lib.hid hB1
     clear hr1 hn1 hz1 hB1 hr hb hm hn hz hBw
     go_wp2_with fail
     refine HT.out.mono ?_
     rintro e w2 ⟨rfl, hb2⟩
     rw [Htk.out]
     have hb3 : Below (w1.setCell ⟨w.heap.size + 1, 4, none⟩ (.slice A1 t.ks.length c1)).heap.size (w1.setCell ⟨w.heap.size + 1, 4, none⟩ (.slice A1 t.ks.length c1)) w2 := ((Below.refl _ _).alloc (Nat.le_refl _) (.cells #[.int .i64 2, .int .i64 2] 3)).trans (hb2.mono (by simp))
     have hr3 := HR1.out.later hb3
     have hn3 := (hb3.block (w.heap.size + 1) (by omega)).trans HN1.out
     have hz3 := (hb3.block (w.heap.size + 1 + 1) (by omega)).trans HZ1.out
     have hB3 := HB1.out.trans (hb3.mono (by omega))
     clear hb2 hb3 n0 n1 n2 n3 n4 g0 g1 g4 z0 z1 z2 z3 z4 f0 f1 f2 f3 f4 q0 q1
     obtain ⟨n0, n1, n2, n3, n4, _, _, _, _, _⟩ := box_facts hn3
     have g0 := frozen_of_row w2 (w.heap.size + 1) 0 _ _ hn3
     obtain ⟨z0, z1, z2, z3, z4, f0, f1, f2, f3, f4⟩ := box_facts hz3
     have Hfin := Lib.hid (set5_same (.int .i64 t.op) (.int .i64 t.so) (.string t.nm) (.int .i64 t.nu) (.slice A1 t.ks.length c1) hz3)
     have HR := Lib.hid (hr3.set5 (b := w.heap.size + 1 + 1) (n1 := w.heap.size) (by omega) (by omega) (.int .i64 t.op) (.int .i64 t.so) (.string t.nm) (.int .i64 t.nu) (.slice A1 t.ks.length c1))
     have HBf := Lib.hid (Below.set5 hB3 (b := w.heap.size + 1 + 1) (by omega) (.int .i64 t.op) (.int .i64 t.so) (.string t.nm) (.int .i64 t.nu) (.slice A1 t.ks.length c1))
     clear hr3 hB3 hn3 hz3
     go_wp2_with fail
     have hf := Hfin.out
     obtain ⟨y0, y1, y2, y3, y4, _, _, _, _, _⟩ := box_facts hf
     rw [hsub.out]
     refine bodyPost_ret (v := nv t.op t.so t.nm t.nu (.slice A1 t.ks.length c1)) ?_ rfl ⟨A1, c1, by show Ending.returned (nv t.op t.so t.nm t.nu (.slice A1 t.ks.length c1)) = .returned (nv t.op t.so t.nm t.nu (.slice A1 (t.ks.map (resG false dl sl)).length c1)); rw [List.length_map], HR.out, fine_at HF.out HF.out.op HF.out.so _, HBf.out⟩
     clear hf Hfin HR HBf
     simp [results, Tryz.f45, go_sem, y0, y1, y2, y3, y4]
    case true =>
     have hsub := Lib.hid (resG_at (b := false) (dl := dl) (sl := sl) (t := t) (x := 36) (y := t.so) (by rw [htop.out, htk]; rfl))
     have hx := Lib.hid (show (Lit.int .i64 36).wf = true by decide)
     have Htk := Lib.hid htk
     clear htk
     go_enter Tryz.func45, Tryz.ntmps45
     go_wp2_with fail
     rw [HW.out]
     refine HM.out.mono ?_
     rintro e w1 ⟨A1, c1, rfl, hr, hb⟩
     obtain ⟨hm, hn, hz, hM1, hM2, hsz, hBw⟩ := AFTER.out A1 c1 w1 hr hb
     have hs3 : w.heap.size + 1 + 1 + 1 ≤ W3.heap.size := Nat.le_of_eq S3.out.symm
     have q0 := cell_row hm (i := 0) rfl
     have q1 := cell_row hm (i := 1) rfl
     have n0 := cell_row hn (i := 0) rfl
     have n1 := cell_row hn (i := 1) rfl
     have n2 := cell_row hn (i := 2) rfl
     have n3 := cell_row hn (i := 3) rfl
     have n4 := cell_row hn (i := 4) rfl
     have g0 := frozen_of_row w1 (w.heap.size + 1) 0 _ _ hn
     have g1 := frozen_of_row w1 (w.heap.size + 1) 1 _ _ hn
     have g4 := frozen_of_row w1 (w.heap.size + 1) 4 _ _ hn
     obtain ⟨z0, z1, z2, z3, z4, f0, f1, f2, f3, f4⟩ := box_facts hz
     rw [List.length_map] at *
     clear hM1 hM2
     have hr1 := hr.set1 (p := ⟨w.heap.size + 1, 4, none⟩) (by simp; omega) (.slice A1 t.ks.length c1)
     have hn1 := heap_setCell_same w1 (w.heap.size + 1) 4 _ _ (.slice A1 t.ks.length c1) hn
     have hz1 := (heap_setCell_other w1 ⟨w.heap.size + 1, 4, none⟩ (w.heap.size + 1 + 1) (.slice A1 t.ks.length c1) (by simp)).trans hz
     have hB1 := hBw.setCell (p := ⟨w.heap.size + 1, 4, none⟩) (by simp) (.slice A1 t.ks.length c1)
     have hsz1 : w.heap.size + 1 + 1 + 1 ≤ (w1.setCell ⟨w.heap.size + 1, 4, none⟩ (.slice A1 t.ks.length c1)).heap.size := by simpa [World.setCell] using hsz
     have HT := Lib.hid (takes_any (t.ks.map (resG false dl sl)) [2, 2] A1 _ c1 2 _ ((hr1.lies).later ((Below.refl _ _).alloc (Nat.le_refl _) (.cells #[.int .i64 2, .int .i64 2] 3))) (ints_2 (w1.setCell ⟨w.heap.size + 1, 4, none⟩ (.slice A1 t.ks.length c1)) 2 2 3) (by decide))
     rw [List.length_map, show ([2, 2] : List Int).length = 2 from rfl, show (w1.setCell ⟨w.heap.size + 1, 4, none⟩ (.slice A1 t.ks.length c1)).heap.size = w1.heap.size by simp [World.setCell]] at HT
     have HR1 := Lib.hid hr1
     have HN1 := Lib.hid hn1
     have HZ1 := Lib.hid hz1
     have HB1 := Lib.hid hB1
     clear hr1 hn1 hz1 hB1 hr hb hm hn hz hBw
     go_wp2_with fail
     refine HT.out.mono ?_
     rintro e w2 ⟨rfl, hb2⟩
     rw [Htk.out]
     have hb3 : Below (w1.setCell ⟨w.heap.size + 1, 4, none⟩ (.slice A1 t.ks.length c1)).heap.size (w1.setCell ⟨w.heap.size + 1, 4, none⟩ (.slice A1 t.ks.length c1)) w2 := ((Below.refl _ _).alloc (Nat.le_refl _) (.cells #[.int .i64 2, .int .i64 2] 3)).trans (hb2.mono (by simp))
     have hr3 := HR1.out.later hb3
     have hn3 := (hb3.block (w.heap.size + 1) (by omega)).trans HN1.out
     have hz3 := (hb3.block (w.heap.size + 1 + 1) (by omega)).trans HZ1.out
     have hB3 := HB1.out.trans (hb3.mono (by omega))
     clear hb2 hb3 n0 n1 n2 n3 n4 g0 g1 g4 z0 z1 z2 z3 z4 f0 f1 f2 f3 f4 q0 q1
     obtain ⟨n0, n1, n2, n3, n4, _, _, _, _, _⟩ := box_facts hn3
     have g0 := frozen_of_row w2 (w.heap.size + 1) 0 _ _ hn3
     obtain ⟨z0, z1, z2, z3, z4, f0, f1, f2, f3, f4⟩ := box_facts hz3
     have hz1x := (heap_setCell_other _ ⟨w.heap.size + 1, 0, none⟩ (w.heap.size + 1 + 1) (.int .i64 36) (by simp)).trans hz3
     have hr1x := hr3.set1 (p := ⟨w.heap.size + 1, 0, none⟩) (by simp; omega) (.int .i64 36)
     have hb1x := hB3.setCell (p := ⟨w.heap.size + 1, 0, none⟩) (by simp) (.int .i64 36)
     have Hfin := Lib.hid (set5_same (.int .i64 36) (.int .i64 t.so) (.string t.nm) (.int .i64 t.nu) (.slice A1 t.ks.length c1) hz1x)
     have HR := Lib.hid (hr1x.set5 (b := w.heap.size + 1 + 1) (n1 := w.heap.size) (by omega) (by omega) (.int .i64 36) (.int .i64 t.so) (.string t.nm) (.int .i64 t.nu) (.slice A1 t.ks.length c1))
     have HBf := Lib.hid (Below.set5 hb1x (b := w.heap.size + 1 + 1) (by omega) (.int .i64 36) (.int .i64 t.so) (.string t.nm) (.int .i64 t.nu) (.slice A1 t.ks.length c1))
     clear hz1x hr1x hb1x hr3 hB3 hn3 hz3
     go_wp2_with fail
     have hf := Hfin.out
     obtain ⟨y0, y1, y2, y3, y4, _, _, _, _, _⟩ := box_facts hf
     rw [hsub.out]
     refine bodyPost_ret (v := nv 36 t.so t.nm t.nu (.slice A1 t.ks.length c1)) ?_ rfl ⟨A1, c1, by show Ending.returned (nv 36 t.so t.nm t.nu (.slice A1 t.ks.length c1)) = .returned (nv 36 t.so t.nm t.nu (.slice A1 (t.ks.map (resG false dl sl)).length c1)); rw [List.length_map], HR.out, fine_at HF.out hx.out HF.out.so _, HBf.out⟩
     clear hf Hfin HR HBf
     simp [results, Tryz.f45, go_sem, y0, y1, y2, y3, y4]
   ·have h37' : (t.op == 37) = false := by simpa using h37
    have hsub := Lib.hid (resG_at (b := false) (dl := dl) (sl := sl) (t := t) (x := t.op) (y := t.so) (by unfold topR; rw [if_neg h1, if_neg h3, if_neg h37]))
    clear h1 h3 h37
    go_enter Tryz.func45, Tryz.ntmps45
    go_wp2_with fail
    rw [HW.out]
    refine HM.out.mono ?_
    rintro e w1 ⟨A1, c1, rfl, hr, hb⟩
    obtain ⟨hm, hn, hz, hM1, hM2, hsz, hBw⟩ := AFTER.out A1 c1 w1 hr hb
    have hs3 : w.heap.size + 1 + 1 + 1 ≤ W3.heap.size := Nat.le_of_eq S3.out.symm
    have q0 := cell_row hm (i := 0) rfl
    have q1 := cell_row hm (i := 1) rfl
    have n0 := cell_row hn (i := 0) rfl
    have n1 := cell_row hn (i := 1) rfl
    have n2 := cell_row hn (i := 2) rfl
    have n3 := cell_row hn (i := 3) rfl
    have n4 := cell_row hn (i := 4) rfl
    have g0 := frozen_of_row w1 (w.heap.size + 1) 0 _ _ hn
    have g1 := frozen_of_row w1 (w.heap.size + 1) 1 _ _ hn
    have g4 := frozen_of_row w1 (w.heap.size + 1) 4 _ _ hn
    obtain ⟨z0, z1, z2, z3, z4, f0, f1, f2, f3, f4⟩ := box_facts hz
    rw [List.length_map] at *
    clear hM1 hM2
    have hz1x := (heap_setCell_other _ ⟨w.heap.size + 1, 4, none⟩ (w.heap.size + 1 + 1) (.slice A1 t.ks.length c1) (by simp)).trans hz
    have hr1x := hr.set1 (p := ⟨w.heap.size + 1, 4, none⟩) (by simp; omega) (.slice A1 t.ks.length c1)
    have hb1x := hBw.setCell (p := ⟨w.heap.size + 1, 4, none⟩) (by simp) (.slice A1 t.ks.length c1)
    have Hfin := Lib.hid (set5_same (.int .i64 t.op) (.int .i64 t.so) (.string t.nm) (.int .i64 t.nu) (.slice A1 t.ks.length c1) hz1x)
    have HR := Lib.hid (hr1x.set5 (b := w.heap.size + 1 + 1) (n1 := w.heap.size) (by omega) (by omega) (.int .i64 t.op) (.int .i64 t.so) (.string t.nm) (.int .i64 t.nu) (.slice A1 t.ks.length c1))
    have HBf := Lib.hid (Below.set5 hb1x (b := w.heap.size + 1 + 1) (by omega) (.int .i64 t.op) (.int .i64 t.so) (.string t.nm) (.int .i64 t.nu) (.slice A1 t.ks.length c1))
    clear hz1x hr1x hb1x hr hb hm hn hz hBw
    go_wp2_with fail
    have hf := Hfin.out
    obtain ⟨y0, y1, y2, y3, y4, _, _, _, _, _⟩ := box_facts hf
    rw [hsub.out]
    refine bodyPost_ret (v := nv t.op t.so t.nm t.nu (.slice A1 t.ks.length c1)) ?_ rfl ⟨A1, c1, by show Ending.returned (nv t.op t.so t.nm t.nu (.slice A1 t.ks.length c1)) = .returned (nv t.op t.so t.nm t.nu (.slice A1 (t.ks.map (resG false dl sl)).length c1)); rw [List.length_map], HR.out, fine_at HF.out HF.out.op HF.out.so _, HBf.out⟩
    clear hf Hfin HR HBf
    simp [results, Tryz.f45, go_sem, y0, y1, y2, y3, y4]
end Go.Proofs.YtgkjcimgghflmaaGreatDoor
namespace Go.Proofs.YtgkjcimgghflmaaGreatDoor
set_option maxRecDepth 100000
set_option maxHeartbeats 8000000
open Go.RowKit Go.Shelf Go.WideMaps
attribute [local go_sem] Oper.semAt_some
theorem takes_two {ks : List Nd} (h : ks.length = 2) : takesB ks [2, 2] = (sortN (ks[0]'(by omega)) == 2 && sortN (ks[1]'(by omega)) == 2) := by
 match ks, h with
 | [a, b], _ =>
  unfold takesB
  rw [Bool.eq_iff_iff]
  simp
theorem resolved_any (dl : List (ByteArray × Int)) (sl : List SgA) (hdw : ∀ d ∈ dl, (Lit.int .i64 d.2).wf = true) (hsw : ∀ s, (Lit.int .i64 (sigAt sl s).1.so).wf = true) (DA SA : Option Addr) (dcap scap : Nat) (hdl : dl.length ≤ maxLen) (hsl : sl.length ≤ maxLen) (t : Nd) : ∀ (A : Option Addr) (cap : Nat) (w : World), Lies w A cap t.ks → Fine t → Short t → Dcls w DA dl → Sgs w SA sl →
  Calls Tryz.prog 49 #[nv t.op t.so t.nm t.nu (.slice A t.ks.length cap), .slice DA dl.length dcap, .slice SA sl.length scap] w (RetN w (resG true dl sl t)) := by
 induction t using Nd.ind with
 | h t ih =>
 intro A cap w hL hfine hsh hD hS
 have HB1 : Below w.heap.size w (w.alloc (.cells #[.int .i64 t.op, .int .i64 t.so, .string t.nm, .int .i64 t.nu, .slice A t.ks.length cap] 27)) := (Below.refl _ _).alloc (Nat.le_refl _) _
 obtain ⟨i0, hi, hz0, hz1, hz2⟩ := info_parts info27
 have I0 := Lib.hid hi
 have Z0 := Lib.hid hz0
 have Z1 := Lib.hid hz1
 have Z2 := Lib.hid hz2
 clear hi hz0 hz1 hz2
 have hn := hL.len
 unfold maxLen at hn
 have HL := Lib.hid hL
 have IH := Lib.hid ih
 have HF := Lib.hid hfine
 have HSh := Lib.hid hsh
 have HD := Lib.hid hD
 have HS := Lib.hid hS
 have NB := Lib.hid (heap_alloc_new w (.cells #[.int .i64 t.op, .int .i64 t.so, .string t.nm, .int .i64 t.nu, .slice A t.ks.length cap] 27))
 clear hL ih hfine hsh hD hS
 have HB1 := Lib.hid HB1
 go_enter Tryz.func49, Tryz.ntmps49
 go_wp2_with fail
 have G0 : GInv (w.alloc (.cells #[.int .i64 t.op, .int .i64 t.so, .string t.nm, .int .i64 t.nu, .slice A t.ks.length cap] 27)) (w.heap.size + 1 + 1 + 1) (w.heap.size + 1 + 1) (w.heap.size + 1) t [] (((w.alloc (.cells #[.int .i64 t.op, .int .i64 t.so, .string t.nm, .int .i64 t.nu, .slice A t.ks.length cap] 27)).alloc (.cells zero5 27)).alloc (.cells #[.int .i64 t.op, .int .i64 t.so, .string t.nm, .int .i64 t.nu, .slice none 0 0] 27)) :=
  ⟨_, [], rfl, Grows.nil _ _, by have := heap_alloc_new ((w.alloc (.cells #[.int .i64 t.op, .int .i64 t.so, .string t.nm, .int .i64 t.nu, .slice A t.ks.length cap] 27)).alloc (.cells zero5 27)) (.cells #[.int .i64 t.op, .int .i64 t.so, .string t.nm, .int .i64 t.nu, .slice none 0 0] 27); rwa [World.size_alloc, World.size_alloc] at this, (((Below.refl _ _).alloc (Nat.le_refl _) _).block _ (by simp)).trans (by have := heap_alloc_new (w.alloc (.cells #[.int .i64 t.op, .int .i64 t.so, .string t.nm, .int .i64 t.nu, .slice A t.ks.length cap] 27)) (.cells zero5 27); rwa [World.size_alloc] at this), ((Below.refl _ _).alloc (Nat.le_refl _) _).alloc (by simp) _⟩
 have S1 := Lib.hid (show (w.alloc (.cells #[.int .i64 t.op, .int .i64 t.so, .string t.nm, .int .i64 t.nu, .slice A t.ks.length cap] 27)).heap.size = w.heap.size + 1 by simp)
 generalize (((w.alloc (.cells #[.int .i64 t.op, .int .i64 t.so, .string t.nm, .int .i64 t.nu, .slice A t.ks.length cap] 27)).alloc (.cells zero5 27)).alloc (.cells #[.int .i64 t.op, .int .i64 t.so, .string t.nm, .int .i64 t.nu, .slice none 0 0] 27)) = W0 at *
 generalize hW1 : w.alloc (.cells #[.int .i64 t.op, .int .i64 t.so, .string t.nm, .int .i64 t.nu, .slice A t.ks.length cap] 27) = W1 at *
 clear hW1
 go_loopw [29] (fun i wr => ∃ k : Nat, k ≤ t.ks.length ∧ i = .int .i64 k ∧ Hid (GInv W1 (w.heap.size + 1 + 1 + 1) (w.heap.size + 1 + 1) (w.heap.size + 1) t ((t.ks.take k).map (resG true dl sl)) wr)) (fun i _ => t.ks.length - (intOf i).toNat)
 case atStart => exact ⟨0, Nat.zero_le _, rfl, G0⟩
 case round =>
  obtain ⟨k, hk, rfl, v, xs, hG⟩ := hrel
  have HG := Lib.hid hG
  have c4 := cell_row hG.rbox (i := 4) rfl
  have s1 : W1.heap.size ≤ w.heap.size + 1 := Nat.le_of_eq S1.out
  have s1' : w.heap.size + 1 ≤ W1.heap.size := Nat.le_of_eq S1.out.symm
  have hBr : Below w.heap.size w wr := HB1.out.trans (hG.below.mono HB1.out.size)
  have hrbz := (Array.getElem?_eq_some_iff.1 hG.rbox).1
  have hlen : xs.length = k := by
   have := congrArg List.length hG.outs
   simpa [Nat.min_eq_left hk] using this
  clear hG
  by_cases hlt : k < t.ks.length
  ·obtain ⟨b, o, A', C', rfl, g5, hK⟩ := HL.out.kid hlt
   have hFk := HL.out.fine hlt
   obtain ⟨a0, a1, a2, a3, a4⟩ := g5.later hBr
   have c := Lib.hid (fun w hL hD hS => IH.out k hlt A' C' w hL hFk (HSh.out.kid hlt) hD hS)
   have hK' := Lib.hid (hK.later hBr)
   have htk := Lib.hid (show (t.ks.take (k + 1)).map (resG true dl sl) = (t.ks.take k).map (resG true dl sl) ++ [resG true dl sl t.ks[k]] from by rw [List.take_succ_eq_append_getElem hlt, List.map_append]; rfl)
   have hsz := hBr.size
   have hself := HSh.out.self
   have HD' := Lib.hid (HD.out.later hBr)
   have HS' := Lib.hid (HS.out.later hBr)
   generalize resG true dl sl t.ks[k] = u at *
   generalize t.ks[k] = q at *
   clear g5 hK IH HL HD HS NB
   go_wp2_with fail
   refine (c.out _ (hK'.out.later ((Below.refl _ _).alloc (Nat.le_refl _) _)) (HD'.out.later ((Below.refl _ _).alloc (Nat.le_refl _) _)) (HS'.out.later ((Below.refl _ _).alloc (Nat.le_refl _) _))).mono ?_
   rintro e w2 ⟨A2, C2, rfl, hrob, hFu, hb2⟩
   have hb3 : Below wr.heap.size wr w2 := ((Below.refl _ _).alloc (Nat.le_refl _) _).trans (hb2.mono (by simp))
   have HG2 := Lib.hid (HG.out.later hb3)
   have hR : Rob (w.heap.size + 1 + 1 + 1) w2 v.ownBlock A2 C2 u.ks := hrob.newNone (fun g hg => by have := (HG.out.grows.row.lt g hg).2; simp; omega) (by simp; omega)
   have HR := Lib.hid hR
   have d4 := cell_row HG2.out.rbox (i := 4) rfl
   have hsz2 : w.heap.size + 1 + 1 + 1 ≤ w2.heap.size := by have := (Array.getElem?_eq_some_iff.1 HG2.out.rbox).1; omega
   have hsz3 : w.heap.size + 1 + 1 < w2.heap.size := by omega
   have SZ := Lib.hid (show ∀ O O', w.heap.size + 1 + 1 + 1 ≤ ((w2.alloc O).alloc O').heap.size from fun O O' => by rw [World.size_alloc, World.size_alloc]; omega)
   have NX := Lib.hid (fun O => news5 (w2.alloc O) (u, A2, C2) (w2.heap.size + 1) (by rw [World.size_alloc]))
   have BB := Lib.hid (show ∀ O O', Below w2.heap.size w2 ((w2.alloc O).alloc O') from fun O O' => ((Below.refl _ _).alloc (Nat.le_refl _) _).alloc (by rw [World.size_alloc]; omega) _)
   have HO := Lib.hid (fun O O' => ownsRow_below HG2.out.grows.row (BB.out O O'))
   have L1 := Lib.hid (show xs.length + 1 ≤ maxLen by unfold maxLen; omega)
   have L2 := Lib.hid (show (xs.length + 1) * 64 ≤ 140737488355328 by omega)
   clear hb2 hb3 hrob hR a0 a1 a2 a3 a4 c4 HG
   go_wp2_with (at_builtin; refine wpList_append_own_at _ rfl _ _ 25 rfl (w.heap.size + 1 + 1 + 1) 27 i0 _ 5 64 Tryz.underlying25 I0.out Z0.out Z1.out Z2.out rfl (by decide) v xs.length (flatN xs) rfl (HO.out _ _) ⟨w2.heap.size + 1, 0, none⟩ 1 1 (cells5 (u, A2, C2)) rfl rfl (NX.out _) (by simp [cells5, Value.oneCell']) L1.out L2.out (SZ.out _ _) ?_; intro v' w3 hown3 hgrow3 _ hor; obtain ⟨g3, cap3, rfl⟩ := ownsRow_succ hown3; have HST := Lib.hid ((HG2.out.later (BB.out _ _)).step (x := (u, A2, C2)) (by omega) (by omega) (by omega) (HR.out.later (BB.out _ _)) hFu hown3 hgrow3 hor); have hb := hgrow3.block (w.heap.size + 1 + 1) (Nat.lt_of_lt_of_le hsz3 (BB.out _ _).size) (fun e => absurd ((HG2.out.grows.row.lt _ e.symm).1) (by omega)); have hb' := hb.trans (((BB.out _ _).block _ hsz3).trans HG2.out.rbox); have e4 := cell_row hb' (i := 4) rfl; have f4 := frozen_of_row w3 (w.heap.size + 1 + 1) 4 _ _ hb'; clear hb hb' hown3 hgrow3 hor)
   go_roundw
   case rel => exact ⟨k + 1, by omega, by go_num, by rw [htk.out]; have := HST.out; rw [hlen] at this; exact ⟨_, _, this⟩⟩
   case measure => simp [intOf]; omega
  ·have hG := HG.out
   have hself := HSh.out.self
   obtain ⟨A3, cap3, rfl, hrob⟩ := hG.grows.rob (by unfold maxLen; omega)
   have hk' : t.ks.length = k := by omega
   have houts : xs.map (·.1) = t.ks.map (resG true dl sl) := hG.outs.trans (by rw [List.take_of_length_le (by omega)])
   have hr := hG.rbox
   have hz := hG.zbox
   have hnn := (hG.below.block w.heap.size (by omega)).trans NB.out
   have hxl : xs.length = t.ks.length := by omega
   rw [houts] at hrob
   rw [hxl] at hr
   obtain rfl := hk'
   have HLr := Lib.hid (HD.out.later hBr)
   have HSr := Lib.hid (HS.out.later hBr)
   have hszr := hBr.size
   have hsz3 : w.heap.size + 1 + 1 < wr.heap.size := hrbz
   clear hG HG hlen houts IH HL HD HS NB G0 c4 hlt hxl
   replace hrbz := hsz3
   have hB := hBr
   by_cases h1 : t.op = 1
   ·have h1' : (t.op == 1) = true := by simpa using h1
    cases hd : lookD dl t.nm with
    | some x =>
     have hsub := Lib.hid (resG_at (b := true) (dl := dl) (sl := sl) (t := t) (x := t.op) (y := x) (by unfold topR; rw [if_pos h1, hd, h1]))
     have hy := Lib.hid (lookD_wf hdw hd)
     have Hd := Lib.hid hd
     clear h1 hd
     have n2 := cell_row hnn (i := 2) rfl
     have n0 := cell_row hnn (i := 0) rfl
     have b0 := cell_row hr (i := 0) rfl
     have b1 := cell_row hr (i := 1) rfl
     have b2 := cell_row hr (i := 2) rfl
     have b3 := cell_row hr (i := 3) rfl
     have b4 := cell_row hr (i := 4) rfl
     have p0 := frozen_of_row wr (w.heap.size + 1 + 1) 0 _ _ hr
     have p1 := frozen_of_row wr (w.heap.size + 1 + 1) 1 _ _ hr
     obtain ⟨z0, z1, z2, z3, z4, f0, f1, f2, f3, f4⟩ := box_facts hz
     go_wp2_with fail
     refine (varOf_any dl t.nm DA dcap _ HLr.out hdl).mono ?_
     rintro e w1 ⟨rfl, hb1⟩
     rw [Hd.out]
     have hr1 := (hb1.block (w.heap.size + 1 + 1) (by omega)).trans hr
     have hz1 := (hb1.block (w.heap.size + 1) (by omega)).trans hz
     have hnn1 := (hb1.block w.heap.size (by omega)).trans hnn
     have hrob1 := hrob.later hb1
     have hB1 := hB.trans (hb1.mono (by omega))
     have hsz1 : w.heap.size + 1 + 1 < w1.heap.size := Nat.lt_of_lt_of_le (by omega) hb1.size
     clear n2 n0 b0 b1 b2 b3 b4 p0 p1 z0 z1 z2 z3 z4 f0 f1 f2 f3 f4
     have n2 := cell_row hnn1 (i := 2) rfl
     have n0 := cell_row hnn1 (i := 0) rfl
     have b0 := cell_row hr1 (i := 0) rfl
     have b1 := cell_row hr1 (i := 1) rfl
     have b2 := cell_row hr1 (i := 2) rfl
     have b3 := cell_row hr1 (i := 3) rfl
     have b4 := cell_row hr1 (i := 4) rfl
     have p0 := frozen_of_row w1 (w.heap.size + 1 + 1) 0 _ _ hr1
     have p1 := frozen_of_row w1 (w.heap.size + 1 + 1) 1 _ _ hr1
     obtain ⟨z0, z1, z2, z3, z4, f0, f1, f2, f3, f4⟩ := box_facts hz1
     clear hr hz hnn hrob hb1
     have hz0x := (heap_setCell_other _ ⟨w.heap.size + 1 + 1, 1, none⟩ (w.heap.size + 1) (.int .i64 x) (by simp)).trans hz1
     have hr0x := hrob1.set1 (p := ⟨w.heap.size + 1 + 1, 1, none⟩) (by simp) (.int .i64 x)
     have hb0x := hB1.setCell (p := ⟨w.heap.size + 1 + 1, 1, none⟩) (by simp; omega) (.int .i64 x)
     have hfin := set5_same (.int .i64 t.op) (.int .i64 x) (.string t.nm) (.int .i64 t.nu) (.slice A3 t.ks.length cap3) hz0x
     have hRR := hr0x.set5 (b := w.heap.size + 1) (n1 := w.heap.size) (by omega) (by omega) (.int .i64 t.op) (.int .i64 x) (.string t.nm) (.int .i64 t.nu) (.slice A3 t.ks.length cap3)
     have hBB := Below.set5 hb0x (b := w.heap.size + 1) (by omega) (.int .i64 t.op) (.int .i64 x) (.string t.nm) (.int .i64 t.nu) (.slice A3 t.ks.length cap3)
     have Hfin := Lib.hid hfin
     have HR := Lib.hid hRR
     have HBf := Lib.hid hBB
     clear hfin hRR hBB hz0x hr0x hb0x hz1 hr1 hrob1 hB1 hnn1
     go_wp2_with fail
     have hf := Hfin.out
     obtain ⟨y0, y1, y2, y3, y4, _, _, _, _, _⟩ := box_facts hf
     rw [hsub.out]
     refine bodyPost_ret (v := nv t.op x t.nm t.nu (.slice A3 t.ks.length cap3)) ?_ rfl ⟨A3, cap3, by show Ending.returned (nv t.op x t.nm t.nu (.slice A3 t.ks.length cap3)) = .returned (nv t.op x t.nm t.nu (.slice A3 (t.ks.map (resG true dl sl)).length cap3)); rw [List.length_map], HR.out, fine_at HF.out HF.out.op hy.out _, HBf.out⟩
     clear hf Hfin HR HBf
     simp [results, Tryz.f49, go_sem, y0, y1, y2, y3, y4]
    | none =>
     have hsub := Lib.hid (resG_at (b := true) (dl := dl) (sl := sl) (t := t) (x := 3) (y := (sigAt sl t.nm).1.so) (by unfold topR; rw [if_pos h1, hd]; rfl))
     have hx := Lib.hid (show (Lit.int .i64 3).wf = true by decide)
     have hy := Lib.hid (hsw t.nm)
     have Hd := Lib.hid hd
     clear h1 hd
     have n2 := cell_row hnn (i := 2) rfl
     have n0 := cell_row hnn (i := 0) rfl
     have b0 := cell_row hr (i := 0) rfl
     have b1 := cell_row hr (i := 1) rfl
     have b2 := cell_row hr (i := 2) rfl
     have b3 := cell_row hr (i := 3) rfl
     have b4 := cell_row hr (i := 4) rfl
     have p0 := frozen_of_row wr (w.heap.size + 1 + 1) 0 _ _ hr
     have p1 := frozen_of_row wr (w.heap.size + 1 + 1) 1 _ _ hr
     obtain ⟨z0, z1, z2, z3, z4, f0, f1, f2, f3, f4⟩ := box_facts hz
     go_wp2_with fail
     refine (varOf_any dl t.nm DA dcap _ HLr.out hdl).mono ?_
     rintro e w1 ⟨rfl, hb1⟩
     rw [Hd.out]
     have hr1 := (hb1.block (w.heap.size + 1 + 1) (by omega)).trans hr
     have hz1 := (hb1.block (w.heap.size + 1) (by omega)).trans hz
     have hnn1 := (hb1.block w.heap.size (by omega)).trans hnn
     have hrob1 := hrob.later hb1
     have hB1 := hB.trans (hb1.mono (by omega))
     have hsz1 : w.heap.size + 1 + 1 < w1.heap.size := Nat.lt_of_lt_of_le (by omega) hb1.size
     clear n2 n0 b0 b1 b2 b3 b4 p0 p1 z0 z1 z2 z3 z4 f0 f1 f2 f3 f4
     have n2 := cell_row hnn1 (i := 2) rfl
     have n0 := cell_row hnn1 (i := 0) rfl
     have b0 := cell_row hr1 (i := 0) rfl
     have b1 := cell_row hr1 (i := 1) rfl
     have b2 := cell_row hr1 (i := 2) rfl
     have b3 := cell_row hr1 (i := 3) rfl
     have b4 := cell_row hr1 (i := 4) rfl
     have p0 := frozen_of_row w1 (w.heap.size + 1 + 1) 0 _ _ hr1
     have p1 := frozen_of_row w1 (w.heap.size + 1 + 1) 1 _ _ hr1
     obtain ⟨z0, z1, z2, z3, z4, f0, f1, f2, f3, f4⟩ := box_facts hz1
     have HS1 := Lib.hid (HSr.out.later hb1)
     clear hr hz hnn hrob hb1
     go_wp2_with fail
     refine (sigOf_any sl t.nm SA scap _ HS1.out hsl).mono ?_
     rintro e w2 ⟨rfl, hb2⟩
     rw [show (lookS sl t.nm).getD zeroSg = sigAt sl t.nm from rfl]
     generalize (lookS sl t.nm).isSome = bb at *
     generalize sigAt sl t.nm = y at *
     have hr2 := (hb2.block (w.heap.size + 1 + 1) (by omega)).trans hr1
     have hz2 := (hb2.block (w.heap.size + 1) (by omega)).trans hz1
     have hnn2 := (hb2.block w.heap.size (by omega)).trans hnn1
     have hrob2 := hrob1.later hb2
     have hB2 := hB1.trans (hb2.mono (by omega))
     have hsz2 : w.heap.size + 1 + 1 < w2.heap.size := Nat.lt_of_lt_of_le (by omega) hb2.size
     clear n2 n0 b0 b1 b2 b3 b4 p0 p1 z0 z1 z2 z3 z4 f0 f1 f2 f3 f4
     have n2 := cell_row hnn2 (i := 2) rfl
     have n0 := cell_row hnn2 (i := 0) rfl
     have b0 := cell_row hr2 (i := 0) rfl
     have b1 := cell_row hr2 (i := 1) rfl
     have b2 := cell_row hr2 (i := 2) rfl
     have b3 := cell_row hr2 (i := 3) rfl
     have b4 := cell_row hr2 (i := 4) rfl
     have p0 := frozen_of_row w2 (w.heap.size + 1 + 1) 0 _ _ hr2
     have p1 := frozen_of_row w2 (w.heap.size + 1 + 1) 1 _ _ hr2
     obtain ⟨z0, z1, z2, z3, z4, f0, f1, f2, f3, f4⟩ := box_facts hz2
     clear hr1 hz1 hnn1 hrob1 hb2
     have hr3 := heap_setCell_same _ (w.heap.size + 1 + 1) 1 _ _ (.int .i64 y.1.so) (heap_setCell_same w2 (w.heap.size + 1 + 1) 0 _ _ (.int .i64 3) hr2)
     have hz3 := (heap_setCell_other _ ⟨w.heap.size + 1 + 1, 1, none⟩ (w.heap.size + 1) (.int .i64 y.1.so) (by simp)).trans ((heap_setCell_other w2 ⟨w.heap.size + 1 + 1, 0, none⟩ (w.heap.size + 1) (.int .i64 3) (by simp)).trans hz2)
     have hn3 := (heap_setCell_other _ ⟨w.heap.size + 1 + 1, 1, none⟩ w.heap.size (.int .i64 y.1.so) (by show w.heap.size ≠ w.heap.size + 1 + 1; omega)).trans ((heap_setCell_other w2 ⟨w.heap.size + 1 + 1, 0, none⟩ w.heap.size (.int .i64 3) (by show w.heap.size ≠ w.heap.size + 1 + 1; omega)).trans hnn2)
     have hrob3 := (hrob2.set1 (p := ⟨w.heap.size + 1 + 1, 0, none⟩) (by simp) (.int .i64 3)).set1 (p := ⟨w.heap.size + 1 + 1, 1, none⟩) (by simp) (.int .i64 y.1.so)
     have hB3 := (hB2.setCell (p := ⟨w.heap.size + 1 + 1, 0, none⟩) (by simp; omega) (.int .i64 3)).setCell (p := ⟨w.heap.size + 1 + 1, 1, none⟩) (by simp; omega) (.int .i64 y.1.so)
     have hal := fun W => (Below.refl (World.heap W).size W).alloc (Nat.le_refl _) (.cells #[.string y.1.nm, .slice y.2.1 y.1.args.length y.2.2, .int .i64 y.1.so] 80)
     have HR5 := Lib.hid (((hal _).block _ (Array.getElem?_eq_some_iff.1 hr3).1).trans hr3)
     have HZ5 := Lib.hid (((hal _).block _ (Array.getElem?_eq_some_iff.1 hz3).1).trans hz3)
     have HN5 := Lib.hid (((hal _).block _ (Array.getElem?_eq_some_iff.1 hn3).1).trans hn3)
     have HO5 := Lib.hid ((hrob3.later (hal _)).later (Below.refl _ _).drew)
     have HB5 := Lib.hid ((hB3.alloc hB3.size (.cells #[.string y.1.nm, .slice y.2.1 y.1.args.length y.2.2, .int .i64 y.1.so] 80)).drew)
     clear hr3 hz3 hn3 hrob3 hB3 hal hr2 hz2 hnn2 hrob2 hB2
     go_upto_region 15 with fail
     go_region
     have hr5 : ((((w2.setCell ⟨w.heap.size + 1 + 1, 0, none⟩ (.int .i64 3)).setCell ⟨w.heap.size + 1 + 1, 1, none⟩ (.int .i64 y.1.so)).alloc (.cells #[.string y.1.nm, .slice y.2.1 y.1.args.length y.2.2, .int .i64 y.1.so] 80)).drew).heap[w.heap.size + 1 + 1]? = _ := HR5.out
     have hz5 : ((((w2.setCell ⟨w.heap.size + 1 + 1, 0, none⟩ (.int .i64 3)).setCell ⟨w.heap.size + 1 + 1, 1, none⟩ (.int .i64 y.1.so)).alloc (.cells #[.string y.1.nm, .slice y.2.1 y.1.args.length y.2.2, .int .i64 y.1.so] 80)).drew).heap[w.heap.size + 1]? = _ := HZ5.out
     have hnn5 : ((((w2.setCell ⟨w.heap.size + 1 + 1, 0, none⟩ (.int .i64 3)).setCell ⟨w.heap.size + 1 + 1, 1, none⟩ (.int .i64 y.1.so)).alloc (.cells #[.string y.1.nm, .slice y.2.1 y.1.args.length y.2.2, .int .i64 y.1.so] 80)).drew).heap[w.heap.size]? = _ := HN5.out
     have hrob5 := HO5.out
     have hB5 := HB5.out
     clear HR5 HZ5 HN5 HO5 HB5
     generalize (((w2.setCell ⟨w.heap.size + 1 + 1, 0, none⟩ (.int .i64 3)).setCell ⟨w.heap.size + 1 + 1, 1, none⟩ (.int .i64 y.1.so)).alloc (.cells #[.string y.1.nm, .slice y.2.1 y.1.args.length y.2.2, .int .i64 y.1.so] 80)).drew = W5 at *
     clear n2 n0 b0 b1 b2 b3 b4 p0 p1 z0 z1 z2 z3 z4 f0 f1 f2 f3 f4
     have n2 := cell_row hnn5 (i := 2) rfl
     have n0 := cell_row hnn5 (i := 0) rfl
     have b0 := cell_row hr5 (i := 0) rfl
     have b1 := cell_row hr5 (i := 1) rfl
     have b2 := cell_row hr5 (i := 2) rfl
     have b3 := cell_row hr5 (i := 3) rfl
     have b4 := cell_row hr5 (i := 4) rfl
     have p0 := frozen_of_row W5 (w.heap.size + 1 + 1) 0 _ _ hr5
     have p1 := frozen_of_row W5 (w.heap.size + 1 + 1) 1 _ _ hr5
     obtain ⟨z0, z1, z2, z3, z4, f0, f1, f2, f3, f4⟩ := box_facts hz5
     have hfin := set5_same (.int .i64 3) (.int .i64 y.1.so) (.string t.nm) (.int .i64 t.nu) (.slice A3 t.ks.length cap3) hz5
     have hRR := hrob5.set5 (b := w.heap.size + 1) (n1 := w.heap.size) (by omega) (by omega) (.int .i64 3) (.int .i64 y.1.so) (.string t.nm) (.int .i64 t.nu) (.slice A3 t.ks.length cap3)
     have hBB := Below.set5 hB5 (b := w.heap.size + 1) (by omega) (.int .i64 3) (.int .i64 y.1.so) (.string t.nm) (.int .i64 t.nu) (.slice A3 t.ks.length cap3)
     have Hfin := Lib.hid hfin
     have HR := Lib.hid hRR
     have HBf := Lib.hid hBB
     clear hfin hRR hBB  hz5 hr5 hrob5 hB5 hnn5
     go_wp2_with fail
     have hf := Hfin.out
     obtain ⟨y0, y1, y2, y3, y4, _, _, _, _, _⟩ := box_facts hf
     rw [hsub.out]
     refine bodyPost_ret (v := nv 3 y.1.so t.nm t.nu (.slice A3 t.ks.length cap3)) ?_ rfl ⟨A3, cap3, by show Ending.returned (nv 3 y.1.so t.nm t.nu (.slice A3 t.ks.length cap3)) = .returned (nv 3 y.1.so t.nm t.nu (.slice A3 (t.ks.map (resG true dl sl)).length cap3)); rw [List.length_map], HR.out, fine_at HF.out hx.out hy.out _, HBf.out⟩
     clear hf Hfin HR HBf
     simp [results, Tryz.f49, go_sem, y0, y1, y2, y3, y4]
   ·have h1' : (t.op == 1) = false := by simpa using h1
    by_cases h3 : t.op = 3
    ·have h3' : (t.op == 3) = true := by simpa using h3
     have hsub := Lib.hid (resG_at (b := true) (dl := dl) (sl := sl) (t := t) (x := t.op) (y := (sigAt sl t.nm).1.so) (by unfold topR; rw [if_neg h1, if_pos h3, h3]; rfl))
     have hy := Lib.hid (hsw t.nm)
     clear h1 h3
     have n2 := cell_row hnn (i := 2) rfl
     have n0 := cell_row hnn (i := 0) rfl
     have b0 := cell_row hr (i := 0) rfl
     have b1 := cell_row hr (i := 1) rfl
     have b2 := cell_row hr (i := 2) rfl
     have b3 := cell_row hr (i := 3) rfl
     have b4 := cell_row hr (i := 4) rfl
     have p0 := frozen_of_row wr (w.heap.size + 1 + 1) 0 _ _ hr
     have p1 := frozen_of_row wr (w.heap.size + 1 + 1) 1 _ _ hr
     obtain ⟨z0, z1, z2, z3, z4, f0, f1, f2, f3, f4⟩ := box_facts hz
     go_wp2_with fail
     refine (sigOf_any sl t.nm SA scap _ HSr.out hsl).mono ?_
     rintro e w1 ⟨rfl, hb1⟩
     rw [show (lookS sl t.nm).getD zeroSg = sigAt sl t.nm from rfl]
     generalize (lookS sl t.nm).isSome = bb at *
     generalize sigAt sl t.nm = y at *
     have hr1 := (hb1.block (w.heap.size + 1 + 1) (by omega)).trans hr
     have hz1 := (hb1.block (w.heap.size + 1) (by omega)).trans hz
     have hnn1 := (hb1.block w.heap.size (by omega)).trans hnn
     have hrob1 := hrob.later hb1
     have hB1 := hB.trans (hb1.mono (by omega))
     have hsz1 : w.heap.size + 1 + 1 < w1.heap.size := Nat.lt_of_lt_of_le (by omega) hb1.size
     clear n2 n0 b0 b1 b2 b3 b4 p0 p1 z0 z1 z2 z3 z4 f0 f1 f2 f3 f4
     have n2 := cell_row hnn1 (i := 2) rfl
     have n0 := cell_row hnn1 (i := 0) rfl
     have b0 := cell_row hr1 (i := 0) rfl
     have b1 := cell_row hr1 (i := 1) rfl
     have b2 := cell_row hr1 (i := 2) rfl
     have b3 := cell_row hr1 (i := 3) rfl
     have b4 := cell_row hr1 (i := 4) rfl
     have p0 := frozen_of_row w1 (w.heap.size + 1 + 1) 0 _ _ hr1
     have p1 := frozen_of_row w1 (w.heap.size + 1 + 1) 1 _ _ hr1
     obtain ⟨z0, z1, z2, z3, z4, f0, f1, f2, f3, f4⟩ := box_facts hz1
     clear hr hz hnn hrob hb1
     have hr3 := heap_setCell_same w1 (w.heap.size + 1 + 1) 1 _ _ (.int .i64 y.1.so) hr1
     have hz3 := (heap_setCell_other w1 ⟨w.heap.size + 1 + 1, 1, none⟩ (w.heap.size + 1) (.int .i64 y.1.so) (by simp)).trans hz1
     have hn3 := (heap_setCell_other w1 ⟨w.heap.size + 1 + 1, 1, none⟩ w.heap.size (.int .i64 y.1.so) (by show w.heap.size ≠ w.heap.size + 1 + 1; omega)).trans hnn1
     have hrob3 := hrob1.set1 (p := ⟨w.heap.size + 1 + 1, 1, none⟩) (by simp) (.int .i64 y.1.so)
     have hB3 := hB1.setCell (p := ⟨w.heap.size + 1 + 1, 1, none⟩) (by simp; omega) (.int .i64 y.1.so)
     have hal := fun W => (Below.refl (World.heap W).size W).alloc (Nat.le_refl _) (.cells #[.string y.1.nm, .slice y.2.1 y.1.args.length y.2.2, .int .i64 y.1.so] 80)
     have HR5 := Lib.hid (((hal _).block _ (Array.getElem?_eq_some_iff.1 hr3).1).trans hr3)
     have HZ5 := Lib.hid (((hal _).block _ (Array.getElem?_eq_some_iff.1 hz3).1).trans hz3)
     have HN5 := Lib.hid (((hal _).block _ (Array.getElem?_eq_some_iff.1 hn3).1).trans hn3)
     have HO5 := Lib.hid (hrob3.later (hal _))
     have HB5 := Lib.hid (hB3.alloc hB3.size (.cells #[.string y.1.nm, .slice y.2.1 y.1.args.length y.2.2, .int .i64 y.1.so] 80))
     clear hr3 hz3 hn3 hrob3 hB3 hal hr1 hz1 hnn1 hrob1 hB1
     go_upto_region 22 with fail
     have hr5 := HR5.out
     have hz5 := HZ5.out
     have hnn5 := HN5.out
     have hrob5 := HO5.out
     have hB5 := HB5.out
     clear HR5 HZ5 HN5 HO5 HB5
     generalize (w1.setCell ⟨w.heap.size + 1 + 1, 1, none⟩ (.int .i64 y.1.so)).alloc (.cells #[.string y.1.nm, .slice y.2.1 y.1.args.length y.2.2, .int .i64 y.1.so] 80) = W5 at *
     clear n2 n0 b0 b1 b2 b3 b4 p0 p1 z0 z1 z2 z3 z4 f0 f1 f2 f3 f4
     have n2 := cell_row hnn5 (i := 2) rfl
     have n0 := cell_row hnn5 (i := 0) rfl
     have b0 := cell_row hr5 (i := 0) rfl
     have b1 := cell_row hr5 (i := 1) rfl
     have b2 := cell_row hr5 (i := 2) rfl
     have b3 := cell_row hr5 (i := 3) rfl
     have b4 := cell_row hr5 (i := 4) rfl
     have p0 := frozen_of_row W5 (w.heap.size + 1 + 1) 0 _ _ hr5
     have p1 := frozen_of_row W5 (w.heap.size + 1 + 1) 1 _ _ hr5
     obtain ⟨z0, z1, z2, z3, z4, f0, f1, f2, f3, f4⟩ := box_facts hz5
     have hfin := set5_same (.int .i64 t.op) (.int .i64 y.1.so) (.string t.nm) (.int .i64 t.nu) (.slice A3 t.ks.length cap3) hz5
     have hRR := hrob5.set5 (b := w.heap.size + 1) (n1 := w.heap.size) (by omega) (by omega) (.int .i64 t.op) (.int .i64 y.1.so) (.string t.nm) (.int .i64 t.nu) (.slice A3 t.ks.length cap3)
     have hBB := Below.set5 hB5 (b := w.heap.size + 1) (by omega) (.int .i64 t.op) (.int .i64 y.1.so) (.string t.nm) (.int .i64 t.nu) (.slice A3 t.ks.length cap3)
     have Hfin := Lib.hid hfin
     have HR := Lib.hid hRR
     have HBf := Lib.hid hBB
     clear hfin hRR hBB  hz5 hr5 hrob5 hB5 hnn5
     go_wp2_with fail
     have hf := Hfin.out
     obtain ⟨y0, y1, y2, y3, y4, _, _, _, _, _⟩ := box_facts hf
     rw [hsub.out]
     refine bodyPost_ret (v := nv t.op y.1.so t.nm t.nu (.slice A3 t.ks.length cap3)) ?_ rfl ⟨A3, cap3, by show Ending.returned (nv t.op y.1.so t.nm t.nu (.slice A3 t.ks.length cap3)) = .returned (nv t.op y.1.so t.nm t.nu (.slice A3 (t.ks.map (resG true dl sl)).length cap3)); rw [List.length_map], HR.out, fine_at HF.out HF.out.op hy.out _, HBf.out⟩
     clear hf Hfin HR HBf
     simp [results, Tryz.f49, go_sem, y0, y1, y2, y3, y4]
    ·have h3' : (t.op == 3) = false := by simpa using h3
     by_cases h37 : t.op = 37
     ·have h37' : (t.op == 37) = true := by simpa using h37
      have htop := Lib.hid (show topR true dl sl t (t.ks.map (resG true dl sl)) = (if takesB (t.ks.map (resG true dl sl)) [2, 2] = true then 36 else 37, t.so) by unfold topR; rw [if_neg h1, if_neg h3, if_pos h37])
      have hop := Lib.hid h37
      clear h1 h3 h37
      by_cases h2 : t.ks.length = 2
      ·have h2' : ((t.ks.length : Int) == 2) = true := by rw [h2]; rfl
       have hK2 : (t.ks.map (resG true dl sl)).length = 2 := by rw [List.length_map]; exact h2
       have htk := Lib.hid (takes_two hK2)
       have hli := hrob.lies
       obtain ⟨kb, ko, KA, KC, hKA, k5, hKL⟩ := hli.kid (i := 0) (by omega)
       subst hKA
       obtain ⟨kb', ko', KA', KC', hKA', k5', hKL'⟩ := hli.kid (i := 1) (by omega)
       obtain ⟨rfl, rfl⟩ : kb = kb' ∧ ko = ko' := by simpa using hKA'
       have HK0 := Lib.hid hKL
       have HK1 := Lib.hid hKL'
       have h2a : 0 < t.ks.length := by omega
       have h2b : 1 < t.ks.length := by omega
       have K51 := Lib.hid k5'
       obtain ⟨e0, e1, e2, e3, e4⟩ := k5
       simp only [Nat.zero_mul, Nat.add_zero] at e0 e1 e2 e3 e4
       generalize (t.ks.map (resG true dl sl))[0]'(by omega) = q0 at *
       generalize (t.ks.map (resG true dl sl))[1]'(by omega) = q1 at *
       clear hKA' hli hKL hKL' h2 k5' hK2
       have n2 := cell_row hnn (i := 2) rfl
       have n0 := cell_row hnn (i := 0) rfl
       have b0 := cell_row hr (i := 0) rfl
       have b1 := cell_row hr (i := 1) rfl
       have b2 := cell_row hr (i := 2) rfl
       have b3 := cell_row hr (i := 3) rfl
       have b4 := cell_row hr (i := 4) rfl
       have p0 := frozen_of_row wr (w.heap.size + 1 + 1) 0 _ _ hr
       have p1 := frozen_of_row wr (w.heap.size + 1 + 1) 1 _ _ hr
       obtain ⟨z0, z1, z2, z3, z4, f0, f1, f2, f3, f4⟩ := box_facts hz
       cases hs0 : sortN q0 == 2
       case false =>
        have hsub := Lib.hid (resG_at (b := true) (dl := dl) (sl := sl) (t := t) (x := t.op) (y := t.so) (by rw [htop.out, htk.out, hs0, hop.out]; rfl))
        go_wp2_with fail
        refine (refSort_any q0 _ _ _ HK0.out).mono ?_
        rintro e w1 ⟨rfl, hb1⟩
        have hr1 := (hb1.block (w.heap.size + 1 + 1) (by omega)).trans hr
        have hz1 := (hb1.block (w.heap.size + 1) (by omega)).trans hz
        have hnn1 := (hb1.block w.heap.size (by omega)).trans hnn
        have hrob1 := hrob.later hb1
        have hB1 := hB.trans (hb1.mono (by omega))
        have hsz1 : w.heap.size + 1 + 1 < w1.heap.size := Nat.lt_of_lt_of_le (by omega) hb1.size
        clear n2 n0 b0 b1 b2 b3 b4 p0 p1 z0 z1 z2 z3 z4 f0 f1 f2 f3 f4
        have n2 := cell_row hnn1 (i := 2) rfl
        have n0 := cell_row hnn1 (i := 0) rfl
        have b0 := cell_row hr1 (i := 0) rfl
        have b1 := cell_row hr1 (i := 1) rfl
        have b2 := cell_row hr1 (i := 2) rfl
        have b3 := cell_row hr1 (i := 3) rfl
        have b4 := cell_row hr1 (i := 4) rfl
        have p0 := frozen_of_row w1 (w.heap.size + 1 + 1) 0 _ _ hr1
        have p1 := frozen_of_row w1 (w.heap.size + 1 + 1) 1 _ _ hr1
        obtain ⟨z0, z1, z2, z3, z4, f0, f1, f2, f3, f4⟩ := box_facts hz1
        clear hr hz hnn hrob hb1 e0 e1 e2 e3 e4
        have hfin := set5_same (.int .i64 t.op) (.int .i64 t.so) (.string t.nm) (.int .i64 t.nu) (.slice (some ⟨kb, ko, none⟩) t.ks.length cap3) hz1
        have hRR := hrob1.set5 (b := w.heap.size + 1) (n1 := w.heap.size) (by omega) (by omega) (.int .i64 t.op) (.int .i64 t.so) (.string t.nm) (.int .i64 t.nu) (.slice (some ⟨kb, ko, none⟩) t.ks.length cap3)
        have hBB := Below.set5 hB1 (b := w.heap.size + 1) (by omega) (.int .i64 t.op) (.int .i64 t.so) (.string t.nm) (.int .i64 t.nu) (.slice (some ⟨kb, ko, none⟩) t.ks.length cap3)
        have Hfin := Lib.hid hfin
        have HR := Lib.hid hRR
        have HBf := Lib.hid hBB
        clear hfin hRR hBB  hz1 hr1 hrob1 hB1 hnn1
        go_wp2_with fail
        have hf := Hfin.out
        obtain ⟨y0, y1, y2, y3, y4, _, _, _, _, _⟩ := box_facts hf
        rw [hsub.out]
        refine bodyPost_ret (v := nv t.op t.so t.nm t.nu (.slice (some ⟨kb, ko, none⟩) t.ks.length cap3)) ?_ rfl ⟨some ⟨kb, ko, none⟩, cap3, by show Ending.returned (nv t.op t.so t.nm t.nu (.slice (some ⟨kb, ko, none⟩) t.ks.length cap3)) = .returned (nv t.op t.so t.nm t.nu (.slice (some ⟨kb, ko, none⟩) (t.ks.map (resG true dl sl)).length cap3)); rw [List.length_map], HR.out, fine_at HF.out HF.out.op HF.out.so _, HBf.out⟩
        clear hf Hfin HR HBf
        simp [results, Tryz.f49, go_sem, y0, y1, y2, y3, y4]
       case true =>
        go_wp2_with fail
        refine (refSort_any q0 _ _ _ HK0.out).mono ?_
        rintro e w1 ⟨rfl, hb1⟩
        have K51' := K51.out.later hb1
        have HK1' := Lib.hid (HK1.out.later hb1)
        clear e0 e1 e2 e3 e4
        obtain ⟨e0, e1, e2, e3, e4⟩ := K51'
        simp only [Nat.one_mul] at e0 e1 e2 e3 e4
        have hr1 := (hb1.block (w.heap.size + 1 + 1) (by omega)).trans hr
        have hz1 := (hb1.block (w.heap.size + 1) (by omega)).trans hz
        have hnn1 := (hb1.block w.heap.size (by omega)).trans hnn
        have hrob1 := hrob.later hb1
        have hB1 := hB.trans (hb1.mono (by omega))
        have hsz1 : w.heap.size + 1 + 1 < w1.heap.size := Nat.lt_of_lt_of_le (by omega) hb1.size
        clear n2 n0 b0 b1 b2 b3 b4 p0 p1 z0 z1 z2 z3 z4 f0 f1 f2 f3 f4
        have n2 := cell_row hnn1 (i := 2) rfl
        have n0 := cell_row hnn1 (i := 0) rfl
        have b0 := cell_row hr1 (i := 0) rfl
        have b1 := cell_row hr1 (i := 1) rfl
        have b2 := cell_row hr1 (i := 2) rfl
        have b3 := cell_row hr1 (i := 3) rfl
        have b4 := cell_row hr1 (i := 4) rfl
        have p0 := frozen_of_row w1 (w.heap.size + 1 + 1) 0 _ _ hr1
        have p1 := frozen_of_row w1 (w.heap.size + 1 + 1) 1 _ _ hr1
        obtain ⟨z0, z1, z2, z3, z4, f0, f1, f2, f3, f4⟩ := box_facts hz1
        clear hr hz hnn hrob hb1
        cases hs1 : sortN q1 == 2
        case false =>
         have hsub := Lib.hid (resG_at (b := true) (dl := dl) (sl := sl) (t := t) (x := t.op) (y := t.so) (by rw [htop.out, htk.out, hs0, hs1, hop.out]; rfl))
         go_wp2_with fail
         refine (refSort_any q1 _ _ _ HK1'.out).mono ?_
         rintro e w2 ⟨rfl, hb2⟩
         have hr2 := (hb2.block (w.heap.size + 1 + 1) (by omega)).trans hr1
         have hz2 := (hb2.block (w.heap.size + 1) (by omega)).trans hz1
         have hnn2 := (hb2.block w.heap.size (by omega)).trans hnn1
         have hrob2 := hrob1.later hb2
         have hB2 := hB1.trans (hb2.mono (by omega))
         have hsz2 : w.heap.size + 1 + 1 < w2.heap.size := Nat.lt_of_lt_of_le (by omega) hb2.size
         clear n2 n0 b0 b1 b2 b3 b4 p0 p1 z0 z1 z2 z3 z4 f0 f1 f2 f3 f4
         have n2 := cell_row hnn2 (i := 2) rfl
         have n0 := cell_row hnn2 (i := 0) rfl
         have b0 := cell_row hr2 (i := 0) rfl
         have b1 := cell_row hr2 (i := 1) rfl
         have b2 := cell_row hr2 (i := 2) rfl
         have b3 := cell_row hr2 (i := 3) rfl
         have b4 := cell_row hr2 (i := 4) rfl
         have p0 := frozen_of_row w2 (w.heap.size + 1 + 1) 0 _ _ hr2
         have p1 := frozen_of_row w2 (w.heap.size + 1 + 1) 1 _ _ hr2
         obtain ⟨z0, z1, z2, z3, z4, f0, f1, f2, f3, f4⟩ := box_facts hz2
         clear hr1 hz1 hnn1 hrob1 hb2 e0 e1 e2 e3 e4
         have hfin := set5_same (.int .i64 t.op) (.int .i64 t.so) (.string t.nm) (.int .i64 t.nu) (.slice (some ⟨kb, ko, none⟩) t.ks.length cap3) hz2
         have hRR := hrob2.set5 (b := w.heap.size + 1) (n1 := w.heap.size) (by omega) (by omega) (.int .i64 t.op) (.int .i64 t.so) (.string t.nm) (.int .i64 t.nu) (.slice (some ⟨kb, ko, none⟩) t.ks.length cap3)
         have hBB := Below.set5 hB2 (b := w.heap.size + 1) (by omega) (.int .i64 t.op) (.int .i64 t.so) (.string t.nm) (.int .i64 t.nu) (.slice (some ⟨kb, ko, none⟩) t.ks.length cap3)
         have Hfin := Lib.hid hfin
         have HR := Lib.hid hRR
         have HBf := Lib.hid hBB
         clear hfin hRR hBB  hz2 hr2 hrob2 hB2 hnn2
         go_wp2_with fail
         have hf := Hfin.out
         obtain ⟨y0, y1, y2, y3, y4, _, _, _, _, _⟩ := box_facts hf
         rw [hsub.out]
         refine bodyPost_ret (v := nv t.op t.so t.nm t.nu (.slice (some ⟨kb, ko, none⟩) t.ks.length cap3)) ?_ rfl ⟨some ⟨kb, ko, none⟩, cap3, by show Ending.returned (nv t.op t.so t.nm t.nu (.slice (some ⟨kb, ko, none⟩) t.ks.length cap3)) = .returned (nv t.op t.so t.nm t.nu (.slice (some ⟨kb, ko, none⟩) (t.ks.map (resG true dl sl)).length cap3)); rw [List.length_map], HR.out, fine_at HF.out HF.out.op HF.out.so _, HBf.out⟩
         clear hf Hfin HR HBf
         simp [results, Tryz.f49, go_sem, y0, y1, y2, y3, y4]
        case true =>
         have hsub := Lib.hid (resG_at (b := true) (dl := dl) (sl := sl) (t := t) (x := 36) (y := t.so) (by rw [htop.out, htk.out, hs0, hs1]; rfl))
         have hx := Lib.hid (show (Lit.int .i64 36).wf = true by decide)
         go_wp2_with fail
         refine (refSort_any q1 _ _ _ HK1'.out).mono ?_
         rintro e w2 ⟨rfl, hb2⟩
         have hr2 := (hb2.block (w.heap.size + 1 + 1) (by omega)).trans hr1
         have hz2 := (hb2.block (w.heap.size + 1) (by omega)).trans hz1
         have hnn2 := (hb2.block w.heap.size (by omega)).trans hnn1
         have hrob2 := hrob1.later hb2
         have hB2 := hB1.trans (hb2.mono (by omega))
         have hsz2 : w.heap.size + 1 + 1 < w2.heap.size := Nat.lt_of_lt_of_le (by omega) hb2.size
         clear n2 n0 b0 b1 b2 b3 b4 p0 p1 z0 z1 z2 z3 z4 f0 f1 f2 f3 f4
         have n2 := cell_row hnn2 (i := 2) rfl
         have n0 := cell_row hnn2 (i := 0) rfl
         have b0 := cell_row hr2 (i := 0) rfl
         have b1 := cell_row hr2 (i := 1) rfl
         have b2 := cell_row hr2 (i := 2) rfl
         have b3 := cell_row hr2 (i := 3) rfl
         have b4 := cell_row hr2 (i := 4) rfl
         have p0 := frozen_of_row w2 (w.heap.size + 1 + 1) 0 _ _ hr2
         have p1 := frozen_of_row w2 (w.heap.size + 1 + 1) 1 _ _ hr2
         obtain ⟨z0, z1, z2, z3, z4, f0, f1, f2, f3, f4⟩ := box_facts hz2
         clear hr1 hz1 hnn1 hrob1 hb2 e0 e1 e2 e3 e4
         have hz0x := (heap_setCell_other _ ⟨w.heap.size + 1 + 1, 0, none⟩ (w.heap.size + 1) (.int .i64 36) (by simp)).trans hz2
         have hr0x := hrob2.set1 (p := ⟨w.heap.size + 1 + 1, 0, none⟩) (by simp) (.int .i64 36)
         have hb0x := hB2.setCell (p := ⟨w.heap.size + 1 + 1, 0, none⟩) (by simp; omega) (.int .i64 36)
         have hfin := set5_same (.int .i64 36) (.int .i64 t.so) (.string t.nm) (.int .i64 t.nu) (.slice (some ⟨kb, ko, none⟩) t.ks.length cap3) hz0x
         have hRR := hr0x.set5 (b := w.heap.size + 1) (n1 := w.heap.size) (by omega) (by omega) (.int .i64 36) (.int .i64 t.so) (.string t.nm) (.int .i64 t.nu) (.slice (some ⟨kb, ko, none⟩) t.ks.length cap3)
         have hBB := Below.set5 hb0x (b := w.heap.size + 1) (by omega) (.int .i64 36) (.int .i64 t.so) (.string t.nm) (.int .i64 t.nu) (.slice (some ⟨kb, ko, none⟩) t.ks.length cap3)
         have Hfin := Lib.hid hfin
         have HR := Lib.hid hRR
         have HBf := Lib.hid hBB
         clear hfin hRR hBB hz0x hr0x hb0x hz2 hr2 hrob2 hB2 hnn2
         go_wp2_with fail
         have hf := Hfin.out
         obtain ⟨y0, y1, y2, y3, y4, _, _, _, _, _⟩ := box_facts hf
         rw [hsub.out]
         refine bodyPost_ret (v := nv 36 t.so t.nm t.nu (.slice (some ⟨kb, ko, none⟩) t.ks.length cap3)) ?_ rfl ⟨some ⟨kb, ko, none⟩, cap3, by show Ending.returned (nv 36 t.so t.nm t.nu (.slice (some ⟨kb, ko, none⟩) t.ks.length cap3)) = .returned (nv 36 t.so t.nm t.nu (.slice (some ⟨kb, ko, none⟩) (t.ks.map (resG true dl sl)).length cap3)); rw [List.length_map], HR.out, fine_at HF.out hx.out HF.out.so _, HBf.out⟩
         clear hf Hfin HR HBf
         simp [results, Tryz.f49, go_sem, y0, y1, y2, y3, y4]
      ·have h2' : ((t.ks.length : Int) == 2) = false := by rw [beq_eq_false_iff_ne]; omega
       have hsub := Lib.hid (resG_at (b := true) (dl := dl) (sl := sl) (t := t) (x := t.op) (y := t.so) (by rw [htop.out, takesB_len (by rw [List.length_map]; exact h2), hop.out]; rfl))
       clear h2
       have n2 := cell_row hnn (i := 2) rfl
       have n0 := cell_row hnn (i := 0) rfl
       have b0 := cell_row hr (i := 0) rfl
       have b1 := cell_row hr (i := 1) rfl
       have b2 := cell_row hr (i := 2) rfl
       have b3 := cell_row hr (i := 3) rfl
       have b4 := cell_row hr (i := 4) rfl
       have p0 := frozen_of_row wr (w.heap.size + 1 + 1) 0 _ _ hr
       have p1 := frozen_of_row wr (w.heap.size + 1 + 1) 1 _ _ hr
       obtain ⟨z0, z1, z2, z3, z4, f0, f1, f2, f3, f4⟩ := box_facts hz
       have hfin := set5_same (.int .i64 t.op) (.int .i64 t.so) (.string t.nm) (.int .i64 t.nu) (.slice A3 t.ks.length cap3) hz
       have hRR := hrob.set5 (b := w.heap.size + 1) (n1 := w.heap.size) (by omega) (by omega) (.int .i64 t.op) (.int .i64 t.so) (.string t.nm) (.int .i64 t.nu) (.slice A3 t.ks.length cap3)
       have hBB := Below.set5 hB (b := w.heap.size + 1) (by omega) (.int .i64 t.op) (.int .i64 t.so) (.string t.nm) (.int .i64 t.nu) (.slice A3 t.ks.length cap3)
       have Hfin := Lib.hid hfin
       have HR := Lib.hid hRR
       have HBf := Lib.hid hBB
       clear hfin hRR hBB  hz hr hrob hB hnn
       go_wp2_with fail
       have hf := Hfin.out
       obtain ⟨y0, y1, y2, y3, y4, _, _, _, _, _⟩ := box_facts hf
       rw [hsub.out]
       refine bodyPost_ret (v := nv t.op t.so t.nm t.nu (.slice A3 t.ks.length cap3)) ?_ rfl ⟨A3, cap3, by show Ending.returned (nv t.op t.so t.nm t.nu (.slice A3 t.ks.length cap3)) = .returned (nv t.op t.so t.nm t.nu (.slice A3 (t.ks.map (resG true dl sl)).length cap3)); rw [List.length_map], HR.out, fine_at HF.out HF.out.op HF.out.so _, HBf.out⟩
       clear hf Hfin HR HBf
       simp [results, Tryz.f49, go_sem, y0, y1, y2, y3, y4]
     ·have h37' : (t.op == 37) = false := by simpa using h37
      have hsub := Lib.hid (resG_at (b := true) (dl := dl) (sl := sl) (t := t) (x := t.op) (y := t.so) (by unfold topR; rw [if_neg h1, if_neg h3, if_neg h37]))
      clear h1 h3 h37
      have n2 := cell_row hnn (i := 2) rfl
      have n0 := cell_row hnn (i := 0) rfl
      have b0 := cell_row hr (i := 0) rfl
      have b1 := cell_row hr (i := 1) rfl
      have b2 := cell_row hr (i := 2) rfl
      have b3 := cell_row hr (i := 3) rfl
      have b4 := cell_row hr (i := 4) rfl
      have p0 := frozen_of_row wr (w.heap.size + 1 + 1) 0 _ _ hr
      have p1 := frozen_of_row wr (w.heap.size + 1 + 1) 1 _ _ hr
      obtain ⟨z0, z1, z2, z3, z4, f0, f1, f2, f3, f4⟩ := box_facts hz
      have hfin := set5_same (.int .i64 t.op) (.int .i64 t.so) (.string t.nm) (.int .i64 t.nu) (.slice A3 t.ks.length cap3) hz
      have hRR := hrob.set5 (b := w.heap.size + 1) (n1 := w.heap.size) (by omega) (by omega) (.int .i64 t.op) (.int .i64 t.so) (.string t.nm) (.int .i64 t.nu) (.slice A3 t.ks.length cap3)
      have hBB := Below.set5 hB (b := w.heap.size + 1) (by omega) (.int .i64 t.op) (.int .i64 t.so) (.string t.nm) (.int .i64 t.nu) (.slice A3 t.ks.length cap3)
      have Hfin := Lib.hid hfin
      have HR := Lib.hid hRR
      have HBf := Lib.hid hBB
      clear hfin hRR hBB  hz hr hrob hB hnn
      go_wp2_with fail
      have hf := Hfin.out
      obtain ⟨y0, y1, y2, y3, y4, _, _, _, _, _⟩ := box_facts hf
      rw [hsub.out]
      refine bodyPost_ret (v := nv t.op t.so t.nm t.nu (.slice A3 t.ks.length cap3)) ?_ rfl ⟨A3, cap3, by show Ending.returned (nv t.op t.so t.nm t.nu (.slice A3 t.ks.length cap3)) = .returned (nv t.op t.so t.nm t.nu (.slice A3 (t.ks.map (resG true dl sl)).length cap3)); rw [List.length_map], HR.out, fine_at HF.out HF.out.op HF.out.so _, HBf.out⟩
      clear hf Hfin HR HBf
      simp [results, Tryz.f49, go_sem, y0, y1, y2, y3, y4]
end Go.Proofs.YtgkjcimgghflmaaGreatDoor
