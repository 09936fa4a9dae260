/-
  Lists of declarations and of sigs that can be read as data lie in memory; conditions: none.
-/
import Derived.Test.YtgkjcimgghflmaaGreatDoorZRn4
import Derived.Test.YtgkjcimgghflmaaGreatDoorZRefRes
import Derived.Test.YtgkjcimgghflmaaGreatDoorZPx4
import Derived.Test.YtgkjcimgghflmaaGreatDoorZOpen
import Derived.Test.YtgkjcimgghflmaaGreatDoorZRefCheck
namespace Go.Proofs.YtgkjcimgghflmaaGreatDoor
set_option maxRecDepth 100000
set_option maxHeartbeats 8000000
open Go.RowKit Go.Shelf Go.WideMaps
attribute [local go_sem] Oper.semAt_some
theorem refEqual_any (t u : Nd) (A A' : Option Addr) (cap cap' : Nat) (w : World) (hL : Lies w A cap t.ks) (hL' : Lies w A' cap' u.ks) :
  Calls Tryz.prog 9 #[nv t.op t.so t.nm t.nu (.slice A t.ks.length cap), nv u.op u.so u.nm u.nu (.slice A' u.ks.length cap')] w fun e w' => e = .returned (.bool (cmpN t u == 0)) ∧ Below w.heap.size w w' := by
 have HL := Lib.hid hL
 have HL' := Lib.hid hL'
 have HB : ∀ O O', Below w.heap.size w ((w.alloc O).alloc O') := fun O O' => ((Below.refl _ _).alloc (Nat.le_refl _) _).alloc (by simp) _
 clear hL hL'
 go_enter Tryz.func9, Tryz.ntmps9
 go_wp2_with fail
 refine (refCompare_any t u _ _ _ _ _ (HL.out.later (HB _ _)) (HL'.out.later (HB _ _))).mono ?_
 rintro e w1 ⟨rfl, hb1⟩
 have hB1 : Below w.heap.size w w1 := (HB _ _).trans (hb1.mono (by simp; omega))
 clear hb1
 go_wp2_with fail
 go_ret
 exact ⟨rfl, hB1⟩
noncomputable def readR (s : ByteArray) (dl : List (ByteArray × Int)) (sl : List SgA) : Nd × Int := match parR s with
 | .ok t _ => resV dl sl t
 | .err e _ => (zeroNd, e)
 | .out => (zeroNd, 0)
theorem read_err (s : ByteArray) (v1 v2 : Value) (er : Int) (wh : Nat) (W : World) (her : (er == 0) = false) (c : ∀ w, Below W.heap.size W w → Calls Tryz.prog 7 #[.string s] w (ParP w (.err er wh))) :
  Calls Tryz.prog 10 #[.string s, v1, v2] W (RetE W (zeroNd, er)) := by
 have her' : (er != 0) = true := by simpa using her
 have C := Lib.hid c
 have R1 := Lib.hid (show ResB W (.int .i64 0) (.int .i64 0) (.string ⟨#[]⟩) (.int .i64 0) (.slice none 0 0) (W.alloc (.cells zero5 27)) from ⟨(Below.refl W.heap.size W).alloc (Nat.le_refl _) _, World.alloc_heap_new W _⟩)
 clear c
 go_enter Tryz.func10, Tryz.ntmps10
 go_upto_region 1 with fail
 change Code.wp _ _ _ _ (W.alloc (.cells zero5 27))
 generalize W.alloc (.cells zero5 27) = w1 at *
 go_wp2_with fail
 refine (C.out _ R1.out.below).mono ?_
 rintro e w2 ⟨rfl, b2⟩
 have R2 := R1.out.later b2
 have hB := (Below.refl w2.heap.size w2).alloc (Nat.le_refl _) (.cells #[.int .i64 0, .int .i64 0, .string noNm, .int .i64 0, .slice none 0 0] 27)
 have R3 := Lib.hid (R2.later hB)
 clear R2 R1 C hB b2
 go_upto_region 2 with fail
 change Code.wp _ _ _ _ (w2.alloc (.cells #[.int .i64 0, .int .i64 0, .string noNm, .int .i64 0, .slice none 0 0] 27))
 generalize w2.alloc (.cells #[.int .i64 0, .int .i64 0, .string noNm, .int .i64 0, .slice none 0 0] 27) = w3 at *
 obtain ⟨y0, y1, y2, y3, y4, g0, g1, g2, g3, g4⟩ := box_facts R3.out.n
 have R4 := Lib.hid (R3.out.set (.int .i64 0) (.int .i64 0) (.string ⟨#[]⟩) (.int .i64 0) (.slice none 0 0))
 clear R3
 go_wp2_with fail
 clear y0 y1 y2 y3 y4 g0 g1 g2 g3 g4
 change bodyPost _ _ _ _ _ (set5 w3 W.heap.size (.int .i64 0) (.int .i64 0) (.string ⟨#[]⟩) (.int .i64 0) (.slice none 0 0))
 generalize set5 w3 W.heap.size (.int .i64 0) (.int .i64 0) (.string ⟨#[]⟩) (.int .i64 0) (.slice none 0 0) = w4 at *
 obtain ⟨y0, y1, y2, y3, y4, _, _, _, _, _⟩ := box_facts R4.out.n
 have hB := R4.out.below
 clear R4
 exact bodyPost_ret (v := .tuple #[nv 0 0 ⟨#[]⟩ 0 (.slice none 0 0), .int .i64 er]) (by simp [results, Tryz.results10, go_sem, y0, y1, y2, y3, y4]) rfl ⟨none, 0, rfl, rob_zero _ _, fine_zero, hB⟩
theorem read_ok (s : ByteArray) (v1 v2 : Value) (t : Nd) (b : Nat) (u : Nd) (ru : Int) (W : World) (c : ∀ w, Below W.heap.size W w → Calls Tryz.prog 7 #[.string s] w (ParP w (.ok t b)))
  (d : ∀ w A cap, Below W.heap.size W w → Lies w A cap t.ks → Fine t → Calls Tryz.prog 24 #[nv t.op t.so t.nm t.nu (.slice A t.ks.length cap), v1, v2] w (RetE w (u, ru))) :
  Calls Tryz.prog 10 #[.string s, v1, v2] W (RetE W (u, ru)) := by
 have C := Lib.hid c
 have D := Lib.hid d
 have R1 := Lib.hid (show ResB W (.int .i64 0) (.int .i64 0) (.string ⟨#[]⟩) (.int .i64 0) (.slice none 0 0) (W.alloc (.cells zero5 27)) from ⟨(Below.refl W.heap.size W).alloc (Nat.le_refl _) _, World.alloc_heap_new W _⟩)
 clear c d
 go_enter Tryz.func10, Tryz.ntmps10
 go_upto_region 1 with fail
 change Code.wp _ _ _ _ (W.alloc (.cells zero5 27))
 generalize W.alloc (.cells zero5 27) = w1 at *
 go_wp2_with fail
 refine (C.out _ R1.out.below).mono ?_
 rintro e w2 ⟨A, cap, rfl, hr, hf, b2⟩
 have R2 := R1.out.later b2
 have hB := (Below.refl w2.heap.size w2).alloc (Nat.le_refl _) (.cells #[.int .i64 t.op, .int .i64 t.so, .string t.nm, .int .i64 t.nu, .slice A t.ks.length cap] 27)
 have R3 := Lib.hid (R2.later hB)
 have L3 := Lib.hid (hr.lies.later hB)
 have N3 := Lib.hid (World.alloc_heap_new w2 (.cells #[.int .i64 t.op, .int .i64 t.so, .string t.nm, .int .i64 t.nu, .slice A t.ks.length cap] 27))
 have HF := Lib.hid hf
 clear R2 R1 C hB b2 hr hf
 go_upto_region 2 with fail
 change Code.wp _ _ _ _ (w2.alloc (.cells #[.int .i64 t.op, .int .i64 t.so, .string t.nm, .int .i64 t.nu, .slice A t.ks.length cap] 27))
 generalize w2.alloc (.cells #[.int .i64 t.op, .int .i64 t.so, .string t.nm, .int .i64 t.nu, .slice A t.ks.length cap] 27) = w3 at *
 obtain ⟨n0, n1, n2, n3, n4, _, _, _, _, _⟩ := box_facts N3.out
 go_wp2_with fail
 refine (D.out _ _ _ R3.out.below L3.out HF.out).mono ?_
 rintro e w4 ⟨A4, c4, rfl, hl4, hf4, b4⟩
 have R4 := R3.out.later b4
 obtain ⟨y0, y1, y2, y3, y4, g0, g1, g2, g3, g4⟩ := box_facts R4.n
 have R5 := Lib.hid (R4.set (.int .i64 u.op) (.int .i64 u.so) (.string u.nm) (.int .i64 u.nu) (.slice A4 u.ks.length c4))
 have hlt : W.heap.size < w3.heap.size := (Array.getElem?_eq_some_iff.1 R3.out.n).1
 have L5 := Lib.hid (hl4.set5 (n1 := W.heap.size) (b := W.heap.size) hlt (by omega) (.int .i64 u.op) (.int .i64 u.so) (.string u.nm) (.int .i64 u.nu) (.slice A4 u.ks.length c4))
 have HF4 := Lib.hid hf4
 clear R4 R3 D L3 N3 HF b4 n0 n1 n2 n3 n4 hl4 hf4
 go_wp2_with fail
 clear y0 y1 y2 y3 y4 g0 g1 g2 g3 g4
 change bodyPost _ _ _ _ _ (set5 w4 W.heap.size (.int .i64 u.op) (.int .i64 u.so) (.string u.nm) (.int .i64 u.nu) (.slice A4 u.ks.length c4))
 generalize set5 w4 W.heap.size (.int .i64 u.op) (.int .i64 u.so) (.string u.nm) (.int .i64 u.nu) (.slice A4 u.ks.length c4) = w5 at *
 obtain ⟨y0, y1, y2, y3, y4, _, _, _, _, _⟩ := box_facts R5.out.n
 have hB := R5.out.below
 have hL := L5.out
 have hF := HF4.out
 clear R5 L5 HF4
 exact bodyPost_ret (v := .tuple #[nv u.op u.so u.nm u.nu (.slice A4 u.ks.length c4), .int .i64 ru]) (by simp [results, Tryz.results10, go_sem, y0, y1, y2, y3, y4]) rfl ⟨A4, c4, rfl, hL, hF, hB⟩
theorem refRead_err (s : ByteArray) (v1 v2 : Value) (er : Int) (wh : Nat) (W : World) (her : (er == 0) = false) (c : ∀ w, Below W.heap.size W w → Calls Tryz.prog 8 #[.string s] w (ParP w (.err er wh))) :
  Calls Tryz.prog 11 #[.string s, v1, v2] W (RetE W (zeroNd, er)) := by
 have her' : (er != 0) = true := by simpa using her
 have C := Lib.hid c
 have R1 := Lib.hid (show ResB W (.int .i64 0) (.int .i64 0) (.string ⟨#[]⟩) (.int .i64 0) (.slice none 0 0) (W.alloc (.cells zero5 27)) from ⟨(Below.refl W.heap.size W).alloc (Nat.le_refl _) _, World.alloc_heap_new W _⟩)
 clear c
 go_enter Tryz.func11, Tryz.ntmps11
 go_upto_region 1 with fail
 change Code.wp _ _ _ _ (W.alloc (.cells zero5 27))
 generalize W.alloc (.cells zero5 27) = w1 at *
 go_wp2_with fail
 refine (C.out _ R1.out.below).mono ?_
 rintro e w2 ⟨rfl, b2⟩
 have R2 := R1.out.later b2
 have hB := (Below.refl w2.heap.size w2).alloc (Nat.le_refl _) (.cells #[.int .i64 0, .int .i64 0, .string noNm, .int .i64 0, .slice none 0 0] 27)
 have R3 := Lib.hid (R2.later hB)
 clear R2 R1 C hB b2
 go_upto_region 2 with fail
 change Code.wp _ _ _ _ (w2.alloc (.cells #[.int .i64 0, .int .i64 0, .string noNm, .int .i64 0, .slice none 0 0] 27))
 generalize w2.alloc (.cells #[.int .i64 0, .int .i64 0, .string noNm, .int .i64 0, .slice none 0 0] 27) = w3 at *
 obtain ⟨y0, y1, y2, y3, y4, g0, g1, g2, g3, g4⟩ := box_facts R3.out.n
 have R4 := Lib.hid (R3.out.set (.int .i64 0) (.int .i64 0) (.string ⟨#[]⟩) (.int .i64 0) (.slice none 0 0))
 clear R3
 go_wp2_with fail
 clear y0 y1 y2 y3 y4 g0 g1 g2 g3 g4
 change bodyPost _ _ _ _ _ (set5 w3 W.heap.size (.int .i64 0) (.int .i64 0) (.string ⟨#[]⟩) (.int .i64 0) (.slice none 0 0))
 generalize set5 w3 W.heap.size (.int .i64 0) (.int .i64 0) (.string ⟨#[]⟩) (.int .i64 0) (.slice none 0 0) = w4 at *
 obtain ⟨y0, y1, y2, y3, y4, _, _, _, _, _⟩ := box_facts R4.out.n
 have hB := R4.out.below
 clear R4
 exact bodyPost_ret (v := .tuple #[nv 0 0 ⟨#[]⟩ 0 (.slice none 0 0), .int .i64 er]) (by simp [results, Tryz.results11, go_sem, y0, y1, y2, y3, y4]) rfl ⟨none, 0, rfl, rob_zero _ _, fine_zero, hB⟩
theorem refRead_ok (s : ByteArray) (v1 v2 : Value) (t : Nd) (b : Nat) (u : Nd) (ru : Int) (W : World) (c : ∀ w, Below W.heap.size W w → Calls Tryz.prog 8 #[.string s] w (ParP w (.ok t b)))
  (d : ∀ w A cap, Below W.heap.size W w → Lies w A cap t.ks → Fine t → Calls Tryz.prog 25 #[nv t.op t.so t.nm t.nu (.slice A t.ks.length cap), v1, v2] w (RetE w (u, ru))) :
  Calls Tryz.prog 11 #[.string s, v1, v2] W (RetE W (u, ru)) := by
 have C := Lib.hid c
 have D := Lib.hid d
 have R1 := Lib.hid (show ResB W (.int .i64 0) (.int .i64 0) (.string ⟨#[]⟩) (.int .i64 0) (.slice none 0 0) (W.alloc (.cells zero5 27)) from ⟨(Below.refl W.heap.size W).alloc (Nat.le_refl _) _, World.alloc_heap_new W _⟩)
 clear c d
 go_enter Tryz.func11, Tryz.ntmps11
 go_upto_region 1 with fail
 change Code.wp _ _ _ _ (W.alloc (.cells zero5 27))
 generalize W.alloc (.cells zero5 27) = w1 at *
 go_wp2_with fail
 refine (C.out _ R1.out.below).mono ?_
 rintro e w2 ⟨A, cap, rfl, hr, hf, b2⟩
 have R2 := R1.out.later b2
 have hB := (Below.refl w2.heap.size w2).alloc (Nat.le_refl _) (.cells #[.int .i64 t.op, .int .i64 t.so, .string t.nm, .int .i64 t.nu, .slice A t.ks.length cap] 27)
 have R3 := Lib.hid (R2.later hB)
 have L3 := Lib.hid (hr.lies.later hB)
 have N3 := Lib.hid (World.alloc_heap_new w2 (.cells #[.int .i64 t.op, .int .i64 t.so, .string t.nm, .int .i64 t.nu, .slice A t.ks.length cap] 27))
 have HF := Lib.hid hf
 clear R2 R1 C hB b2 hr hf
 go_upto_region 2 with fail
 change Code.wp _ _ _ _ (w2.alloc (.cells #[.int .i64 t.op, .int .i64 t.so, .string t.nm, .int .i64 t.nu, .slice A t.ks.length cap] 27))
 generalize w2.alloc (.cells #[.int .i64 t.op, .int .i64 t.so, .string t.nm, .int .i64 t.nu, .slice A t.ks.length cap] 27) = w3 at *
 obtain ⟨n0, n1, n2, n3, n4, _, _, _, _, _⟩ := box_facts N3.out
 go_wp2_with fail
 refine (D.out _ _ _ R3.out.below L3.out HF.out).mono ?_
 rintro e w4 ⟨A4, c4, rfl, hl4, hf4, b4⟩
 have R4 := R3.out.later b4
 obtain ⟨y0, y1, y2, y3, y4, g0, g1, g2, g3, g4⟩ := box_facts R4.n
 have R5 := Lib.hid (R4.set (.int .i64 u.op) (.int .i64 u.so) (.string u.nm) (.int .i64 u.nu) (.slice A4 u.ks.length c4))
 have hlt : W.heap.size < w3.heap.size := (Array.getElem?_eq_some_iff.1 R3.out.n).1
 have L5 := Lib.hid (hl4.set5 (n1 := W.heap.size) (b := W.heap.size) hlt (by omega) (.int .i64 u.op) (.int .i64 u.so) (.string u.nm) (.int .i64 u.nu) (.slice A4 u.ks.length c4))
 have HF4 := Lib.hid hf4
 clear R4 R3 D L3 N3 HF b4 n0 n1 n2 n3 n4 hl4 hf4
 go_wp2_with fail
 clear y0 y1 y2 y3 y4 g0 g1 g2 g3 g4
 change bodyPost _ _ _ _ _ (set5 w4 W.heap.size (.int .i64 u.op) (.int .i64 u.so) (.string u.nm) (.int .i64 u.nu) (.slice A4 u.ks.length c4))
 generalize set5 w4 W.heap.size (.int .i64 u.op) (.int .i64 u.so) (.string u.nm) (.int .i64 u.nu) (.slice A4 u.ks.length c4) = w5 at *
 obtain ⟨y0, y1, y2, y3, y4, _, _, _, _, _⟩ := box_facts R5.out.n
 have hB := R5.out.below
 have hL := L5.out
 have hF := HF4.out
 clear R5 L5 HF4
 exact bodyPost_ret (v := .tuple #[nv u.op u.so u.nm u.nu (.slice A4 u.ks.length c4), .int .i64 ru]) (by simp [results, Tryz.results11, go_sem, y0, y1, y2, y3, y4]) rfl ⟨A4, c4, rfl, hL, hF, hB⟩
end Go.Proofs.YtgkjcimgghflmaaGreatDoor
namespace Go.Proofs.YtgkjcimgghflmaaGreatDoor
set_option maxRecDepth 100000
set_option maxHeartbeats 8000000
open Go.RowKit Go.Shelf Go.WideMaps
attribute [local go_sem] Oper.semAt_some
theorem par_errs {s : ByteArray} {er : Int} {wh : Nat} (h : parR s = .err er wh) : (er == 0) = false := by
 have he := errs_whole s (32 * s.size + 17)
 unfold parR at h
 split at h
 ·cases h; rfl
 ·cases hq : PW s (32 * s.size + 17) with
  | out => rw [hq] at h; cases h
  | err e w =>
   rw [hq] at h he
   cases h
   rcases he with rfl | rfl <;> rfl
  | ok t b =>
   rw [hq] at h
   have h : (if limB (preN 1 t) = true then PR.ok t b else .err 2 0) = .err er wh := h
   split at h
   ·cases h
   ·cases h; rfl
theorem par_cnt {s : ByteArray} {t : Nd} {b : Nat} (h : parR s = .ok t b) : cnt t ≤ 2 * s.size := by
 unfold parR at h
 split at h
 ·cases h
 ·cases hq : PW s (32 * s.size + 17) with
  | out => rw [hq] at h; cases h
  | err e w => rw [hq] at h; cases h
  | ok u c =>
   rw [hq] at h
   have h : (if limB (preN 1 u) = true then PR.ok u c else .err 2 0) = .ok t b := h
   split at h
   ·cases h; exact paid_whole hq
   ·cases h
theorem par_out {s : ByteArray} (h : parR s = .out) : False := by
 unfold parR at h
 split at h
 ·cases h
 ·cases hq : PW s (32 * s.size + 17) with
  | out => exact no_out s hq
  | err e w => rw [hq] at h; cases h
  | ok u c =>
   rw [hq] at h
   have h : (if limB (preN 1 u) = true then PR.ok u c else .err 2 0) = .out := h
   split at h <;> cases h
theorem read_any (s : ByteArray) (hs : s.size ≤ 4000) (dl : List (ByteArray × Int)) (sl : List SgA) (hdw : ∀ d ∈ dl, (Lit.int .i64 d.2).wf = true) (DA SA : Option Addr) (dcap scap : Nat) (hdl : dl.length ≤ maxLen) (hsl : sl.length ≤ maxLen) (W : World) (hD : Dcls W DA dl) (hS : Sgs W SA sl) (hA : ArgsIn W sl) (hT : Tabs W) (hG : SigTab W) : Calls Tryz.prog 10 #[.string s, .slice DA dl.length dcap, .slice SA sl.length scap] W (RetE W (readR s dl sl)) := by
 unfold readR
 cases hq : parR s with
 | out => exact (par_out hq).elim
 | err er wh => exact read_err s _ _ er wh W (par_errs hq) fun w hb => by have := parse_any s w (hT.later hb) (hG.later hb); rwa [hq] at this
 | ok t b =>
  have hc := par_cnt hq
  exact read_ok s _ _ t b _ _ W (fun w hb => by have := parse_any s w (hT.later hb) (hG.later hb); rwa [hq] at this)
   fun w A cap hb hL hf => resolve_any dl sl hdw DA SA dcap scap hdl hsl t A cap w hL hf (by omega) (hD.later hb) (hS.later hb) (hA.later hb)
theorem refRead_any (s : ByteArray) (hs : s.size ≤ 4000) (dl : List (ByteArray × Int)) (sl : List SgA) (hdw : ∀ d ∈ dl, (Lit.int .i64 d.2).wf = true) (DA SA : Option Addr) (dcap scap : Nat) (hdl : dl.length ≤ maxLen) (hsl : sl.length ≤ maxLen) (W : World) (hD : Dcls W DA dl) (hS : Sgs W SA sl) (hA : ArgsIn W sl) : Calls Tryz.prog 11 #[.string s, .slice DA dl.length dcap, .slice SA sl.length scap] W (RetE W (readR s dl sl)) := by
 unfold readR
 cases hq : parR s with
 | out => exact (par_out hq).elim
 | err er wh => exact refRead_err s _ _ er wh W (par_errs hq) fun w hb => by have := refParse_any s w; rwa [hq] at this
 | ok t b =>
  have hc := par_cnt hq
  have he := res_eq (dl := dl) (sl := sl) (t := t) (by omega)
  show Calls _ _ _ _ (RetE W (resV dl sl t))
  rw [he]
  exact refRead_ok s _ _ t b _ _ W (fun w hb => by have := refParse_any s w; rwa [hq] at this)
   fun w A cap hb hL hf => refResolve_any dl sl hdw DA SA dcap scap hdl hsl t A cap w hL hf (by omega) (hD.later hb) (hS.later hb) (hA.later hb)
def ParU (W : World) (t : Nd) (at_ er : Int) (e : Ending) (W' : World) : Prop :=
 ∃ A cap, e = .returned (.tuple #[nv t.op t.so t.nm t.nu (.slice A t.ks.length cap), .int .i64 at_, .int .i64 er]) ∧ Lies W' A cap t.ks ∧ Fine t ∧ Below W.heap.size W W'
theorem parU_of (s : ByteArray) : ∃ t at_ er, ∀ W e W', ParP W (parR s) e W' → ParU W t at_ er e W' := by
 cases hq : parR s with
 | out => exact (par_out hq).elim
 | err er wh => exact ⟨zeroNd, wh, er, fun W e W' ⟨h1, h2⟩ => ⟨none, 0, h1, lies_zero _, fine_zero, h2⟩⟩
 | ok t b => exact ⟨t, 0, 0, fun W e W' ⟨A, cap, h1, h2, h3, h4⟩ => ⟨A, cap, h1, h2.lies, h3, h4⟩⟩
theorem parses_big1 (s : ByteArray) (dn dcap sn scap : Nat) (DA SA : Option Addr) (W : World) (h : 4000 < s.size) (ca : Calls Tryz.prog 6 #[] W fun e w' => e = .returned (.bool true) ∧ Below W.heap.size W w') :
  Calls Tryz.prog 3 #[.string s, .slice DA dn dcap, .slice SA sn scap] W fun e w' => e = .returned (.bool true) ∧ Below W.heap.size W w' := by
 have h1 : (4000 : Int) < (s.size : Int) := by omega
 have h1' : decide ((4000 : Int) < (s.size : Int)) = true := decide_eq_true h1
 go_enter Tryz.func3, Tryz.ntmps3
 go_wp2_with fail
 refine ca.mono ?_
 rintro e w1 ⟨rfl, hb⟩
 clear ca h h1
 go_wp2_with fail
 go_ret
 exact ⟨rfl, hb⟩
theorem parses_big2 (s : ByteArray) (dn dcap sn scap : Nat) (DA SA : Option Addr) (W : World) (h0 : ¬ 4000 < s.size) (h : 60 < dn) (ca : Calls Tryz.prog 6 #[] W fun e w' => e = .returned (.bool true) ∧ Below W.heap.size W w') :
  Calls Tryz.prog 3 #[.string s, .slice DA dn dcap, .slice SA sn scap] W fun e w' => e = .returned (.bool true) ∧ Below W.heap.size W w' := by
 have h1' : decide ((4000 : Int) < (s.size : Int)) = false := decide_eq_false (by omega)
 have h2' : decide ((60 : Int) < (dn : Int)) = true := decide_eq_true (by omega)
 clear h0 h
 go_enter Tryz.func3, Tryz.ntmps3
 go_wp2_with fail
 refine ca.mono ?_
 rintro e w1 ⟨rfl, hb⟩
 clear ca
 go_wp2_with fail
 go_ret
 exact ⟨rfl, hb⟩
theorem parses_big3 (s : ByteArray) (dn dcap sn scap : Nat) (DA SA : Option Addr) (W : World) (h0 : ¬ 4000 < s.size) (hd : ¬ 60 < dn) (h : 60 < sn) (ca : Calls Tryz.prog 6 #[] W fun e w' => e = .returned (.bool true) ∧ Below W.heap.size W w') :
  Calls Tryz.prog 3 #[.string s, .slice DA dn dcap, .slice SA sn scap] W fun e w' => e = .returned (.bool true) ∧ Below W.heap.size W w' := by
 have h1' : decide ((4000 : Int) < (s.size : Int)) = false := decide_eq_false (by omega)
 have h2' : decide ((60 : Int) < (dn : Int)) = false := decide_eq_false (by omega)
 have h3' : decide ((60 : Int) < (sn : Int)) = true := decide_eq_true (by omega)
 clear h0 hd h
 go_enter Tryz.func3, Tryz.ntmps3
 go_wp2_with fail
 refine ca.mono ?_
 rintro e w1 ⟨rfl, hb⟩
 clear ca
 go_wp2_with fail
 go_ret
 exact ⟨rfl, hb⟩
theorem parses_main (s : ByteArray) (dn dcap sn scap : Nat) (DA SA : Option Addr) (W : World) (h0 : ¬ 4000 < s.size) (hd : ¬ 60 < dn) (hsn : ¬ 60 < sn) (t : Nd) (at_ er : Int) (q : Nd × Int)
  (ca : Calls Tryz.prog 6 #[] W fun e w' => e = .returned (.bool true) ∧ Below W.heap.size W w')
  (cp : ∀ w, Below W.heap.size W w → Calls Tryz.prog 7 #[.string s] w (ParU w t at_ er))
  (cr : ∀ w, Below W.heap.size W w → Calls Tryz.prog 8 #[.string s] w (ParU w t at_ er))
  (cx : ∀ w, Below W.heap.size W w → Calls Tryz.prog 10 #[.string s, .slice DA dn dcap, .slice SA sn scap] w (RetE w q))
  (cy : ∀ w, Below W.heap.size W w → Calls Tryz.prog 11 #[.string s, .slice DA dn dcap, .slice SA sn scap] w (RetE w q)) :
  Calls Tryz.prog 3 #[.string s, .slice DA dn dcap, .slice SA sn scap] W fun e w' => e = .returned (.bool true) ∧ Below W.heap.size W w' := by
 have h1' : decide ((4000 : Int) < (s.size : Int)) = false := decide_eq_false (by omega)
 have h2' : decide ((60 : Int) < (dn : Int)) = false := decide_eq_false (by omega)
 have h3' : decide ((60 : Int) < (sn : Int)) = false := decide_eq_false (by omega)
 obtain ⟨u, v⟩ := q
 have hbe : ∀ x : Int, (x == x) = true := fun x => by simp
 have hbn : ∀ x : Int, (x != x) = false := fun x => by simp
 have e1 := hbn er
 have e2 := hbn at_
 have e3 := hbe v
 have CP := Lib.hid cp
 have CR := Lib.hid cr
 have CX := Lib.hid cx
 have CY := Lib.hid cy
 clear h0 hd hsn cp cr cx cy hbe hbn
 go_enter Tryz.func3, Tryz.ntmps3
 go_wp2_with fail
 refine ca.mono ?_
 rintro e w1 ⟨rfl, b1⟩
 have B1 := Lib.hid b1
 clear ca b1
 go_wp2_with fail
 refine (CP.out _ B1.out).mono ?_
 rintro e w2 ⟨A2, c2, rfl, l2, f2, b2⟩
 have B2 := B1.out.trans (b2.mono B1.out.size)
 have hal := (Below.refl w2.heap.size w2).alloc (Nat.le_refl _) (.cells #[.int .i64 t.op, .int .i64 t.so, .string t.nm, .int .i64 t.nu, .slice A2 t.ks.length c2] 27)
 have X3 := Lib.hid (five_new w2 t (.slice A2 t.ks.length c2) 27)
 have L3 := Lib.hid (l2.later hal)
 have B3 := Lib.hid (B2.trans (hal.mono B2.size))
 clear b2 l2 f2 hal B1 B2 CP
 go_upto_region 6 with fail
 change Code.wp _ _ _ _ (w2.alloc (.cells #[.int .i64 t.op, .int .i64 t.so, .string t.nm, .int .i64 t.nu, .slice A2 t.ks.length c2] 27))
 generalize w2.alloc (.cells #[.int .i64 t.op, .int .i64 t.so, .string t.nm, .int .i64 t.nu, .slice A2 t.ks.length c2] 27) = w3 at *
 generalize w2.heap.size = g2 at *
 go_wp2_with fail
 refine (CR.out _ B3.out).mono ?_
 rintro e w4 ⟨A4, c4, rfl, l4, f4, b4⟩
 have B4 := B3.out.trans (b4.mono B3.out.size)
 have hal := (Below.refl w4.heap.size w4).alloc (Nat.le_refl _) (.cells #[.int .i64 t.op, .int .i64 t.so, .string t.nm, .int .i64 t.nu, .slice A4 t.ks.length c4] 27)
 have Y5 := Lib.hid (five_new w4 t (.slice A4 t.ks.length c4) 27)
 have X5 := Lib.hid ((X3.out.later b4).later hal)
 have L5 := Lib.hid ((L3.out.later b4).later hal)
 have M5 := Lib.hid (l4.later hal)
 have B5 := Lib.hid (B4.trans (hal.mono B4.size))
 clear b4 l4 f4 hal B3 B4 CR X3 L3
 go_upto_region 7 with fail
 change Code.wp _ _ _ _ (w4.alloc (.cells #[.int .i64 t.op, .int .i64 t.so, .string t.nm, .int .i64 t.nu, .slice A4 t.ks.length c4] 27))
 generalize w4.alloc (.cells #[.int .i64 t.op, .int .i64 t.so, .string t.nm, .int .i64 t.nu, .slice A4 t.ks.length c4] 27) = w5 at *
 generalize w4.heap.size = g4 at *
 obtain ⟨x0, x1, x2, x3, x4⟩ := X5.out
 obtain ⟨y0, y1, y2, y3, y4⟩ := Y5.out
 clear X5 Y5
 go_wp2_with fail
 refine (refEqual_any t t A2 A4 c2 c4 _ L5.out M5.out).mono ?_
 rintro e w6 ⟨rfl, b6⟩
 rw [(cmp_all t).2.2.1]
 have B6 := Lib.hid (B5.out.trans (b6.mono B5.out.size))
 clear b6 x0 x1 x2 x3 x4 y0 y1 y2 y3 y4 L5 M5 B5
 go_wp2_with fail
 refine (CX.out _ B6.out).mono ?_
 rintro e w7 ⟨A7, c7, rfl, l7, f7, b7⟩
 dsimp only at *
 have B7 := B6.out.trans (b7.mono B6.out.size)
 have hal := (Below.refl w7.heap.size w7).alloc (Nat.le_refl _) (.cells #[.int .i64 u.op, .int .i64 u.so, .string u.nm, .int .i64 u.nu, .slice A7 u.ks.length c7] 27)
 have X8 := Lib.hid (five_new w7 u (.slice A7 u.ks.length c7) 27)
 have L8 := Lib.hid (l7.lies.later hal)
 have B8 := Lib.hid (B7.trans (hal.mono B7.size))
 clear b7 l7 f7 hal B6 B7 CX
 go_upto_region 10 with fail
 change Code.wp _ _ _ _ (w7.alloc (.cells #[.int .i64 u.op, .int .i64 u.so, .string u.nm, .int .i64 u.nu, .slice A7 u.ks.length c7] 27))
 generalize w7.alloc (.cells #[.int .i64 u.op, .int .i64 u.so, .string u.nm, .int .i64 u.nu, .slice A7 u.ks.length c7] 27) = w8 at *
 generalize w7.heap.size = g7 at *
 go_wp2_with fail
 refine (CY.out _ B8.out).mono ?_
 rintro e w9 ⟨A9, c9, rfl, l9, f9, b9⟩
 dsimp only at *
 have B9 := B8.out.trans (b9.mono B8.out.size)
 have hal := (Below.refl w9.heap.size w9).alloc (Nat.le_refl _) (.cells #[.int .i64 u.op, .int .i64 u.so, .string u.nm, .int .i64 u.nu, .slice A9 u.ks.length c9] 27)
 have Y10 := Lib.hid (five_new w9 u (.slice A9 u.ks.length c9) 27)
 have X10 := Lib.hid ((X8.out.later b9).later hal)
 have L10 := Lib.hid ((L8.out.later b9).later hal)
 have M10 := Lib.hid (l9.lies.later hal)
 have B10 := Lib.hid (B9.trans (hal.mono B9.size))
 clear b9 l9 f9 hal B8 B9 CY X8 L8
 go_upto_region 11 with fail
 change Code.wp _ _ _ _ (w9.alloc (.cells #[.int .i64 u.op, .int .i64 u.so, .string u.nm, .int .i64 u.nu, .slice A9 u.ks.length c9] 27))
 generalize w9.alloc (.cells #[.int .i64 u.op, .int .i64 u.so, .string u.nm, .int .i64 u.nu, .slice A9 u.ks.length c9] 27) = w10 at *
 generalize w9.heap.size = g9 at *
 obtain ⟨x0, x1, x2, x3, x4⟩ := X10.out
 obtain ⟨y0, y1, y2, y3, y4⟩ := Y10.out
 clear X10 Y10
 go_wp2_with fail
 refine (refEqual_any u u A7 A9 c7 c9 _ L10.out M10.out).mono ?_
 rintro e w11 ⟨rfl, b11⟩
 rw [(cmp_all u).2.2.1]
 have B11 := Lib.hid (B10.out.trans (b11.mono B10.out.size))
 clear b11 x0 x1 x2 x3 x4 y0 y1 y2 y3 y4 L10 M10 B10
 go_wp2_with fail
 go_ret
 exact ⟨rfl, B11.out⟩
theorem parses_law (s : ByteArray) (dl : List (ByteArray × Int)) (sl : List SgA) (hdw : ∀ d ∈ dl, (Lit.int .i64 d.2).wf = true) (DA SA : Option Addr) (dcap scap : Nat) (hdl : dl.length ≤ maxLen) (hsl : sl.length ≤ maxLen) (W : World) (hD : Dcls W DA dl) (hS : Sgs W SA sl) (hA : ArgsIn W sl) (hT : Tabs W) (hG : SigTab W) (hP : PowTab W) :
  Calls Tryz.prog 3 #[.string s, .slice DA dl.length dcap, .slice SA sl.length scap] W fun e w' => e = .returned (.bool true) ∧ Below W.heap.size W w' := by
 have ca := awake_any W hT hG hP
 by_cases h0 : 4000 < s.size
 ·exact parses_big1 s _ _ _ _ _ _ W h0 ca
 by_cases h1 : 60 < dl.length
 ·exact parses_big2 s _ _ _ _ _ _ W h0 h1 ca
 by_cases h2 : 60 < sl.length
 ·exact parses_big3 s _ _ _ _ _ _ W h0 h1 h2 ca
 obtain ⟨t, at_, er, hu⟩ := parU_of s
 exact parses_main s _ _ _ _ _ _ W h0 h1 h2 t at_ er (readR s dl sl) ca
  (fun w hb => (parse_any s w (hT.later hb) (hG.later hb)).mono fun e W' h => hu w e W' h)
  (fun w _ => (refParse_any s w).mono fun e W' h => hu w e W' h)
  (fun w hb => read_any s (by omega) dl sl hdw DA SA dcap scap hdl hsl w (hD.later hb) (hS.later hb) (hA.later hb) (hT.later hb) (hG.later hb))
  (fun w hb => refRead_any s (by omega) dl sl hdw DA SA dcap scap hdl hsl w (hD.later hb) (hS.later hb) (hA.later hb))
end Go.Proofs.YtgkjcimgghflmaaGreatDoor
namespace Go.Proofs.YtgkjcimgghflmaaGreatDoor
set_option maxRecDepth 100000
set_option maxHeartbeats 8000000
open Go.ChangeShapes Go.WideShapes Go.ChangeAt Go.RowKit Go.Deep
theorem Tryz.cells76 : Tryz.prog.cellsOf 76 = 2 := by kernel_rfl
theorem Tryz.cells80 : Tryz.prog.cellsOf 80 = 3 := by kernel_rfl
theorem Tryz.cells78 : Tryz.prog.cellsOf 78 = 1 := by kernel_rfl
theorem spot_of_cell {w : World} {a : Addr} {v : Value} (h : w.cell? a = some v) : ∃ b o, a = ⟨b, o, none⟩ := by
 have hs := World.cell?_spot h
 obtain ⟨b, o, s⟩ := a
 simp at hs
 exact ⟨b, o, by rw [hs]⟩
theorem ints_of_trod {H : Type} {enc : TypeId × Value → H} {w : World} {base : Nat} {sp : Nat → Bool} {held : Bool} {fuel : Nat} {cs : List Value} {y : DataW H × List MemPlace}
  (h : DataW.trod enc Tryz.prog w base sp held fuel 78 cs = some y) : ∃ (sl : List Int) (A : Option Addr) (cap : Nat), cs = [.slice A sl.length cap] ∧ Ints w A sl ∧ sl.length ≤ maxLen := by
 rcases DataW.trod_slice Tryz.underlying78 h with ⟨h4, _⟩ | ⟨a, len, cap, elems, rest, m, hm0, h4, _, hb, hl, hm, hel, hall, _⟩
 ·exact ⟨[], none, 0, h4, ints_nil w, by simp⟩
 ·have each : ∀ i, i < len → ∃ x : Int, w.cell? (a.add i) = some (.int .i64 x) := by
   intro i hi
   have := hall i hi
   rw [List.getElem?_eq_getElem (by omega), Tryz.cells3] at this
   obtain ⟨cs', g1, g2⟩ := Option.bind_eq_some_iff.1 this
   obtain ⟨x, rfl, _, _⟩ := DataW.trod_int Tryz.underlying3 g2
   have := (World.cells?_some g1).2.2 0 (by omega)
   rw [Nat.mul_one] at this
   refine ⟨x, ?_⟩
   simpa [Addr.add] using this
  obtain ⟨X, hX⟩ := choose_lt each
  have hlen : ((List.range len).map X).length = len := by simp
  refine ⟨(List.range len).map X, some a, cap, by rw [hlen]; exact h4, ?_, by rw [hlen]; omega⟩
  by_cases h0 : 0 < len
  ·obtain ⟨b, o, e⟩ := spot_of_cell (hX 0 h0)
   have e' : a = ⟨b, o, none⟩ := by simpa [Addr.add] using e
   subst e'
   refine ⟨b, o, fun _ => rfl, fun i hi => ?_⟩
   rw [hlen] at hi
   have := hX i hi
   rw [add_off] at this
   rw [this]
   simp
  ·obtain rfl : len = 0 := by omega
   exact ⟨0, 0, by simp, by simp⟩
theorem decl_of_trod {H : Type} {enc : TypeId × Value → H} {w : World} {base : Nat} {sp : Nat → Bool} {held : Bool} {fuel : Nat} {cs : List Value} {y : DataW H × List MemPlace}
  (h : DataW.trod enc Tryz.prog w base sp held fuel 76 cs = some y) : ∃ d : ByteArray × Int, cs = [.string d.1, .int .i64 d.2] ∧ (Lit.int .i64 d.2).wf = true := by
 obtain ⟨xs, n, rfl, _, hlen, hxl, hf⟩ := DataW.trod_struct Tryz.underlying76 h
 rw [Tryz.cells76] at hlen
 match cs, hlen with
 | [c0, c1], _ =>
  have hxl' : xs.length = 2 := hxl
  have e0 : DataW.trod enc Tryz.prog w base sp held n 9 [c0] = xs[0]? := by
   have := hf 0 _ rfl
   simpa [Tryz.cells9] using this
  have e1 : DataW.trod enc Tryz.prog w base sp held n 3 [c1] = xs[1]? := by
   have := hf 1 _ rfl
   simpa [Tryz.cells3] using this
  rw [List.getElem?_eq_getElem (by omega)] at e0 e1
  obtain ⟨nm, h0, _, w0⟩ := DataW.trod_string Tryz.underlying9 e0
  obtain ⟨so, h1, _, w1⟩ := DataW.trod_int Tryz.underlying3 e1
  simp only [List.cons.injEq, and_true] at h0 h1
  subst h0 h1
  exact ⟨(nm, so), rfl, w1⟩
theorem open_dcls {H : Type} {enc : TypeId × Value → H} {w : World} {base : Nat} {sp : Nat → Bool} {held : Bool} {r : Reach} {b0 : Nat} {v : Value} {d : DataW H} {p : List MemPlace}
  (hv : Value.okWide Tryz.prog w r b0 22 v) (h : DataW.Trod enc Tryz.prog w base sp held 22 v d p) :
  ∃ (dl : List (ByteArray × Int)) (A : Option Addr) (cap : Nat), v = .slice A dl.length cap ∧ Dcls w A dl ∧ dl.length ≤ maxLen ∧ ∀ d ∈ dl, (Lit.int .i64 d.2).wf = true := by
 obtain ⟨a', len', cap', rfl⟩ := okWide_slice Tryz.underlying22 hv
 obtain ⟨fuel, hf⟩ := h
 rcases DataW.trod_slice Tryz.underlying22 hf with ⟨h4, _⟩ | ⟨a, len, cap, elems, rest, m, hm0, h4, _, hb, hl, hm, hel, hall, _⟩
 ·simp only [Value.cells, List.cons.injEq, and_true] at h4
  exact ⟨[], none, 0, h4, ⟨0, 0, by simp, by simp⟩, by simp, by simp⟩
 ·simp only [Value.cells, List.cons.injEq, and_true] at h4
  have each : ∀ i, i < len → ∃ x : ByteArray × Int, (w.cell? ((a.add (i * 2)).add 0) = some (.string x.1) ∧ w.cell? ((a.add (i * 2)).add 1) = some (.int .i64 x.2)) ∧ (Lit.int .i64 x.2).wf = true := by
   intro i hi
   have := hall i hi
   rw [List.getElem?_eq_getElem (by omega), Tryz.cells76] at this
   obtain ⟨cs', g1, g2⟩ := Option.bind_eq_some_iff.1 this
   obtain ⟨x, rfl, hx⟩ := decl_of_trod g2
   have g := (World.cells?_some g1).2.2
   exact ⟨x, ⟨g 0 (by omega), g 1 (by omega)⟩, hx⟩
  haveI : Inhabited (ByteArray × Int) := ⟨(⟨#[]⟩, 0)⟩
  obtain ⟨X, hX⟩ := choose_lt each
  have hlen : ((List.range len).map X).length = len := by simp
  refine ⟨(List.range len).map X, some a, cap, by rw [hlen]; exact h4, ?_, by rw [hlen]; omega, fun d hd => ?_⟩
  ·by_cases h0 : 0 < len
   ·obtain ⟨b, o, e⟩ := spot_of_cell (hX 0 h0).1.1
    have e' : a = ⟨b, o, none⟩ := by simpa [Addr.add] using e
    subst e'
    refine ⟨b, o, fun _ => rfl, fun i hi => ?_⟩
    rw [hlen] at hi
    have := (hX i hi).1
    simp only [add_off, Nat.add_zero] at this
    simpa using this
   ·obtain rfl : len = 0 := by omega
    exact ⟨0, 0, by simp, by simp⟩
  ·obtain ⟨i, hi, rfl⟩ := List.mem_map.1 hd
   exact (hX i (List.mem_range.1 hi)).2
theorem sig_of_trod {H : Type} {enc : TypeId × Value → H} {w : World} {base : Nat} {sp : Nat → Bool} {held : Bool} {fuel : Nat} {cs : List Value} {y : DataW H × List MemPlace}
  (h : DataW.trod enc Tryz.prog w base sp held fuel 80 cs = some y) : ∃ x : SgA, cs = [.string x.1.nm, .slice x.2.1 x.1.args.length x.2.2, .int .i64 x.1.so] ∧ Ints w x.2.1 x.1.args ∧ x.1.args.length ≤ maxLen ∧ (Lit.int .i64 x.1.so).wf = true := by
 obtain ⟨xs, n, rfl, _, hlen, hxl, hf⟩ := DataW.trod_struct Tryz.underlying80 h
 rw [Tryz.cells80] at hlen
 match cs, hlen with
 | [c0, c1, c2], _ =>
  have hxl' : xs.length = 3 := hxl
  have e0 : DataW.trod enc Tryz.prog w base sp held n 9 [c0] = xs[0]? := by
   have := hf 0 _ rfl
   simpa [Tryz.cells9] using this
  have e1 : DataW.trod enc Tryz.prog w base sp held n 78 [c1] = xs[1]? := by
   have := hf 1 _ rfl
   simpa [Tryz.cells78] using this
  have e2 : DataW.trod enc Tryz.prog w base sp held n 3 [c2] = xs[2]? := by
   have := hf 2 _ rfl
   simpa [Tryz.cells3] using this
  rw [List.getElem?_eq_getElem (by omega)] at e0 e1 e2
  obtain ⟨nm, h0, _, w0⟩ := DataW.trod_string Tryz.underlying9 e0
  obtain ⟨sl, A, cap, h1, h1', h1''⟩ := ints_of_trod e1
  obtain ⟨so, h2, _, w2⟩ := DataW.trod_int Tryz.underlying3 e2
  simp only [List.cons.injEq, and_true] at h0 h1 h2
  subst h0 h1 h2
  exact ⟨(⟨nm, sl, so⟩, A, cap), rfl, h1', h1'', w2⟩
theorem open_sgs {H : Type} {enc : TypeId × Value → H} {w : World} {base : Nat} {sp : Nat → Bool} {held : Bool} {r : Reach} {b0 : Nat} {v : Value} {d : DataW H} {p : List MemPlace}
  (hv : Value.okWide Tryz.prog w r b0 23 v) (h : DataW.Trod enc Tryz.prog w base sp held 23 v d p) :
  ∃ (sl : List SgA) (A : Option Addr) (cap : Nat), v = .slice A sl.length cap ∧ Sgs w A sl ∧ sl.length ≤ maxLen ∧ ArgsIn w sl := by
 obtain ⟨a', len', cap', rfl⟩ := okWide_slice Tryz.underlying23 hv
 obtain ⟨fuel, hf⟩ := h
 rcases DataW.trod_slice Tryz.underlying23 hf with ⟨h4, _⟩ | ⟨a, len, cap, elems, rest, m, hm0, h4, _, hb, hl, hm, hel, hall, _⟩
 ·simp only [Value.cells, List.cons.injEq, and_true] at h4
  exact ⟨[], none, 0, h4, ⟨0, 0, by simp, by simp⟩, by simp, fun x hx => by simp at hx⟩
 ·simp only [Value.cells, List.cons.injEq, and_true] at h4
  have each : ∀ i, i < len → ∃ x : SgA, (w.cell? ((a.add (i * 3)).add 0) = some (.string x.1.nm) ∧ w.cell? ((a.add (i * 3)).add 1) = some (.slice x.2.1 x.1.args.length x.2.2) ∧ w.cell? ((a.add (i * 3)).add 2) = some (.int .i64 x.1.so)) ∧ Ints w x.2.1 x.1.args ∧ x.1.args.length ≤ maxLen ∧ (Lit.int .i64 x.1.so).wf = true := by
   intro i hi
   have := hall i hi
   rw [List.getElem?_eq_getElem (by omega), Tryz.cells80] at this
   obtain ⟨cs', g1, g2⟩ := Option.bind_eq_some_iff.1 this
   obtain ⟨x, rfl, hx⟩ := sig_of_trod g2
   have g := (World.cells?_some g1).2.2
   exact ⟨x, ⟨g 0 (by omega), g 1 (by omega), g 2 (by omega)⟩, hx⟩
  haveI : Inhabited SgA := ⟨zeroSg⟩
  obtain ⟨X, hX⟩ := choose_lt each
  have hlen : ((List.range len).map X).length = len := by simp
  refine ⟨(List.range len).map X, some a, cap, by rw [hlen]; exact h4, ?_, by rw [hlen]; omega, fun d hd => ?_⟩
  ·by_cases h0 : 0 < len
   ·obtain ⟨b, o, e⟩ := spot_of_cell (hX 0 h0).1.1
    have e' : a = ⟨b, o, none⟩ := by simpa [Addr.add] using e
    subst e'
    refine ⟨b, o, fun _ => rfl, fun i hi => ?_⟩
    rw [hlen] at hi
    have := (hX i hi).1
    simp only [add_off, Nat.add_zero] at this
    simpa using this
   ·obtain rfl : len = 0 := by omega
    exact ⟨0, 0, by simp, by simp⟩
  ·obtain ⟨i, hi, rfl⟩ := List.mem_map.1 hd
   exact (hX i (List.mem_range.1 hi)).2
end Go.Proofs.YtgkjcimgghflmaaGreatDoor
