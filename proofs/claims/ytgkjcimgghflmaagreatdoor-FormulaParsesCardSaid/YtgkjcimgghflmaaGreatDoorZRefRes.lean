/-
  What package logic's Resolve returns; conditions: the tree and the lists lie in memory, and the tree has few nodes.
-/
import Derived.Test.YtgkjcimgghflmaaGreatDoorZSorted
import Derived.Test.YtgkjcimgghflmaaGreatDoorZCnt
import Derived.Test.YtgkjcimgghflmaaGreatDoorZRd
namespace Go.Proofs.YtgkjcimgghflmaaGreatDoor
set_option maxRecDepth 100000
set_option maxHeartbeats 8000000
open Go.RowKit Go.Shelf Go.WideMaps
attribute [local go_sem] Oper.semAt_some
def RetE (w : World) (p : Nd × Int) (e : Ending) (w' : World) : Prop :=
 ∃ A cap, e = .returned (.tuple #[nv p.1.op p.1.so p.1.nm p.1.nu (.slice A p.1.ks.length cap), .int .i64 p.2]) ∧ Rob w.heap.size w' none A cap p.1.ks ∧ Fine p.1 ∧ Below w.heap.size w w'
theorem lies_zero (w : World) : Lies w none 0 zeroNd.ks := .mk none 0 [] (by simp) 0 0 (fun _ => none) (fun _ => 0) (fun h => by simp at h) (fun i h => by simp at h) (fun i h => by simp at h) (fun i h => by simp at h)
theorem rob_zero (n : Nat) (w : World) : Rob n w none none 0 zeroNd.ks := fun W _ => lies_zero W
theorem fine_zero : Fine zeroNd := ⟨by show (ByteArray.mk #[]).size ≤ maxLen; decide, by decide, by decide, by decide⟩
theorem ref_cases {dl : List (ByteArray × Int)} {sl : List SgA} {t : Nd} {pq : Nd × Int} (h : pq = refResV dl sl t) :
  (4000 < sizeW t → pq = (zeroNd, 2)) ∧ (100 < levW t → pq = (zeroNd, 2)) ∧ (¬ 4000 < sizeW t → ¬ 100 < levW t → unnB dl sl t = true → pq = (zeroNd, 4)) ∧ (¬ 4000 < sizeW t → ¬ 100 < levW t → unnB dl sl t = false → misB sl t = true → pq = (zeroNd, 3)) ∧
  (¬ 4000 < sizeW t → ¬ 100 < levW t → unnB dl sl t = false → misB sl t = false → (allN (resG true dl sl t) = false → pq = (zeroNd, 3)) ∧ (refUniB (resG true dl sl t) = false → pq = (zeroNd, 3)) ∧ (fitB sl (resG true dl sl t) = false → pq = (zeroNd, 3)) ∧
   (allN (resG true dl sl t) = true → refUniB (resG true dl sl t) = true → fitB sl (resG true dl sl t) = true → pq = (resG true dl sl t, 0))) := by
 subst h
 unfold refResV unnB
 refine ⟨fun a => if_pos (.inl a), fun a => if_pos (.inr a), fun a b c => ?_, fun a b c d => ?_, fun a b c d => ?_⟩
 ·rw [if_neg (by omega), if_pos (by simpa using c)]
 ·rw [if_neg (by omega), if_neg (by simpa using c), if_pos d]
 ·rw [if_neg (by omega), if_neg (by simpa using c), if_neg (by rw [d]; decide)]
  refine ⟨fun e => if_pos (.inl e), fun e => if_pos (.inr (.inl e)), fun e => if_pos (.inr (.inr e)), fun e f g => ?_⟩
  rw [if_neg (by rw [e, f, g]; simp)]
theorem refResolve_any (dl : List (ByteArray × Int)) (sl : List SgA) (hdw : ∀ d ∈ dl, (Lit.int .i64 d.2).wf = true) (DA SA : Option Addr) (dcap scap : Nat) (hdl : dl.length ≤ maxLen) (hsl : sl.length ≤ maxLen) (t : Nd) (A : Option Addr) (cap : Nat) (w : World) (hL : Lies w A cap t.ks) (hfine : Fine t) (hcnt : cnt t ≤ 1048576) (hD : Dcls w DA dl) (hS : Sgs w SA sl) (hA : ArgsIn w sl) :
  Calls Tryz.prog 25 #[nv t.op t.so t.nm t.nu (.slice A t.ks.length cap), .slice DA dl.length dcap, .slice SA sl.length scap] w (RetE w (refResV dl sl t)) := by
 have hsw := fun s => (sigAt_in hA s).2.2
 have HB0 := Lib.hid (show Below w.heap.size w ((w.alloc (.cells #[.int .i64 t.op, .int .i64 t.so, .string t.nm, .int .i64 t.nu, .slice A t.ks.length cap] 27)).alloc (.cells zero5 27)) from ((Below.refl _ _).alloc (Nat.le_refl _) _).alloc (by simp) _)
 have HF0 := Lib.hid ((five_new w t (.slice A t.ks.length cap) 27).later ((Below.refl _ _).alloc (Nat.le_refl _) (.cells zero5 27)))
 have HZ0 := Lib.hid (show ((w.alloc (.cells #[.int .i64 t.op, .int .i64 t.so, .string t.nm, .int .i64 t.nu, .slice A t.ks.length cap] 27)).alloc (.cells zero5 27)).heap[w.heap.size + 1]? = some (.cells zero5 27 (0, 0)) from by have := heap_alloc_new (w.alloc (.cells #[.int .i64 t.op, .int .i64 t.so, .string t.nm, .int .i64 t.nu, .slice A t.ks.length cap] 27)) (.cells zero5 27); rwa [World.size_alloc] at this)
 have HL := Lib.hid hL
 have HFi := Lib.hid hfine
 have HD := Lib.hid hD
 have HS := Lib.hid hS
 have HA := Lib.hid hA
 clear hL hfine hD hS hA
 obtain ⟨pq, hpq⟩ : ∃ pq, pq = refResV dl sl t := ⟨_, rfl⟩
 rw [← hpq]
 have HP := Lib.hid (ref_cases hpq)
 clear hpq
 go_enter Tryz.func25, Tryz.ntmps25
 have B0 := HB0.out
 have F0 := HF0.out
 have Z0 := HZ0.out
 obtain ⟨a0, a1, a2, a3, a4⟩ := id F0
 obtain ⟨z0, z1, z2, z3, z4, f0, f1, f2, f3, f4⟩ := box_facts Z0
 go_wp2_with fail
 refine (refSize_any t _ _ _ (HL.out.later B0)).mono ?_
 rintro e w1 ⟨rfl, hb⟩
 have B1 := B0.trans (hb.mono B0.size)
 have F1 := F0.later hb
 have Z1 := (hb.block (w.heap.size + 1) (Array.getElem?_eq_some_iff.1 Z0).1).trans Z0
 clear hb a0 a1 a2 a3 a4 z0 z1 z2 z3 z4 f0 f1 f2 f3 f4 F0 Z0
 obtain ⟨a0, a1, a2, a3, a4⟩ := id F1
 obtain ⟨z0, z1, z2, z3, z4, f0, f1, f2, f3, f4⟩ := box_facts Z1
 by_cases hs : 4000 < sizeW t
 ·skip
  obtain rfl := HP.out.1 hs
  have Hfin := Lib.hid (set5_same (.int .i64 0) (.int .i64 0) (.string ⟨#[]⟩) (.int .i64 0) (.slice none 0 0) Z1)
  have HBf := Lib.hid (Below.set5 B1 (b := w.heap.size + 1) (by omega) (.int .i64 0) (.int .i64 0) (.string ⟨#[]⟩) (.int .i64 0) (.slice none 0 0))
  clear Z1
  go_wp2_with fail
  have hf := Hfin.out
  obtain ⟨y0, y1, y2, y3, y4, _, _, _, _, _⟩ := box_facts hf
  refine bodyPost_ret (v := .tuple #[.agg zero5, .int .i64 2]) ?_ rfl ⟨none, 0, rfl, rob_zero _ _, fine_zero, HBf.out⟩
  clear hf Hfin HBf
  simp [results, Tryz.f25, go_sem, y0, y1, y2, y3, y4]
 go_wp2_with fail
 refine (refLevels_any t _ _ _ (HL.out.later B1)).mono ?_
 rintro e w2 ⟨rfl, hb⟩
 have B2 := B1.trans (hb.mono B1.size)
 have F2 := F1.later hb
 have Z2 := (hb.block (w.heap.size + 1) (Array.getElem?_eq_some_iff.1 Z1).1).trans Z1
 clear hb a0 a1 a2 a3 a4 z0 z1 z2 z3 z4 f0 f1 f2 f3 f4 F1 Z1
 obtain ⟨a0, a1, a2, a3, a4⟩ := id F2
 obtain ⟨z0, z1, z2, z3, z4, f0, f1, f2, f3, f4⟩ := box_facts Z2
 by_cases hl : 100 < levW t
 ·skip
  obtain rfl := HP.out.2.1 hl
  have Hfin := Lib.hid (set5_same (.int .i64 0) (.int .i64 0) (.string ⟨#[]⟩) (.int .i64 0) (.slice none 0 0) Z2)
  have HBf := Lib.hid (Below.set5 B2 (b := w.heap.size + 1) (by omega) (.int .i64 0) (.int .i64 0) (.string ⟨#[]⟩) (.int .i64 0) (.slice none 0 0))
  clear Z2
  go_wp2_with fail
  have hf := Hfin.out
  obtain ⟨y0, y1, y2, y3, y4, _, _, _, _, _⟩ := box_facts hf
  refine bodyPost_ret (v := .tuple #[.agg zero5, .int .i64 2]) ?_ rfl ⟨none, 0, rfl, rob_zero _ _, fine_zero, HBf.out⟩
  clear hf Hfin HBf
  simp [results, Tryz.f25, go_sem, y0, y1, y2, y3, y4]
 go_wp2_with fail
 refine (unnamed_any dl sl DA SA dcap scap hdl hsl t _ _ _ (HL.out.later B2) (HD.out.later B2) (HS.out.later B2)).mono ?_
 rintro e w3 ⟨rfl, hb⟩
 have B3 := B2.trans (hb.mono B2.size)
 have F3 := F2.later hb
 have Z3 := (hb.block (w.heap.size + 1) (Array.getElem?_eq_some_iff.1 Z2).1).trans Z2
 clear hb a0 a1 a2 a3 a4 z0 z1 z2 z3 z4 f0 f1 f2 f3 f4 F2 Z2
 obtain ⟨a0, a1, a2, a3, a4⟩ := id F3
 obtain ⟨z0, z1, z2, z3, z4, f0, f1, f2, f3, f4⟩ := box_facts Z3
 cases hun : unnB dl sl t
 case true =>
  obtain rfl := HP.out.2.2.1 hs hl hun
  have Hfin := Lib.hid (set5_same (.int .i64 0) (.int .i64 0) (.string ⟨#[]⟩) (.int .i64 0) (.slice none 0 0) Z3)
  have HBf := Lib.hid (Below.set5 B3 (b := w.heap.size + 1) (by omega) (.int .i64 0) (.int .i64 0) (.string ⟨#[]⟩) (.int .i64 0) (.slice none 0 0))
  clear Z3
  go_wp2_with fail
  have hf := Hfin.out
  obtain ⟨y0, y1, y2, y3, y4, _, _, _, _, _⟩ := box_facts hf
  refine bodyPost_ret (v := .tuple #[.agg zero5, .int .i64 4]) ?_ rfl ⟨none, 0, rfl, rob_zero _ _, fine_zero, HBf.out⟩
  clear hf Hfin HBf
  simp [results, Tryz.f25, go_sem, y0, y1, y2, y3, y4]
 go_wp2_with fail
 refine (miscounted_any sl SA scap hsl t _ _ _ (HL.out.later B3) (HS.out.later B3)).mono ?_
 rintro e w4 ⟨rfl, hb⟩
 have B4 := B3.trans (hb.mono B3.size)
 have F4 := F3.later hb
 have Z4 := (hb.block (w.heap.size + 1) (Array.getElem?_eq_some_iff.1 Z3).1).trans Z3
 clear hb a0 a1 a2 a3 a4 z0 z1 z2 z3 z4 f0 f1 f2 f3 f4 F3 Z3
 obtain ⟨a0, a1, a2, a3, a4⟩ := id F4
 obtain ⟨z0, z1, z2, z3, z4, f0, f1, f2, f3, f4⟩ := box_facts Z4
 cases hmi : misB sl t
 case true =>
  obtain rfl := HP.out.2.2.2.1 hs hl hun hmi
  have Hfin := Lib.hid (set5_same (.int .i64 0) (.int .i64 0) (.string ⟨#[]⟩) (.int .i64 0) (.slice none 0 0) Z4)
  have HBf := Lib.hid (Below.set5 B4 (b := w.heap.size + 1) (by omega) (.int .i64 0) (.int .i64 0) (.string ⟨#[]⟩) (.int .i64 0) (.slice none 0 0))
  clear Z4
  go_wp2_with fail
  have hf := Hfin.out
  obtain ⟨y0, y1, y2, y3, y4, _, _, _, _, _⟩ := box_facts hf
  refine bodyPost_ret (v := .tuple #[.agg zero5, .int .i64 3]) ?_ rfl ⟨none, 0, rfl, rob_zero _ _, fine_zero, HBf.out⟩
  clear hf Hfin HBf
  simp [results, Tryz.f25, go_sem, y0, y1, y2, y3, y4]
 have hct := Lib.hid (counted (by unfold unnB at hun; simpa using hun) hmi)
 have hcu := Lib.hid (show cnt (resG true dl sl t) ≤ 1048576 by rw [cnt_res]; exact hcnt)
 have HQ := Lib.hid (HP.out.2.2.2.2 hs hl hun hmi)
 clear HP hs hl hun hmi
 go_wp2_with fail
 refine (resolved_any dl sl hdw hsw DA SA dcap scap hdl hsl t _ _ _ (HL.out.later B4) HFi.out (short_cnt hcnt) (HD.out.later B4) (HS.out.later B4)).mono ?_
 rintro e w5 ⟨A5, c5, rfl, hrob, hFu, hb⟩
 have B5' := B4.trans (hb.mono B4.size)
 have Z5' := (hb.block (w.heap.size + 1) (Array.getElem?_eq_some_iff.1 Z4).1).trans Z4
 have HL5 := Lib.hid hrob.lies
 have HR5 := Lib.hid hrob
 have h4lt : w.heap.size + 1 < w4.heap.size := (Array.getElem?_eq_some_iff.1 Z4).1
 clear hb hrob a0 a1 a2 a3 a4 z0 z1 z2 z3 z4 f0 f1 f2 f3 f4 F4 Z4
 generalize resG true dl sl t = u at *
 have B5 := B5'.alloc B5'.size (.cells #[.int .i64 u.op, .int .i64 u.so, .string u.nm, .int .i64 u.nu, .slice A5 u.ks.length c5] 27)
 have hal := (Below.refl w5.heap.size w5).alloc (Nat.le_refl _) (.cells #[.int .i64 u.op, .int .i64 u.so, .string u.nm, .int .i64 u.nu, .slice A5 u.ks.length c5] 27)
 have Z5 := (hal.block (w.heap.size + 1) (Array.getElem?_eq_some_iff.1 Z5').1).trans Z5'
 have F5 := five_new w5 u (.slice A5 u.ks.length c5) 27
 have HL5 := Lib.hid (HL5.out.later hal)
 have HR5 := Lib.hid (HR5.out.later hal)
 have hzlt : w.heap.size + 1 < w5.heap.size := (Array.getElem?_eq_some_iff.1 Z5').1
 clear hal B5' Z5'
 go_wp2_with fail
 refine (refSorted_any u _ _ _ HL5.out).mono ?_
 rintro e w6 ⟨rfl, hb⟩
 have B6 := B5.trans (hb.mono B5.size)
 have F6 := F5.later hb
 have HL6 := Lib.hid (HL5.out.later hb)
 have Z6 := (hb.block (w.heap.size + 1) (Array.getElem?_eq_some_iff.1 Z5).1).trans Z5
 have HR6 := Lib.hid (HR5.out.later hb)
 clear HR5 hb F5 Z5 HL5
 obtain ⟨a0, a1, a2, a3, a4⟩ := id F6
 obtain ⟨z0, z1, z2, z3, z4, f0, f1, f2, f3, f4⟩ := box_facts Z6
 cases hso : allN u
 case false =>
  obtain rfl := HQ.out.1 hso
  have Hfin := Lib.hid (set5_same (.int .i64 0) (.int .i64 0) (.string ⟨#[]⟩) (.int .i64 0) (.slice none 0 0) Z6)
  have HBf := Lib.hid (Below.set5 B6 (b := w.heap.size + 1) (by omega) (.int .i64 0) (.int .i64 0) (.string ⟨#[]⟩) (.int .i64 0) (.slice none 0 0))
  clear Z6
  go_wp2_with fail
  have hf := Hfin.out
  obtain ⟨y0, y1, y2, y3, y4, _, _, _, _, _⟩ := box_facts hf
  refine bodyPost_ret (v := .tuple #[.agg zero5, .int .i64 3]) ?_ rfl ⟨none, 0, rfl, rob_zero _ _, fine_zero, HBf.out⟩
  clear hf Hfin HBf
  simp [results, Tryz.f25, go_sem, y0, y1, y2, y3, y4]
 go_wp2_with fail
 refine (refUniform_any u _ _ _ HL6.out hcu.out).mono ?_
 rintro e w7 ⟨rfl, hb⟩
 have B7 := B6.trans (hb.mono B6.size)
 have F7 := F6.later hb
 have HL7 := Lib.hid (HL6.out.later hb)
 have Z7 := (hb.block (w.heap.size + 1) (Array.getElem?_eq_some_iff.1 Z6).1).trans Z6
 have HR7 := Lib.hid (HR6.out.later hb)
 clear HR6 hb a0 a1 a2 a3 a4 z0 z1 z2 z3 z4 f0 f1 f2 f3 f4 F6 Z6 HL6
 obtain ⟨a0, a1, a2, a3, a4⟩ := id F7
 obtain ⟨z0, z1, z2, z3, z4, f0, f1, f2, f3, f4⟩ := box_facts Z7
 cases hu : refUniB u
 case false =>
  obtain rfl := HQ.out.2.1 hu
  have Hfin := Lib.hid (set5_same (.int .i64 0) (.int .i64 0) (.string ⟨#[]⟩) (.int .i64 0) (.slice none 0 0) Z7)
  have HBf := Lib.hid (Below.set5 B7 (b := w.heap.size + 1) (by omega) (.int .i64 0) (.int .i64 0) (.string ⟨#[]⟩) (.int .i64 0) (.slice none 0 0))
  clear Z7
  go_wp2_with fail
  have hf := Hfin.out
  obtain ⟨y0, y1, y2, y3, y4, _, _, _, _, _⟩ := box_facts hf
  refine bodyPost_ret (v := .tuple #[.agg zero5, .int .i64 3]) ?_ rfl ⟨none, 0, rfl, rob_zero _ _, fine_zero, HBf.out⟩
  clear hf Hfin HBf
  simp [results, Tryz.f25, go_sem, y0, y1, y2, y3, y4]
 go_wp2_with fail
 refine (fitting_any sl SA scap hsl u _ _ _ HL7.out (HS.out.later B7) (HA.out.later B7) hct.out).mono ?_
 rintro e w8 ⟨rfl, hb⟩
 have B8 := B7.trans (hb.mono B7.size)
 have F8 := F7.later hb
 have HL8 := Lib.hid (HL7.out.later hb)
 have Z8 := (hb.block (w.heap.size + 1) (Array.getElem?_eq_some_iff.1 Z7).1).trans Z7
 have HROB := Lib.hid (HR7.out.later hb)
 clear HR7 hb a0 a1 a2 a3 a4 z0 z1 z2 z3 z4 f0 f1 f2 f3 f4 F7 Z7 HL7
 obtain ⟨a0, a1, a2, a3, a4⟩ := id F8
 obtain ⟨z0, z1, z2, z3, z4, f0, f1, f2, f3, f4⟩ := box_facts Z8
 cases hf : fitB sl u
 case false =>
  obtain rfl := HQ.out.2.2.1 hf
  have Hfin := Lib.hid (set5_same (.int .i64 0) (.int .i64 0) (.string ⟨#[]⟩) (.int .i64 0) (.slice none 0 0) Z8)
  have HBf := Lib.hid (Below.set5 B8 (b := w.heap.size + 1) (by omega) (.int .i64 0) (.int .i64 0) (.string ⟨#[]⟩) (.int .i64 0) (.slice none 0 0))
  clear Z8
  go_wp2_with fail
  have hf := Hfin.out
  obtain ⟨y0, y1, y2, y3, y4, _, _, _, _, _⟩ := box_facts hf
  refine bodyPost_ret (v := .tuple #[.agg zero5, .int .i64 3]) ?_ rfl ⟨none, 0, rfl, rob_zero _ _, fine_zero, HBf.out⟩
  clear hf Hfin HBf
  simp [results, Tryz.f25, go_sem, y0, y1, y2, y3, y4]
 obtain rfl := HQ.out.2.2.2 hso hu hf
 clear HQ hso hu hf
 have hfin := set5_same (.int .i64 u.op) (.int .i64 u.so) (.string u.nm) (.int .i64 u.nu) (.slice A5 u.ks.length c5) Z8
 have Hfin := Lib.hid hfin
 have HBf := Lib.hid (Below.set5 B8 (b := w.heap.size + 1) (by omega) (.int .i64 u.op) (.int .i64 u.so) (.string u.nm) (.int .i64 u.nu) (.slice A5 u.ks.length c5))
 have HLf := Lib.hid (HROB.out.set5 (b := w.heap.size + 1) (n1 := w.heap.size) (by omega) (by omega) (.int .i64 u.op) (.int .i64 u.so) (.string u.nm) (.int .i64 u.nu) (.slice A5 u.ks.length c5))
 clear hfin Z8
 go_wp2_with fail
 have hf := Hfin.out
 obtain ⟨y0, y1, y2, y3, y4, _, _, _, _, _⟩ := box_facts hf
 refine bodyPost_ret (v := .tuple #[nv u.op u.so u.nm u.nu (.slice A5 u.ks.length c5), .int .i64 0]) ?_ rfl ⟨A5, c5, rfl, HLf.out, hFu, HBf.out⟩
 clear hf Hfin HBf HLf
 simp [results, Tryz.f25, go_sem, y0, y1, y2, y3, y4]
end Go.Proofs.YtgkjcimgghflmaaGreatDoor
namespace Go.Proofs.YtgkjcimgghflmaaGreatDoor
set_option maxRecDepth 100000
set_option maxHeartbeats 8000000
open Go.RowKit Go.Shelf Go.WideMaps
attribute [local go_sem] Oper.semAt_some
theorem fD_nil : fD ([] : List (ByteArray × Int)) = fun _ => none := rfl
theorem fS_nil : fS ([] : List SgA) = fun _ => none := rfl
theorem res_cases {dl : List (ByteArray × Int)} {sl : List SgA} {t : Nd} {pq : Nd × Int} (h : pq = resV dl sl t) :
  (limB (preN 1 t) = false → pq = (zeroNd, 2)) ∧ (limB (preN 1 t) = true → allNamed dl sl t = false → pq = (zeroNd, 4)) ∧
  (limB (preN 1 t) = true → allNamed dl sl t = true → (checkV (resG false dl sl t) 0 ≠ 0 → pq = (zeroNd, 3)) ∧ (fitB sl (resG false dl sl t) = false → pq = (zeroNd, 3)) ∧
   (checkV (resG false dl sl t) 0 = 0 → fitB sl (resG false dl sl t) = true → pq = (resG false dl sl t, 0))) := by
 subst h
 unfold resV
 refine ⟨fun a => if_pos a, fun a b => ?_, fun a b => ?_⟩
 ·rw [if_neg (by rw [a]; decide), if_pos b]
 ·rw [if_neg (by rw [a]; decide), if_neg (by rw [b]; decide)]
  refine ⟨fun e => if_pos (.inl e), fun e => if_pos (.inr e), fun e f => ?_⟩
  rw [if_neg (by rintro (x | x); exact x e; rw [f] at x; cases x)]
theorem resolve_any (dl : List (ByteArray × Int)) (sl : List SgA) (hdw : ∀ d ∈ dl, (Lit.int .i64 d.2).wf = true) (DA SA : Option Addr) (dcap scap : Nat) (hdl : dl.length ≤ maxLen) (hsl : sl.length ≤ maxLen) (t : Nd) (A : Option Addr) (cap : Nat) (w : World) (hL : Lies w A cap t.ks) (hfine : Fine t) (hcnt : cnt t ≤ 1048576) (hD : Dcls w DA dl) (hS : Sgs w SA sl) (hA : ArgsIn w sl) :
  Calls Tryz.prog 24 #[nv t.op t.so t.nm t.nu (.slice A t.ks.length cap), .slice DA dl.length dcap, .slice SA sl.length scap] w (RetE w (resV dl sl t)) := by
 have hmm := @run_makeMap Tryz.prog
 have hsw := fun s => (sigAt_in hA s).2.2
 have HB0 := Lib.hid (show Below w.heap.size w ((w.alloc (.cells #[.int .i64 t.op, .int .i64 t.so, .string t.nm, .int .i64 t.nu, .slice A t.ks.length cap] 27)).alloc (.cells zero5 27)) from ((Below.refl _ _).alloc (Nat.le_refl _) _).alloc (by simp) _)
 have HF0 := Lib.hid ((five_new w t (.slice A t.ks.length cap) 27).later ((Below.refl _ _).alloc (Nat.le_refl _) (.cells zero5 27)))
 have HZ0 := Lib.hid (show ((w.alloc (.cells #[.int .i64 t.op, .int .i64 t.so, .string t.nm, .int .i64 t.nu, .slice A t.ks.length cap] 27)).alloc (.cells zero5 27)).heap[w.heap.size + 1]? = some (.cells zero5 27 (0, 0)) from by have := heap_alloc_new (w.alloc (.cells #[.int .i64 t.op, .int .i64 t.so, .string t.nm, .int .i64 t.nu, .slice A t.ks.length cap] 27)) (.cells zero5 27); rwa [World.size_alloc] at this)
 have HL := Lib.hid hL
 have HFi := Lib.hid hfine
 have HD := Lib.hid hD
 have HS := Lib.hid hS
 have HA := Lib.hid hA
 have hdl' := hdl
 have hsl' := hsl
 unfold maxLen at hdl' hsl'
 clear hL hfine hD hS hA
 obtain ⟨pq, hpq⟩ : ∃ pq, pq = resV dl sl t := ⟨_, rfl⟩
 rw [← hpq]
 have HP := Lib.hid (res_cases hpq)
 clear hpq
 go_enter Tryz.func24, Tryz.ntmps24
 have B0 := HB0.out
 have F0 := HF0.out
 have Z0 := HZ0.out
 obtain ⟨a0, a1, a2, a3, a4⟩ := id F0
 obtain ⟨z0, z1, z2, z3, z4, f0, f1, f2, f3, f4⟩ := box_facts Z0
 go_wp2_with fail
 refine (limits_any t _ _ _ (HL.out.later B0) HFi.out).mono ?_
 rintro e w1 ⟨rfl, hb⟩
 have B1 := B0.trans (hb.mono B0.size)
 have F1 := F0.later hb
 have Z1 := (hb.block (w.heap.size + 1) (Array.getElem?_eq_some_iff.1 Z0).1).trans Z0
 clear hb a0 a1 a2 a3 a4 z0 z1 z2 z3 z4 f0 f1 f2 f3 f4 F0 Z0 B0
 cases hli : limB (preN 1 t)
 case false =>
  obtain rfl := HP.out.1 hli
  obtain ⟨a0, a1, a2, a3, a4⟩ := id F1
  obtain ⟨z0, z1, z2, z3, z4, f0, f1, f2, f3, f4⟩ := box_facts Z1
  have Hfin := Lib.hid (set5_same (.int .i64 0) (.int .i64 0) (.string ⟨#[]⟩) (.int .i64 0) (.slice none 0 0) Z1)
  have HBf := Lib.hid (Below.set5 B1 (b := w.heap.size + 1) (by omega) (.int .i64 0) (.int .i64 0) (.string ⟨#[]⟩) (.int .i64 0) (.slice none 0 0))
  clear Z1
  go_wp2_with fail
  have hf := Hfin.out
  obtain ⟨y0, y1, y2, y3, y4, _, _, _, _, _⟩ := box_facts hf
  refine bodyPost_ret (v := .tuple #[.agg zero5, .int .i64 2]) ?_ rfl ⟨none, 0, rfl, rob_zero _ _, fine_zero, HBf.out⟩
  clear hf Hfin HBf
  simp [results, Tryz.f24, go_sem, y0, y1, y2, y3, y4]
 have hz1 : w.heap.size + 1 < w1.heap.size := (Array.getElem?_eq_some_iff.1 Z1).1
 have B2 : Below w1.heap.size w1 (((w1.alloc (.map #[] 0)).alloc (.map #[] 0)).alloc (.cells #[.map (some w1.heap.size), .map (some (w1.heap.size + 1))] 74)) := (((Below.refl _ _).alloc (Nat.le_refl _) _).alloc (by simp) _).alloc (by simp; omega) _
 have HB2 := Lib.hid B2
 have HM1 := Lib.hid (show NameMap (((w1.alloc (.map #[] 0)).alloc (.map #[] 0)).alloc (.cells #[.map (some w1.heap.size), .map (some (w1.heap.size + 1))] 74)) w1.heap.size (fD (dl.take 0)) from by
  rw [List.take_zero, fD_nil]
  exact NameMap.nil (((((Below.refl _ _).alloc (Nat.le_refl _) _).alloc (by simp) _).block w1.heap.size (by simp)).trans (heap_alloc_new w1 _)))
 have HM2 := Lib.hid (show (((w1.alloc (.map #[] 0)).alloc (.map #[] 0)).alloc (.cells #[.map (some w1.heap.size), .map (some (w1.heap.size + 1))] 74)).heap[w1.heap.size + 1]? = some (.map #[] 0) from (((Below.refl _ _).alloc (Nat.le_refl _) _).block _ (by simp)).trans (by have := heap_alloc_new (w1.alloc (.map #[] 0)) (.map #[] 0); rwa [World.size_alloc] at this))
 have HMB := Lib.hid (show (((w1.alloc (.map #[] 0)).alloc (.map #[] 0)).alloc (.cells #[.map (some w1.heap.size), .map (some (w1.heap.size + 1))] 74)).heap[w1.heap.size + 1 + 1]? = some (.cells #[.map (some w1.heap.size), .map (some (w1.heap.size + 1))] 74 (0, 0)) from by have := heap_alloc_new ((w1.alloc (.map #[] 0)).alloc (.map #[] 0)) (.cells #[.map (some w1.heap.size), .map (some (w1.heap.size + 1))] 74); rwa [World.size_alloc, World.size_alloc] at this)
 have HS2 := Lib.hid (show w1.heap.size + 1 + 1 + 1 ≤ (((w1.alloc (.map #[] 0)).alloc (.map #[] 0)).alloc (.cells #[.map (some w1.heap.size), .map (some (w1.heap.size + 1))] 74)).heap.size by simp)
 have HF1 := Lib.hid F1
 have HZ1 := Lib.hid Z1
 have HB1 := Lib.hid B1
 clear B2 F1 Z1 B1
 go_wp2_with fail
 generalize (((w1.alloc (.map #[] 0)).alloc (.map #[] 0)).alloc (.cells #[.map (some w1.heap.size), .map (some (w1.heap.size + 1))] 74)) = W2 at *
 go_loopw [23] (fun i wr => ∃ k : Nat, k ≤ dl.length ∧ i = .int .i64 k ∧ Hid (NameMap wr w1.heap.size (fD (dl.take k))) ∧ Hid (wr.heap[w1.heap.size + 1]? = some (.map #[] 0)) ∧ Hid (wr.heap[w1.heap.size + 1 + 1]? = some (.cells #[.map (some w1.heap.size), .map (some (w1.heap.size + 1))] 74 (0, 0))) ∧ Hid (Below w1.heap.size w1 wr) ∧ Hid (w1.heap.size + 1 + 1 + 1 ≤ wr.heap.size)) (fun i _ => dl.length - (intOf i).toNat)
 case atStart => exact ⟨0, Nat.zero_le _, rfl, HM1.out, HM2.out, HMB.out, HB2.out, HS2.out⟩
 case round =>
  obtain ⟨k, hk, rfl, hm1, hm2, hmb, hbr, hszr⟩ := hrel
  clear HM1 HM2 HMB HB2 HS2
  have hs := hszr.out
  have hs' : w1.heap.size + 1 + 1 < wr.heap.size := by omega
  have hBw : Below w.heap.size w wr := HB1.out.trans (hbr.out.mono HB1.out.size)
  have c0 := cell_row hmb.out (i := 0) rfl
  have c1 := cell_row hmb.out (i := 1) rfl
  by_cases hlt : k < dl.length
  ·obtain ⟨db, do', hda, hdc⟩ := HD.out.later hBw
   obtain rfl := hda (by omega)
   obtain ⟨d0, d1⟩ := hdc k hlt
   have hst := Lib.hid (fD_step dl hlt)
   generalize dl[k] = d at *
   clear hda hdc
   have hal : ∀ O, Below wr.heap.size wr (wr.alloc O) := fun O => (Below.refl _ _).alloc (Nat.le_refl _) O
   have KP := Lib.hid (fun O => keepI_any w1.heap.size (fD (dl.take k)) d.1 d.2 (wr.alloc O) (hm1.out.later (hal O)))
   have KB := Lib.hid (fun (O : Obj) j (hj : j < wr.heap.size) => (hal O).block j hj)
   have KS := Lib.hid (fun O => (hal O).size)
   have KBel := Lib.hid (fun O => hbr.out.trans ((hal O).mono (by omega)))
   clear hal
   go_wp2_with fail
   refine (KP.out _).mono ?_
   rintro e w2 ⟨rfl, hn2, hb2, hs2, ho2⟩
   have N1 := Lib.hid (show NameMap w2 w1.heap.size (fD (dl.take (k + 1))) by rw [← hst.out]; exact hn2)
   have N2 := Lib.hid (((ho2 (w1.heap.size + 1) (by have := KS.out (.cells #[.string d.1, .int .i64 d.2] 76); omega) (by omega)).trans (KB.out _ _ (by omega))).trans hm2.out)
   have N3 := Lib.hid (((ho2 (w1.heap.size + 1 + 1) (by have := KS.out (.cells #[.string d.1, .int .i64 d.2] 76); omega) (by omega)).trans (KB.out _ _ (by omega))).trans hmb.out)
   have N4 := Lib.hid ((KBel.out (.cells #[.string d.1, .int .i64 d.2] 76)).trans hb2)
   have N5 := Lib.hid (show w1.heap.size + 1 + 1 + 1 ≤ w2.heap.size by have := KS.out (.cells #[.string d.1, .int .i64 d.2] 76); omega)
   clear hn2 hb2 hs2 ho2 KP KB KS KBel c0 c1 d0 d1
   go_wp2_with fail
   go_roundw
   case rel => exact ⟨k + 1, by omega, by go_num, N1.out, N2.out, N3.out, N4.out, N5.out⟩
   case measure => simp [intOf]; omega
  ·have hmA := Lib.hid (show NameMap wr w1.heap.size (fD dl) by have := hm1.out; rwa [List.take_of_length_le (by omega)] at this)
   have hmB := Lib.hid (show NameMap wr (w1.heap.size + 1) (fS (sl.take 0)) from by rw [List.take_zero, fS_nil]; exact NameMap.nil hm2.out)
   clear hm1 hm2 c0 c1
   go_wp2_with fail
   generalize wr = W3 at *
   go_loopw [37] (fun i wr => ∃ k : Nat, k ≤ sl.length ∧ i = .int .i64 k ∧ Hid (NameMap wr w1.heap.size (fD dl)) ∧ Hid (NameMap wr (w1.heap.size + 1) (fS (sl.take k))) ∧ Hid (wr.heap[w1.heap.size + 1 + 1]? = some (.cells #[.map (some w1.heap.size), .map (some (w1.heap.size + 1))] 74 (0, 0))) ∧ Hid (Below w1.heap.size w1 wr) ∧ Hid (w1.heap.size + 1 + 1 + 1 ≤ wr.heap.size)) (fun i _ => sl.length - (intOf i).toNat)
   case atStart => exact ⟨0, Nat.zero_le _, rfl, hmA.out, hmB.out, hmb.out, hbr.out, hszr.out⟩
   case round =>
    clear hmA hmB hmb hbr hszr hs hs' hBw
    obtain ⟨k, hk, rfl, hm1, hm2, hmb, hbr, hszr⟩ := hrel
    have hs := hszr.out
    have hs' : w1.heap.size + 1 + 1 < wr.heap.size := by omega
    have hBw : Below w.heap.size w wr := HB1.out.trans (hbr.out.mono HB1.out.size)
    have c0 := cell_row hmb.out (i := 0) rfl
    have c1 := cell_row hmb.out (i := 1) rfl
    by_cases hlt : k < sl.length
    ·obtain ⟨db, do', hda, hdc⟩ := HS.out.later hBw
     obtain rfl := hda (by omega)
     obtain ⟨d0, d1, d2⟩ := hdc k hlt
     have hst := Lib.hid (fS_step sl hlt)
     generalize sl[k] = d at *
     clear hda hdc
     have hal : ∀ O, Below wr.heap.size wr (wr.alloc O) := fun O => (Below.refl _ _).alloc (Nat.le_refl _) O
     have KP := Lib.hid (fun O => keepS_any (w1.heap.size + 1) (fS (sl.take k)) (fun s v h => fS_form s v h) d.1.nm d (wr.alloc O) (hm2.out.later (hal O)))
     have KB := Lib.hid (fun (O : Obj) j (hj : j < wr.heap.size) => (hal O).block j hj)
     have KS := Lib.hid (fun O => (hal O).size)
     have KBel := Lib.hid (fun O => hbr.out.trans ((hal O).mono (by omega)))
     clear hal
     go_wp2_with fail
     refine (KP.out _).mono ?_
     rintro e w2 ⟨rfl, hn2, hb2, hs2, ho2⟩
     have N1 := Lib.hid (hm1.out.kept ((ho2 w1.heap.size (by have := KS.out (.cells #[.string d.1.nm, .slice d.2.1 d.1.args.length d.2.2, .int .i64 d.1.so] 80); omega) (by omega)).trans (KB.out _ _ (by omega))))
     have N2 := Lib.hid (show NameMap w2 (w1.heap.size + 1) (fS (sl.take (k + 1))) by rw [← hst.out]; exact hn2)
     have N3 := Lib.hid (((ho2 (w1.heap.size + 1 + 1) (by have := KS.out (.cells #[.string d.1.nm, .slice d.2.1 d.1.args.length d.2.2, .int .i64 d.1.so] 80); omega) (by omega)).trans (KB.out _ _ (by omega))).trans hmb.out)
     have N4 := Lib.hid ((KBel.out (.cells #[.string d.1.nm, .slice d.2.1 d.1.args.length d.2.2, .int .i64 d.1.so] 80)).trans (hb2.mono (by omega)))
     have N5 := Lib.hid (show w1.heap.size + 1 + 1 + 1 ≤ w2.heap.size by have := KS.out (.cells #[.string d.1.nm, .slice d.2.1 d.1.args.length d.2.2, .int .i64 d.1.so] 80); omega)
     clear hn2 hb2 hs2 ho2 KP KB KS KBel c0 c1 d0 d1 d2
     go_wp2_with fail
     go_roundw
     case rel => exact ⟨k + 1, by omega, by go_num, N1.out, N2.out, N3.out, N4.out, N5.out⟩
     case measure => simp [intOf]; omega
    ·have hmA := Lib.hid hm1.out
     have hmB := Lib.hid (show NameMap wr (w1.heap.size + 1) (fS sl) by have := hm2.out; rwa [List.take_of_length_le (by omega)] at this)
     have F2 := HF1.out.later (hbr.out)
     have Z2 := ((hbr.out).block (w.heap.size + 1) hz1).trans HZ1.out
     have B2 := hBw
     clear hm1 hm2 HF1 HZ1
     obtain ⟨a0, a1, a2, a3, a4⟩ := id F2
     have hbm : Below wr.heap.size wr wr := Below.refl _ _
     have M2 := hmb.out
     have NA2 := hmA
     have NB2 := hmB
     clear hmA hmB hmb hbm
     obtain ⟨z0, z1, z2, z3, z4, f0, f1, f2, f3, f4⟩ := box_facts Z2
     go_wp2_with fail
     refine (allNamed_any w1.heap.size (w1.heap.size + 1) dl sl t A cap wr (HL.out.later B2) HFi.out NA2.out NB2.out).mono ?_
     rintro e w3 ⟨rfl, hb⟩
     have B3 := B2.trans (hb.mono B2.size)
     have F3 := F2.later hb
     have Z3 := (hb.block (w.heap.size + 1) (Array.getElem?_eq_some_iff.1 Z2).1).trans Z2
     have M3 := (hb.block (w1.heap.size + 1 + 1) (Array.getElem?_eq_some_iff.1 M2).1).trans M2
     have NA3 := Lib.hid (NA2.out.later hb)
     have NB3 := Lib.hid (NB2.out.later hb)
     clear hb a0 a1 a2 a3 a4 c0 c1 z0 z1 z2 z3 z4 f0 f1 f2 f3 f4 F2 Z2 M2 NA2 NB2
     obtain ⟨a0, a1, a2, a3, a4⟩ := id F3
     have c0 := cell_row M3 (i := 0) rfl
     have c1 := cell_row M3 (i := 1) rfl
     obtain ⟨z0, z1, z2, z3, z4, f0, f1, f2, f3, f4⟩ := box_facts Z3
     cases hna : allNamed dl sl t
     case false =>
      obtain rfl := HP.out.2.1 hli hna
      have Hfin := Lib.hid (set5_same (.int .i64 0) (.int .i64 0) (.string ⟨#[]⟩) (.int .i64 0) (.slice none 0 0) Z3)
      have HBf := Lib.hid (Below.set5 B3 (b := w.heap.size + 1) (by omega) (.int .i64 0) (.int .i64 0) (.string ⟨#[]⟩) (.int .i64 0) (.slice none 0 0))
      clear Z3
      go_wp2_with fail
      have hf := Hfin.out
      obtain ⟨y0, y1, y2, y3, y4, _, _, _, _, _⟩ := box_facts hf
      refine bodyPost_ret (v := .tuple #[.agg zero5, .int .i64 4]) ?_ rfl ⟨none, 0, rfl, rob_zero _ _, fine_zero, HBf.out⟩
      clear hf Hfin HBf
      simp [results, Tryz.f24, go_sem, y0, y1, y2, y3, y4]
     have HQ := Lib.hid (HP.out.2.2 hli hna)
     clear HP hli hna
     go_wp2_with fail
     refine (sorted_any w1.heap.size (w1.heap.size + 1) dl sl hdw hsw t _ _ _ (HL.out.later B3) HFi.out (short_cnt hcnt) NA3.out NB3.out).mono ?_
     rintro e w5 ⟨A5, c5, rfl, hrob, hFu, hb⟩
     have hs3 : w.heap.size + 1 < w3.heap.size := (Array.getElem?_eq_some_iff.1 Z3).1
     have hs3' : w1.heap.size + 1 + 1 < w3.heap.size := (Array.getElem?_eq_some_iff.1 M3).1
     have B5' := B3.trans (hb.mono B3.size)
     have Z5' := (hb.block (w.heap.size + 1) hs3).trans Z3
     have M5' := (hb.block (w1.heap.size + 1 + 1) hs3').trans M3
     have NB5' := NB3.out.later hb
     clear hb a0 a1 a2 a3 a4 c0 c1 z0 z1 z2 z3 z4 f0 f1 f2 f3 f4 F3 Z3 M3 NA3 NB3
     generalize resG false dl sl t = u at *
     have hal := (Below.refl w5.heap.size w5).alloc (Nat.le_refl _) (.cells #[.int .i64 u.op, .int .i64 u.so, .string u.nm, .int .i64 u.nu, .slice A5 u.ks.length c5] 27)
     have B5 := B5'.alloc B5'.size (.cells #[.int .i64 u.op, .int .i64 u.so, .string u.nm, .int .i64 u.nu, .slice A5 u.ks.length c5] 27)
     have Z5 := (hal.block (w.heap.size + 1) (Array.getElem?_eq_some_iff.1 Z5').1).trans Z5'
     have M5 := (hal.block (w1.heap.size + 1 + 1) (Array.getElem?_eq_some_iff.1 M5').1).trans M5'
     have F5 := five_new w5 u (.slice A5 u.ks.length c5) 27
     have HR5 := Lib.hid (hrob.later hal)
     have NB5 := Lib.hid (NB5'.later hal)
     have hzlt : w.heap.size + 1 < w5.heap.size := (Array.getElem?_eq_some_iff.1 Z5').1
     clear hal B5' Z5' M5' NB5' hrob
     go_wp2_with fail
     refine (check_any u 0 A5 c5 _ HR5.out.lies hFu).mono ?_
     rintro e w6 ⟨rfl, hb⟩
     have B6 := B5.trans (hb.mono B5.size)
     have F6 := F5.later hb
     have Z6 := (hb.block (w.heap.size + 1) (Array.getElem?_eq_some_iff.1 Z5).1).trans Z5
     have M6 := (hb.block (w1.heap.size + 1 + 1) (Array.getElem?_eq_some_iff.1 M5).1).trans M5
     have HR6 := Lib.hid (HR5.out.later hb)
     have NB6 := Lib.hid (NB5.out.later hb)
     clear hb F5 Z5 M5 HR5 NB5
     obtain ⟨a0, a1, a2, a3, a4⟩ := id F6
     have c0 := cell_row M6 (i := 0) rfl
     have c1 := cell_row M6 (i := 1) rfl
     obtain ⟨z0, z1, z2, z3, z4, f0, f1, f2, f3, f4⟩ := box_facts Z6
     by_cases hck : checkV u 0 = 0
     case neg =>
      have hck' : (checkV u 0 == 0) = false := by simpa using hck
      have hck'' : (checkV u 0 != 0) = true := by simpa using hck
      obtain rfl := HQ.out.1 hck
      clear hck
      have Hfin := Lib.hid (set5_same (.int .i64 0) (.int .i64 0) (.string ⟨#[]⟩) (.int .i64 0) (.slice none 0 0) Z6)
      have HBf := Lib.hid (Below.set5 B6 (b := w.heap.size + 1) (by omega) (.int .i64 0) (.int .i64 0) (.string ⟨#[]⟩) (.int .i64 0) (.slice none 0 0))
      clear Z6
      go_wp2_with fail
      have hf := Hfin.out
      obtain ⟨y0, y1, y2, y3, y4, _, _, _, _, _⟩ := box_facts hf
      refine bodyPost_ret (v := .tuple #[.agg zero5, .int .i64 3]) ?_ rfl ⟨none, 0, rfl, rob_zero _ _, fine_zero, HBf.out⟩
      clear hf Hfin HBf
      simp [results, Tryz.f24, go_sem, y0, y1, y2, y3, y4]
     have hck' : (checkV u 0 == 0) = true := by simpa using hck
     have hck'' : (checkV u 0 != 0) = false := by simpa using hck
     have Hck := Lib.hid hck
     clear hck
     go_wp2_with fail
     refine (argsFit_any w1.heap.size (w1.heap.size + 1) sl u A5 c5 w6 HR6.out.lies hFu NB6.out (HA.out.later B6)).mono ?_
     rintro e w7 ⟨rfl, hb⟩
     have B7 := B6.trans (hb.mono B6.size)
     have F7 := F6.later hb
     have Z7 := (hb.block (w.heap.size + 1) (Array.getElem?_eq_some_iff.1 Z6).1).trans Z6
     have HROB := Lib.hid (HR6.out.later hb)
     clear hb a0 a1 a2 a3 a4 c0 c1 z0 z1 z2 z3 z4 f0 f1 f2 f3 f4 F6 Z6 M6 HR6 NB6
     obtain ⟨a0, a1, a2, a3, a4⟩ := id F7
     obtain ⟨z0, z1, z2, z3, z4, f0, f1, f2, f3, f4⟩ := box_facts Z7
     cases hf : fitB sl u
     case false =>
      obtain rfl := HQ.out.2.1 hf
      have Hfin := Lib.hid (set5_same (.int .i64 0) (.int .i64 0) (.string ⟨#[]⟩) (.int .i64 0) (.slice none 0 0) Z7)
      have HBf := Lib.hid (Below.set5 B7 (b := w.heap.size + 1) (by omega) (.int .i64 0) (.int .i64 0) (.string ⟨#[]⟩) (.int .i64 0) (.slice none 0 0))
      clear Z7
      go_wp2_with fail
      have hf := Hfin.out
      obtain ⟨y0, y1, y2, y3, y4, _, _, _, _, _⟩ := box_facts hf
      refine bodyPost_ret (v := .tuple #[.agg zero5, .int .i64 3]) ?_ rfl ⟨none, 0, rfl, rob_zero _ _, fine_zero, HBf.out⟩
      clear hf Hfin HBf
      simp [results, Tryz.f24, go_sem, y0, y1, y2, y3, y4]
     obtain rfl := HQ.out.2.2 Hck.out hf
     clear HQ Hck hf
     have hfin := set5_same (.int .i64 u.op) (.int .i64 u.so) (.string u.nm) (.int .i64 u.nu) (.slice A5 u.ks.length c5) Z7
     have Hfin := Lib.hid hfin
     have HBf := Lib.hid (Below.set5 B7 (b := w.heap.size + 1) (by omega) (.int .i64 u.op) (.int .i64 u.so) (.string u.nm) (.int .i64 u.nu) (.slice A5 u.ks.length c5))
     have HLf := Lib.hid (HROB.out.set5 (b := w.heap.size + 1) (n1 := w.heap.size) (by omega) (by omega) (.int .i64 u.op) (.int .i64 u.so) (.string u.nm) (.int .i64 u.nu) (.slice A5 u.ks.length c5))
     clear hfin Z7
     go_wp2_with fail
     have hf := Hfin.out
     obtain ⟨y0, y1, y2, y3, y4, _, _, _, _, _⟩ := box_facts hf
     refine bodyPost_ret (v := .tuple #[nv u.op u.so u.nm u.nu (.slice A5 u.ks.length c5), .int .i64 0]) ?_ rfl ⟨A5, c5, rfl, HLf.out, hFu, HBf.out⟩
     clear hf Hfin HBf HLf
     simp [results, Tryz.f24, go_sem, y0, y1, y2, y3, y4]
end Go.Proofs.YtgkjcimgghflmaaGreatDoor
