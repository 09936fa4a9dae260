/-
  What the document's own Equal and Subst, and package logic's Subst, return; conditions: the trees lie in memory and none of their lists is too long to be made.
-/
import Derived.Test.YtpjokapkoeclpaaSubst
import Derived.Test.YtpjokapkoeclpaaOrdersLaw
namespace Go.Proofs.Ytpjokapkoeclpaa
open Go.RowKit Go.Shelf

attribute [local go_sem] Oper.semAt_some
theorem RetN.lower {w W : World} {u : Nd} {e : Ending} {w' : World} (hb : Below w.heap.size w W) (h : RetN W u e w') : RetN w u e w' := by
  obtain ⟨A, cap, h1, h2, h3, h4⟩ := h
  exact ⟨A, cap, h1, h2.lower hb.size, h3, hb.trans (h4.mono hb.size)⟩

set_option maxRecDepth 100000 in
set_option maxHeartbeats 2000000 in
theorem refEqual_any (t u : Nd) (A A' : Option Addr) (cap cap' : Nat) (w : World) (hL : Lies w A cap t.ks) (hL' : Lies w A' cap' u.ks) :
    Calls Try.prog 32 #[nv t.op t.so t.nm t.nu (.slice A t.ks.length cap), nv u.op u.so u.nm u.nu (.slice A' u.ks.length cap')] w fun e w' => e = .returned (.bool (cmpN t u == 0)) ∧ Below w.heap.size w w' := by
  have HL := Lib.hid hL
  have HL' := Lib.hid hL'
  have HB : ∀ O O', Below w.heap.size w ((w.alloc O).alloc O') := fun O O' => ((Below.refl _ _).alloc (Nat.le_refl _) _).alloc (by simp) _
  clear hL hL'
  go_enter Try.func32, Try.ntmps32
  go_wp2_with fail
  refine (refCompare_any t u _ _ _ _ _ (HL.out.later (HB _ _)) (HL'.out.later (HB _ _))).mono ?_
  rintro e w1 ⟨rfl, hb1⟩
  have hB1 : Below w.heap.size w w1 := (HB _ _).trans (hb1.mono (by simp; omega))
  clear hb1
  go_wp2_with fail
  go_ret
  exact ⟨rfl, hB1⟩


set_option maxRecDepth 100000 in
set_option maxHeartbeats 4000000 in
theorem refSubst_any (t u : Nd) (nm : ByteArray) (A A' : Option Addr) (cap cap' : Nat) (w : World) (hL : Lies w A cap t.ks) (hf : Fine t) (hsh : Short t) (hL' : Lies w A' cap' u.ks) (hf' : Fine u) (hsh' : Short u) :
    Calls Try.prog 41 #[nv t.op t.so t.nm t.nu (.slice A t.ks.length cap), .string nm, nv u.op u.so u.nm u.nu (.slice A' u.ks.length cap')] w (RetN w (subN (lookF [nm] [u]) t)) := by
  obtain ⟨W5, hW5⟩ : ∃ W5, ((((w.alloc (.cells #[.int .i64 t.op, .int .i64 t.so, .string t.nm, .int .i64 t.nu, .slice A t.ks.length cap] 24)).alloc (.cells #[.int .i64 u.op, .int .i64 u.so, .string u.nm, .int .i64 u.nu, .slice A' u.ks.length cap'] 24)).alloc (.cells zero5 24)).alloc (.cells #[.string nm] 9)).alloc (.cells #[.int .i64 u.op, .int .i64 u.so, .string u.nm, .int .i64 u.nu, .slice A' u.ks.length cap'] 24) = W5 := ⟨_, rfl⟩
  have hB5 : Below w.heap.size w W5 := by
    rw [← hW5]
    exact (((((Below.refl _ _).alloc (Nat.le_refl _) _).alloc (by simp) _).alloc (by simp; omega) _).alloc (by simp; omega) _).alloc (by simp; omega) _
  have hs5 : W5.heap.size = w.heap.size + 1 + 1 + 1 + 1 + 1 := by rw [← hW5]; simp
  have zb : W5.heap[w.heap.size + 1 + 1]? = some (.cells zero5 24 (0, 0)) := by
    rw [← hW5]
    refine ((((Below.refl _ _).alloc (Nat.le_refl _) _).alloc (by simp) _).block _ (by simp)).trans ?_
    have := heap_alloc_new ((w.alloc (.cells #[.int .i64 t.op, .int .i64 t.so, .string t.nm, .int .i64 t.nu, .slice A t.ks.length cap] 24)).alloc (.cells #[.int .i64 u.op, .int .i64 u.so, .string u.nm, .int .i64 u.nu, .slice A' u.ks.length cap'] 24)) (.cells zero5 24)
    rwa [World.size_alloc, World.size_alloc] at this
  have hS : Strs W5 (some ⟨w.heap.size + 1 + 1 + 1, 0, none⟩) [nm] := by
    rw [← hW5]
    refine ⟨_, _, fun _ => rfl, fun i hi => ?_⟩
    obtain rfl : i = 0 := by simp at hi; omega
    have := cell_alloc_l (.cells #[.int .i64 u.op, .int .i64 u.so, .string u.nm, .int .i64 u.nu, .slice A' u.ks.length cap'] 24) (cell_new_l (((w.alloc (.cells #[.int .i64 t.op, .int .i64 t.so, .string t.nm, .int .i64 t.nu, .slice A t.ks.length cap] 24)).alloc (.cells #[.int .i64 u.op, .int .i64 u.so, .string u.nm, .int .i64 u.nu, .slice A' u.ks.length cap'] 24)).alloc (.cells zero5 24)) (.string nm) 9).1
    simp only [World.size_alloc] at this
    exact this
  have hW : Lies W5 (some ⟨w.heap.size + 1 + 1 + 1 + 1, 0, none⟩) 1 [u] := by
    refine lies_one ?_ (hL'.later hB5) hf'
    rw [← hW5]
    have := five_new ((((w.alloc (.cells #[.int .i64 t.op, .int .i64 t.so, .string t.nm, .int .i64 t.nu, .slice A t.ks.length cap] 24)).alloc (.cells #[.int .i64 u.op, .int .i64 u.so, .string u.nm, .int .i64 u.nu, .slice A' u.ks.length cap'] 24)).alloc (.cells zero5 24)).alloc (.cells #[.string nm] 9)) u (.slice A' u.ks.length cap') 24
    simpa only [World.size_alloc] using this
  have R := Lib.hid (refSubstAll_any [nm] [u] (fun x hx => by simp at hx; subst hx; exact hsh') _ _ 1 1 (by simp [maxLen]) t A cap W5 (hL.later hB5) hf hsh hS hW)
  have ZB := Lib.hid zb
  have B5 := Lib.hid hB5
  have S5 := Lib.hid hs5
  have HW := Lib.hid hW5
  clear hS hW zb hB5 hs5 hW5 hL hL' hf hf' hsh hsh'
  generalize subN (lookF [nm] [u]) t = v at *
  go_enter Try.func41, Try.ntmps41
  go_wp2_with fail
  rw [HW.out]
  refine R.out.mono ?_
  rintro e w1 ⟨A1, c1, rfl, hr, hFu, hb1⟩
  have hs5 := S5.out
  have hz := (hb1.block (w.heap.size + 1 + 1) (by omega)).trans ZB.out
  have z0 := cell_row hz (i := 0) rfl
  have z1 := cell_row hz (i := 1) rfl
  have z2 := cell_row hz (i := 2) rfl
  have z3 := cell_row hz (i := 3) rfl
  have z4 := cell_row hz (i := 4) rfl
  have f0 := frozen_of_row w1 (w.heap.size + 1 + 1) 0 _ _ hz
  have f1 := frozen_of_row w1 (w.heap.size + 1 + 1) 1 _ _ hz
  have f2 := frozen_of_row w1 (w.heap.size + 1 + 1) 2 _ _ hz
  have f3 := frozen_of_row w1 (w.heap.size + 1 + 1) 3 _ _ hz
  have f4 := frozen_of_row w1 (w.heap.size + 1 + 1) 4 _ _ hz
  have Hfin := Lib.hid (set5_same (.int .i64 v.op) (.int .i64 v.so) (.string v.nm) (.int .i64 v.nu) (.slice A1 v.ks.length c1) hz)
  have HR := Lib.hid (hr.set5 (b := w.heap.size + 1 + 1) (n1 := w.heap.size) (by omega) (by omega) (.int .i64 v.op) (.int .i64 v.so) (.string v.nm) (.int .i64 v.nu) (.slice A1 v.ks.length c1))
  have HB := Lib.hid (Below.set5 (B5.out.trans (hb1.mono B5.out.size)) (b := w.heap.size + 1 + 1) (by omega) (.int .i64 v.op) (.int .i64 v.so) (.string v.nm) (.int .i64 v.nu) (.slice A1 v.ks.length c1))
  clear hr hb1 hz hs5 R
  go_wp2_with fail
  have hf := Hfin.out
  have y0 := cell_row hf (i := 0) rfl
  have y1 := cell_row hf (i := 1) rfl
  have y2 := cell_row hf (i := 2) rfl
  have y3 := cell_row hf (i := 3) rfl
  have y4 := cell_row hf (i := 4) rfl
  refine bodyPost_ret (v := nv v.op v.so v.nm v.nu (.slice A1 v.ks.length c1)) ?_ rfl ⟨A1, c1, rfl, HR.out, hFu, HB.out⟩
  clear hf Hfin HR HB
  simp [results, Try.f41, go_sem, y0, y1, y2, y3, y4]

set_option maxRecDepth 100000 in
set_option maxHeartbeats 4000000 in
theorem subst_any (t u : Nd) (nm : ByteArray) (A A' : Option Addr) (cap cap' : Nat) (w : World) (hL : Lies w A cap t.ks) (hf : Fine t) (hsh : Short t) (hL' : Lies w A' cap' u.ks) (hf' : Fine u) (hsh' : Short u) :
    Calls Try.prog 40 #[nv t.op t.so t.nm t.nu (.slice A t.ks.length cap), .string nm, nv u.op u.so u.nm u.nu (.slice A' u.ks.length cap')] w (RetN w (subN (lookF [nm] [u]) t)) := by
  obtain ⟨W5, hW5⟩ : ∃ W5, ((((w.alloc (.cells #[.int .i64 t.op, .int .i64 t.so, .string t.nm, .int .i64 t.nu, .slice A t.ks.length cap] 24)).alloc (.cells #[.int .i64 u.op, .int .i64 u.so, .string u.nm, .int .i64 u.nu, .slice A' u.ks.length cap'] 24)).alloc (.cells zero5 24)).alloc (.cells #[.string nm] 9)).alloc (.cells #[.int .i64 u.op, .int .i64 u.so, .string u.nm, .int .i64 u.nu, .slice A' u.ks.length cap'] 24) = W5 := ⟨_, rfl⟩
  have hB5 : Below w.heap.size w W5 := by
    rw [← hW5]
    exact (((((Below.refl _ _).alloc (Nat.le_refl _) _).alloc (by simp) _).alloc (by simp; omega) _).alloc (by simp; omega) _).alloc (by simp; omega) _
  have hs5 : W5.heap.size = w.heap.size + 1 + 1 + 1 + 1 + 1 := by rw [← hW5]; simp
  have zb : W5.heap[w.heap.size + 1 + 1]? = some (.cells zero5 24 (0, 0)) := by
    rw [← hW5]
    refine ((((Below.refl _ _).alloc (Nat.le_refl _) _).alloc (by simp) _).block _ (by simp)).trans ?_
    have := heap_alloc_new ((w.alloc (.cells #[.int .i64 t.op, .int .i64 t.so, .string t.nm, .int .i64 t.nu, .slice A t.ks.length cap] 24)).alloc (.cells #[.int .i64 u.op, .int .i64 u.so, .string u.nm, .int .i64 u.nu, .slice A' u.ks.length cap'] 24)) (.cells zero5 24)
    rwa [World.size_alloc, World.size_alloc] at this
  have hS : Strs W5 (some ⟨w.heap.size + 1 + 1 + 1, 0, none⟩) [nm] := by
    rw [← hW5]
    refine ⟨_, _, fun _ => rfl, fun i hi => ?_⟩
    obtain rfl : i = 0 := by simp at hi; omega
    have := cell_alloc_l (.cells #[.int .i64 u.op, .int .i64 u.so, .string u.nm, .int .i64 u.nu, .slice A' u.ks.length cap'] 24) (cell_new_l (((w.alloc (.cells #[.int .i64 t.op, .int .i64 t.so, .string t.nm, .int .i64 t.nu, .slice A t.ks.length cap] 24)).alloc (.cells #[.int .i64 u.op, .int .i64 u.so, .string u.nm, .int .i64 u.nu, .slice A' u.ks.length cap'] 24)).alloc (.cells zero5 24)) (.string nm) 9).1
    simp only [World.size_alloc] at this
    exact this
  have hW : Lies W5 (some ⟨w.heap.size + 1 + 1 + 1 + 1, 0, none⟩) 1 [u] := by
    refine lies_one ?_ (hL'.later hB5) hf'
    rw [← hW5]
    have := five_new ((((w.alloc (.cells #[.int .i64 t.op, .int .i64 t.so, .string t.nm, .int .i64 t.nu, .slice A t.ks.length cap] 24)).alloc (.cells #[.int .i64 u.op, .int .i64 u.so, .string u.nm, .int .i64 u.nu, .slice A' u.ks.length cap'] 24)).alloc (.cells zero5 24)).alloc (.cells #[.string nm] 9)) u (.slice A' u.ks.length cap') 24
    simpa only [World.size_alloc] using this
  have R := Lib.hid (substAll_any [nm] [u] (fun x hx => by simp at hx; subst hx; exact hsh') _ _ 1 1 (by simp [maxLen]) t A cap W5 (hL.later hB5) hf hsh hS hW)
  have ZB := Lib.hid zb
  have B5 := Lib.hid hB5
  have S5 := Lib.hid hs5
  have HW := Lib.hid hW5
  clear hS hW zb hB5 hs5 hW5 hL hL' hf hf' hsh hsh'
  generalize subN (lookF [nm] [u]) t = v at *
  go_enter Try.func40, Try.ntmps40
  go_wp2_with fail
  rw [HW.out]
  refine R.out.mono ?_
  rintro e w1 ⟨A1, c1, rfl, hr, hFu, hb1⟩
  have hs5 := S5.out
  have hz := (hb1.block (w.heap.size + 1 + 1) (by omega)).trans ZB.out
  have z0 := cell_row hz (i := 0) rfl
  have z1 := cell_row hz (i := 1) rfl
  have z2 := cell_row hz (i := 2) rfl
  have z3 := cell_row hz (i := 3) rfl
  have z4 := cell_row hz (i := 4) rfl
  have f0 := frozen_of_row w1 (w.heap.size + 1 + 1) 0 _ _ hz
  have f1 := frozen_of_row w1 (w.heap.size + 1 + 1) 1 _ _ hz
  have f2 := frozen_of_row w1 (w.heap.size + 1 + 1) 2 _ _ hz
  have f3 := frozen_of_row w1 (w.heap.size + 1 + 1) 3 _ _ hz
  have f4 := frozen_of_row w1 (w.heap.size + 1 + 1) 4 _ _ hz
  have Hfin := Lib.hid (set5_same (.int .i64 v.op) (.int .i64 v.so) (.string v.nm) (.int .i64 v.nu) (.slice A1 v.ks.length c1) hz)
  have HR := Lib.hid (hr.set5 (b := w.heap.size + 1 + 1) (n1 := w.heap.size) (by omega) (by omega) (.int .i64 v.op) (.int .i64 v.so) (.string v.nm) (.int .i64 v.nu) (.slice A1 v.ks.length c1))
  have HB := Lib.hid (Below.set5 (B5.out.trans (hb1.mono B5.out.size)) (b := w.heap.size + 1 + 1) (by omega) (.int .i64 v.op) (.int .i64 v.so) (.string v.nm) (.int .i64 v.nu) (.slice A1 v.ks.length c1))
  clear hr hb1 hz hs5 R
  go_wp2_with fail
  have hf := Hfin.out
  have y0 := cell_row hf (i := 0) rfl
  have y1 := cell_row hf (i := 1) rfl
  have y2 := cell_row hf (i := 2) rfl
  have y3 := cell_row hf (i := 3) rfl
  have y4 := cell_row hf (i := 4) rfl
  refine bodyPost_ret (v := nv v.op v.so v.nm v.nu (.slice A1 v.ks.length c1)) ?_ rfl ⟨A1, c1, rfl, HR.out, hFu, HB.out⟩
  clear hf Hfin HR HB
  simp [results, Try.f40, go_sem, y0, y1, y2, y3, y4]
end Go.Proofs.Ytpjokapkoeclpaa
