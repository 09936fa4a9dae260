/-
  What the document's own Resolve returns; conditions: the tree and the lists lie in memory, and the tree has few nodes.
-/
import Derived.Test.YtpjokapkoeclpaaResolved
import Derived.Test.YtpjokapkoeclpaaApps
namespace Go.Proofs.Ytpjokapkoeclpaa
open Go.RowKit Go.Shelf Go.WideMaps

attribute [local go_sem] Oper.semAt_some
/-- A function returns a node and an error. -/
def RetE (w : World) (p : Nd × Int) (e : Ending) (w' : World) : Prop :=
  ∃ A cap, e = .returned (.tuple #[nv p.1.op p.1.so p.1.nm p.1.nu (.slice A p.1.ks.length cap), .int .i64 p.2]) ∧ Lies w' A cap p.1.ks ∧ Fine p.1 ∧ Below w.heap.size w w'
theorem lies_zero (w : World) : Lies w none 0 zeroNd.ks := .mk none 0 [] (by simp) 0 0 (fun _ => none) (fun _ => 0) (fun h => by simp at h) (fun i h => by simp at h) (fun i h => by simp at h) (fun i h => by simp at h)
theorem fine_zero : Fine zeroNd := ⟨by show (ByteArray.mk #[]).size ≤ maxLen; decide, by decide, by decide, by decide⟩
set_option maxRecDepth 100000 in
set_option maxHeartbeats 4000000 in
theorem refResolve_any (dl : List (ByteArray × Int)) (sl : List SgA) (hdw : ∀ d ∈ dl, (Lit.int .i64 d.2).wf = true) (DA SA : Option Addr) (dcap scap : Nat) (hdl : dl.length ≤ maxLen) (hsl : sl.length ≤ maxLen) (t : Nd) (A : Option Addr) (cap : Nat) (w : World) (hL : Lies w A cap t.ks) (hfine : Fine t) (hcnt : cnt t ≤ 1048576) (hD : Dcls w DA dl) (hS : Sgs w SA sl) (hA : ArgsIn w sl) :
    Calls Try.prog 43 #[nv t.op t.so t.nm t.nu (.slice A t.ks.length cap), .slice DA dl.length dcap, .slice SA sl.length scap] w (RetE w (refResV dl sl t)) := by
  have hsw := fun s => (sigAt_in hA s).2.2
  have HB0 := Lib.hid (show Below w.heap.size w ((w.alloc (.cells #[.int .i64 t.op, .int .i64 t.so, .string t.nm, .int .i64 t.nu, .slice A t.ks.length cap] 24)).alloc (.cells zero5 24)) from ((Below.refl _ _).alloc (Nat.le_refl _) _).alloc (by simp) _)
  have HF0 := Lib.hid ((five_new w t (.slice A t.ks.length cap) 24).later ((Below.refl _ _).alloc (Nat.le_refl _) (.cells zero5 24)))
  have HZ0 := Lib.hid (show ((w.alloc (.cells #[.int .i64 t.op, .int .i64 t.so, .string t.nm, .int .i64 t.nu, .slice A t.ks.length cap] 24)).alloc (.cells zero5 24)).heap[w.heap.size + 1]? = some (.cells zero5 24 (0, 0)) from by have := heap_alloc_new (w.alloc (.cells #[.int .i64 t.op, .int .i64 t.so, .string t.nm, .int .i64 t.nu, .slice A t.ks.length cap] 24)) (.cells zero5 24); rwa [World.size_alloc] at this)
  have HL := Lib.hid hL
  have HFi := Lib.hid hfine
  have HD := Lib.hid hD
  have HS := Lib.hid hS
  have HA := Lib.hid hA
  clear hL hfine hD hS hA
  unfold refResV
  by_cases hs : 4000 < sizeW t
  · rw [if_pos (.inl hs)]
    go_enter Try.func43, Try.ntmps43
    have B0 := HB0.out
    have F0 := HF0.out
    have Z0 := HZ0.out
    obtain ⟨a0, a1, a2, a3, a4⟩ := id F0
    have z0 := cell_row Z0 (i := 0) rfl
    have z1 := cell_row Z0 (i := 1) rfl
    have z2 := cell_row Z0 (i := 2) rfl
    have z3 := cell_row Z0 (i := 3) rfl
    have z4 := cell_row Z0 (i := 4) rfl
    have f0 := frozen_of_row _ (w.heap.size + 1) 0 _ _ Z0
    have f1 := frozen_of_row _ (w.heap.size + 1) 1 _ _ Z0
    have f2 := frozen_of_row _ (w.heap.size + 1) 2 _ _ Z0
    have f3 := frozen_of_row _ (w.heap.size + 1) 3 _ _ Z0
    have f4 := frozen_of_row _ (w.heap.size + 1) 4 _ _ Z0
    go_wp2_with fail
    refine (refSize_any t _ _ _ (HL.out.later B0)).mono ?_
    rintro e w1 ⟨rfl, hb⟩
    have B1 := B0.trans (hb.mono B0.size)
    have F1 := F0.later hb
    have Z1 := (hb.block (w.heap.size + 1) (Array.getElem?_eq_some_iff.1 Z0).1).trans Z0
    clear hb a0 a1 a2 a3 a4 z0 z1 z2 z3 z4 f0 f1 f2 f3 f4 F0 Z0
    obtain ⟨a0, a1, a2, a3, a4⟩ := id F1
    have z0 := cell_row Z1 (i := 0) rfl
    have z1 := cell_row Z1 (i := 1) rfl
    have z2 := cell_row Z1 (i := 2) rfl
    have z3 := cell_row Z1 (i := 3) rfl
    have z4 := cell_row Z1 (i := 4) rfl
    have f0 := frozen_of_row w1 (w.heap.size + 1) 0 _ _ Z1
    have f1 := frozen_of_row w1 (w.heap.size + 1) 1 _ _ Z1
    have f2 := frozen_of_row w1 (w.heap.size + 1) 2 _ _ Z1
    have f3 := frozen_of_row w1 (w.heap.size + 1) 3 _ _ Z1
    have f4 := frozen_of_row w1 (w.heap.size + 1) 4 _ _ Z1
    have Hfin := Lib.hid (set5_same (.int .i64 0) (.int .i64 0) (.string ⟨#[]⟩) (.int .i64 0) (.slice none 0 0) Z1)
    have HBf := Lib.hid (Below.set5 B1 (b := w.heap.size + 1) (by omega) (.int .i64 0) (.int .i64 0) (.string ⟨#[]⟩) (.int .i64 0) (.slice none 0 0))
    clear Z1
    go_wp2_with fail
    have hf := Hfin.out
    have y0 := cell_row hf (i := 0) rfl
    have y1 := cell_row hf (i := 1) rfl
    have y2 := cell_row hf (i := 2) rfl
    have y3 := cell_row hf (i := 3) rfl
    have y4 := cell_row hf (i := 4) rfl
    refine bodyPost_ret (v := .tuple #[.agg zero5, .int .i64 2]) ?_ rfl ⟨none, 0, rfl, lies_zero _, fine_zero, HBf.out⟩
    clear hf Hfin HBf
    simp [results, Try.f43, go_sem, y0, y1, y2, y3, y4]
  by_cases hl : 100 < levW t
  · rw [if_pos (.inr hl)]
    go_enter Try.func43, Try.ntmps43
    have B0 := HB0.out
    have F0 := HF0.out
    have Z0 := HZ0.out
    obtain ⟨a0, a1, a2, a3, a4⟩ := id F0
    have z0 := cell_row Z0 (i := 0) rfl
    have z1 := cell_row Z0 (i := 1) rfl
    have z2 := cell_row Z0 (i := 2) rfl
    have z3 := cell_row Z0 (i := 3) rfl
    have z4 := cell_row Z0 (i := 4) rfl
    have f0 := frozen_of_row _ (w.heap.size + 1) 0 _ _ Z0
    have f1 := frozen_of_row _ (w.heap.size + 1) 1 _ _ Z0
    have f2 := frozen_of_row _ (w.heap.size + 1) 2 _ _ Z0
    have f3 := frozen_of_row _ (w.heap.size + 1) 3 _ _ Z0
    have f4 := frozen_of_row _ (w.heap.size + 1) 4 _ _ Z0
    go_wp2_with fail
    refine (refSize_any t _ _ _ (HL.out.later B0)).mono ?_
    rintro e w1 ⟨rfl, hb⟩
    have B1 := B0.trans (hb.mono B0.size)
    have F1 := F0.later hb
    have Z1 := (hb.block (w.heap.size + 1) (Array.getElem?_eq_some_iff.1 Z0).1).trans Z0
    clear hb a0 a1 a2 a3 a4 z0 z1 z2 z3 z4 f0 f1 f2 f3 f4 F0 Z0
    obtain ⟨a0, a1, a2, a3, a4⟩ := id F1
    have z0 := cell_row Z1 (i := 0) rfl
    have z1 := cell_row Z1 (i := 1) rfl
    have z2 := cell_row Z1 (i := 2) rfl
    have z3 := cell_row Z1 (i := 3) rfl
    have z4 := cell_row Z1 (i := 4) rfl
    have f0 := frozen_of_row w1 (w.heap.size + 1) 0 _ _ Z1
    have f1 := frozen_of_row w1 (w.heap.size + 1) 1 _ _ Z1
    have f2 := frozen_of_row w1 (w.heap.size + 1) 2 _ _ Z1
    have f3 := frozen_of_row w1 (w.heap.size + 1) 3 _ _ Z1
    have f4 := frozen_of_row w1 (w.heap.size + 1) 4 _ _ Z1
    go_wp2_with fail
    refine (refLevels_any t _ _ _ (HL.out.later B1)).mono ?_
    rintro e w2 ⟨rfl, hb⟩
    have B2 := B1.trans (hb.mono B1.size)
    have F2 := F1.later hb
    have Z2 := (hb.block (w.heap.size + 1) (Array.getElem?_eq_some_iff.1 Z1).1).trans Z1
    clear hb a0 a1 a2 a3 a4 z0 z1 z2 z3 z4 f0 f1 f2 f3 f4 F1 Z1
    obtain ⟨a0, a1, a2, a3, a4⟩ := id F2
    have z0 := cell_row Z2 (i := 0) rfl
    have z1 := cell_row Z2 (i := 1) rfl
    have z2 := cell_row Z2 (i := 2) rfl
    have z3 := cell_row Z2 (i := 3) rfl
    have z4 := cell_row Z2 (i := 4) rfl
    have f0 := frozen_of_row w2 (w.heap.size + 1) 0 _ _ Z2
    have f1 := frozen_of_row w2 (w.heap.size + 1) 1 _ _ Z2
    have f2 := frozen_of_row w2 (w.heap.size + 1) 2 _ _ Z2
    have f3 := frozen_of_row w2 (w.heap.size + 1) 3 _ _ Z2
    have f4 := frozen_of_row w2 (w.heap.size + 1) 4 _ _ Z2
    have Hfin := Lib.hid (set5_same (.int .i64 0) (.int .i64 0) (.string ⟨#[]⟩) (.int .i64 0) (.slice none 0 0) Z2)
    have HBf := Lib.hid (Below.set5 B2 (b := w.heap.size + 1) (by omega) (.int .i64 0) (.int .i64 0) (.string ⟨#[]⟩) (.int .i64 0) (.slice none 0 0))
    clear Z2
    go_wp2_with fail
    have hf := Hfin.out
    have y0 := cell_row hf (i := 0) rfl
    have y1 := cell_row hf (i := 1) rfl
    have y2 := cell_row hf (i := 2) rfl
    have y3 := cell_row hf (i := 3) rfl
    have y4 := cell_row hf (i := 4) rfl
    refine bodyPost_ret (v := .tuple #[.agg zero5, .int .i64 2]) ?_ rfl ⟨none, 0, rfl, lies_zero _, fine_zero, HBf.out⟩
    clear hf Hfin HBf
    simp [results, Try.f43, go_sem, y0, y1, y2, y3, y4]
  rw [if_neg (by omega)]
  cases hun : unnB dl sl t
  case true =>
    rw [if_pos (by unfold unnB at hun; simpa using hun)]
    have Hun := Lib.hid hun
    clear hun
    go_enter Try.func43, Try.ntmps43
    have B0 := HB0.out
    have F0 := HF0.out
    have Z0 := HZ0.out
    obtain ⟨a0, a1, a2, a3, a4⟩ := id F0
    have z0 := cell_row Z0 (i := 0) rfl
    have z1 := cell_row Z0 (i := 1) rfl
    have z2 := cell_row Z0 (i := 2) rfl
    have z3 := cell_row Z0 (i := 3) rfl
    have z4 := cell_row Z0 (i := 4) rfl
    have f0 := frozen_of_row _ (w.heap.size + 1) 0 _ _ Z0
    have f1 := frozen_of_row _ (w.heap.size + 1) 1 _ _ Z0
    have f2 := frozen_of_row _ (w.heap.size + 1) 2 _ _ Z0
    have f3 := frozen_of_row _ (w.heap.size + 1) 3 _ _ Z0
    have f4 := frozen_of_row _ (w.heap.size + 1) 4 _ _ Z0
    go_wp2_with fail
    refine (refSize_any t _ _ _ (HL.out.later B0)).mono ?_
    rintro e w1 ⟨rfl, hb⟩
    have B1 := B0.trans (hb.mono B0.size)
    have F1 := F0.later hb
    have Z1 := (hb.block (w.heap.size + 1) (Array.getElem?_eq_some_iff.1 Z0).1).trans Z0
    clear hb a0 a1 a2 a3 a4 z0 z1 z2 z3 z4 f0 f1 f2 f3 f4 F0 Z0
    obtain ⟨a0, a1, a2, a3, a4⟩ := id F1
    have z0 := cell_row Z1 (i := 0) rfl
    have z1 := cell_row Z1 (i := 1) rfl
    have z2 := cell_row Z1 (i := 2) rfl
    have z3 := cell_row Z1 (i := 3) rfl
    have z4 := cell_row Z1 (i := 4) rfl
    have f0 := frozen_of_row w1 (w.heap.size + 1) 0 _ _ Z1
    have f1 := frozen_of_row w1 (w.heap.size + 1) 1 _ _ Z1
    have f2 := frozen_of_row w1 (w.heap.size + 1) 2 _ _ Z1
    have f3 := frozen_of_row w1 (w.heap.size + 1) 3 _ _ Z1
    have f4 := frozen_of_row w1 (w.heap.size + 1) 4 _ _ Z1
    go_wp2_with fail
    refine (refLevels_any t _ _ _ (HL.out.later B1)).mono ?_
    rintro e w2 ⟨rfl, hb⟩
    have B2 := B1.trans (hb.mono B1.size)
    have F2 := F1.later hb
    have Z2 := (hb.block (w.heap.size + 1) (Array.getElem?_eq_some_iff.1 Z1).1).trans Z1
    clear hb a0 a1 a2 a3 a4 z0 z1 z2 z3 z4 f0 f1 f2 f3 f4 F1 Z1
    obtain ⟨a0, a1, a2, a3, a4⟩ := id F2
    have z0 := cell_row Z2 (i := 0) rfl
    have z1 := cell_row Z2 (i := 1) rfl
    have z2 := cell_row Z2 (i := 2) rfl
    have z3 := cell_row Z2 (i := 3) rfl
    have z4 := cell_row Z2 (i := 4) rfl
    have f0 := frozen_of_row w2 (w.heap.size + 1) 0 _ _ Z2
    have f1 := frozen_of_row w2 (w.heap.size + 1) 1 _ _ Z2
    have f2 := frozen_of_row w2 (w.heap.size + 1) 2 _ _ Z2
    have f3 := frozen_of_row w2 (w.heap.size + 1) 3 _ _ Z2
    have f4 := frozen_of_row w2 (w.heap.size + 1) 4 _ _ Z2
    go_wp2_with fail
    refine (unnamed_any dl sl DA SA dcap scap hdl hsl t _ _ _ (HL.out.later B2) (HD.out.later B2) (HS.out.later B2)).mono ?_
    rintro e w3 ⟨rfl, hb⟩
    rw [Hun.out]
    have B3 := B2.trans (hb.mono B2.size)
    have F3 := F2.later hb
    have Z3 := (hb.block (w.heap.size + 1) (Array.getElem?_eq_some_iff.1 Z2).1).trans Z2
    clear hb a0 a1 a2 a3 a4 z0 z1 z2 z3 z4 f0 f1 f2 f3 f4 F2 Z2
    obtain ⟨a0, a1, a2, a3, a4⟩ := id F3
    have z0 := cell_row Z3 (i := 0) rfl
    have z1 := cell_row Z3 (i := 1) rfl
    have z2 := cell_row Z3 (i := 2) rfl
    have z3 := cell_row Z3 (i := 3) rfl
    have z4 := cell_row Z3 (i := 4) rfl
    have f0 := frozen_of_row w3 (w.heap.size + 1) 0 _ _ Z3
    have f1 := frozen_of_row w3 (w.heap.size + 1) 1 _ _ Z3
    have f2 := frozen_of_row w3 (w.heap.size + 1) 2 _ _ Z3
    have f3 := frozen_of_row w3 (w.heap.size + 1) 3 _ _ Z3
    have f4 := frozen_of_row w3 (w.heap.size + 1) 4 _ _ Z3
    have Hfin := Lib.hid (set5_same (.int .i64 0) (.int .i64 0) (.string ⟨#[]⟩) (.int .i64 0) (.slice none 0 0) Z3)
    have HBf := Lib.hid (Below.set5 B3 (b := w.heap.size + 1) (by omega) (.int .i64 0) (.int .i64 0) (.string ⟨#[]⟩) (.int .i64 0) (.slice none 0 0))
    clear Z3
    go_wp2_with fail
    have hf := Hfin.out
    have y0 := cell_row hf (i := 0) rfl
    have y1 := cell_row hf (i := 1) rfl
    have y2 := cell_row hf (i := 2) rfl
    have y3 := cell_row hf (i := 3) rfl
    have y4 := cell_row hf (i := 4) rfl
    refine bodyPost_ret (v := .tuple #[.agg zero5, .int .i64 4]) ?_ rfl ⟨none, 0, rfl, lies_zero _, fine_zero, HBf.out⟩
    clear hf Hfin HBf
    simp [results, Try.f43, go_sem, y0, y1, y2, y3, y4]
  have hna : allNamed dl sl t = true := by unfold unnB at hun; simpa using hun
  rw [if_neg (by rw [hna]; simp)]
  have Hun := Lib.hid hun
  clear hun
  cases hmi : misB sl t
  case true =>
    rw [if_pos rfl]
    have Hmi := Lib.hid hmi
    clear hmi hna
    go_enter Try.func43, Try.ntmps43
    have B0 := HB0.out
    have F0 := HF0.out
    have Z0 := HZ0.out
    obtain ⟨a0, a1, a2, a3, a4⟩ := id F0
    have z0 := cell_row Z0 (i := 0) rfl
    have z1 := cell_row Z0 (i := 1) rfl
    have z2 := cell_row Z0 (i := 2) rfl
    have z3 := cell_row Z0 (i := 3) rfl
    have z4 := cell_row Z0 (i := 4) rfl
    have f0 := frozen_of_row _ (w.heap.size + 1) 0 _ _ Z0
    have f1 := frozen_of_row _ (w.heap.size + 1) 1 _ _ Z0
    have f2 := frozen_of_row _ (w.heap.size + 1) 2 _ _ Z0
    have f3 := frozen_of_row _ (w.heap.size + 1) 3 _ _ Z0
    have f4 := frozen_of_row _ (w.heap.size + 1) 4 _ _ Z0
    go_wp2_with fail
    refine (refSize_any t _ _ _ (HL.out.later B0)).mono ?_
    rintro e w1 ⟨rfl, hb⟩
    have B1 := B0.trans (hb.mono B0.size)
    have F1 := F0.later hb
    have Z1 := (hb.block (w.heap.size + 1) (Array.getElem?_eq_some_iff.1 Z0).1).trans Z0
    clear hb a0 a1 a2 a3 a4 z0 z1 z2 z3 z4 f0 f1 f2 f3 f4 F0 Z0
    obtain ⟨a0, a1, a2, a3, a4⟩ := id F1
    have z0 := cell_row Z1 (i := 0) rfl
    have z1 := cell_row Z1 (i := 1) rfl
    have z2 := cell_row Z1 (i := 2) rfl
    have z3 := cell_row Z1 (i := 3) rfl
    have z4 := cell_row Z1 (i := 4) rfl
    have f0 := frozen_of_row w1 (w.heap.size + 1) 0 _ _ Z1
    have f1 := frozen_of_row w1 (w.heap.size + 1) 1 _ _ Z1
    have f2 := frozen_of_row w1 (w.heap.size + 1) 2 _ _ Z1
    have f3 := frozen_of_row w1 (w.heap.size + 1) 3 _ _ Z1
    have f4 := frozen_of_row w1 (w.heap.size + 1) 4 _ _ Z1
    go_wp2_with fail
    refine (refLevels_any t _ _ _ (HL.out.later B1)).mono ?_
    rintro e w2 ⟨rfl, hb⟩
    have B2 := B1.trans (hb.mono B1.size)
    have F2 := F1.later hb
    have Z2 := (hb.block (w.heap.size + 1) (Array.getElem?_eq_some_iff.1 Z1).1).trans Z1
    clear hb a0 a1 a2 a3 a4 z0 z1 z2 z3 z4 f0 f1 f2 f3 f4 F1 Z1
    obtain ⟨a0, a1, a2, a3, a4⟩ := id F2
    have z0 := cell_row Z2 (i := 0) rfl
    have z1 := cell_row Z2 (i := 1) rfl
    have z2 := cell_row Z2 (i := 2) rfl
    have z3 := cell_row Z2 (i := 3) rfl
    have z4 := cell_row Z2 (i := 4) rfl
    have f0 := frozen_of_row w2 (w.heap.size + 1) 0 _ _ Z2
    have f1 := frozen_of_row w2 (w.heap.size + 1) 1 _ _ Z2
    have f2 := frozen_of_row w2 (w.heap.size + 1) 2 _ _ Z2
    have f3 := frozen_of_row w2 (w.heap.size + 1) 3 _ _ Z2
    have f4 := frozen_of_row w2 (w.heap.size + 1) 4 _ _ Z2
    go_wp2_with fail
    refine (unnamed_any dl sl DA SA dcap scap hdl hsl t _ _ _ (HL.out.later B2) (HD.out.later B2) (HS.out.later B2)).mono ?_
    rintro e w3 ⟨rfl, hb⟩
    rw [Hun.out]
    have B3 := B2.trans (hb.mono B2.size)
    have F3 := F2.later hb
    have Z3 := (hb.block (w.heap.size + 1) (Array.getElem?_eq_some_iff.1 Z2).1).trans Z2
    clear hb a0 a1 a2 a3 a4 z0 z1 z2 z3 z4 f0 f1 f2 f3 f4 F2 Z2
    obtain ⟨a0, a1, a2, a3, a4⟩ := id F3
    have z0 := cell_row Z3 (i := 0) rfl
    have z1 := cell_row Z3 (i := 1) rfl
    have z2 := cell_row Z3 (i := 2) rfl
    have z3 := cell_row Z3 (i := 3) rfl
    have z4 := cell_row Z3 (i := 4) rfl
    have f0 := frozen_of_row w3 (w.heap.size + 1) 0 _ _ Z3
    have f1 := frozen_of_row w3 (w.heap.size + 1) 1 _ _ Z3
    have f2 := frozen_of_row w3 (w.heap.size + 1) 2 _ _ Z3
    have f3 := frozen_of_row w3 (w.heap.size + 1) 3 _ _ Z3
    have f4 := frozen_of_row w3 (w.heap.size + 1) 4 _ _ Z3
    go_wp2_with fail
    refine (miscounted_any sl SA scap hsl t _ _ _ (HL.out.later B3) (HS.out.later B3)).mono ?_
    rintro e w4 ⟨rfl, hb⟩
    rw [Hmi.out]
    have B4 := B3.trans (hb.mono B3.size)
    have F4 := F3.later hb
    have Z4 := (hb.block (w.heap.size + 1) (Array.getElem?_eq_some_iff.1 Z3).1).trans Z3
    clear hb a0 a1 a2 a3 a4 z0 z1 z2 z3 z4 f0 f1 f2 f3 f4 F3 Z3
    obtain ⟨a0, a1, a2, a3, a4⟩ := id F4
    have z0 := cell_row Z4 (i := 0) rfl
    have z1 := cell_row Z4 (i := 1) rfl
    have z2 := cell_row Z4 (i := 2) rfl
    have z3 := cell_row Z4 (i := 3) rfl
    have z4 := cell_row Z4 (i := 4) rfl
    have f0 := frozen_of_row w4 (w.heap.size + 1) 0 _ _ Z4
    have f1 := frozen_of_row w4 (w.heap.size + 1) 1 _ _ Z4
    have f2 := frozen_of_row w4 (w.heap.size + 1) 2 _ _ Z4
    have f3 := frozen_of_row w4 (w.heap.size + 1) 3 _ _ Z4
    have f4 := frozen_of_row w4 (w.heap.size + 1) 4 _ _ Z4
    have Hfin := Lib.hid (set5_same (.int .i64 0) (.int .i64 0) (.string ⟨#[]⟩) (.int .i64 0) (.slice none 0 0) Z4)
    have HBf := Lib.hid (Below.set5 B4 (b := w.heap.size + 1) (by omega) (.int .i64 0) (.int .i64 0) (.string ⟨#[]⟩) (.int .i64 0) (.slice none 0 0))
    clear Z4
    go_wp2_with fail
    have hf := Hfin.out
    have y0 := cell_row hf (i := 0) rfl
    have y1 := cell_row hf (i := 1) rfl
    have y2 := cell_row hf (i := 2) rfl
    have y3 := cell_row hf (i := 3) rfl
    have y4 := cell_row hf (i := 4) rfl
    refine bodyPost_ret (v := .tuple #[.agg zero5, .int .i64 3]) ?_ rfl ⟨none, 0, rfl, lies_zero _, fine_zero, HBf.out⟩
    clear hf Hfin HBf
    simp [results, Try.f43, go_sem, y0, y1, y2, y3, y4]
  rw [if_neg (by simp)]
  have hct := Lib.hid (counted hna hmi)
  have hcu := Lib.hid (show cnt (resG true dl sl t) ≤ 1048576 by rw [cnt_res]; exact hcnt)
  have Hmi := Lib.hid hmi
  clear hmi hna
  cases hso : allN (resG true dl sl t)
  case false =>
    rw [if_pos (.inl rfl)]
    have Hso := Lib.hid hso
    clear hso
    go_enter Try.func43, Try.ntmps43
    have B0 := HB0.out
    have F0 := HF0.out
    have Z0 := HZ0.out
    obtain ⟨a0, a1, a2, a3, a4⟩ := id F0
    have z0 := cell_row Z0 (i := 0) rfl
    have z1 := cell_row Z0 (i := 1) rfl
    have z2 := cell_row Z0 (i := 2) rfl
    have z3 := cell_row Z0 (i := 3) rfl
    have z4 := cell_row Z0 (i := 4) rfl
    have f0 := frozen_of_row _ (w.heap.size + 1) 0 _ _ Z0
    have f1 := frozen_of_row _ (w.heap.size + 1) 1 _ _ Z0
    have f2 := frozen_of_row _ (w.heap.size + 1) 2 _ _ Z0
    have f3 := frozen_of_row _ (w.heap.size + 1) 3 _ _ Z0
    have f4 := frozen_of_row _ (w.heap.size + 1) 4 _ _ Z0
    go_wp2_with fail
    refine (refSize_any t _ _ _ (HL.out.later B0)).mono ?_
    rintro e w1 ⟨rfl, hb⟩
    have B1 := B0.trans (hb.mono B0.size)
    have F1 := F0.later hb
    have Z1 := (hb.block (w.heap.size + 1) (Array.getElem?_eq_some_iff.1 Z0).1).trans Z0
    clear hb a0 a1 a2 a3 a4 z0 z1 z2 z3 z4 f0 f1 f2 f3 f4 F0 Z0
    obtain ⟨a0, a1, a2, a3, a4⟩ := id F1
    have z0 := cell_row Z1 (i := 0) rfl
    have z1 := cell_row Z1 (i := 1) rfl
    have z2 := cell_row Z1 (i := 2) rfl
    have z3 := cell_row Z1 (i := 3) rfl
    have z4 := cell_row Z1 (i := 4) rfl
    have f0 := frozen_of_row w1 (w.heap.size + 1) 0 _ _ Z1
    have f1 := frozen_of_row w1 (w.heap.size + 1) 1 _ _ Z1
    have f2 := frozen_of_row w1 (w.heap.size + 1) 2 _ _ Z1
    have f3 := frozen_of_row w1 (w.heap.size + 1) 3 _ _ Z1
    have f4 := frozen_of_row w1 (w.heap.size + 1) 4 _ _ Z1
    go_wp2_with fail
    refine (refLevels_any t _ _ _ (HL.out.later B1)).mono ?_
    rintro e w2 ⟨rfl, hb⟩
    have B2 := B1.trans (hb.mono B1.size)
    have F2 := F1.later hb
    have Z2 := (hb.block (w.heap.size + 1) (Array.getElem?_eq_some_iff.1 Z1).1).trans Z1
    clear hb a0 a1 a2 a3 a4 z0 z1 z2 z3 z4 f0 f1 f2 f3 f4 F1 Z1
    obtain ⟨a0, a1, a2, a3, a4⟩ := id F2
    have z0 := cell_row Z2 (i := 0) rfl
    have z1 := cell_row Z2 (i := 1) rfl
    have z2 := cell_row Z2 (i := 2) rfl
    have z3 := cell_row Z2 (i := 3) rfl
    have z4 := cell_row Z2 (i := 4) rfl
    have f0 := frozen_of_row w2 (w.heap.size + 1) 0 _ _ Z2
    have f1 := frozen_of_row w2 (w.heap.size + 1) 1 _ _ Z2
    have f2 := frozen_of_row w2 (w.heap.size + 1) 2 _ _ Z2
    have f3 := frozen_of_row w2 (w.heap.size + 1) 3 _ _ Z2
    have f4 := frozen_of_row w2 (w.heap.size + 1) 4 _ _ Z2
    go_wp2_with fail
    refine (unnamed_any dl sl DA SA dcap scap hdl hsl t _ _ _ (HL.out.later B2) (HD.out.later B2) (HS.out.later B2)).mono ?_
    rintro e w3 ⟨rfl, hb⟩
    rw [Hun.out]
    have B3 := B2.trans (hb.mono B2.size)
    have F3 := F2.later hb
    have Z3 := (hb.block (w.heap.size + 1) (Array.getElem?_eq_some_iff.1 Z2).1).trans Z2
    clear hb a0 a1 a2 a3 a4 z0 z1 z2 z3 z4 f0 f1 f2 f3 f4 F2 Z2
    obtain ⟨a0, a1, a2, a3, a4⟩ := id F3
    have z0 := cell_row Z3 (i := 0) rfl
    have z1 := cell_row Z3 (i := 1) rfl
    have z2 := cell_row Z3 (i := 2) rfl
    have z3 := cell_row Z3 (i := 3) rfl
    have z4 := cell_row Z3 (i := 4) rfl
    have f0 := frozen_of_row w3 (w.heap.size + 1) 0 _ _ Z3
    have f1 := frozen_of_row w3 (w.heap.size + 1) 1 _ _ Z3
    have f2 := frozen_of_row w3 (w.heap.size + 1) 2 _ _ Z3
    have f3 := frozen_of_row w3 (w.heap.size + 1) 3 _ _ Z3
    have f4 := frozen_of_row w3 (w.heap.size + 1) 4 _ _ Z3
    go_wp2_with fail
    refine (miscounted_any sl SA scap hsl t _ _ _ (HL.out.later B3) (HS.out.later B3)).mono ?_
    rintro e w4 ⟨rfl, hb⟩
    rw [Hmi.out]
    have B4 := B3.trans (hb.mono B3.size)
    have F4 := F3.later hb
    have Z4 := (hb.block (w.heap.size + 1) (Array.getElem?_eq_some_iff.1 Z3).1).trans Z3
    clear hb a0 a1 a2 a3 a4 z0 z1 z2 z3 z4 f0 f1 f2 f3 f4 F3 Z3
    obtain ⟨a0, a1, a2, a3, a4⟩ := id F4
    have z0 := cell_row Z4 (i := 0) rfl
    have z1 := cell_row Z4 (i := 1) rfl
    have z2 := cell_row Z4 (i := 2) rfl
    have z3 := cell_row Z4 (i := 3) rfl
    have z4 := cell_row Z4 (i := 4) rfl
    have f0 := frozen_of_row w4 (w.heap.size + 1) 0 _ _ Z4
    have f1 := frozen_of_row w4 (w.heap.size + 1) 1 _ _ Z4
    have f2 := frozen_of_row w4 (w.heap.size + 1) 2 _ _ Z4
    have f3 := frozen_of_row w4 (w.heap.size + 1) 3 _ _ Z4
    have f4 := frozen_of_row w4 (w.heap.size + 1) 4 _ _ Z4
    go_wp2_with fail
    refine (resolved_any dl sl hdw hsw DA SA dcap scap hdl hsl t _ _ _ (HL.out.later B4) HFi.out (short_cnt hcnt) (HD.out.later B4) (HS.out.later B4)).mono ?_
    rintro e w5 ⟨A5, c5, rfl, hrob, hFu, hb⟩
    have B5' := B4.trans (hb.mono B4.size)
    have Z5' := (hb.block (w.heap.size + 1) (Array.getElem?_eq_some_iff.1 Z4).1).trans Z4
    have HL5 := Lib.hid hrob.lies
    have h4lt : w.heap.size + 1 < w4.heap.size := (Array.getElem?_eq_some_iff.1 Z4).1
    clear hb hrob a0 a1 a2 a3 a4 z0 z1 z2 z3 z4 f0 f1 f2 f3 f4 F4 Z4
    generalize resG true dl sl t = u at *
    have B5 := B5'.alloc B5'.size (.cells #[.int .i64 u.op, .int .i64 u.so, .string u.nm, .int .i64 u.nu, .slice A5 u.ks.length c5] 24)
    have hal := (Below.refl w5.heap.size w5).alloc (Nat.le_refl _) (.cells #[.int .i64 u.op, .int .i64 u.so, .string u.nm, .int .i64 u.nu, .slice A5 u.ks.length c5] 24)
    have Z5 := (hal.block (w.heap.size + 1) (Array.getElem?_eq_some_iff.1 Z5').1).trans Z5'
    have F5 := five_new w5 u (.slice A5 u.ks.length c5) 24
    have HL5 := Lib.hid (HL5.out.later hal)
    have hzlt : w.heap.size + 1 < w5.heap.size := (Array.getElem?_eq_some_iff.1 Z5').1
    clear hal B5' Z5'
    go_wp2_with fail
    refine (refSorted_any u _ _ _ HL5.out).mono ?_
    rintro e w6 ⟨rfl, hb⟩
    rw [Hso.out]
    have B6 := B5.trans (hb.mono B5.size)
    have F6 := F5.later hb
    have HL6 := Lib.hid (HL5.out.later hb)
    have Z6 := (hb.block (w.heap.size + 1) (Array.getElem?_eq_some_iff.1 Z5).1).trans Z5
    clear hb F5 Z5 HL5
    obtain ⟨a0, a1, a2, a3, a4⟩ := id F6
    have z0 := cell_row Z6 (i := 0) rfl
    have z1 := cell_row Z6 (i := 1) rfl
    have z2 := cell_row Z6 (i := 2) rfl
    have z3 := cell_row Z6 (i := 3) rfl
    have z4 := cell_row Z6 (i := 4) rfl
    have f0 := frozen_of_row w6 (w.heap.size + 1) 0 _ _ Z6
    have f1 := frozen_of_row w6 (w.heap.size + 1) 1 _ _ Z6
    have f2 := frozen_of_row w6 (w.heap.size + 1) 2 _ _ Z6
    have f3 := frozen_of_row w6 (w.heap.size + 1) 3 _ _ Z6
    have f4 := frozen_of_row w6 (w.heap.size + 1) 4 _ _ Z6
    have Hfin := Lib.hid (set5_same (.int .i64 0) (.int .i64 0) (.string ⟨#[]⟩) (.int .i64 0) (.slice none 0 0) Z6)
    have HBf := Lib.hid (Below.set5 B6 (b := w.heap.size + 1) (by omega) (.int .i64 0) (.int .i64 0) (.string ⟨#[]⟩) (.int .i64 0) (.slice none 0 0))
    clear Z6
    go_wp2_with fail
    have hf := Hfin.out
    have y0 := cell_row hf (i := 0) rfl
    have y1 := cell_row hf (i := 1) rfl
    have y2 := cell_row hf (i := 2) rfl
    have y3 := cell_row hf (i := 3) rfl
    have y4 := cell_row hf (i := 4) rfl
    refine bodyPost_ret (v := .tuple #[.agg zero5, .int .i64 3]) ?_ rfl ⟨none, 0, rfl, lies_zero _, fine_zero, HBf.out⟩
    clear hf Hfin HBf
    simp [results, Try.f43, go_sem, y0, y1, y2, y3, y4]
  have Hso := Lib.hid hso
  clear hso
  cases hu : refUniB (resG true dl sl t)
  case false =>
    rw [if_pos (.inr (.inl rfl))]
    have Hu := Lib.hid hu
    clear hu
    go_enter Try.func43, Try.ntmps43
    have B0 := HB0.out
    have F0 := HF0.out
    have Z0 := HZ0.out
    obtain ⟨a0, a1, a2, a3, a4⟩ := id F0
    have z0 := cell_row Z0 (i := 0) rfl
    have z1 := cell_row Z0 (i := 1) rfl
    have z2 := cell_row Z0 (i := 2) rfl
    have z3 := cell_row Z0 (i := 3) rfl
    have z4 := cell_row Z0 (i := 4) rfl
    have f0 := frozen_of_row _ (w.heap.size + 1) 0 _ _ Z0
    have f1 := frozen_of_row _ (w.heap.size + 1) 1 _ _ Z0
    have f2 := frozen_of_row _ (w.heap.size + 1) 2 _ _ Z0
    have f3 := frozen_of_row _ (w.heap.size + 1) 3 _ _ Z0
    have f4 := frozen_of_row _ (w.heap.size + 1) 4 _ _ Z0
    go_wp2_with fail
    refine (refSize_any t _ _ _ (HL.out.later B0)).mono ?_
    rintro e w1 ⟨rfl, hb⟩
    have B1 := B0.trans (hb.mono B0.size)
    have F1 := F0.later hb
    have Z1 := (hb.block (w.heap.size + 1) (Array.getElem?_eq_some_iff.1 Z0).1).trans Z0
    clear hb a0 a1 a2 a3 a4 z0 z1 z2 z3 z4 f0 f1 f2 f3 f4 F0 Z0
    obtain ⟨a0, a1, a2, a3, a4⟩ := id F1
    have z0 := cell_row Z1 (i := 0) rfl
    have z1 := cell_row Z1 (i := 1) rfl
    have z2 := cell_row Z1 (i := 2) rfl
    have z3 := cell_row Z1 (i := 3) rfl
    have z4 := cell_row Z1 (i := 4) rfl
    have f0 := frozen_of_row w1 (w.heap.size + 1) 0 _ _ Z1
    have f1 := frozen_of_row w1 (w.heap.size + 1) 1 _ _ Z1
    have f2 := frozen_of_row w1 (w.heap.size + 1) 2 _ _ Z1
    have f3 := frozen_of_row w1 (w.heap.size + 1) 3 _ _ Z1
    have f4 := frozen_of_row w1 (w.heap.size + 1) 4 _ _ Z1
    go_wp2_with fail
    refine (refLevels_any t _ _ _ (HL.out.later B1)).mono ?_
    rintro e w2 ⟨rfl, hb⟩
    have B2 := B1.trans (hb.mono B1.size)
    have F2 := F1.later hb
    have Z2 := (hb.block (w.heap.size + 1) (Array.getElem?_eq_some_iff.1 Z1).1).trans Z1
    clear hb a0 a1 a2 a3 a4 z0 z1 z2 z3 z4 f0 f1 f2 f3 f4 F1 Z1
    obtain ⟨a0, a1, a2, a3, a4⟩ := id F2
    have z0 := cell_row Z2 (i := 0) rfl
    have z1 := cell_row Z2 (i := 1) rfl
    have z2 := cell_row Z2 (i := 2) rfl
    have z3 := cell_row Z2 (i := 3) rfl
    have z4 := cell_row Z2 (i := 4) rfl
    have f0 := frozen_of_row w2 (w.heap.size + 1) 0 _ _ Z2
    have f1 := frozen_of_row w2 (w.heap.size + 1) 1 _ _ Z2
    have f2 := frozen_of_row w2 (w.heap.size + 1) 2 _ _ Z2
    have f3 := frozen_of_row w2 (w.heap.size + 1) 3 _ _ Z2
    have f4 := frozen_of_row w2 (w.heap.size + 1) 4 _ _ Z2
    go_wp2_with fail
    refine (unnamed_any dl sl DA SA dcap scap hdl hsl t _ _ _ (HL.out.later B2) (HD.out.later B2) (HS.out.later B2)).mono ?_
    rintro e w3 ⟨rfl, hb⟩
    rw [Hun.out]
    have B3 := B2.trans (hb.mono B2.size)
    have F3 := F2.later hb
    have Z3 := (hb.block (w.heap.size + 1) (Array.getElem?_eq_some_iff.1 Z2).1).trans Z2
    clear hb a0 a1 a2 a3 a4 z0 z1 z2 z3 z4 f0 f1 f2 f3 f4 F2 Z2
    obtain ⟨a0, a1, a2, a3, a4⟩ := id F3
    have z0 := cell_row Z3 (i := 0) rfl
    have z1 := cell_row Z3 (i := 1) rfl
    have z2 := cell_row Z3 (i := 2) rfl
    have z3 := cell_row Z3 (i := 3) rfl
    have z4 := cell_row Z3 (i := 4) rfl
    have f0 := frozen_of_row w3 (w.heap.size + 1) 0 _ _ Z3
    have f1 := frozen_of_row w3 (w.heap.size + 1) 1 _ _ Z3
    have f2 := frozen_of_row w3 (w.heap.size + 1) 2 _ _ Z3
    have f3 := frozen_of_row w3 (w.heap.size + 1) 3 _ _ Z3
    have f4 := frozen_of_row w3 (w.heap.size + 1) 4 _ _ Z3
    go_wp2_with fail
    refine (miscounted_any sl SA scap hsl t _ _ _ (HL.out.later B3) (HS.out.later B3)).mono ?_
    rintro e w4 ⟨rfl, hb⟩
    rw [Hmi.out]
    have B4 := B3.trans (hb.mono B3.size)
    have F4 := F3.later hb
    have Z4 := (hb.block (w.heap.size + 1) (Array.getElem?_eq_some_iff.1 Z3).1).trans Z3
    clear hb a0 a1 a2 a3 a4 z0 z1 z2 z3 z4 f0 f1 f2 f3 f4 F3 Z3
    obtain ⟨a0, a1, a2, a3, a4⟩ := id F4
    have z0 := cell_row Z4 (i := 0) rfl
    have z1 := cell_row Z4 (i := 1) rfl
    have z2 := cell_row Z4 (i := 2) rfl
    have z3 := cell_row Z4 (i := 3) rfl
    have z4 := cell_row Z4 (i := 4) rfl
    have f0 := frozen_of_row w4 (w.heap.size + 1) 0 _ _ Z4
    have f1 := frozen_of_row w4 (w.heap.size + 1) 1 _ _ Z4
    have f2 := frozen_of_row w4 (w.heap.size + 1) 2 _ _ Z4
    have f3 := frozen_of_row w4 (w.heap.size + 1) 3 _ _ Z4
    have f4 := frozen_of_row w4 (w.heap.size + 1) 4 _ _ Z4
    go_wp2_with fail
    refine (resolved_any dl sl hdw hsw DA SA dcap scap hdl hsl t _ _ _ (HL.out.later B4) HFi.out (short_cnt hcnt) (HD.out.later B4) (HS.out.later B4)).mono ?_
    rintro e w5 ⟨A5, c5, rfl, hrob, hFu, hb⟩
    have B5' := B4.trans (hb.mono B4.size)
    have Z5' := (hb.block (w.heap.size + 1) (Array.getElem?_eq_some_iff.1 Z4).1).trans Z4
    have HL5 := Lib.hid hrob.lies
    have h4lt : w.heap.size + 1 < w4.heap.size := (Array.getElem?_eq_some_iff.1 Z4).1
    clear hb hrob a0 a1 a2 a3 a4 z0 z1 z2 z3 z4 f0 f1 f2 f3 f4 F4 Z4
    generalize resG true dl sl t = u at *
    have B5 := B5'.alloc B5'.size (.cells #[.int .i64 u.op, .int .i64 u.so, .string u.nm, .int .i64 u.nu, .slice A5 u.ks.length c5] 24)
    have hal := (Below.refl w5.heap.size w5).alloc (Nat.le_refl _) (.cells #[.int .i64 u.op, .int .i64 u.so, .string u.nm, .int .i64 u.nu, .slice A5 u.ks.length c5] 24)
    have Z5 := (hal.block (w.heap.size + 1) (Array.getElem?_eq_some_iff.1 Z5').1).trans Z5'
    have F5 := five_new w5 u (.slice A5 u.ks.length c5) 24
    have HL5 := Lib.hid (HL5.out.later hal)
    have hzlt : w.heap.size + 1 < w5.heap.size := (Array.getElem?_eq_some_iff.1 Z5').1
    clear hal B5' Z5'
    go_wp2_with fail
    refine (refSorted_any u _ _ _ HL5.out).mono ?_
    rintro e w6 ⟨rfl, hb⟩
    rw [Hso.out]
    have B6 := B5.trans (hb.mono B5.size)
    have F6 := F5.later hb
    have HL6 := Lib.hid (HL5.out.later hb)
    have Z6 := (hb.block (w.heap.size + 1) (Array.getElem?_eq_some_iff.1 Z5).1).trans Z5
    clear hb F5 Z5 HL5
    obtain ⟨a0, a1, a2, a3, a4⟩ := id F6
    have z0 := cell_row Z6 (i := 0) rfl
    have z1 := cell_row Z6 (i := 1) rfl
    have z2 := cell_row Z6 (i := 2) rfl
    have z3 := cell_row Z6 (i := 3) rfl
    have z4 := cell_row Z6 (i := 4) rfl
    have f0 := frozen_of_row w6 (w.heap.size + 1) 0 _ _ Z6
    have f1 := frozen_of_row w6 (w.heap.size + 1) 1 _ _ Z6
    have f2 := frozen_of_row w6 (w.heap.size + 1) 2 _ _ Z6
    have f3 := frozen_of_row w6 (w.heap.size + 1) 3 _ _ Z6
    have f4 := frozen_of_row w6 (w.heap.size + 1) 4 _ _ Z6
    go_wp2_with fail
    refine (refUniform_any u _ _ _ HL6.out hcu.out).mono ?_
    rintro e w7 ⟨rfl, hb⟩
    rw [Hu.out]
    have B7 := B6.trans (hb.mono B6.size)
    have F7 := F6.later hb
    have HL7 := Lib.hid (HL6.out.later hb)
    have Z7 := (hb.block (w.heap.size + 1) (Array.getElem?_eq_some_iff.1 Z6).1).trans Z6
    clear hb a0 a1 a2 a3 a4 z0 z1 z2 z3 z4 f0 f1 f2 f3 f4 F6 Z6 HL6
    obtain ⟨a0, a1, a2, a3, a4⟩ := id F7
    have z0 := cell_row Z7 (i := 0) rfl
    have z1 := cell_row Z7 (i := 1) rfl
    have z2 := cell_row Z7 (i := 2) rfl
    have z3 := cell_row Z7 (i := 3) rfl
    have z4 := cell_row Z7 (i := 4) rfl
    have f0 := frozen_of_row w7 (w.heap.size + 1) 0 _ _ Z7
    have f1 := frozen_of_row w7 (w.heap.size + 1) 1 _ _ Z7
    have f2 := frozen_of_row w7 (w.heap.size + 1) 2 _ _ Z7
    have f3 := frozen_of_row w7 (w.heap.size + 1) 3 _ _ Z7
    have f4 := frozen_of_row w7 (w.heap.size + 1) 4 _ _ Z7
    have Hfin := Lib.hid (set5_same (.int .i64 0) (.int .i64 0) (.string ⟨#[]⟩) (.int .i64 0) (.slice none 0 0) Z7)
    have HBf := Lib.hid (Below.set5 B7 (b := w.heap.size + 1) (by omega) (.int .i64 0) (.int .i64 0) (.string ⟨#[]⟩) (.int .i64 0) (.slice none 0 0))
    clear Z7
    go_wp2_with fail
    have hf := Hfin.out
    have y0 := cell_row hf (i := 0) rfl
    have y1 := cell_row hf (i := 1) rfl
    have y2 := cell_row hf (i := 2) rfl
    have y3 := cell_row hf (i := 3) rfl
    have y4 := cell_row hf (i := 4) rfl
    refine bodyPost_ret (v := .tuple #[.agg zero5, .int .i64 3]) ?_ rfl ⟨none, 0, rfl, lies_zero _, fine_zero, HBf.out⟩
    clear hf Hfin HBf
    simp [results, Try.f43, go_sem, y0, y1, y2, y3, y4]
  have Hu := Lib.hid hu
  clear hu
  cases hf : fitB sl (resG true dl sl t)
  case false =>
    rw [if_pos (.inr (.inr rfl))]
    have Hf := Lib.hid hf
    clear hf
    go_enter Try.func43, Try.ntmps43
    have B0 := HB0.out
    have F0 := HF0.out
    have Z0 := HZ0.out
    obtain ⟨a0, a1, a2, a3, a4⟩ := id F0
    have z0 := cell_row Z0 (i := 0) rfl
    have z1 := cell_row Z0 (i := 1) rfl
    have z2 := cell_row Z0 (i := 2) rfl
    have z3 := cell_row Z0 (i := 3) rfl
    have z4 := cell_row Z0 (i := 4) rfl
    have f0 := frozen_of_row _ (w.heap.size + 1) 0 _ _ Z0
    have f1 := frozen_of_row _ (w.heap.size + 1) 1 _ _ Z0
    have f2 := frozen_of_row _ (w.heap.size + 1) 2 _ _ Z0
    have f3 := frozen_of_row _ (w.heap.size + 1) 3 _ _ Z0
    have f4 := frozen_of_row _ (w.heap.size + 1) 4 _ _ Z0
    go_wp2_with fail
    refine (refSize_any t _ _ _ (HL.out.later B0)).mono ?_
    rintro e w1 ⟨rfl, hb⟩
    have B1 := B0.trans (hb.mono B0.size)
    have F1 := F0.later hb
    have Z1 := (hb.block (w.heap.size + 1) (Array.getElem?_eq_some_iff.1 Z0).1).trans Z0
    clear hb a0 a1 a2 a3 a4 z0 z1 z2 z3 z4 f0 f1 f2 f3 f4 F0 Z0
    obtain ⟨a0, a1, a2, a3, a4⟩ := id F1
    have z0 := cell_row Z1 (i := 0) rfl
    have z1 := cell_row Z1 (i := 1) rfl
    have z2 := cell_row Z1 (i := 2) rfl
    have z3 := cell_row Z1 (i := 3) rfl
    have z4 := cell_row Z1 (i := 4) rfl
    have f0 := frozen_of_row w1 (w.heap.size + 1) 0 _ _ Z1
    have f1 := frozen_of_row w1 (w.heap.size + 1) 1 _ _ Z1
    have f2 := frozen_of_row w1 (w.heap.size + 1) 2 _ _ Z1
    have f3 := frozen_of_row w1 (w.heap.size + 1) 3 _ _ Z1
    have f4 := frozen_of_row w1 (w.heap.size + 1) 4 _ _ Z1
    go_wp2_with fail
    refine (refLevels_any t _ _ _ (HL.out.later B1)).mono ?_
    rintro e w2 ⟨rfl, hb⟩
    have B2 := B1.trans (hb.mono B1.size)
    have F2 := F1.later hb
    have Z2 := (hb.block (w.heap.size + 1) (Array.getElem?_eq_some_iff.1 Z1).1).trans Z1
    clear hb a0 a1 a2 a3 a4 z0 z1 z2 z3 z4 f0 f1 f2 f3 f4 F1 Z1
    obtain ⟨a0, a1, a2, a3, a4⟩ := id F2
    have z0 := cell_row Z2 (i := 0) rfl
    have z1 := cell_row Z2 (i := 1) rfl
    have z2 := cell_row Z2 (i := 2) rfl
    have z3 := cell_row Z2 (i := 3) rfl
    have z4 := cell_row Z2 (i := 4) rfl
    have f0 := frozen_of_row w2 (w.heap.size + 1) 0 _ _ Z2
    have f1 := frozen_of_row w2 (w.heap.size + 1) 1 _ _ Z2
    have f2 := frozen_of_row w2 (w.heap.size + 1) 2 _ _ Z2
    have f3 := frozen_of_row w2 (w.heap.size + 1) 3 _ _ Z2
    have f4 := frozen_of_row w2 (w.heap.size + 1) 4 _ _ Z2
    go_wp2_with fail
    refine (unnamed_any dl sl DA SA dcap scap hdl hsl t _ _ _ (HL.out.later B2) (HD.out.later B2) (HS.out.later B2)).mono ?_
    rintro e w3 ⟨rfl, hb⟩
    rw [Hun.out]
    have B3 := B2.trans (hb.mono B2.size)
    have F3 := F2.later hb
    have Z3 := (hb.block (w.heap.size + 1) (Array.getElem?_eq_some_iff.1 Z2).1).trans Z2
    clear hb a0 a1 a2 a3 a4 z0 z1 z2 z3 z4 f0 f1 f2 f3 f4 F2 Z2
    obtain ⟨a0, a1, a2, a3, a4⟩ := id F3
    have z0 := cell_row Z3 (i := 0) rfl
    have z1 := cell_row Z3 (i := 1) rfl
    have z2 := cell_row Z3 (i := 2) rfl
    have z3 := cell_row Z3 (i := 3) rfl
    have z4 := cell_row Z3 (i := 4) rfl
    have f0 := frozen_of_row w3 (w.heap.size + 1) 0 _ _ Z3
    have f1 := frozen_of_row w3 (w.heap.size + 1) 1 _ _ Z3
    have f2 := frozen_of_row w3 (w.heap.size + 1) 2 _ _ Z3
    have f3 := frozen_of_row w3 (w.heap.size + 1) 3 _ _ Z3
    have f4 := frozen_of_row w3 (w.heap.size + 1) 4 _ _ Z3
    go_wp2_with fail
    refine (miscounted_any sl SA scap hsl t _ _ _ (HL.out.later B3) (HS.out.later B3)).mono ?_
    rintro e w4 ⟨rfl, hb⟩
    rw [Hmi.out]
    have B4 := B3.trans (hb.mono B3.size)
    have F4 := F3.later hb
    have Z4 := (hb.block (w.heap.size + 1) (Array.getElem?_eq_some_iff.1 Z3).1).trans Z3
    clear hb a0 a1 a2 a3 a4 z0 z1 z2 z3 z4 f0 f1 f2 f3 f4 F3 Z3
    obtain ⟨a0, a1, a2, a3, a4⟩ := id F4
    have z0 := cell_row Z4 (i := 0) rfl
    have z1 := cell_row Z4 (i := 1) rfl
    have z2 := cell_row Z4 (i := 2) rfl
    have z3 := cell_row Z4 (i := 3) rfl
    have z4 := cell_row Z4 (i := 4) rfl
    have f0 := frozen_of_row w4 (w.heap.size + 1) 0 _ _ Z4
    have f1 := frozen_of_row w4 (w.heap.size + 1) 1 _ _ Z4
    have f2 := frozen_of_row w4 (w.heap.size + 1) 2 _ _ Z4
    have f3 := frozen_of_row w4 (w.heap.size + 1) 3 _ _ Z4
    have f4 := frozen_of_row w4 (w.heap.size + 1) 4 _ _ Z4
    go_wp2_with fail
    refine (resolved_any dl sl hdw hsw DA SA dcap scap hdl hsl t _ _ _ (HL.out.later B4) HFi.out (short_cnt hcnt) (HD.out.later B4) (HS.out.later B4)).mono ?_
    rintro e w5 ⟨A5, c5, rfl, hrob, hFu, hb⟩
    have B5' := B4.trans (hb.mono B4.size)
    have Z5' := (hb.block (w.heap.size + 1) (Array.getElem?_eq_some_iff.1 Z4).1).trans Z4
    have HL5 := Lib.hid hrob.lies
    have h4lt : w.heap.size + 1 < w4.heap.size := (Array.getElem?_eq_some_iff.1 Z4).1
    clear hb hrob a0 a1 a2 a3 a4 z0 z1 z2 z3 z4 f0 f1 f2 f3 f4 F4 Z4
    generalize resG true dl sl t = u at *
    have B5 := B5'.alloc B5'.size (.cells #[.int .i64 u.op, .int .i64 u.so, .string u.nm, .int .i64 u.nu, .slice A5 u.ks.length c5] 24)
    have hal := (Below.refl w5.heap.size w5).alloc (Nat.le_refl _) (.cells #[.int .i64 u.op, .int .i64 u.so, .string u.nm, .int .i64 u.nu, .slice A5 u.ks.length c5] 24)
    have Z5 := (hal.block (w.heap.size + 1) (Array.getElem?_eq_some_iff.1 Z5').1).trans Z5'
    have F5 := five_new w5 u (.slice A5 u.ks.length c5) 24
    have HL5 := Lib.hid (HL5.out.later hal)
    have hzlt : w.heap.size + 1 < w5.heap.size := (Array.getElem?_eq_some_iff.1 Z5').1
    clear hal B5' Z5'
    go_wp2_with fail
    refine (refSorted_any u _ _ _ HL5.out).mono ?_
    rintro e w6 ⟨rfl, hb⟩
    rw [Hso.out]
    have B6 := B5.trans (hb.mono B5.size)
    have F6 := F5.later hb
    have HL6 := Lib.hid (HL5.out.later hb)
    have Z6 := (hb.block (w.heap.size + 1) (Array.getElem?_eq_some_iff.1 Z5).1).trans Z5
    clear hb F5 Z5 HL5
    obtain ⟨a0, a1, a2, a3, a4⟩ := id F6
    have z0 := cell_row Z6 (i := 0) rfl
    have z1 := cell_row Z6 (i := 1) rfl
    have z2 := cell_row Z6 (i := 2) rfl
    have z3 := cell_row Z6 (i := 3) rfl
    have z4 := cell_row Z6 (i := 4) rfl
    have f0 := frozen_of_row w6 (w.heap.size + 1) 0 _ _ Z6
    have f1 := frozen_of_row w6 (w.heap.size + 1) 1 _ _ Z6
    have f2 := frozen_of_row w6 (w.heap.size + 1) 2 _ _ Z6
    have f3 := frozen_of_row w6 (w.heap.size + 1) 3 _ _ Z6
    have f4 := frozen_of_row w6 (w.heap.size + 1) 4 _ _ Z6
    go_wp2_with fail
    refine (refUniform_any u _ _ _ HL6.out hcu.out).mono ?_
    rintro e w7 ⟨rfl, hb⟩
    rw [Hu.out]
    have B7 := B6.trans (hb.mono B6.size)
    have F7 := F6.later hb
    have HL7 := Lib.hid (HL6.out.later hb)
    have Z7 := (hb.block (w.heap.size + 1) (Array.getElem?_eq_some_iff.1 Z6).1).trans Z6
    clear hb a0 a1 a2 a3 a4 z0 z1 z2 z3 z4 f0 f1 f2 f3 f4 F6 Z6 HL6
    obtain ⟨a0, a1, a2, a3, a4⟩ := id F7
    have z0 := cell_row Z7 (i := 0) rfl
    have z1 := cell_row Z7 (i := 1) rfl
    have z2 := cell_row Z7 (i := 2) rfl
    have z3 := cell_row Z7 (i := 3) rfl
    have z4 := cell_row Z7 (i := 4) rfl
    have f0 := frozen_of_row w7 (w.heap.size + 1) 0 _ _ Z7
    have f1 := frozen_of_row w7 (w.heap.size + 1) 1 _ _ Z7
    have f2 := frozen_of_row w7 (w.heap.size + 1) 2 _ _ Z7
    have f3 := frozen_of_row w7 (w.heap.size + 1) 3 _ _ Z7
    have f4 := frozen_of_row w7 (w.heap.size + 1) 4 _ _ Z7
    go_wp2_with fail
    refine (fitting_any sl SA scap hsl u _ _ _ HL7.out (HS.out.later B7) (HA.out.later B7) hct.out).mono ?_
    rintro e w8 ⟨rfl, hb⟩
    rw [Hf.out]
    have B8 := B7.trans (hb.mono B7.size)
    have F8 := F7.later hb
    have HL8 := Lib.hid (HL7.out.later hb)
    have Z8 := (hb.block (w.heap.size + 1) (Array.getElem?_eq_some_iff.1 Z7).1).trans Z7
    clear hb a0 a1 a2 a3 a4 z0 z1 z2 z3 z4 f0 f1 f2 f3 f4 F7 Z7 HL7
    obtain ⟨a0, a1, a2, a3, a4⟩ := id F8
    have z0 := cell_row Z8 (i := 0) rfl
    have z1 := cell_row Z8 (i := 1) rfl
    have z2 := cell_row Z8 (i := 2) rfl
    have z3 := cell_row Z8 (i := 3) rfl
    have z4 := cell_row Z8 (i := 4) rfl
    have f0 := frozen_of_row w8 (w.heap.size + 1) 0 _ _ Z8
    have f1 := frozen_of_row w8 (w.heap.size + 1) 1 _ _ Z8
    have f2 := frozen_of_row w8 (w.heap.size + 1) 2 _ _ Z8
    have f3 := frozen_of_row w8 (w.heap.size + 1) 3 _ _ Z8
    have f4 := frozen_of_row w8 (w.heap.size + 1) 4 _ _ Z8
    have Hfin := Lib.hid (set5_same (.int .i64 0) (.int .i64 0) (.string ⟨#[]⟩) (.int .i64 0) (.slice none 0 0) Z8)
    have HBf := Lib.hid (Below.set5 B8 (b := w.heap.size + 1) (by omega) (.int .i64 0) (.int .i64 0) (.string ⟨#[]⟩) (.int .i64 0) (.slice none 0 0))
    clear Z8
    go_wp2_with fail
    have hf := Hfin.out
    have y0 := cell_row hf (i := 0) rfl
    have y1 := cell_row hf (i := 1) rfl
    have y2 := cell_row hf (i := 2) rfl
    have y3 := cell_row hf (i := 3) rfl
    have y4 := cell_row hf (i := 4) rfl
    refine bodyPost_ret (v := .tuple #[.agg zero5, .int .i64 3]) ?_ rfl ⟨none, 0, rfl, lies_zero _, fine_zero, HBf.out⟩
    clear hf Hfin HBf
    simp [results, Try.f43, go_sem, y0, y1, y2, y3, y4]
  have Hf := Lib.hid hf
  clear hf
  rw [if_neg (by simp)]
  go_enter Try.func43, Try.ntmps43
  have B0 := HB0.out
  have F0 := HF0.out
  have Z0 := HZ0.out
  obtain ⟨a0, a1, a2, a3, a4⟩ := id F0
  have z0 := cell_row Z0 (i := 0) rfl
  have z1 := cell_row Z0 (i := 1) rfl
  have z2 := cell_row Z0 (i := 2) rfl
  have z3 := cell_row Z0 (i := 3) rfl
  have z4 := cell_row Z0 (i := 4) rfl
  have f0 := frozen_of_row _ (w.heap.size + 1) 0 _ _ Z0
  have f1 := frozen_of_row _ (w.heap.size + 1) 1 _ _ Z0
  have f2 := frozen_of_row _ (w.heap.size + 1) 2 _ _ Z0
  have f3 := frozen_of_row _ (w.heap.size + 1) 3 _ _ Z0
  have f4 := frozen_of_row _ (w.heap.size + 1) 4 _ _ Z0
  go_wp2_with fail
  refine (refSize_any t _ _ _ (HL.out.later B0)).mono ?_
  rintro e w1 ⟨rfl, hb⟩
  have B1 := B0.trans (hb.mono B0.size)
  have F1 := F0.later hb
  have Z1 := (hb.block (w.heap.size + 1) (Array.getElem?_eq_some_iff.1 Z0).1).trans Z0
  clear hb a0 a1 a2 a3 a4 z0 z1 z2 z3 z4 f0 f1 f2 f3 f4 F0 Z0
  obtain ⟨a0, a1, a2, a3, a4⟩ := id F1
  have z0 := cell_row Z1 (i := 0) rfl
  have z1 := cell_row Z1 (i := 1) rfl
  have z2 := cell_row Z1 (i := 2) rfl
  have z3 := cell_row Z1 (i := 3) rfl
  have z4 := cell_row Z1 (i := 4) rfl
  have f0 := frozen_of_row w1 (w.heap.size + 1) 0 _ _ Z1
  have f1 := frozen_of_row w1 (w.heap.size + 1) 1 _ _ Z1
  have f2 := frozen_of_row w1 (w.heap.size + 1) 2 _ _ Z1
  have f3 := frozen_of_row w1 (w.heap.size + 1) 3 _ _ Z1
  have f4 := frozen_of_row w1 (w.heap.size + 1) 4 _ _ Z1
  go_wp2_with fail
  refine (refLevels_any t _ _ _ (HL.out.later B1)).mono ?_
  rintro e w2 ⟨rfl, hb⟩
  have B2 := B1.trans (hb.mono B1.size)
  have F2 := F1.later hb
  have Z2 := (hb.block (w.heap.size + 1) (Array.getElem?_eq_some_iff.1 Z1).1).trans Z1
  clear hb a0 a1 a2 a3 a4 z0 z1 z2 z3 z4 f0 f1 f2 f3 f4 F1 Z1
  obtain ⟨a0, a1, a2, a3, a4⟩ := id F2
  have z0 := cell_row Z2 (i := 0) rfl
  have z1 := cell_row Z2 (i := 1) rfl
  have z2 := cell_row Z2 (i := 2) rfl
  have z3 := cell_row Z2 (i := 3) rfl
  have z4 := cell_row Z2 (i := 4) rfl
  have f0 := frozen_of_row w2 (w.heap.size + 1) 0 _ _ Z2
  have f1 := frozen_of_row w2 (w.heap.size + 1) 1 _ _ Z2
  have f2 := frozen_of_row w2 (w.heap.size + 1) 2 _ _ Z2
  have f3 := frozen_of_row w2 (w.heap.size + 1) 3 _ _ Z2
  have f4 := frozen_of_row w2 (w.heap.size + 1) 4 _ _ Z2
  go_wp2_with fail
  refine (unnamed_any dl sl DA SA dcap scap hdl hsl t _ _ _ (HL.out.later B2) (HD.out.later B2) (HS.out.later B2)).mono ?_
  rintro e w3 ⟨rfl, hb⟩
  rw [Hun.out]
  have B3 := B2.trans (hb.mono B2.size)
  have F3 := F2.later hb
  have Z3 := (hb.block (w.heap.size + 1) (Array.getElem?_eq_some_iff.1 Z2).1).trans Z2
  clear hb a0 a1 a2 a3 a4 z0 z1 z2 z3 z4 f0 f1 f2 f3 f4 F2 Z2
  obtain ⟨a0, a1, a2, a3, a4⟩ := id F3
  have z0 := cell_row Z3 (i := 0) rfl
  have z1 := cell_row Z3 (i := 1) rfl
  have z2 := cell_row Z3 (i := 2) rfl
  have z3 := cell_row Z3 (i := 3) rfl
  have z4 := cell_row Z3 (i := 4) rfl
  have f0 := frozen_of_row w3 (w.heap.size + 1) 0 _ _ Z3
  have f1 := frozen_of_row w3 (w.heap.size + 1) 1 _ _ Z3
  have f2 := frozen_of_row w3 (w.heap.size + 1) 2 _ _ Z3
  have f3 := frozen_of_row w3 (w.heap.size + 1) 3 _ _ Z3
  have f4 := frozen_of_row w3 (w.heap.size + 1) 4 _ _ Z3
  go_wp2_with fail
  refine (miscounted_any sl SA scap hsl t _ _ _ (HL.out.later B3) (HS.out.later B3)).mono ?_
  rintro e w4 ⟨rfl, hb⟩
  rw [Hmi.out]
  have B4 := B3.trans (hb.mono B3.size)
  have F4 := F3.later hb
  have Z4 := (hb.block (w.heap.size + 1) (Array.getElem?_eq_some_iff.1 Z3).1).trans Z3
  clear hb a0 a1 a2 a3 a4 z0 z1 z2 z3 z4 f0 f1 f2 f3 f4 F3 Z3
  obtain ⟨a0, a1, a2, a3, a4⟩ := id F4
  have z0 := cell_row Z4 (i := 0) rfl
  have z1 := cell_row Z4 (i := 1) rfl
  have z2 := cell_row Z4 (i := 2) rfl
  have z3 := cell_row Z4 (i := 3) rfl
  have z4 := cell_row Z4 (i := 4) rfl
  have f0 := frozen_of_row w4 (w.heap.size + 1) 0 _ _ Z4
  have f1 := frozen_of_row w4 (w.heap.size + 1) 1 _ _ Z4
  have f2 := frozen_of_row w4 (w.heap.size + 1) 2 _ _ Z4
  have f3 := frozen_of_row w4 (w.heap.size + 1) 3 _ _ Z4
  have f4 := frozen_of_row w4 (w.heap.size + 1) 4 _ _ Z4
  go_wp2_with fail
  refine (resolved_any dl sl hdw hsw DA SA dcap scap hdl hsl t _ _ _ (HL.out.later B4) HFi.out (short_cnt hcnt) (HD.out.later B4) (HS.out.later B4)).mono ?_
  rintro e w5 ⟨A5, c5, rfl, hrob, hFu, hb⟩
  have B5' := B4.trans (hb.mono B4.size)
  have Z5' := (hb.block (w.heap.size + 1) (Array.getElem?_eq_some_iff.1 Z4).1).trans Z4
  have HL5 := Lib.hid hrob.lies
  have HR5 := Lib.hid hrob
  have h4lt : w.heap.size + 1 < w4.heap.size := (Array.getElem?_eq_some_iff.1 Z4).1
  clear hb hrob a0 a1 a2 a3 a4 z0 z1 z2 z3 z4 f0 f1 f2 f3 f4 F4 Z4
  generalize resG true dl sl t = u at *
  have B5 := B5'.alloc B5'.size (.cells #[.int .i64 u.op, .int .i64 u.so, .string u.nm, .int .i64 u.nu, .slice A5 u.ks.length c5] 24)
  have hal := (Below.refl w5.heap.size w5).alloc (Nat.le_refl _) (.cells #[.int .i64 u.op, .int .i64 u.so, .string u.nm, .int .i64 u.nu, .slice A5 u.ks.length c5] 24)
  have Z5 := (hal.block (w.heap.size + 1) (Array.getElem?_eq_some_iff.1 Z5').1).trans Z5'
  have F5 := five_new w5 u (.slice A5 u.ks.length c5) 24
  have HL5 := Lib.hid (HL5.out.later hal)
  have HR5 := Lib.hid (HR5.out.later hal)
  have hzlt : w.heap.size + 1 < w5.heap.size := (Array.getElem?_eq_some_iff.1 Z5').1
  clear hal B5' Z5'
  go_wp2_with fail
  refine (refSorted_any u _ _ _ HL5.out).mono ?_
  rintro e w6 ⟨rfl, hb⟩
  rw [Hso.out]
  have B6 := B5.trans (hb.mono B5.size)
  have F6 := F5.later hb
  have HL6 := Lib.hid (HL5.out.later hb)
  have Z6 := (hb.block (w.heap.size + 1) (Array.getElem?_eq_some_iff.1 Z5).1).trans Z5
  have HR6 := Lib.hid (HR5.out.later hb)
  clear HR5 hb F5 Z5 HL5
  obtain ⟨a0, a1, a2, a3, a4⟩ := id F6
  have z0 := cell_row Z6 (i := 0) rfl
  have z1 := cell_row Z6 (i := 1) rfl
  have z2 := cell_row Z6 (i := 2) rfl
  have z3 := cell_row Z6 (i := 3) rfl
  have z4 := cell_row Z6 (i := 4) rfl
  have f0 := frozen_of_row w6 (w.heap.size + 1) 0 _ _ Z6
  have f1 := frozen_of_row w6 (w.heap.size + 1) 1 _ _ Z6
  have f2 := frozen_of_row w6 (w.heap.size + 1) 2 _ _ Z6
  have f3 := frozen_of_row w6 (w.heap.size + 1) 3 _ _ Z6
  have f4 := frozen_of_row w6 (w.heap.size + 1) 4 _ _ Z6
  go_wp2_with fail
  refine (refUniform_any u _ _ _ HL6.out hcu.out).mono ?_
  rintro e w7 ⟨rfl, hb⟩
  rw [Hu.out]
  have B7 := B6.trans (hb.mono B6.size)
  have F7 := F6.later hb
  have HL7 := Lib.hid (HL6.out.later hb)
  have Z7 := (hb.block (w.heap.size + 1) (Array.getElem?_eq_some_iff.1 Z6).1).trans Z6
  have HR7 := Lib.hid (HR6.out.later hb)
  clear HR6 hb a0 a1 a2 a3 a4 z0 z1 z2 z3 z4 f0 f1 f2 f3 f4 F6 Z6 HL6
  obtain ⟨a0, a1, a2, a3, a4⟩ := id F7
  have z0 := cell_row Z7 (i := 0) rfl
  have z1 := cell_row Z7 (i := 1) rfl
  have z2 := cell_row Z7 (i := 2) rfl
  have z3 := cell_row Z7 (i := 3) rfl
  have z4 := cell_row Z7 (i := 4) rfl
  have f0 := frozen_of_row w7 (w.heap.size + 1) 0 _ _ Z7
  have f1 := frozen_of_row w7 (w.heap.size + 1) 1 _ _ Z7
  have f2 := frozen_of_row w7 (w.heap.size + 1) 2 _ _ Z7
  have f3 := frozen_of_row w7 (w.heap.size + 1) 3 _ _ Z7
  have f4 := frozen_of_row w7 (w.heap.size + 1) 4 _ _ Z7
  go_wp2_with fail
  refine (fitting_any sl SA scap hsl u _ _ _ HL7.out (HS.out.later B7) (HA.out.later B7) hct.out).mono ?_
  rintro e w8 ⟨rfl, hb⟩
  rw [Hf.out]
  have B8 := B7.trans (hb.mono B7.size)
  have F8 := F7.later hb
  have HL8 := Lib.hid (HL7.out.later hb)
  have Z8 := (hb.block (w.heap.size + 1) (Array.getElem?_eq_some_iff.1 Z7).1).trans Z7
  have HROB := Lib.hid (HR7.out.later hb)
  clear HR7 hb a0 a1 a2 a3 a4 z0 z1 z2 z3 z4 f0 f1 f2 f3 f4 F7 Z7 HL7
  obtain ⟨a0, a1, a2, a3, a4⟩ := id F8
  have z0 := cell_row Z8 (i := 0) rfl
  have z1 := cell_row Z8 (i := 1) rfl
  have z2 := cell_row Z8 (i := 2) rfl
  have z3 := cell_row Z8 (i := 3) rfl
  have z4 := cell_row Z8 (i := 4) rfl
  have f0 := frozen_of_row w8 (w.heap.size + 1) 0 _ _ Z8
  have f1 := frozen_of_row w8 (w.heap.size + 1) 1 _ _ Z8
  have f2 := frozen_of_row w8 (w.heap.size + 1) 2 _ _ Z8
  have f3 := frozen_of_row w8 (w.heap.size + 1) 3 _ _ Z8
  have f4 := frozen_of_row w8 (w.heap.size + 1) 4 _ _ Z8
  have hfin := set5_same (.int .i64 u.op) (.int .i64 u.so) (.string u.nm) (.int .i64 u.nu) (.slice A5 u.ks.length c5) Z8
  have Hfin := Lib.hid hfin
  have HBf := Lib.hid (Below.set5 B8 (b := w.heap.size + 1) (by omega) (.int .i64 u.op) (.int .i64 u.so) (.string u.nm) (.int .i64 u.nu) (.slice A5 u.ks.length c5))
  have HLf := Lib.hid (HROB.out.set5 (b := w.heap.size + 1) (n1 := w.heap.size) (by omega) (by omega) (.int .i64 u.op) (.int .i64 u.so) (.string u.nm) (.int .i64 u.nu) (.slice A5 u.ks.length c5)).lies
  clear hfin Z8
  go_wp2_with fail
  have hf := Hfin.out
  have y0 := cell_row hf (i := 0) rfl
  have y1 := cell_row hf (i := 1) rfl
  have y2 := cell_row hf (i := 2) rfl
  have y3 := cell_row hf (i := 3) rfl
  have y4 := cell_row hf (i := 4) rfl
  refine bodyPost_ret (v := .tuple #[nv u.op u.so u.nm u.nu (.slice A5 u.ks.length c5), .int .i64 0]) ?_ rfl ⟨A5, c5, rfl, HLf.out, hFu, HBf.out⟩
  clear hf Hfin HBf HLf
  simp [results, Try.f43, go_sem, y0, y1, y2, y3, y4]
end Go.Proofs.Ytpjokapkoeclpaa
