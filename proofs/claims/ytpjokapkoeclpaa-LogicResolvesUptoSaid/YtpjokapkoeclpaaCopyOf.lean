/-
  What package logic's copyOf returns: the same tree in new memory; conditions: the tree lies in memory and none of its lists is too long to be made.
-/
import Derived.Test.YtpjokapkoeclpaaCopy
namespace Go.Proofs.Ytpjokapkoeclpaa
open Go.RowKit Go.Shelf

attribute [local go_sem] Oper.semAt_some
theorem Rob.set1 {n0 : Nat} {w : World} {A : Option Addr} {cap : Nat} {ks : List Nd} (h : Rob n0 w none A cap ks) {p : Addr} (hp : p.block < n0) (u : Value) : Rob n0 (w.setCell p u) none A cap ks :=
  fun W hW => h W fun k h1 h2 h3 => (hW k h1 (by simpa [World.setCell] using h2) h3).trans (heap_setCell_other w p k u (by omega))

set_option maxRecDepth 100000 in
set_option maxHeartbeats 4000000 in
theorem copyOf_any (t : Nd) : ∀ (A : Option Addr) (cap : Nat) (w : World), Lies w A cap t.ks → Fine t → Short t →
    Calls Try.prog 56 #[nv t.op t.so t.nm t.nu (.slice A t.ks.length cap)] w (RetN w t) := by
  induction t using Nd.ind with
  | h t ih =>
  intro A cap w hL hfine hsh
  have B2 := Lib.hid (show Below w.heap.size w ((w.alloc (.cells #[.int .i64 t.op, .int .i64 t.so, .string t.nm, .int .i64 t.nu, .slice A t.ks.length cap] 24)).alloc (.cells zero5 24)) from ((Below.refl _ _).alloc (Nat.le_refl _) _).alloc (by simp) _)
  have Z1b := Lib.hid (show ((w.alloc (.cells #[.int .i64 t.op, .int .i64 t.so, .string t.nm, .int .i64 t.nu, .slice A t.ks.length cap] 24)).alloc (.cells zero5 24)).heap[w.heap.size + 1]? = some (.cells zero5 24 (0, 0)) from by have := heap_alloc_new (w.alloc (.cells #[.int .i64 t.op, .int .i64 t.so, .string t.nm, .int .i64 t.nu, .slice A t.ks.length cap] 24)) (.cells zero5 24); rwa [World.size_alloc] at this)
  have N1b := Lib.hid (show ((w.alloc (.cells #[.int .i64 t.op, .int .i64 t.so, .string t.nm, .int .i64 t.nu, .slice A t.ks.length cap] 24)).alloc (.cells zero5 24)).heap[w.heap.size]? = some (.cells #[.int .i64 t.op, .int .i64 t.so, .string t.nm, .int .i64 t.nu, .slice A t.ks.length cap] 24 (0, 0)) from (((Below.refl _ _).alloc (Nat.le_refl _) _).block _ (by simp)).trans (heap_alloc_new w _))
  have S2 := Lib.hid (show ((w.alloc (.cells #[.int .i64 t.op, .int .i64 t.so, .string t.nm, .int .i64 t.nu, .slice A t.ks.length cap] 24)).alloc (.cells zero5 24)).heap.size = w.heap.size + 1 + 1 by simp)
  have HL := Lib.hid (hL.later B2.out)
  have hc := fun (W : World) (h1 : Lies W A cap t.ks) => copies_any t.ks A cap W h1 hsh.self (fun i hi A' C' W' hb hl => ih i hi A' C' W' hl (hL.fine hi) (hsh.kid hi))
  have HC := Lib.hid hc
  have HF := Lib.hid hfine
  clear hc ih hL hsh hfine
  go_enter Try.func56, Try.ntmps56
  go_wp2_with fail
  refine (HC.out _ HL.out).mono ?_
  rintro e w1 ⟨A1, c1, rfl, hr, hb⟩
  have hs2 := S2.out
  have hn := (hb.block w.heap.size (by omega)).trans N1b.out
  have hz := (hb.block (w.heap.size + 1) (by omega)).trans Z1b.out
  have n0 := cell_row hn (i := 0) rfl
  have n1 := cell_row hn (i := 1) rfl
  have n2 := cell_row hn (i := 2) rfl
  have n3 := cell_row hn (i := 3) rfl
  have n4 := cell_row hn (i := 4) rfl
  have g4 := frozen_of_row w1 w.heap.size 4 _ _ hn
  have z0 := cell_row hz (i := 0) rfl
  have z1 := cell_row hz (i := 1) rfl
  have z2 := cell_row hz (i := 2) rfl
  have z3 := cell_row hz (i := 3) rfl
  have z4 := cell_row hz (i := 4) rfl
  have f0 := frozen_of_row w1 (w.heap.size + 1) 0 _ _ hz
  have f1 := frozen_of_row w1 (w.heap.size + 1) 1 _ _ hz
  have f2 := frozen_of_row w1 (w.heap.size + 1) 2 _ _ hz
  have f3 := frozen_of_row w1 (w.heap.size + 1) 3 _ _ hz
  have f4 := frozen_of_row w1 (w.heap.size + 1) 4 _ _ hz
  have hz' := (heap_setCell_other w1 ⟨w.heap.size, 4, none⟩ (w.heap.size + 1) (.slice A1 t.ks.length c1) (by simp)).trans hz
  have Hfin := Lib.hid (set5_same (.int .i64 t.op) (.int .i64 t.so) (.string t.nm) (.int .i64 t.nu) (.slice A1 t.ks.length c1) hz')
  have HR := Lib.hid ((hr.set1 (p := ⟨w.heap.size, 4, none⟩) (by simp; omega) (.slice A1 t.ks.length c1)).set5 (b := w.heap.size + 1) (n1 := w.heap.size) (by omega) (by omega) (.int .i64 t.op) (.int .i64 t.so) (.string t.nm) (.int .i64 t.nu) (.slice A1 t.ks.length c1))
  have HB := Lib.hid (Below.set5 ((B2.out.trans (hb.mono (by omega))).setCell (p := ⟨w.heap.size, 4, none⟩) (by simp) (.slice A1 t.ks.length c1)) (b := w.heap.size + 1) (by omega) (.int .i64 t.op) (.int .i64 t.so) (.string t.nm) (.int .i64 t.nu) (.slice A1 t.ks.length c1))
  clear hr hb hn hz hz'
  go_wp2_with fail
  have hf := Hfin.out
  have y0 := cell_row hf (i := 0) rfl
  have y1 := cell_row hf (i := 1) rfl
  have y2 := cell_row hf (i := 2) rfl
  have y3 := cell_row hf (i := 3) rfl
  have y4 := cell_row hf (i := 4) rfl
  refine bodyPost_ret (v := nv t.op t.so t.nm t.nu (.slice A1 t.ks.length c1)) ?_ rfl ⟨A1, c1, rfl, HR.out, HF.out, HB.out⟩
  clear hf Hfin HR HB
  simp [results, Try.f56, go_sem, y0, y1, y2, y3, y4]
end Go.Proofs.Ytpjokapkoeclpaa
