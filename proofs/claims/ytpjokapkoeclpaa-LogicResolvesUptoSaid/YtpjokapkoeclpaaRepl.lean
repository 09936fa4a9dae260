/-
  What package logic's SubstAll and Subst return; conditions: the trees lie in memory and none of their lists is too long to be made.
-/
import Derived.Test.YtpjokapkoeclpaaStand
namespace Go.Proofs.Ytpjokapkoeclpaa
open Go.RowKit Go.Shelf Go.WideMaps

attribute [local go_sem] Oper.semAt_some
set_option maxRecDepth 100000 in
set_option maxHeartbeats 4000000 in
theorem mapped_repl (P : Nat) (ks outs : List Nd) (A : Option Addr) (cap : Nat) (w : World) (hL : Lies w A cap ks) (hsh : ks.length ≤ 2199023255488) (a : Addr) (hA : A = some a) (ho : outs.length = ks.length)
    (HC : ∀ i (hi : i < ks.length) (A : Option Addr) (C : Nat) (W : World), Below w.heap.size w W → Lies W A C ks[i].ks → Calls Try.prog 101 #[nv ks[i].op ks[i].so ks[i].nm ks[i].nu (.slice A ks[i].ks.length C), .pointer (some ⟨P, 0, none⟩)] W (RetN W (outs[i]'(by omega)))) :
    Calls Try.prog 96 #[.slice A ks.length cap, .func (.func 101) #[] #[.pointer (some ⟨P, 0, none⟩)]] w (RetL w outs) := by
  subst hA
  have hnil : ∀ W, (binOp .eql 22 (.slice (some a) ks.length cap) (.slice none 0 0)).run Try.prog W = .ok (.bool false) W := fun W => Lib.run_eql_slice_nil (h := Try.underlying22) ..
  obtain ⟨i0, hi, hz0, hz1, hz2⟩ := info_parts info24
  have I0 := Lib.hid hi
  have Z0 := Lib.hid hz0
  have Z1 := Lib.hid hz1
  have Z2 := Lib.hid hz2
  clear hi hz0 hz1 hz2
  have hn := hL.len
  unfold maxLen at hn
  have HL := Lib.hid hL
  have HCC := Lib.hid HC
  clear hL HC
  go_enter Try.func96, Try.ntmps96
  have BY : Hid (i0.bytes * ks.length ≤ 281474976710656) := by show _ ≤ _; rw [Z2.out]; omega
  have ML : Hid (ks.length ≤ maxLen) := by show _ ≤ _; unfold maxLen; omega
  go_wp2_with (at_make; refine wpList_make_full _ rfl _ _ 22 rfl w.heap.size 24 i0 _ 5 Try.underlying22 I0.out Z0.out Z1.out .i64 .i64 _ _ ks.length rfl rfl rfl rfl BY.out ML.out (Nat.le_refl _) ?_; intro w1 hown1 hgrow1)
  have M0 : MInv w w.heap.size ks.length [] w1 := by
    rcases hown1.2 with ⟨h, _⟩ | ⟨g, cap', cur, hv, h1, h2, h3, h4, h5, h6⟩
    · cases h
    · cases hv
      exact ⟨cur, [], rfl, h2, h5, by simp [flatN], fun _ h => by simp at h, fun _ h => by simp at h, (Below.refl _ _).grown hgrow1 (Nat.le_refl _) (fun k e => by cases e)⟩
  clear hown1 hgrow1
  go_loopw [15] (fun i wr => ∃ k : Nat, k ≤ ks.length ∧ i = .int .i64 k ∧ Hid (MInv w w.heap.size ks.length (outs.take k) wr)) (fun i _ => ks.length - (intOf i).toNat)
  case atStart => exact ⟨0, Nat.zero_le _, rfl, M0⟩
  case round =>
    obtain ⟨k, hk, rfl, cur, xs, hM⟩ := hrel
    have HM := Lib.hid hM
    have hBr := hM.below
    have hgz := (Array.getElem?_eq_some_iff.1 hM.row).1
    by_cases hlt : k < ks.length
    · obtain ⟨b', o', A', C', hA', g5, hK⟩ := HL.out.kid hlt
      cases hA'
      have hFk := HL.out.fine hlt
      obtain ⟨a0, a1, a2, a3, a4⟩ := g5.later hBr
      have hK' := Lib.hid (hK.later hBr)
      have hsz := hBr.size
      have hlen : xs.length = k := by
        have := congrArg List.length hM.outs
        simp only [List.length_map, List.length_take] at this
        omega
      have c := Lib.hid (HCC.out k hlt A' C')
      have hok : k < outs.length := by omega
      have htk := Lib.hid (show outs.take (k + 1) = outs.take k ++ [outs[k]] from List.take_succ_eq_append_getElem hok)
      clear hM
      generalize outs[k] = u at *
      generalize ks[k] = q at *
      clear g5 hK HL HCC
      go_wp2_with fail
      refine (c.out _ (hBr.alloc hsz _) (hK'.out.later ((Below.refl _ _).alloc (Nat.le_refl _) _))).mono ?_
      rintro e w2 ⟨A2, C2, rfl, hrob, hFu, hb2⟩
      have hb3 : Below wr.heap.size wr w2 := ((Below.refl _ _).alloc (Nat.le_refl _) _).trans (hb2.mono (by simp))
      have HM2 := Lib.hid (HM.out.later hb3)
      have HR := Lib.hid (show Rob w.heap.size w2 (some w.heap.size) A2 C2 u.ks from hrob.newNone (fun g hg => by cases hg; simp; omega) (by simp; omega))
      have hcs := HM2.out.size
      have hrow := HM2.out.row
      obtain ⟨y0, hy0⟩ : ∃ y, cur[k * 5]? = some y := ⟨_, Array.getElem?_eq_getElem (by omega)⟩
      obtain ⟨y1, hy1⟩ : ∃ y, cur[k * 5 + 1]? = some y := ⟨_, Array.getElem?_eq_getElem (by omega)⟩
      obtain ⟨y2, hy2⟩ : ∃ y, cur[k * 5 + 2]? = some y := ⟨_, Array.getElem?_eq_getElem (by omega)⟩
      obtain ⟨y3, hy3⟩ : ∃ y, cur[k * 5 + 3]? = some y := ⟨_, Array.getElem?_eq_getElem (by omega)⟩
      obtain ⟨y4, hy4⟩ : ∃ y, cur[k * 5 + 4]? = some y := ⟨_, Array.getElem?_eq_getElem (by omega)⟩
      have z0 := cell_row hrow hy0
      have z1 := cell_row hrow hy1
      have z2 := cell_row hrow hy2
      have z3 := cell_row hrow hy3
      have z4 := cell_row hrow hy4
      have f0 := frozen_of_row w2 w.heap.size (k * 5) _ _ hrow
      have f1 := frozen_of_row w2 w.heap.size (k * 5 + 1) _ _ hrow
      have f2 := frozen_of_row w2 w.heap.size (k * 5 + 2) _ _ hrow
      have f3 := frozen_of_row w2 w.heap.size (k * 5 + 3) _ _ hrow
      have f4 := frozen_of_row w2 w.heap.size (k * 5 + 4) _ _ hrow
      have HST := Lib.hid (HM2.out.step (x := (u, A2, C2)) (Nat.le_refl _) (by omega) HR.out hFu)
      clear hrow hy0 hy1 hy2 hy3 hy4 hb2 hb3 hrob hcs a0 a1 a2 a3 a4
      go_wp2_with fail
      go_roundw
      case rel => exact ⟨k + 1, by omega, by go_num, by rw [htk.out]; have := HST.out; rw [hlen] at this; exact this⟩
      case measure => simp [intOf]; omega
    · have hlen : xs.length = k := by
        have := congrArg List.length hM.outs
        simp only [List.length_map, List.length_take] at this
        omega
      have hrob := hM.rob (Nat.le_refl _) (by omega) ML.out
      rw [List.take_of_length_le (by omega)] at hrob
      have HR := Lib.hid hrob
      clear hrob hM
      go_wp2_with fail
      go_ret
      exact ⟨_, _, by rw [ho]; rfl, HR.out, hBr⟩


set_option maxRecDepth 100000 in
set_option maxHeartbeats 4000000 in
theorem repl1_any (m P : Nat) (t u : Nd) (A : Option Addr) (cap : Nat) (w : World) (hP : w.cell? ⟨P, 0, none⟩ = some (.map (some m)))
    (HC : ∀ W, Below w.heap.size w W → Calls Try.prog 70 #[nv t.op t.so t.nm t.nu (.slice A t.ks.length cap), .map (some m)] W (RetN W u)) :
    Calls Try.prog 101 #[nv t.op t.so t.nm t.nu (.slice A t.ks.length cap), .pointer (some ⟨P, 0, none⟩)] w (RetN w u) := by
  have B2 := Lib.hid (show Below w.heap.size w ((w.alloc (.cells #[.int .i64 t.op, .int .i64 t.so, .string t.nm, .int .i64 t.nu, .slice A t.ks.length cap] 24)).alloc (.cells zero5 24)) from ((Below.refl _ _).alloc (Nat.le_refl _) _).alloc (by simp) _)
  have Z1b := Lib.hid (show ((w.alloc (.cells #[.int .i64 t.op, .int .i64 t.so, .string t.nm, .int .i64 t.nu, .slice A t.ks.length cap] 24)).alloc (.cells zero5 24)).heap[w.heap.size + 1]? = some (.cells zero5 24 (0, 0)) from by have := heap_alloc_new (w.alloc (.cells #[.int .i64 t.op, .int .i64 t.so, .string t.nm, .int .i64 t.nu, .slice A t.ks.length cap] 24)) (.cells zero5 24); rwa [World.size_alloc] at this)
  have S2 := Lib.hid (show ((w.alloc (.cells #[.int .i64 t.op, .int .i64 t.so, .string t.nm, .int .i64 t.nu, .slice A t.ks.length cap] 24)).alloc (.cells zero5 24)).heap.size = w.heap.size + 1 + 1 by simp)
  have p0 := cellB B2.out (Nat.le_refl _) hP
  have HCC := Lib.hid HC
  clear HC hP
  go_enter Try.func101, Try.ntmps101
  go_wp2_with fail
  refine (HCC.out _ B2.out).mono ?_
  rintro e w1 ⟨A1, c1, rfl, hr, hFu, hb⟩
  have hs2 := S2.out
  have hz := (hb.block (w.heap.size + 1) (by omega)).trans Z1b.out
  have z0 := cell_row hz (i := 0) rfl
  have z1 := cell_row hz (i := 1) rfl
  have z2 := cell_row hz (i := 2) rfl
  have z3 := cell_row hz (i := 3) rfl
  have z4 := cell_row hz (i := 4) rfl
  have f0 := frozen_of_row w1 (w.heap.size + 1) 0 _ _ hz
  have f1 := frozen_of_row w1 (w.heap.size + 1) 1 _ _ hz
  have f2 := frozen_of_row w1 (w.heap.size + 1) 2 _ _ hz
  have f3 := frozen_of_row w1 (w.heap.size + 1) 3 _ _ hz
  have f4 := frozen_of_row w1 (w.heap.size + 1) 4 _ _ hz
  have Hfin := Lib.hid (set5_same (.int .i64 u.op) (.int .i64 u.so) (.string u.nm) (.int .i64 u.nu) (.slice A1 u.ks.length c1) hz)
  have HR := Lib.hid (hr.set5 (b := w.heap.size + 1) (n1 := w.heap.size) (by omega) (by omega) (.int .i64 u.op) (.int .i64 u.so) (.string u.nm) (.int .i64 u.nu) (.slice A1 u.ks.length c1))
  have HB := Lib.hid (Below.set5 (B2.out.trans (hb.mono (by omega))) (b := w.heap.size + 1) (by omega) (.int .i64 u.op) (.int .i64 u.so) (.string u.nm) (.int .i64 u.nu) (.slice A1 u.ks.length c1))
  clear hr hb hz p0
  go_wp2_with fail
  have hf := Hfin.out
  have y0 := cell_row hf (i := 0) rfl
  have y1 := cell_row hf (i := 1) rfl
  have y2 := cell_row hf (i := 2) rfl
  have y3 := cell_row hf (i := 3) rfl
  have y4 := cell_row hf (i := 4) rfl
  refine bodyPost_ret (v := nv u.op u.so u.nm u.nu (.slice A1 u.ks.length c1)) ?_ rfl ⟨A1, c1, rfl, HR.out, hFu, HB.out⟩
  clear hf Hfin HR HB
  simp [results, Try.f101, go_sem, y0, y1, y2, y3, y4]
end Go.Proofs.Ytpjokapkoeclpaa
