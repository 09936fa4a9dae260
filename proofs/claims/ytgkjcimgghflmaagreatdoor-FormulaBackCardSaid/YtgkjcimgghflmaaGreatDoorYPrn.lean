/-
  What Print and the document's own Print return: the same; conditions: the tree lies in memory and has few nodes, and the package's tables lie there as the program's text lays them.
-/
import Derived.Test.YtgkjcimgghflmaaGreatDoorYWr0
import Derived.Test.YtgkjcimgghflmaaGreatDoorYCheck
namespace Go.Proofs.YtgkjcimgghflmaaGreatDoor
open Go.RowKit Go.Shelf Go.Sort
attribute [local go_sem] Oper.semAt_some
set_option maxRecDepth 100000 in
set_option maxHeartbeats 4000000 in
theorem wr_rest (w0 : World) (hT : Tabs w0) (t : Nd) (hK : ∀ i (hi : i < t.ks.length), WriteOk w0 t.ks[i]) (o1 : (t.op == 1) = false) (o2 : (t.op == 2) = false) (o3 : (t.op == 3) = false) (o32 : (t.op == 32) = false) (o6 : (t.op == 6) = false) (o7 : (t.op == 7) = false)
    (h : (sgn t.op ≠ [] ∧ t.ks.length = 2) ∨ (t.op = 30 ∨ t.op = 31 ∨ t.op = 9 ∨ (restOp t.op ∧ t.op ≠ 3))) : WriteOk w0 t := by
  intro A cap b l w hL hS hlen
  obtain ⟨W, hW⟩ : ∃ W, w.alloc (.cells #[.int .i64 t.op, .int .i64 t.so, .string t.nm, .int .i64 t.nu, .slice A t.ks.length cap] 27) = W := ⟨_, rfl⟩
  have X := five_new w t (.slice A t.ks.length cap) 27
  have hS1 : St w0 b l W := by rw [← hW]; exact hS.alloc _
  have hK1 : Kept b w W := by rw [← hW]; exact Kept.of ((Below.refl _ _).alloc (Nat.le_refl _) _)
  rw [hW] at X
  obtain ⟨x0, x1, x2, x3, x4⟩ := X
  have HK := Lib.hid hK1
  have c : Calls Tryz.prog 61 #[.pointer (some ⟨b, 0, none⟩), nv t.op t.so t.nm t.nu (.slice A t.ks.length cap)] W fun e w' => e = .returned (.tuple #[]) ∧ Wrote w0 b (l ++ txt t) W w' := by
    rcases h with ⟨hs, h2⟩ | hw
    · exact kw_sign w0 hT t hK hs h2 A cap b l W hL hS1 hlen
    · exact kw_word w0 hT t hK hw A cap b l W hL hS1 hlen
  clear hS hK1 hS1 h hlen hK hL
  go_enter Tryz.func27, Tryz.ntmps27
  go_wp2_with fail
  refine c.mono ?_
  rintro e w1 ⟨rfl, h⟩
  have H := Lib.hid h
  clear h
  go_wp2_with fail
  go_end0
  exact ⟨rfl, H.out.1, HK.out.trans H.out.2⟩
theorem write_all (w0 : World) (hT : Tabs w0) (hP : PowTab w0) (t : Nd) : prB t = true → WriteOk w0 t := by
  induction t using Nd.ind with
  | h t ih =>
  intro hp
  obtain ⟨hf, hc⟩ := pr_frm hp
  have hK : ∀ i (hi : i < t.ks.length), WriteOk w0 t.ks[i] := fun i hi => ih i hi (pr_kid hp i hi)
  have num : ∀ {u : Nd}, fldOk u → (u.op = 2 ∨ u.op = 7) → -1000000000000 ≤ u.nu ∧ u.nu ≤ 1000000000000 := fun {u} hu h => by
    unfold fldOk at hu
    rw [if_neg (by omega), if_pos h] at hu
    exact hu.2.2
  by_cases h1 : t.op = 1
  · exact wr_var w0 t h1
  by_cases h2 : t.op = 2
  · exact wr_int w0 hP t h2 (num hf (.inl h2)).1 (num hf (.inl h2)).2
  by_cases h3 : t.op = 3
  · exact wr_app w0 t hK h3
  have one : t.op = 32 ∨ t.op = 6 ∨ t.op = 7 → t.ks.length = 1 := fun h => by unfold cntOk at hc; omega
  by_cases h32 : t.op = 32
  · exact wr_not w0 t hK h32 (one (.inl h32))
  by_cases h6 : t.op = 6
  · exact wr_neg w0 hP t hK (fun i hi e => num (pr_frm (pr_kid hp i hi)).1 (.inl e)) h6 (one (.inr (.inl h6)))
  by_cases h7 : t.op = 7
  · exact wr_scale w0 hP t hK (num hf (.inr h7)).1 (num hf (.inr h7)).2 h7 (one (.inr (.inr h7)))
  exact wr_rest w0 hT t hK (by simpa using h1) (by simpa using h2) (by simpa using h3) (by simpa using h32) (by simpa using h6) (by simpa using h7) (rest_or hc h1 h2 h3 h32 h6 h7)
theorem checkV_lim (t : Nd) : (checkV t 0 == 2) = !limB (preN 1 t) := by
  unfold checkV
  rw [if_neg (by omega)]
  cases limB (preN 1 t)
  · simp
  · rw [if_neg (by simp)]
    split
    · rfl
    · rw [if_neg (by simp)]; rfl
set_option maxRecDepth 100000 in
set_option maxHeartbeats 2000000 in
theorem large_any (t : Nd) (A : Option Addr) (cap : Nat) (w : World) (hL : Lies w A cap t.ks) (hf : Fine t) :
    Calls Tryz.prog 19 #[nv t.op t.so t.nm t.nu (.slice A t.ks.length cap)] w fun e w' => e = .returned (.bool (!limB (preN 1 t))) ∧ Below w.heap.size w w' := by
  obtain ⟨W, hW⟩ : ∃ W, w.alloc (.cells #[.int .i64 t.op, .int .i64 t.so, .string t.nm, .int .i64 t.nu, .slice A t.ks.length cap] 27) = W := ⟨_, rfl⟩
  have X := five_new w t (.slice A t.ks.length cap) 27
  have HB : Below w.heap.size w W := by rw [← hW]; exact (Below.refl _ _).alloc (Nat.le_refl _) _
  rw [hW] at X
  obtain ⟨x0, x1, x2, x3, x4⟩ := X
  have c := check_any t 0 A cap W (hL.later HB) hf
  have hv := Lib.hid (checkV_lim t)
  generalize checkV t 0 = v at *
  have HB := Lib.hid HB
  clear hL hf
  go_enter Tryz.func19, Tryz.ntmps19
  go_wp2_with fail
  refine c.mono ?_
  rintro e w1 ⟨rfl, b1⟩
  have B1 := Lib.hid b1
  clear b1
  go_wp2_with fail
  go_ret
  exact ⟨by rw [← hv.out]; rfl, HB.out.trans (B1.out.mono HB.out.size)⟩
/-- What Print hands back: a text and an error. -/
noncomputable def prtS (t : Nd) : List UInt8 := if limB (preN 1 t) = true then (if prB t = true then txt t else []) else []
noncomputable def prtE (t : Nd) : Int := if limB (preN 1 t) = true then (if prB t = true then 0 else 3) else 2
theorem lim_cnt {t : Nd} (h : limB (preN 1 t) = true) : cnt t ≤ 4000 := by
  unfold limB at h
  have := (of_decide_eq_true h).1
  rwa [pre_cnt] at this
set_option maxRecDepth 100000 in
set_option maxHeartbeats 8000000 in
theorem print_any (t : Nd) (A : Option Addr) (cap : Nat) (w : World) (hL : Lies w A cap t.ks) (hf : Fine t) (hT : Tabs w) (hP : PowTab w) :
    Calls Tryz.prog 13 #[nv t.op t.so t.nm t.nu (.slice A t.ks.length cap)] w fun e w' => e = .returned (.tuple #[.string (bs (prtS t)), .int .i64 (prtE t)]) ∧ Below w.heap.size w w' := by
  obtain ⟨W, hW⟩ : ∃ W, w.alloc (.cells #[.int .i64 t.op, .int .i64 t.so, .string t.nm, .int .i64 t.nu, .slice A t.ks.length cap] 27) = W := ⟨_, rfl⟩
  have X := five_new w t (.slice A t.ks.length cap) 27
  have HB : Below w.heap.size w W := by rw [← hW]; exact (Below.refl _ _).alloc (Nat.le_refl _) _
  rw [hW] at X
  have cl := Lib.hid (fun (W' : World) (h : Below W.heap.size W W') => large_any t A cap W' ((hL.later HB).later h) hf)
  have cp := Lib.hid (fun (W' : World) (h : Below W.heap.size W W') => pri_any t A cap W' ((hL.later HB).later h) ((hT.later HB).later h))
  have KX := Lib.hid (fun (W' : World) (h : Below W.heap.size W W') => X.later h)
  have HL := Lib.hid (hL.later HB)
  have HT := Lib.hid (hT.later HB)
  have HP := Lib.hid (hP.later HB)
  have HW := Lib.hid hW
  have HB := Lib.hid HB
  obtain ⟨x0, x1, x2, x3, x4⟩ := KX.out _ (Below.refl _ _)
  clear X hL hT hP hf hW
  cases hl : limB (preN 1 t)
  case false =>
    have e1 := Lib.hid (show prtS t = [] by unfold prtS; rw [hl]; rfl)
    have e2 := Lib.hid (show prtE t = 2 by unfold prtE; rw [hl]; rfl)
    rw [hl] at cl
    clear hl cp
    go_enter Tryz.func13, Tryz.ntmps13
    go_wp2_with fail
    rw [HW.out]
    refine (cl.out _ (Below.refl _ _)).mono ?_
    rintro e w1 ⟨rfl, b1⟩
    have B1 := Lib.hid b1
    clear b1
    go_wp2_with fail
    go_ret2
    exact ⟨by rw [e1.out, e2.out]; rfl, HB.out.trans (B1.out.mono HB.out.size)⟩
  rw [hl] at cl
  cases hp : prB t
  case false =>
    have e1 := Lib.hid (show prtS t = [] by unfold prtS; rw [hl, hp]; rfl)
    have e2 := Lib.hid (show prtE t = 3 by unfold prtE; rw [hl, hp]; rfl)
    rw [hp] at cp
    clear hl hp
    go_enter Tryz.func13, Tryz.ntmps13
    go_wp2_with fail
    rw [HW.out]
    refine (cl.out _ (Below.refl _ _)).mono ?_
    rintro e w1 ⟨rfl, b1⟩
    have B1 := Lib.hid b1
    obtain ⟨x0, x1, x2, x3, x4⟩ := KX.out _ b1
    clear b1
    go_wp2_with fail
    refine (cp.out _ B1.out).mono ?_
    rintro e w2 ⟨rfl, b2⟩
    have B2 := Lib.hid (B1.out.trans (b2.mono B1.out.size))
    clear b2
    go_wp2_with fail
    go_ret2
    exact ⟨by rw [e1.out, e2.out]; rfl, HB.out.trans (B2.out.mono HB.out.size)⟩
  have e1 : bs (prtS t) = bs (txt t) := by unfold prtS; rw [hl, hp]; rfl
  have e2 := Lib.hid (show prtE t = 0 by unfold prtE; rw [hl, hp]; rfl)
  have hlen : (txt t).length ≤ 8000000 := by
    have h1 := txt_len t hp
    have h2 := lim_cnt hl
    omega
  have cw := Lib.hid (fun (w0 : World) (h : Below W.heap.size W w0) (w1 : World) (hS : St w0 w0.heap.size [] w1) => write_all w0 (HT.out.later h) (HP.out.later h) t hp A cap w0.heap.size [] w1 (HL.out.later h) hS (by simpa using hlen))
  have cs := Lib.hid (fun (w0 w1 : World) (hS : St w0 w0.heap.size ([] ++ txt t) w1) => (show Calls Tryz.prog 28 #[.pointer (some ⟨w0.heap.size, 0, none⟩)] w1 fun e w' => e = .returned (.string (bs (txt t))) ∧ Below w0.heap.size w1 w' from
    (Tryz.Builder_String_any_k w0.heap.size w0.heap.size (txt t) w1 (by have := hS.2; rw [List.nil_append] at this; exact this) hS.1.size).mono fun e w' h => ⟨h.1, h.2.2.1⟩))
  have fresh := Lib.hid (fun (w0 : World) => (show St w0 w0.heap.size [] (w0.alloc (.cells #[.pointer none, .slice none 0 0] 57)) from ⟨(Below.refl _ _).alloc (Nat.le_refl _) _, Lib.IsBuilderF.of (Lib.fresh_isBuilder 57 5 w0)⟩))
  rw [hp] at cp
  clear hl hp hlen HT HP HL
  generalize bs (txt t) = st at *
  have e1 := Lib.hid e1
  go_enter Tryz.func13, Tryz.ntmps13
  go_wp2_with fail
  rw [HW.out]
  refine (cl.out _ (Below.refl _ _)).mono ?_
  rintro e w1 ⟨rfl, b1⟩
  have B1 := Lib.hid b1
  obtain ⟨x0, x1, x2, x3, x4⟩ := KX.out _ b1
  clear b1
  go_wp2_with fail
  refine (cp.out _ B1.out).mono ?_
  rintro e w2 ⟨rfl, b2⟩
  have B2 := Lib.hid (B1.out.trans (b2.mono B1.out.size))
  clear b2
  have FR := Lib.hid (fresh.out w2)
  have BA := B2.out.alloc B2.out.size (.cells #[.pointer none, .slice none 0 0] 57)
  obtain ⟨x0, x1, x2, x3, x4⟩ := KX.out _ BA
  clear BA
  go_wp2_with fail
  refine (cw.out _ B2.out _ FR.out).mono ?_
  rintro e w3 ⟨rfl, h⟩
  have S3 := Lib.hid h.1
  clear h
  go_wp2_with fail
  refine (cs.out _ _ S3.out).mono ?_
  rintro e w4 ⟨rfl, b4⟩
  have B4 := Lib.hid (B2.out.trans ((S3.out.1.trans b4).mono B2.out.size))
  clear b4
  go_wp2_with fail
  go_ret2
  exact ⟨by rw [e1.out, e2.out]; rfl, HB.out.trans (B4.out.mono HB.out.size)⟩
end Go.Proofs.YtgkjcimgghflmaaGreatDoor
