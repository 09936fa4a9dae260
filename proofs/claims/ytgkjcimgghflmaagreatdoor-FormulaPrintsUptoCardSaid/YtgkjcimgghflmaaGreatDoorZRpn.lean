/-
  What the document's own Print returns, and what the law of printing returns: true, if the law's check of a small text does; conditions: the tree lies in memory and has few nodes, and the package's tables lie there as the program's text lays them.
-/
import Derived.Test.YtgkjcimgghflmaaGreatDoorZPrn
import Derived.Test.YtgkjcimgghflmaaGreatDoorZRefCheck
namespace Go.Proofs.YtgkjcimgghflmaaGreatDoor
open Go.RowKit Go.Shelf Go.Sort

attribute [local go_sem] Oper.semAt_some
set_option maxRecDepth 100000 in
set_option maxHeartbeats 8000000 in
theorem refPrint_any (t : Nd) (A : Option Addr) (cap : Nat) (w : World) (hL : Lies w A cap t.ks) (hc : cnt t ≤ 1048576) :
    Calls Tryz.prog 14 #[nv t.op t.so t.nm t.nu (.slice A t.ks.length cap)] w fun e w' => e = .returned (.tuple #[.string (bs (prtS t)), .int .i64 (prtE t)]) ∧ Below w.heap.size w w' := by
  obtain ⟨W, hW⟩ : ∃ W, w.alloc (.cells #[.int .i64 t.op, .int .i64 t.so, .string t.nm, .int .i64 t.nu, .slice A t.ks.length cap] 27) = W := ⟨_, rfl⟩
  have X := five_new w t (.slice A t.ks.length cap) 27
  have HB : Below w.heap.size w W := by rw [← hW]; exact (Below.refl _ _).alloc (Nat.le_refl _) _
  rw [hW] at X
  have hle := lim_eq t hc
  have cz := Lib.hid (fun (W' : World) (h : Below W.heap.size W W') => refSize_any t A cap W' ((hL.later HB).later h))
  have cv := Lib.hid (fun (W' : World) (h : Below W.heap.size W W') => refLevels_any t A cap W' ((hL.later HB).later h))
  have cp := Lib.hid (fun (W' : World) (h : Below W.heap.size W W') => rpr_any t A cap W' ((hL.later HB).later h))
  have KX := Lib.hid (fun (W' : World) (h : Below W.heap.size W W') => X.later h)
  have HL := Lib.hid (hL.later HB)
  have HW := Lib.hid hW
  have HB := Lib.hid HB
  obtain ⟨x0, x1, x2, x3, x4⟩ := KX.out _ (Below.refl _ _)
  clear X hL hW
  have hs0 : prB t = true → limB (preN 1 t) = true → (txt t).length ≤ 8000000 := fun hp hl => by
    have h1 := txt_len t hp
    have h2 := lim_cnt hl
    omega
  have cs := fun (hp : prB t = true) (hl : limB (preN 1 t) = true) (W' : World) (h : Below W.heap.size W W') => show_any t hp (hs0 hp hl) A cap W' (HL.out.later h)
  clear hs0 hc
  generalize sizeW t = z at *
  generalize levW t = v at *
  by_cases hz : 4000 < z
  · have hl : limB (preN 1 t) = false := by rw [hle]; simp [hz]
    have e1 := Lib.hid (show prtS t = [] by unfold prtS; rw [hl]; rfl)
    have e2 := Lib.hid (show prtE t = 2 by unfold prtE; rw [hl]; rfl)
    clear hle hl cs cp
    go_enter Tryz.func14, Tryz.ntmps14
    go_wp2_with fail
    rw [HW.out]
    refine (cz.out _ (Below.refl _ _)).mono ?_
    rintro e w1 ⟨rfl, b1⟩
    have B1 := Lib.hid b1
    clear b1
    go_wp2_with fail
    go_ret2
    exact ⟨by rw [e1.out, e2.out]; rfl, HB.out.trans (B1.out.mono HB.out.size)⟩
  by_cases hv : 100 < v
  · have hl : limB (preN 1 t) = false := by rw [hle]; simp [hv]
    have e1 := Lib.hid (show prtS t = [] by unfold prtS; rw [hl]; rfl)
    have e2 := Lib.hid (show prtE t = 2 by unfold prtE; rw [hl]; rfl)
    clear hle hl cs cp
    go_enter Tryz.func14, Tryz.ntmps14
    go_wp2_with fail
    rw [HW.out]
    refine (cz.out _ (Below.refl _ _)).mono ?_
    rintro e w1 ⟨rfl, b1⟩
    have B1 := Lib.hid b1
    obtain ⟨x0, x1, x2, x3, x4⟩ := KX.out _ b1
    clear b1
    go_wp2_with fail
    refine (cv.out _ B1.out).mono ?_
    rintro e w2 ⟨rfl, b2⟩
    have B2 := Lib.hid (B1.out.trans (b2.mono B1.out.size))
    clear b2
    go_wp2_with fail
    go_ret2
    exact ⟨by rw [e1.out, e2.out]; rfl, HB.out.trans (B2.out.mono HB.out.size)⟩
  have hl : limB (preN 1 t) = true := by rw [hle]; simp [hz, hv]
  cases hp : prB t
  case false =>
    have e1 := Lib.hid (show prtS t = [] by unfold prtS; rw [hl, hp]; rfl)
    have e2 := Lib.hid (show prtE t = 3 by unfold prtE; rw [hl, hp]; rfl)
    rw [hp] at cp
    clear hl hp hle cs
    go_enter Tryz.func14, Tryz.ntmps14
    go_wp2_with fail
    rw [HW.out]
    refine (cz.out _ (Below.refl _ _)).mono ?_
    rintro e w1 ⟨rfl, b1⟩
    have B1 := Lib.hid b1
    obtain ⟨x0, x1, x2, x3, x4⟩ := KX.out _ b1
    clear b1
    go_wp2_with fail
    refine (cv.out _ B1.out).mono ?_
    rintro e w2 ⟨rfl, b2⟩
    have B2 := Lib.hid (B1.out.trans (b2.mono B1.out.size))
    obtain ⟨x0, x1, x2, x3, x4⟩ := KX.out _ B2.out
    clear b2
    go_wp2_with fail
    refine (cp.out _ B2.out).mono ?_
    rintro e w3 ⟨rfl, b3⟩
    have B3 := Lib.hid (B2.out.trans (b3.mono B2.out.size))
    clear b3
    go_wp2_with fail
    go_ret2
    exact ⟨by rw [e1.out, e2.out]; rfl, HB.out.trans (B3.out.mono HB.out.size)⟩
  have e1 : bs (prtS t) = bs (txt t) := by unfold prtS; rw [hl, hp]; rfl
  have e2 := Lib.hid (show prtE t = 0 by unfold prtE; rw [hl, hp]; rfl)
  have CS := Lib.hid (cs hp hl)
  rw [hp] at cp
  clear hl hp hle cs
  generalize bs (txt t) = st at *
  have e1 := Lib.hid e1
  go_enter Tryz.func14, Tryz.ntmps14
  go_wp2_with fail
  rw [HW.out]
  refine (cz.out _ (Below.refl _ _)).mono ?_
  rintro e w1 ⟨rfl, b1⟩
  have B1 := Lib.hid b1
  obtain ⟨x0, x1, x2, x3, x4⟩ := KX.out _ b1
  clear b1
  go_wp2_with fail
  refine (cv.out _ B1.out).mono ?_
  rintro e w2 ⟨rfl, b2⟩
  have B2 := Lib.hid (B1.out.trans (b2.mono B1.out.size))
  obtain ⟨x0, x1, x2, x3, x4⟩ := KX.out _ B2.out
  clear b2
  go_wp2_with fail
  refine (cp.out _ B2.out).mono ?_
  rintro e w3 ⟨rfl, b3⟩
  have B3 := Lib.hid (B2.out.trans (b3.mono B2.out.size))
  obtain ⟨x0, x1, x2, x3, x4⟩ := KX.out _ B3.out
  clear b3
  go_wp2_with fail
  refine (CS.out _ B3.out).mono ?_
  rintro e w4 ⟨rfl, b4⟩
  have B4 := Lib.hid (B3.out.trans (b4.mono B3.out.size))
  clear b4
  go_wp2_with fail
  go_ret2
  exact ⟨by rw [e1.out, e2.out]; rfl, HB.out.trans (B4.out.mono HB.out.size)⟩

set_option maxRecDepth 100000 in
set_option maxHeartbeats 8000000 in
theorem prints_law (t : Nd) (A : Option Addr) (cap : Nat) (w : World) (hL : Lies w A cap t.ks) (hf : Fine t) (hc : cnt t ≤ 1048576) (hT : Tabs w) (hP : PowTab w)
    (haw : ∀ W, Below w.heap.size w W → Calls Tryz.prog 6 #[] W fun e w' => e = .returned (.bool true) ∧ Below W.heap.size W w') :
    Calls Tryz.prog 4 #[nv t.op t.so t.nm t.nu (.slice A t.ks.length cap)] w fun e w' => e = .returned (.bool true) ∧ Below w.heap.size w w' := by
  obtain ⟨W, hW⟩ : ∃ W, w.alloc (.cells #[.int .i64 t.op, .int .i64 t.so, .string t.nm, .int .i64 t.nu, .slice A t.ks.length cap] 27) = W := ⟨_, rfl⟩
  have X := five_new w t (.slice A t.ks.length cap) 27
  have HB : Below w.heap.size w W := by rw [← hW]; exact (Below.refl _ _).alloc (Nat.le_refl _) _
  rw [hW] at X
  have ca := haw W HB
  have cz := Lib.hid (fun (W' : World) (h : Below W.heap.size W W') => refSize_any t A cap W' ((hL.later HB).later h))
  have cp := Lib.hid (fun (W' : World) (h : Below W.heap.size W W') => print_any t A cap W' ((hL.later HB).later h) hf ((hT.later HB).later h) ((hP.later HB).later h))
  have cr := Lib.hid (fun (W' : World) (h : Below W.heap.size W W') => refPrint_any t A cap W' ((hL.later HB).later h) hc)
  have KX := Lib.hid (fun (W' : World) (h : Below W.heap.size W W') => X.later h)
  have HW := Lib.hid hW
  have HB := Lib.hid HB
  have s1 : ((bs (prtS t)).toList == (bs (prtS t)).toList) = true := by simp
  have s2 : (prtE t == prtE t) = true := by simp
  generalize bs (prtS t) = st at *
  generalize prtE t = er at *
  generalize sizeW t = z at *
  clear X hL hW hf hc hT hP haw
  by_cases hz : 6000 < z
  · go_enter Tryz.func4, Tryz.ntmps4
    go_wp2_with fail
    rw [HW.out]
    refine ca.mono ?_
    rintro e w1 ⟨rfl, b1⟩
    have B1 := Lib.hid b1
    obtain ⟨x0, x1, x2, x3, x4⟩ := KX.out _ b1
    clear b1 ca
    go_wp2_with fail
    refine (cz.out _ B1.out).mono ?_
    rintro e w2 ⟨rfl, b2⟩
    have B2 := Lib.hid (B1.out.trans (b2.mono B1.out.size))
    clear b2
    go_wp2_with fail
    go_ret
    exact ⟨rfl, HB.out.trans (B2.out.mono HB.out.size)⟩
  · go_enter Tryz.func4, Tryz.ntmps4
    go_wp2_with fail
    rw [HW.out]
    refine ca.mono ?_
    rintro e w1 ⟨rfl, b1⟩
    have B1 := Lib.hid b1
    obtain ⟨x0, x1, x2, x3, x4⟩ := KX.out _ b1
    clear b1 ca
    go_wp2_with fail
    refine (cz.out _ B1.out).mono ?_
    rintro e w2 ⟨rfl, b2⟩
    have B2 := Lib.hid (B1.out.trans (b2.mono B1.out.size))
    obtain ⟨x0, x1, x2, x3, x4⟩ := KX.out _ B2.out
    clear b2
    go_wp2_with fail
    refine (cp.out _ B2.out).mono ?_
    rintro e w3 ⟨rfl, b3⟩
    have B3 := Lib.hid (B2.out.trans (b3.mono B2.out.size))
    obtain ⟨x0, x1, x2, x3, x4⟩ := KX.out _ B3.out
    clear b3
    go_wp2_with fail
    refine (cr.out _ B3.out).mono ?_
    rintro e w4 ⟨rfl, b4⟩
    have B4 := Lib.hid (B3.out.trans (b4.mono B3.out.size))
    clear b4
    go_wp2_with fail
    go_ret
    exact ⟨rfl, HB.out.trans (B4.out.mono HB.out.size)⟩
end Go.Proofs.YtgkjcimgghflmaaGreatDoor
