/-
  What package logic's Check returns; conditions: the tree lies in memory.
-/
import Derived.Test.YtmeeombadkgneaaGreatZUni
namespace Go.Proofs.YtmeeombadkgneaaGreat
open Go.RowKit Go.Shelf

/-- What Check returns. -/
noncomputable def checkV (t : Nd) (sort : Int) : Int :=
  if sort < 0 ∨ 5 < sort then 1
  else if limB (preN 1 t) = false then 2
  else if ((preN 1 t).all fun p => okN p.2) = false ∨ uniB ((preN 1 t).map Prod.snd) = false then 3
  else if sort ≠ 0 ∧ sortN t ≠ sort then 10
  else 0

set_option maxRecDepth 100000 in
set_option maxHeartbeats 2000000 in
theorem check_any (t : Nd) (sort : Int) (A : Option Addr) (cap : Nat) (w : World) (hL : Lies w A cap t.ks) (hfine : Fine t) :
    Calls Tryz.prog 72 #[nv t.op t.so t.nm t.nu (.slice A t.ks.length cap), .int .i64 sort] w fun e w' => e = .returned (.int .i64 (checkV t sort)) ∧ Below w.heap.size w w' := by
  have HB1 : Below w.heap.size w (w.alloc (.cells #[.int .i64 t.op, .int .i64 t.so, .string t.nm, .int .i64 t.nu, .slice A t.ks.length cap] 44)) := (Below.refl _ _).alloc (Nat.le_refl _) _
  have HL := Lib.hid hL
  have HF := Lib.hid hfine
  have F0 := Lib.hid (five_new w t (.slice A t.ks.length cap) 44)
  clear hL hfine
  by_cases h0 : sort < 0
  · rw [show checkV t sort = 1 from if_pos (.inl h0)]
    go_enter Tryz.func72, Tryz.ntmps72
    go_wp2_with fail
    go_ret
    exact ⟨rfl, HB1⟩
  by_cases h5 : 5 < sort
  · rw [show checkV t sort = 1 from if_pos (.inr h5)]
    go_enter Tryz.func72, Tryz.ntmps72
    go_wp2_with fail
    go_ret
    exact ⟨rfl, HB1⟩
  have hc1 : checkV t sort = if limB (preN 1 t) = false then 2
      else if ((preN 1 t).all fun p => okN p.2) = false ∨ uniB ((preN 1 t).map Prod.snd) = false then 3
      else if sort ≠ 0 ∧ sortN t ≠ sort then 10 else 0 := if_neg (by omega)
  rw [hc1]
  clear hc1
  cases hl : limB (preN 1 t)
  case false =>
    rw [if_pos rfl]
    have Hl := Lib.hid hl
    clear hl
    go_enter Tryz.func72, Tryz.ntmps72
    go_wp2_with fail
    refine (limits_any t _ _ _ (HL.out.later HB1) HF.out).mono ?_
    rintro e w1 ⟨rfl, hb1⟩
    rw [Hl.out]
    have hB : Below w.heap.size w w1 := HB1.trans (hb1.mono (by simp))
    clear hb1
    go_wp2_with fail
    go_ret
    exact ⟨rfl, hB⟩
  rw [if_neg (by simp)]
  have hbig : Hid ((preN 1 t).length ≤ maxLen) := by
    have := (of_decide_eq_true hl).1
    show _ ≤ _
    unfold maxLen
    omega
  have Hl := Lib.hid hl
  clear hl
  cases hw : (preN 1 t).all fun p => okN p.2
  case false =>
    rw [if_pos (.inl rfl)]
    have Hw := Lib.hid hw
    clear hw
    go_enter Tryz.func72, Tryz.ntmps72
    go_wp2_with fail
    refine (limits_any t _ _ _ (HL.out.later HB1) HF.out).mono ?_
    rintro e w1 ⟨rfl, hb1⟩
    rw [Hl.out]
    have hB : Below w.heap.size w w1 := HB1.trans (hb1.mono (by simp))
    obtain ⟨a0, a1, a2, a3, a4⟩ := F0.out.later hb1
    clear hb1
    go_wp2_with fail
    refine (wellSorted_any t _ _ _ (HL.out.later hB) HF.out).mono ?_
    rintro e w2 ⟨rfl, hb2⟩
    rw [Hw.out]
    have hB2 : Below w.heap.size w w2 := hB.trans (hb2.mono hB.size)
    clear hb2 a0 a1 a2 a3 a4
    go_wp2_with fail
    go_ret
    exact ⟨rfl, hB2⟩
  have Hw := Lib.hid hw
  clear hw
  cases hu : uniB ((preN 1 t).map Prod.snd)
  case false =>
    rw [if_pos (.inr rfl)]
    have Hu := Lib.hid hu
    clear hu
    go_enter Tryz.func72, Tryz.ntmps72
    go_wp2_with fail
    refine (limits_any t _ _ _ (HL.out.later HB1) HF.out).mono ?_
    rintro e w1 ⟨rfl, hb1⟩
    rw [Hl.out]
    have hB : Below w.heap.size w w1 := HB1.trans (hb1.mono (by simp))
    have F1 := Lib.hid (F0.out.later hb1)
    obtain ⟨a0, a1, a2, a3, a4⟩ := F1.out
    clear hb1
    go_wp2_with fail
    refine (wellSorted_any t _ _ _ (HL.out.later hB) HF.out).mono ?_
    rintro e w2 ⟨rfl, hb2⟩
    rw [Hw.out]
    have hB2 : Below w.heap.size w w2 := hB.trans (hb2.mono hB.size)
    have F2 := Lib.hid (F1.out.later hb2)
    clear hb2 a0 a1 a2 a3 a4
    obtain ⟨a0, a1, a2, a3, a4⟩ := F2.out
    go_wp2_with fail
    refine (uniform_any t _ _ _ (HL.out.later hB2) HF.out hbig.out).mono ?_
    rintro e w3 ⟨rfl, hb3⟩
    rw [Hu.out]
    have hB3 : Below w.heap.size w w3 := hB2.trans (hb3.mono hB2.size)
    clear hb3 a0 a1 a2 a3 a4
    go_wp2_with fail
    go_ret
    exact ⟨rfl, hB3⟩
  rw [if_neg (by simp)]
  have Hu := Lib.hid hu
  clear hu
  by_cases hz : sort = 0
  · subst hz
    rw [if_neg (by simp)]
    go_enter Tryz.func72, Tryz.ntmps72
    go_wp2_with fail
    refine (limits_any t _ _ _ (HL.out.later HB1) HF.out).mono ?_
    rintro e w1 ⟨rfl, hb1⟩
    rw [Hl.out]
    have hB : Below w.heap.size w w1 := HB1.trans (hb1.mono (by simp))
    have F1 := Lib.hid (F0.out.later hb1)
    obtain ⟨a0, a1, a2, a3, a4⟩ := F1.out
    clear hb1
    go_wp2_with fail
    refine (wellSorted_any t _ _ _ (HL.out.later hB) HF.out).mono ?_
    rintro e w2 ⟨rfl, hb2⟩
    rw [Hw.out]
    have hB2 : Below w.heap.size w w2 := hB.trans (hb2.mono hB.size)
    have F2 := Lib.hid (F1.out.later hb2)
    clear hb2 a0 a1 a2 a3 a4
    obtain ⟨a0, a1, a2, a3, a4⟩ := F2.out
    go_wp2_with fail
    refine (uniform_any t _ _ _ (HL.out.later hB2) HF.out hbig.out).mono ?_
    rintro e w3 ⟨rfl, hb3⟩
    rw [Hu.out]
    have hB3 : Below w.heap.size w w3 := hB2.trans (hb3.mono hB2.size)
    clear hb3 a0 a1 a2 a3 a4
    go_wp2_with fail
    go_ret
    exact ⟨rfl, hB3⟩
  have hz1 : (sort == 0) = false := by simpa using hz
  have hz2 : (sort != 0) = true := by simpa using hz
  have hrest : ∀ v, (if sort ≠ 0 ∧ sortN t ≠ sort then (10 : Int) else 0) = v → (sortN t = sort → v = 0) ∧ (sortN t ≠ sort → v = 10) := fun v hv =>
    ⟨fun e => by rw [← hv, if_neg (by simp [e])], fun e => by rw [← hv, if_pos ⟨hz, e⟩]⟩
  generalize hv : (if sort ≠ 0 ∧ sortN t ≠ sort then (10 : Int) else 0) = v
  have hr := Lib.hid (hrest v hv)
  clear hrest hv hz
  go_enter Tryz.func72, Tryz.ntmps72
  go_wp2_with fail
  refine (limits_any t _ _ _ (HL.out.later HB1) HF.out).mono ?_
  rintro e w1 ⟨rfl, hb1⟩
  rw [Hl.out]
  have hB : Below w.heap.size w w1 := HB1.trans (hb1.mono (by simp))
  have F1 := Lib.hid (F0.out.later hb1)
  obtain ⟨a0, a1, a2, a3, a4⟩ := F1.out
  clear hb1
  go_wp2_with fail
  refine (wellSorted_any t _ _ _ (HL.out.later hB) HF.out).mono ?_
  rintro e w2 ⟨rfl, hb2⟩
  rw [Hw.out]
  have hB2 : Below w.heap.size w w2 := hB.trans (hb2.mono hB.size)
  have F2 := Lib.hid (F1.out.later hb2)
  clear hb2 a0 a1 a2 a3 a4
  obtain ⟨a0, a1, a2, a3, a4⟩ := F2.out
  go_wp2_with fail
  refine (uniform_any t _ _ _ (HL.out.later hB2) HF.out hbig.out).mono ?_
  rintro e w3 ⟨rfl, hb3⟩
  rw [Hu.out]
  have hB3 : Below w.heap.size w w3 := hB2.trans (hb3.mono hB2.size)
  have F3 := Lib.hid (F2.out.later hb3)
  clear hb3 a0 a1 a2 a3 a4
  obtain ⟨a0, a1, a2, a3, a4⟩ := F3.out
  go_wp2_with fail
  refine (sort_any t _ _ _ (HL.out.later hB3)).mono ?_
  rintro e w4 ⟨rfl, hb4⟩
  have hB4 : Below w.heap.size w w4 := hB3.trans (hb4.mono hB3.size)
  clear hb4 a0 a1 a2 a3 a4
  by_cases hs : sortN t = sort
  · have hs1 : (sortN t == sort) = true := by simpa using hs
    have hs2 : (sortN t != sort) = false := by simpa using hs
    obtain rfl := hr.out.1 hs
    clear hs hr
    go_wp2_with fail
    go_ret
    exact ⟨rfl, hB4⟩
  · have hs1 : (sortN t == sort) = false := by simpa using hs
    have hs2 : (sortN t != sort) = true := by simpa using hs
    obtain rfl := hr.out.2 hs
    clear hs hr
    go_wp2_with fail
    go_ret
    exact ⟨rfl, hB4⟩
end Go.Proofs.YtmeeombadkgneaaGreat
