/-
  What the law LogicResolves returns: true; conditions: the tree and the lists lie in memory, and the tree has few nodes.
-/
import Derived.Test.YtpjokapkoeclpaaRes
import Derived.Test.YtpjokapkoeclpaaOrdersLaw
import Derived.Test.YtpjokapkoeclpaaSubst1
namespace Go.Proofs.Ytpjokapkoeclpaa
open Go.RowKit Go.Shelf Go.WideMaps

attribute [local go_sem] Oper.semAt_some
set_option maxRecDepth 100000 in
set_option maxHeartbeats 1500000 in
theorem resolves_law (dl : List (ByteArray × Int)) (sl : List SgA) (hdw : ∀ d ∈ dl, (Lit.int .i64 d.2).wf = true) (DA SA : Option Addr) (dcap scap : Nat) (hdl : dl.length ≤ maxLen) (hsl : sl.length ≤ maxLen) (t : Nd) (A : Option Addr) (cap : Nat) (w : World) (hL : Lies w A cap t.ks) (hfine : Fine t) (hcnt : cnt t ≤ 1048576) (hD : Dcls w DA dl) (hS : Sgs w SA sl) (hA : ArgsIn w sl) :
    Calls Try.prog 7 #[nv t.op t.so t.nm t.nu (.slice A t.ks.length cap), .slice DA dl.length dcap, .slice SA sl.length scap] w fun e w' => e = .returned (.bool true) ∧ Below w.heap.size w w' := by
  have HBW := Lib.hid (show Below w.heap.size w (w.alloc (boxO t (.slice A t.ks.length cap))) from (Below.refl _ w).alloc (Nat.le_refl _) _)
  have X1 := Lib.hid (five_new w t (.slice A t.ks.length cap) 24)
  have HL := Lib.hid hL
  have HD := Lib.hid hD
  have HS := Lib.hid hS
  have HA := Lib.hid hA
  have HF := Lib.hid hfine
  have hdl' := hdl
  have hsl' := hsl
  unfold maxLen at hdl' hsl'
  clear hL hD hS hA hfine
  cases hsm : decide (0 ≤ leftOf 6000 [t])
  case false =>
    have SM := Lib.hid hsm
    clear hsm
    go_enter Try.func7, Try.ntmps7
    go_wp2_with fail
    refine (awake_any _).mono ?_
    rintro e w1 ⟨rfl, hb⟩
    have B1 := HBW.out.trans (hb.mono HBW.out.size)
    have F1 := X1.out.later hb
    have hal := (Below.refl w1.heap.size w1).alloc (Nat.le_refl _) (boxO t (.slice A t.ks.length cap))
    have LB := lies_one (c := 1) (five_new w1 t (.slice A t.ks.length cap) 24) ((HL.out.later B1).later hal) HF.out
    have hs := Lib.hid (small_any 6000 [t] _ 1 _ LB)
    have B2 := B1.trans (hal.mono B1.size)
    have F2 := Lib.hid (F1.later hal)
    obtain ⟨a0, a1, a2, a3, a4⟩ := F1
    clear hb hal LB
    go_wp2_with fail
    refine hs.out.mono ?_
    rintro e w2 ⟨rfl, hb⟩
    rw [SM.out]
    have B3 := B2.trans (hb.mono B2.size)
    have F3 := F2.out.later hb
    clear hb a0 a1 a2 a3 a4 hs F2 B1 B2
    obtain ⟨a0, a1, a2, a3, a4⟩ := id F3

    go_wp2_with fail
    go_ret
    exact ⟨rfl, B3⟩
  have SM := Lib.hid hsm
  clear hsm
  by_cases hd6 : 60 < dl.length
  · have hd6' : decide ((60 : Int) < (dl.length : Int)) = true := decide_eq_true (by omega)
    go_enter Try.func7, Try.ntmps7
    go_wp2_with fail
    refine (awake_any _).mono ?_
    rintro e w1 ⟨rfl, hb⟩
    have B1 := HBW.out.trans (hb.mono HBW.out.size)
    have F1 := X1.out.later hb
    have hal := (Below.refl w1.heap.size w1).alloc (Nat.le_refl _) (boxO t (.slice A t.ks.length cap))
    have LB := lies_one (c := 1) (five_new w1 t (.slice A t.ks.length cap) 24) ((HL.out.later B1).later hal) HF.out
    have hs := Lib.hid (small_any 6000 [t] _ 1 _ LB)
    have B2 := B1.trans (hal.mono B1.size)
    have F2 := Lib.hid (F1.later hal)
    obtain ⟨a0, a1, a2, a3, a4⟩ := F1
    clear hb hal LB
    go_wp2_with fail
    refine hs.out.mono ?_
    rintro e w2 ⟨rfl, hb⟩
    rw [SM.out]
    have B3 := B2.trans (hb.mono B2.size)
    have F3 := F2.out.later hb
    clear hb a0 a1 a2 a3 a4 hs F2 B1 B2
    obtain ⟨a0, a1, a2, a3, a4⟩ := id F3

    go_wp2_with fail
    go_ret
    exact ⟨rfl, B3⟩
  have hd6' : decide ((60 : Int) < (dl.length : Int)) = false := decide_eq_false (by omega)
  by_cases hs6 : 60 < sl.length
  · have hs6' : decide ((60 : Int) < (sl.length : Int)) = true := decide_eq_true (by omega)
    go_enter Try.func7, Try.ntmps7
    go_wp2_with fail
    refine (awake_any _).mono ?_
    rintro e w1 ⟨rfl, hb⟩
    have B1 := HBW.out.trans (hb.mono HBW.out.size)
    have F1 := X1.out.later hb
    have hal := (Below.refl w1.heap.size w1).alloc (Nat.le_refl _) (boxO t (.slice A t.ks.length cap))
    have LB := lies_one (c := 1) (five_new w1 t (.slice A t.ks.length cap) 24) ((HL.out.later B1).later hal) HF.out
    have hs := Lib.hid (small_any 6000 [t] _ 1 _ LB)
    have B2 := B1.trans (hal.mono B1.size)
    have F2 := Lib.hid (F1.later hal)
    obtain ⟨a0, a1, a2, a3, a4⟩ := F1
    clear hb hal LB
    go_wp2_with fail
    refine hs.out.mono ?_
    rintro e w2 ⟨rfl, hb⟩
    rw [SM.out]
    have B3 := B2.trans (hb.mono B2.size)
    have F3 := F2.out.later hb
    clear hb a0 a1 a2 a3 a4 hs F2 B1 B2
    obtain ⟨a0, a1, a2, a3, a4⟩ := id F3

    go_wp2_with fail
    go_ret
    exact ⟨rfl, B3⟩
  have hs6' : decide ((60 : Int) < (sl.length : Int)) = false := decide_eq_false (by omega)
  go_enter Try.func7, Try.ntmps7
  go_wp2_with fail
  refine (awake_any _).mono ?_
  rintro e w1 ⟨rfl, hb⟩
  have B1 := HBW.out.trans (hb.mono HBW.out.size)
  have F1 := X1.out.later hb
  have hal := (Below.refl w1.heap.size w1).alloc (Nat.le_refl _) (boxO t (.slice A t.ks.length cap))
  have LB := lies_one (c := 1) (five_new w1 t (.slice A t.ks.length cap) 24) ((HL.out.later B1).later hal) HF.out
  have hs := Lib.hid (small_any 6000 [t] _ 1 _ LB)
  have B2 := B1.trans (hal.mono B1.size)
  have F2 := Lib.hid (F1.later hal)
  obtain ⟨a0, a1, a2, a3, a4⟩ := F1
  clear hb hal LB
  go_wp2_with fail
  refine hs.out.mono ?_
  rintro e w2 ⟨rfl, hb⟩
  rw [SM.out]
  have B3 := B2.trans (hb.mono B2.size)
  have F3 := F2.out.later hb
  clear hb a0 a1 a2 a3 a4 hs F2 B1 B2
  obtain ⟨a0, a1, a2, a3, a4⟩ := id F3

  go_wp2_with fail
  refine (resolve_any dl sl hdw DA SA dcap scap hdl hsl t A cap _ (HL.out.later B3) HF.out hcnt (HD.out.later B3) (HS.out.later B3) (HA.out.later B3)).mono ?_
  rintro e w3 ⟨A3, c3, rfl, hl3, hf3, hb⟩
  have B4 := B3.trans (hb.mono B3.size)
  have F4 := F3.later hb
  clear hb a0 a1 a2 a3 a4 F3 B3
  have hrr := Lib.hid (res_eq (dl := dl) (sl := sl) hcnt)
  have hcc := Lib.hid (res_checks (dl := dl) (sl := sl) (t := t))
  have hal := (Below.refl w3.heap.size w3).alloc (Nat.le_refl _) (boxO (resV dl sl t).1 (.slice A3 (resV dl sl t).1.ks.length c3))
  have B5 := B4.trans (hal.mono B4.size)
  have F5 := F4.later hal
  have X5 := five_new w3 (resV dl sl t).1 (.slice A3 (resV dl sl t).1.ks.length c3) 24
  have HL5 := Lib.hid (hl3.later hal)
  have hlt3 : w.heap.size < w3.heap.size := World.block_lt_of_cell? _ _ F4.c0
  obtain ⟨a0, a1, a2, a3, a4⟩ := F4
  clear hal hl3
  generalize resV dl sl t = uv at *
  obtain ⟨u, v⟩ := uv
  dsimp only at *
  go_wp2_with fail
  refine (refResolve_any dl sl hdw DA SA dcap scap hdl hsl t A cap _ (HL.out.later B5) HF.out hcnt (HD.out.later B5) (HS.out.later B5) (HA.out.later B5)).mono ?_
  rw [← hrr.out]
  rintro e w4 ⟨A4, c4, rfl, hl4, hf4, hb⟩
  dsimp only at *
  have B6 := B5.trans (hb.mono B5.size)
  have X6 := X5.later hb
  have HL6 := HL5.out.later hb
  clear hb a0 a1 a2 a3 a4 F5 X5 HL5 B4 B5 hrr
  have hal := (Below.refl w4.heap.size w4).alloc (Nat.le_refl _) (boxO u (.slice A4 u.ks.length c4))
  have B7 := B6.trans (hal.mono B6.size)
  have X7 := Lib.hid (X6.later hal)
  have Y7 := Lib.hid (five_new w4 u (.slice A4 u.ks.length c4) 24)
  have HL7 := Lib.hid (HL6.later hal)
  have HK7 := Lib.hid (hl4.later hal)
  have hlt4 : w3.heap.size < w4.heap.size := World.block_lt_of_cell? _ _ X6.c0
  have hvv : (v == v) = true := by simp
  obtain ⟨x0, x1, x2, x3, x4⟩ := X6
  clear hal HL6 hl4
  by_cases hv : v = 0
  · subst hv
    have hck := Lib.hid (hcc.out rfl)
    clear hvv
    go_wp2_with fail
    refine (refEqual_any u u A3 A4 c3 c4 _ HL7.out HK7.out).mono ?_
    rintro e w5 ⟨rfl, hb⟩
    rw [(cmp_all u).2.2.1]
    have B8 := B7.trans (hb.mono B7.size)
    have X8 := X7.out.later hb
    have HL8 := Lib.hid (HL7.out.later hb)
    clear hb x0 x1 x2 x3 x4 X7 Y7 HL7 HK7 B6 B7
    obtain ⟨x0, x1, x2, x3, x4⟩ := X8
    go_wp2_with fail
    refine (check_any u 0 A3 c3 _ HL8.out hf3).mono ?_
    rintro e w6 ⟨rfl, hb⟩
    rw [hck.out]
    have B9 := B8.trans (hb.mono B8.size)
    clear hb x0 x1 x2 x3 x4
    go_wp2_with fail
    go_ret
    exact ⟨rfl, B9⟩
  · have hv0 : (v == 0) = false := by simpa using hv
    have hv0' : (v != 0) = true := by simpa using hv
    clear hv
    go_wp2_with fail
    refine (refEqual_any u u A3 A4 c3 c4 _ HL7.out HK7.out).mono ?_
    rintro e w5 ⟨rfl, hb⟩
    rw [(cmp_all u).2.2.1]
    have B8 := B7.trans (hb.mono B7.size)
    have X8 := X7.out.later hb
    have HL8 := Lib.hid (HL7.out.later hb)
    clear hb x0 x1 x2 x3 x4 X7 Y7 HL7 HK7 B6 B7
    obtain ⟨x0, x1, x2, x3, x4⟩ := X8
    go_wp2_with fail
    go_ret
    exact ⟨rfl, B8⟩
end Go.Proofs.Ytpjokapkoeclpaa
