/-
  What isTrue returns at each operator; conditions: the kids' values lie in memory, their sets are ascending.
-/
import Derived.Test.YtmeeombadkgneaaGreatZEv4
namespace Go.Proofs.YtmeeombadkgneaaGreat
open Go.Proofs Go.RowKit Go.Shelf Go.Sort Go.Lib

attribute [local go_sem] Oper.semAt_some
set_option maxRecDepth 100000 in
set_option maxHeartbeats 4000000 in
theorem trTrue_any (K : Option Addr) (kc : Nat)  (w : World)  : Calls Tryz.prog 125 #[.int .i64 30, .slice K 0 kc] w fun e w' => e = .returned (.bool (true)) ∧ RowKit.Below w.heap.size w w' := by
  go_enter Tryz.func125, Tryz.ntmps125
  go_wp2_with fail
  go_ret
  exact ⟨rfl, RowKit.Below.refl _ _⟩
set_option maxRecDepth 100000 in
set_option maxHeartbeats 4000000 in
theorem trFalse_any (K : Option Addr) (kc : Nat)  (w : World)  : Calls Tryz.prog 125 #[.int .i64 31, .slice K 0 kc] w fun e w' => e = .returned (.bool (false)) ∧ RowKit.Below w.heap.size w w' := by
  go_enter Tryz.func125, Tryz.ntmps125
  go_wp2_with fail
  go_ret
  exact ⟨rfl, RowKit.Below.refl _ _⟩
set_option maxRecDepth 100000 in
set_option maxHeartbeats 4000000 in
theorem trNot_any (K : Option Addr) (kc : Nat) (x : VA) (w : World) (hk : LiesVs w K [x]) : Calls Tryz.prog 125 #[.int .i64 32, .slice K 1 kc] w fun e w' => e = .returned (.bool (!(x.v.nu == 1))) ∧ RowKit.Below w.heap.size w w' := by
  obtain ⟨b, o, rfl, ⟨c0, c1, c2, c3, c4⟩, _⟩ := kids1 hk
  clear hk
  go_enter Tryz.func125, Tryz.ntmps125
  go_wp2_with fail
  refine (holds_any x _).mono ?_
  rintro e w1 ⟨rfl, b1⟩
  have B1 := Lib.hid b1
  clear b1 c0 c1 c2 c3 c4
  go_wp2_with fail
  go_ret
  exact ⟨rfl, B1.out⟩
set_option maxRecDepth 100000 in
set_option maxHeartbeats 4000000 in
theorem trAnd_any (K : Option Addr) (kc : Nat) (x y : VA) (w : World) (hk : LiesVs w K [x, y]) : Calls Tryz.prog 125 #[.int .i64 33, .slice K 2 kc] w fun e w' => e = .returned (.bool ((x.v.nu == 1) && (y.v.nu == 1))) ∧ RowKit.Below w.heap.size w w' := by
  obtain ⟨b, o, hb, X, Y, _, _⟩ := kids2 hk
  subst hb
  obtain ⟨c0, c1, c2, c3, c4⟩ := X
  have KY := Lib.hid (fun W' (h : RowKit.Below w.heap.size w W') => Y.later h)
  clear hk Y
  have HX := Lib.hid (holds_any x)
  have HY := Lib.hid (holds_any y)
  generalize (x.v.nu == 1) = p at *
  generalize (y.v.nu == 1) = q at *
  cases p
  case false =>
    go_enter Tryz.func125, Tryz.ntmps125
    go_wp2_with fail
    refine (HX.out _).mono ?_
    rintro e w1 ⟨rfl, b1⟩
    have B1 := Lib.hid b1
    clear b1 c0 c1 c2 c3 c4
    go_wp2_with fail
    go_ret
    exact ⟨rfl, B1.out⟩
  case true =>
    go_enter Tryz.func125, Tryz.ntmps125
    go_wp2_with fail
    refine (HX.out _).mono ?_
    rintro e w1 ⟨rfl, b1⟩
    have B1 := Lib.hid b1
    clear b1 c0 c1 c2 c3 c4
    obtain ⟨d0, d1, d2, d3, d4⟩ := KY.out _ B1.out
    go_wp2_with fail
    refine (HY.out _).mono ?_
    rintro e w2 ⟨rfl, b2⟩
    have B2 := Lib.hid (B1.out.trans (b2.mono B1.out.size))
    clear b2 d0 d1 d2 d3 d4
    go_wp2_with fail
    go_ret
    exact ⟨by first | rfl | simp, B2.out⟩
set_option maxRecDepth 100000 in
set_option maxHeartbeats 4000000 in
theorem trOr_any (K : Option Addr) (kc : Nat) (x y : VA) (w : World) (hk : LiesVs w K [x, y]) : Calls Tryz.prog 125 #[.int .i64 34, .slice K 2 kc] w fun e w' => e = .returned (.bool ((x.v.nu == 1) || (y.v.nu == 1))) ∧ RowKit.Below w.heap.size w w' := by
  obtain ⟨b, o, hb, X, Y, _, _⟩ := kids2 hk
  subst hb
  obtain ⟨c0, c1, c2, c3, c4⟩ := X
  have KY := Lib.hid (fun W' (h : RowKit.Below w.heap.size w W') => Y.later h)
  clear hk Y
  have HX := Lib.hid (holds_any x)
  have HY := Lib.hid (holds_any y)
  generalize (x.v.nu == 1) = p at *
  generalize (y.v.nu == 1) = q at *
  cases p
  case false =>
    go_enter Tryz.func125, Tryz.ntmps125
    go_wp2_with fail
    refine (HX.out _).mono ?_
    rintro e w1 ⟨rfl, b1⟩
    have B1 := Lib.hid b1
    clear b1 c0 c1 c2 c3 c4
    obtain ⟨d0, d1, d2, d3, d4⟩ := KY.out _ B1.out
    go_wp2_with fail
    refine (HY.out _).mono ?_
    rintro e w2 ⟨rfl, b2⟩
    have B2 := Lib.hid (B1.out.trans (b2.mono B1.out.size))
    clear b2 d0 d1 d2 d3 d4
    go_wp2_with fail
    go_ret
    exact ⟨by first | rfl | simp, B2.out⟩
  case true =>
    go_enter Tryz.func125, Tryz.ntmps125
    go_wp2_with fail
    refine (HX.out _).mono ?_
    rintro e w1 ⟨rfl, b1⟩
    have B1 := Lib.hid b1
    clear b1 c0 c1 c2 c3 c4
    go_wp2_with fail
    go_ret
    exact ⟨rfl, B1.out⟩
set_option maxRecDepth 100000 in
set_option maxHeartbeats 4000000 in
theorem trImp_any (K : Option Addr) (kc : Nat) (x y : VA) (w : World) (hk : LiesVs w K [x, y]) : Calls Tryz.prog 125 #[.int .i64 35, .slice K 2 kc] w fun e w' => e = .returned (.bool (!(x.v.nu == 1) || (y.v.nu == 1))) ∧ RowKit.Below w.heap.size w w' := by
  obtain ⟨b, o, hb, X, Y, _, _⟩ := kids2 hk
  subst hb
  obtain ⟨c0, c1, c2, c3, c4⟩ := X
  have KY := Lib.hid (fun W' (h : RowKit.Below w.heap.size w W') => Y.later h)
  clear hk Y
  have HX := Lib.hid (holds_any x)
  have HY := Lib.hid (holds_any y)
  generalize (x.v.nu == 1) = p at *
  generalize (y.v.nu == 1) = q at *
  cases p
  case false =>
    go_enter Tryz.func125, Tryz.ntmps125
    go_wp2_with fail
    refine (HX.out _).mono ?_
    rintro e w1 ⟨rfl, b1⟩
    have B1 := Lib.hid b1
    clear b1 c0 c1 c2 c3 c4
    go_wp2_with fail
    go_ret
    exact ⟨rfl, B1.out⟩
  case true =>
    go_enter Tryz.func125, Tryz.ntmps125
    go_wp2_with fail
    refine (HX.out _).mono ?_
    rintro e w1 ⟨rfl, b1⟩
    have B1 := Lib.hid b1
    clear b1 c0 c1 c2 c3 c4
    obtain ⟨d0, d1, d2, d3, d4⟩ := KY.out _ B1.out
    go_wp2_with fail
    refine (HY.out _).mono ?_
    rintro e w2 ⟨rfl, b2⟩
    have B2 := Lib.hid (B1.out.trans (b2.mono B1.out.size))
    clear b2 d0 d1 d2 d3 d4
    go_wp2_with fail
    go_ret
    exact ⟨by first | rfl | simp, B2.out⟩
set_option maxRecDepth 100000 in
set_option maxHeartbeats 4000000 in
theorem trIff_any (K : Option Addr) (kc : Nat) (x y : VA) (w : World) (hk : LiesVs w K [x, y])  : Calls Tryz.prog 125 #[.int .i64 36, .slice K 2 kc] w fun e w' => e = .returned (.bool (cmpV x.v y.v == 0)) ∧ RowKit.Below w.heap.size w w' := by
  obtain ⟨b, o, hb, ⟨c0, c1, c2, c3, c4⟩, ⟨d0, d1, d2, d3, d4⟩, hx0, hy0⟩ := kids2 hk
  subst hb
  have hdr : RowKit.Below w.heap.size w w.drew := ⟨rfl, rfl, rfl, Nat.le_refl _, fun _ _ => rfl⟩
  have hx := hx0.later hdr
  have hy := hy0.later hdr
  have HC := Lib.hid (sameV_any x y w.drew hx hy)
  have HD := Lib.hid hdr
  clear hk hx0 hy0 hx hy hdr 
  go_enter Tryz.func125, Tryz.ntmps125
  go_wp2_with fail
  go_region_with ((go_at_call 41; (refine HC.out.mono ?_); rintro e w4 ⟨rfl, b4⟩; have B4 := Lib.hid (HD.out.trans b4); clear b4))
  all_goals
    go_wp2_with fail
    go_ret
    exact ⟨rfl, B4.out⟩
set_option maxRecDepth 100000 in
set_option maxHeartbeats 4000000 in
theorem trEq_any (K : Option Addr) (kc : Nat) (x y : VA) (w : World) (hk : LiesVs w K [x, y])  : Calls Tryz.prog 125 #[.int .i64 37, .slice K 2 kc] w fun e w' => e = .returned (.bool (cmpV x.v y.v == 0)) ∧ RowKit.Below w.heap.size w w' := by
  obtain ⟨b, o, hb, ⟨c0, c1, c2, c3, c4⟩, ⟨d0, d1, d2, d3, d4⟩, hx0, hy0⟩ := kids2 hk
  subst hb
  have hdr : RowKit.Below w.heap.size w w.drew := ⟨rfl, rfl, rfl, Nat.le_refl _, fun _ _ => rfl⟩
  have hx := hx0.later hdr
  have hy := hy0.later hdr
  have HC := Lib.hid (sameV_any x y w.drew hx hy)
  have HD := Lib.hid hdr
  clear hk hx0 hy0 hx hy hdr 
  go_enter Tryz.func125, Tryz.ntmps125
  go_wp2_with fail
  go_region_with ((go_at_call 41; (refine HC.out.mono ?_); rintro e w4 ⟨rfl, b4⟩; have B4 := Lib.hid (HD.out.trans b4); clear b4))
  all_goals
    go_wp2_with fail
    go_ret
    exact ⟨rfl, B4.out⟩
set_option maxRecDepth 100000 in
set_option maxHeartbeats 4000000 in
theorem trMem_any (K : Option Addr) (kc : Nat) (x y : VA) (w : World) (hk : LiesVs w K [x, y]) (l1 : y.v.st.length ≤ 10000) (ha : AscI y.v.st) : Calls Tryz.prog 125 #[.int .i64 40, .slice K 2 kc] w fun e w' => e = .returned (.bool (decide (x.v.nu ∈ y.v.st))) ∧ RowKit.Below w.heap.size w w' := by
  obtain ⟨b, o, hb, ⟨c0, c1, c2, c3, c4⟩, ⟨d0, d1, d2, d3, d4⟩, hx0, hy0⟩ := kids2 hk
  subst hb
  have hdr : RowKit.Below w.heap.size w w.drew := ⟨rfl, rfl, rfl, Nat.le_refl _, fun _ _ => rfl⟩
  have hx := hx0.later hdr
  have hy := hy0.later hdr
  have HC := Lib.hid (hasV_any y x.v.nu w.drew hy l1 ha)
  have HD := Lib.hid hdr
  clear hk hx0 hy0 hx hy hdr ha
  go_enter Tryz.func125, Tryz.ntmps125
  go_wp2_with fail
  go_region_with ((go_at_call 151; (refine HC.out.mono ?_); rintro e w4 ⟨rfl, b4⟩; have B4 := Lib.hid (HD.out.trans b4); clear b4))
  all_goals
    go_wp2_with fail
    go_ret
    exact ⟨rfl, B4.out⟩
set_option maxRecDepth 100000 in
set_option maxHeartbeats 4000000 in
theorem trLe_any (K : Option Addr) (kc : Nat) (x y : VA) (w : World) (hk : LiesVs w K [x, y]) : Calls Tryz.prog 125 #[.int .i64 38, .slice K 2 kc] w fun e w' => e = .returned (.bool (decide (x.v.nu ≤ y.v.nu))) ∧ RowKit.Below w.heap.size w w' := by
  obtain ⟨b, o, hb, ⟨c0, c1, c2, c3, c4⟩, ⟨d0, d1, d2, d3, d4⟩, _, _⟩ := kids2 hk
  subst hb
  clear hk
  go_enter Tryz.func125, Tryz.ntmps125
  go_wp2_with fail
  go_region
  all_goals
    go_wp2_with fail
    go_ret
    exact ⟨rfl, (RowKit.Below.refl _ _).drew⟩
set_option maxRecDepth 100000 in
set_option maxHeartbeats 4000000 in
theorem trLt_any (K : Option Addr) (kc : Nat) (x y : VA) (w : World) (hk : LiesVs w K [x, y]) : Calls Tryz.prog 125 #[.int .i64 39, .slice K 2 kc] w fun e w' => e = .returned (.bool (decide (x.v.nu < y.v.nu))) ∧ RowKit.Below w.heap.size w w' := by
  obtain ⟨b, o, hb, ⟨c0, c1, c2, c3, c4⟩, ⟨d0, d1, d2, d3, d4⟩, _, _⟩ := kids2 hk
  subst hb
  clear hk
  go_enter Tryz.func125, Tryz.ntmps125
  go_wp2_with fail
  go_region
  all_goals
    go_wp2_with fail
    go_ret
    exact ⟨rfl, (RowKit.Below.refl _ _).drew⟩
set_option maxRecDepth 100000 in
set_option maxHeartbeats 4000000 in
theorem trSub_any (K : Option Addr) (kc : Nat) (x y : VA) (w : World) (hk : LiesVs w K [x, y]) (l1 : x.v.st.length ≤ 10000) (l2 : y.v.st.length ≤ 10000) (ha : AscI y.v.st) : Calls Tryz.prog 125 #[.int .i64 41, .slice K 2 kc] w fun e w' => e = .returned (.bool (((x.v.st.filter fun n => decide (n ∈ y.v.st)).length : Int) == (x.v.st.length : Int))) ∧ RowKit.Below w.heap.size w w' := by
  obtain ⟨b, o, hb, X, Y, hx0, hy0⟩ := kids2 hk
  subst hb
  have hdr : RowKit.Below w.heap.size w w.drew := ⟨rfl, rfl, rfl, Nat.le_refl _, fun _ _ => rfl⟩
  have HC := Lib.hid (chosenIn_any x.v.st y x.a1 x.c1 w.drew (hx0.later hdr).st l1 (hy0.later hdr) l2 ha)
  have HD := Lib.hid hdr
  have KX := Lib.hid (fun W' (h : RowKit.Below w.drew.heap.size w.drew W') => (X.later hdr).later h)
  have hm := hmf
  obtain ⟨c0, c1, c2, c3, c4⟩ := X
  obtain ⟨d0, d1, d2, d3, d4⟩ := Y
  clear hk hx0 hy0 hdr ha
  generalize (x.v.st.filter fun n => decide (n ∈ y.v.st)) = l at *
  go_enter Tryz.func125, Tryz.ntmps125
  go_wp2_with fail
  go_region_with ((go_at_call 150; (refine HC.out.mono ?_); rintro e w4 ⟨A', c', rfl, _, _, b4⟩; have B4 := Lib.hid (HD.out.trans b4); obtain ⟨e0, e1, e2, e3, e4⟩ := KX.out _ b4; clear b4))
  all_goals
    go_wp2_with fail
    go_ret
    exact ⟨rfl, B4.out⟩
end Go.Proofs.YtmeeombadkgneaaGreat
