/-
  What integer returns at each operator; conditions: the kids' values lie in memory, their numbers are within their bounds.
  What elements returns at each operator; conditions: the kids' values lie in memory, their sets are ascending.
-/
import Derived.Test.YtmeeombadkgneaaGreatZEv5
namespace Go.Proofs.YtmeeombadkgneaaGreat
open Go.Proofs Go.RowKit Go.Shelf Go.Sort Go.Lib

attribute [local go_sem] Oper.semAt_some
theorem five_norm {w : World} {b o : Nat} {x : VA} (h : FiveV w b o x) {o' : Nat} (e : o = o') : FiveV w b o' x := by subst e; exact h
theorem kids1 {w : World} {K : Option Addr} {x : VA} (h : LiesVs w K [x]) : ∃ b o, K = some ⟨b, o, none⟩ ∧ FiveV w b o x ∧ LiesV w x := by
  obtain ⟨b, o, ha, hc⟩ := h.at_
  exact ⟨b, o, ha (by simp), five_norm (hc 0 (by simp)) (by omega), h.each 0 (by simp)⟩
theorem kids2 {w : World} {K : Option Addr} {x y : VA} (h : LiesVs w K [x, y]) : ∃ b o, K = some ⟨b, o, none⟩ ∧ FiveV w b o x ∧ FiveV w b (o + 5) y ∧ LiesV w x ∧ LiesV w y := by
  obtain ⟨b, o, ha, hc⟩ := h.at_
  exact ⟨b, o, ha (by simp), five_norm (hc 0 (by simp)) (by omega), five_norm (hc 1 (by simp)) (by omega), h.each 0 (by simp), h.each 1 (by simp)⟩
theorem kids3 {w : World} {K : Option Addr} {x y z : VA} (h : LiesVs w K [x, y, z]) : ∃ b o, K = some ⟨b, o, none⟩ ∧ FiveV w b o x ∧ FiveV w b (o + 5) y ∧ FiveV w b (o + 10) z ∧ LiesV w x ∧ LiesV w y ∧ LiesV w z := by
  obtain ⟨b, o, ha, hc⟩ := h.at_
  exact ⟨b, o, ha (by simp), five_norm (hc 0 (by simp)) (by omega), five_norm (hc 1 (by simp)) (by omega), five_norm (hc 2 (by simp)) (by omega), h.each 0 (by simp), h.each 1 (by simp), h.each 2 (by simp)⟩
theorem bnd_of {n : Int} (h : bndB n = true) : -1152921504606846976 ≤ n ∧ n ≤ 1152921504606846976 := of_decide_eq_true h
theorem wrap_in {n : Int} (h1 : -9223372036854775808 ≤ n) (h2 : n ≤ 9223372036854775807) : IntKind.i64.wrap n = n := by simp [IntKind.wrap, IntKind.bits, IntKind.signed]; omega
abbrev boxN (op so : Int) (nm : ByteArray) (nu : Int) (ks : Value) : Obj := .cells #[.int .i64 op, .int .i64 so, .string nm, .int .i64 nu, ks] 44
set_option maxRecDepth 100000 in
set_option maxHeartbeats 4000000 in
theorem intAdd_any (so nu : Int) (nm : ByteArray) (C K : Option Addr) (cn cc kc : Nat) (x y : VA) (w : World) (hk : LiesVs w K [x, y]) (hx : bndB x.v.nu = true) (hy : bndB y.v.nu = true) :
    Calls Tryz.prog 123 #[nv 4 so nm nu (.slice C cn cc), .slice K 2 kc] w fun e w' => e = .returned (.int .i64 (x.v.nu + y.v.nu)) ∧ RowKit.Below w.heap.size w w' := by
  have HB := Lib.hid (show RowKit.Below w.heap.size w (w.alloc (boxN 4 so nm nu (.slice C cn cc))) from (RowKit.Below.refl _ _).alloc (Nat.le_refl _) _)
  obtain ⟨b, o, rfl, ⟨c0, c1, c2, c3, c4⟩, ⟨d0, d1, d2, d3, d4⟩, _, _⟩ := kids2 (hk.later HB.out)
  obtain ⟨h1, h2⟩ := bnd_of hx
  obtain ⟨h3, h4⟩ := bnd_of hy
  have hw : IntKind.i64.wrap (x.v.nu + y.v.nu) = x.v.nu + y.v.nu := wrap_in (by omega) (by omega)
  clear hk hx hy h1 h2 h3 h4
  go_enter Tryz.func123, Tryz.ntmps123
  go_wp2_with fail
  go_region
  all_goals
    go_wp2_with fail
    go_ret
    exact ⟨by first | rfl | rw [hw], HB.out.drew⟩
set_option maxRecDepth 100000 in
set_option maxHeartbeats 4000000 in
theorem intSub_any (so nu : Int) (nm : ByteArray) (C K : Option Addr) (cn cc kc : Nat) (x y : VA) (w : World) (hk : LiesVs w K [x, y]) (hx : bndB x.v.nu = true) (hy : bndB y.v.nu = true) :
    Calls Tryz.prog 123 #[nv 5 so nm nu (.slice C cn cc), .slice K 2 kc] w fun e w' => e = .returned (.int .i64 (x.v.nu - y.v.nu)) ∧ RowKit.Below w.heap.size w w' := by
  have HB := Lib.hid (show RowKit.Below w.heap.size w (w.alloc (boxN 5 so nm nu (.slice C cn cc))) from (RowKit.Below.refl _ _).alloc (Nat.le_refl _) _)
  obtain ⟨b, o, rfl, ⟨c0, c1, c2, c3, c4⟩, ⟨d0, d1, d2, d3, d4⟩, _, _⟩ := kids2 (hk.later HB.out)
  obtain ⟨h1, h2⟩ := bnd_of hx
  obtain ⟨h3, h4⟩ := bnd_of hy
  have hw : IntKind.i64.wrap (x.v.nu - y.v.nu) = x.v.nu - y.v.nu := wrap_in (by omega) (by omega)
  clear hk hx hy h1 h2 h3 h4
  go_enter Tryz.func123, Tryz.ntmps123
  go_wp2_with fail
  go_region
  all_goals
    go_wp2_with fail
    go_ret
    exact ⟨by first | rfl | rw [hw], HB.out.drew⟩
set_option maxRecDepth 100000 in
set_option maxHeartbeats 4000000 in
theorem intNum_any (so nu : Int) (nm : ByteArray) (C K : Option Addr) (cn cc kc : Nat)  (w : World)  :
    Calls Tryz.prog 123 #[nv 2 so nm nu (.slice C cn cc), .slice K 0 kc] w fun e w' => e = .returned (.int .i64 (nu)) ∧ RowKit.Below w.heap.size w w' := by
  have HB := Lib.hid (show RowKit.Below w.heap.size w (w.alloc (boxN 2 so nm nu (.slice C cn cc))) from (RowKit.Below.refl _ _).alloc (Nat.le_refl _) _)
  go_enter Tryz.func123, Tryz.ntmps123
  go_wp2_with fail
  go_ret
  exact ⟨rfl, HB.out⟩
set_option maxRecDepth 100000 in
set_option maxHeartbeats 4000000 in
theorem intNeg_any (so nu : Int) (nm : ByteArray) (C K : Option Addr) (cn cc kc : Nat) (x : VA) (w : World) (hk : LiesVs w K [x]) (hx : bndB x.v.nu = true) :
    Calls Tryz.prog 123 #[nv 6 so nm nu (.slice C cn cc), .slice K 1 kc] w fun e w' => e = .returned (.int .i64 (-x.v.nu)) ∧ RowKit.Below w.heap.size w w' := by
  have HB := Lib.hid (show RowKit.Below w.heap.size w (w.alloc (boxN 6 so nm nu (.slice C cn cc))) from (RowKit.Below.refl _ _).alloc (Nat.le_refl _) _)
  obtain ⟨b, o, rfl, ⟨c0, c1, c2, c3, c4⟩, _⟩ := kids1 (hk.later HB.out)
  obtain ⟨h1, h2⟩ := bnd_of hx
  have hw : IntKind.i64.wrap (-x.v.nu) = -x.v.nu := wrap_in (by omega) (by omega)
  have hw2 : wrap64 (-x.v.nu) = -x.v.nu := wrap64_in (by omega) (by omega)
  clear hk hx h1 h2
  go_enter Tryz.func123, Tryz.ntmps123
  go_wp2_with fail
  go_ret
  exact ⟨by first | rfl | (simp [hw, hw2]; done), HB.out⟩
set_option maxRecDepth 100000 in
set_option maxHeartbeats 4000000 in
theorem intLen_any (so nu : Int) (nm : ByteArray) (C K : Option Addr) (cn cc kc : Nat) (x : VA) (w : World) (hk : LiesVs w K [x]) :
    Calls Tryz.prog 123 #[nv 16 so nm nu (.slice C cn cc), .slice K 1 kc] w fun e w' => e = .returned (.int .i64 (x.v.nu)) ∧ RowKit.Below w.heap.size w w' := by
  have HB := Lib.hid (show RowKit.Below w.heap.size w (w.alloc (boxN 16 so nm nu (.slice C cn cc))) from (RowKit.Below.refl _ _).alloc (Nat.le_refl _) _)
  obtain ⟨b, o, rfl, ⟨c0, c1, c2, c3, c4⟩, _⟩ := kids1 (hk.later HB.out)
  clear hk
  go_enter Tryz.func123, Tryz.ntmps123
  go_wp2_with fail
  go_ret
  exact ⟨rfl, HB.out⟩
set_option maxRecDepth 100000 in
set_option maxHeartbeats 4000000 in
theorem intScale_any (so nu : Int) (nm : ByteArray) (C K : Option Addr) (cn cc kc : Nat) (x : VA) (w : World) (hk : LiesVs w K [x]) (hx : bndB x.v.nu = true) (hn1 : -1000000000000 ≤ nu) (hn2 : nu ≤ 1000000000000) :
    Calls Tryz.prog 123 #[nv 7 so nm nu (.slice C cn cc), .slice K 1 kc] w fun e w' => e = .returned (.int .i64 (mulI nu x.v.nu)) ∧ RowKit.Below w.heap.size w w' := by
  have HB := Lib.hid (show RowKit.Below w.heap.size w (w.alloc (boxN 7 so nm nu (.slice C cn cc))) from (RowKit.Below.refl _ _).alloc (Nat.le_refl _) _)
  obtain ⟨b, o, rfl, ⟨c0, c1, c2, c3, c4⟩, _⟩ := kids1 (hk.later HB.out)
  obtain ⟨h1, h2⟩ := bnd_of hx
  have HP := Lib.hid (fun W => product_any nu x.v.nu W hn1 hn2 h1 h2)
  clear hk hx h1 h2 hn1 hn2
  go_enter Tryz.func123, Tryz.ntmps123
  go_wp2_with fail
  go_region_with ((go_at_call 147; ((with_reducible refine (HP.out _).mono ?_); rintro e w4 ⟨rfl, rfl⟩)))
  all_goals
    go_wp2_with fail
    go_ret
    exact ⟨rfl, HB.out.drew⟩
set_option maxRecDepth 100000 in
set_option maxHeartbeats 4000000 in
theorem intSel_any (so nu : Int) (nm : ByteArray) (C K : Option Addr) (cn cc kc : Nat) (x y : VA) (w : World) (hk : LiesVs w K [x, y]) (hl : x.v.ix.length ≤ 10000) (ha : AscI x.v.ix) (hlen : x.v.xs.length = x.v.ix.length) :
    Calls Tryz.prog 123 #[nv 14 so nm nu (.slice C cn cc), .slice K 2 kc] w fun e w' => e = .returned (.int .i64 (atI x.v.ix x.v.xs y.v.nu)) ∧ RowKit.Below w.heap.size w w' := by
  have HB := Lib.hid (show RowKit.Below w.heap.size w (w.alloc (boxN 14 so nm nu (.slice C cn cc))) from (RowKit.Below.refl _ _).alloc (Nat.le_refl _) _)
  obtain ⟨b, o, rfl, ⟨c0, c1, c2, c3, c4⟩, ⟨d0, d1, d2, d3, d4⟩, hx, _⟩ := kids2 (hk.later HB.out)
  have hdr : RowKit.Below (w.alloc (boxN 14 so nm nu (.slice C cn cc))).heap.size (w.alloc (boxN 14 so nm nu (.slice C cn cc))) (w.alloc (boxN 14 so nm nu (.slice C cn cc))).drew := ⟨rfl, rfl, rfl, Nat.le_refl _, fun _ _ => rfl⟩
  have HP := Lib.hid (atV_any x y.v.nu _ (hx.later hdr) hl ha hlen)
  have HB2 := Lib.hid (HB.out.trans (hdr.mono HB.out.size))
  clear hk hx ha hlen hdr
  go_enter Tryz.func123, Tryz.ntmps123
  go_wp2_with fail
  go_region_with ((go_at_call 148; (refine HP.out.mono ?_); rintro e w4 ⟨rfl, b4⟩; have B4 := Lib.hid (HB2.out.trans (b4.mono HB2.out.size)); clear b4))
  all_goals
    go_wp2_with fail
    go_ret
    exact ⟨rfl, B4.out⟩
end Go.Proofs.YtmeeombadkgneaaGreat
namespace Go.Proofs.YtmeeombadkgneaaGreat
open Go.Proofs Go.RowKit Go.Shelf Go.Sort Go.Lib

attribute [local go_sem] Oper.semAt_some
/-- A function returns a list of numbers of new memory. -/
def RetI (w : World) (l : List Int) (e : Ending) (w' : World) : Prop := ∃ A c, e = .returned (.slice A l.length c) ∧ RobI w.heap.size w' A l ∧ l.length ≤ c ∧ RowKit.Below w.heap.size w w'
theorem RobI.less {n0 n1 : Nat} {w : World} {A : Option Addr} {l : List Int} (h : RobI n0 w A l) (hn : n1 ≤ n0) : RobI n1 w A l := fun W hW => h W fun k h1 h2 => hW k (Nat.le_trans hn h1) h2
set_option maxRecDepth 100000 in
set_option maxHeartbeats 4000000 in
theorem elEmpty_any (K : Option Addr) (kc : Nat) (w : World) : Calls Tryz.prog 124 #[.int .i64 9, .slice K 0 kc] w (RetI w []) := by
  have HB := Lib.hid (show RowKit.Below w.heap.size w (w.alloc (.cells #[.slice K 0 kc] 112)) from (RowKit.Below.refl _ _).alloc (Nat.le_refl _) _)
  go_enter Tryz.func124, Tryz.ntmps124
  go_wp2_with fail
  go_ret
  exact ⟨none, 0, rfl, fun W _ => ⟨0, 0, fun h => absurd h (by simp), fun i hi => absurd hi (by simp)⟩, Nat.le_refl _, HB.out⟩
set_option maxRecDepth 100000 in
set_option maxHeartbeats 4000000 in
theorem elSing_any (K : Option Addr) (kc : Nat) (x : VA) (w : World) (hk : LiesVs w K [x]) : Calls Tryz.prog 124 #[.int .i64 10, .slice K 1 kc] w (RetI w [x.v.nu]) := by
  have HB := Lib.hid (show RowKit.Below w.heap.size w (w.alloc (.cells #[.slice K 1 kc] 112)) from (RowKit.Below.refl _ _).alloc (Nat.le_refl _) _)
  have hk2 := hk.later HB.out
  obtain ⟨b, o, hb, ⟨c0, c1, c2, c3, c4⟩, _⟩ := kids1 hk2
  obtain ⟨b', o', hb', ⟨d0, d1, d2, d3, d4⟩, _⟩ := kids1 hk
  subst hb
  injection hb' with hb'
  injection hb' with hb1 hb2
  subst hb1 hb2
  have hlt : b < w.heap.size := World.block_lt_of_cell? _ _ d0
  have hne : ¬ b = w.heap.size := by omega
  clear hk hk2
  go_enter Tryz.func124, Tryz.ntmps124
  go_wp2_with fail
  go_ret
  refine ⟨_, 1, rfl, fun W hW => ⟨_, 0, fun _ => rfl, fun i hi => ?_⟩, Nat.le_refl _, HB.out.alloc HB.out.size _⟩
  have hi0 : i = 0 := by simp at hi; exact hi
  subst hi0
  have h1 := hW (w.heap.size + 1) (by omega) (by rw [one_size, one_size]; omega)
  have h2 := two_snd w (.cells #[.slice (some ⟨b, o, none⟩) 1 kc] 112) (.cells #[.int .i64 x.v.nu] 2)
  rw [h2] at h1
  have h3 := cell_row h1 (i := 0) rfl
  simpa using h3
set_option maxRecDepth 100000 in
set_option maxHeartbeats 4000000 in
theorem elCup_any (K : Option Addr) (kc : Nat) (x y : VA) (w : World) (hk : LiesVs w K [x, y]) (h1 : x.v.st.length ≤ x.c1) (h2 : y.v.st.length ≤ y.c1) (l1 : x.v.st.length ≤ 10000) (l2 : y.v.st.length ≤ 10000) : Calls Tryz.prog 124 #[.int .i64 11, .slice K 2 kc] w (RetI w (uniI x.v.st y.v.st)) := by
  obtain ⟨b, o, rfl, X, Y, hx0, hy0⟩ := kids2 hk
  have HB := Lib.hid (show RowKit.Below w.heap.size w (w.alloc (.cells #[.slice (some ⟨b, o, none⟩) 2 kc] 112)) from (RowKit.Below.refl _ _).alloc (Nat.le_refl _) _)
  obtain ⟨W, hW⟩ : ∃ W, w.alloc (.cells #[.slice (some ⟨b, o, none⟩) 2 kc] 112) = W := ⟨_, rfl⟩
  have hB : RowKit.Below w.heap.size w W := by rw [← hW]; exact HB.out
  have hrow : W.heap[w.heap.size]? = some (.cells #[.slice (some ⟨b, o, none⟩) 2 kc] 112 (0, 0)) := by rw [← hW]; exact heap_alloc_new _ _
  have z0 := cell_row hrow (i := 0) rfl
  have HK := Lib.hid (hk.later hB)
  obtain ⟨c0, c1, c2, c3, c4⟩ := X.later hB
  obtain ⟨d0, d1, d2, d3, d4⟩ := Y.later hB
  have hx := hx0.later hB
  have hy := hy0.later hB
  have hdr : RowKit.Below W.heap.size W W.drew := ⟨rfl, rfl, rfl, Nat.le_refl _, fun _ _ => rfl⟩
  have HW := Lib.hid hW
  have HBW := Lib.hid hB
  have HC := Lib.hid (union_any x.v.st y.v.st x.a1 y.a1 x.c1 y.c1 W.drew (hx.later hdr).st (hy.later hdr).st h1 h2 l1 l2)
  have hm := hmf
  clear HB hB hW hrow hk hx hy hx0 hy0 X Y h1 h2
  go_enter Tryz.func124, Tryz.ntmps124
  go_upto_region 1 with fail
  rw [HW.out]
  clear HW HK
  go_wp2_with fail
  go_region_with ((go_at_call 149; (refine HC.out.mono ?_); rintro e w4 ⟨A', c', rfl, hr, hc, b4⟩; have HR := Lib.hid hr; have HCC := Lib.hid hc; have B4 := Lib.hid b4; clear hr hc b4))
  all_goals
    go_wp2_with fail
    go_ret
    exact ⟨A', c', rfl, HR.out.less (by have := HBW.out.size; exact this), HCC.out, HBW.out.trans ((hdr.trans B4.out).mono HBW.out.size)⟩
set_option maxRecDepth 100000 in
set_option maxHeartbeats 4000000 in
theorem elCap_any (K : Option Addr) (kc : Nat) (x y : VA) (w : World) (hk : LiesVs w K [x, y]) (ha : AscI y.v.st) (l1 : x.v.st.length ≤ 10000) (l2 : y.v.st.length ≤ 10000) : Calls Tryz.prog 124 #[.int .i64 12, .slice K 2 kc] w (RetI w (x.v.st.filter fun n => decide (n ∈ y.v.st))) := by
  obtain ⟨b, o, rfl, X, Y, hx0, hy0⟩ := kids2 hk
  have HB := Lib.hid (show RowKit.Below w.heap.size w (w.alloc (.cells #[.slice (some ⟨b, o, none⟩) 2 kc] 112)) from (RowKit.Below.refl _ _).alloc (Nat.le_refl _) _)
  obtain ⟨W, hW⟩ : ∃ W, w.alloc (.cells #[.slice (some ⟨b, o, none⟩) 2 kc] 112) = W := ⟨_, rfl⟩
  have hB : RowKit.Below w.heap.size w W := by rw [← hW]; exact HB.out
  have hrow : W.heap[w.heap.size]? = some (.cells #[.slice (some ⟨b, o, none⟩) 2 kc] 112 (0, 0)) := by rw [← hW]; exact heap_alloc_new _ _
  have z0 := cell_row hrow (i := 0) rfl
  have HK := Lib.hid (hk.later hB)
  obtain ⟨c0, c1, c2, c3, c4⟩ := X.later hB
  obtain ⟨d0, d1, d2, d3, d4⟩ := Y.later hB
  have hx := hx0.later hB
  have hy := hy0.later hB
  have hdr : RowKit.Below W.heap.size W W.drew := ⟨rfl, rfl, rfl, Nat.le_refl _, fun _ _ => rfl⟩
  have HW := Lib.hid hW
  have HBW := Lib.hid hB
  have HC := Lib.hid (chosenIn_any x.v.st y x.a1 x.c1 W.drew (hx.later hdr).st l1 (hy.later hdr) l2 ha)
  have hm := hmf
  clear HB hB hW hrow hk hx hy hx0 hy0 X Y ha
  go_enter Tryz.func124, Tryz.ntmps124
  go_upto_region 1 with fail
  rw [HW.out]
  clear HW HK
  go_wp2_with fail
  go_region_with ((go_at_call 150; (refine HC.out.mono ?_); rintro e w4 ⟨A', c', rfl, hr, hc, b4⟩; have HR := Lib.hid hr; have HCC := Lib.hid hc; have B4 := Lib.hid b4; clear hr hc b4))
  all_goals
    go_wp2_with fail
    go_ret
    exact ⟨A', c', rfl, HR.out.less (by have := HBW.out.size; exact this), HCC.out, HBW.out.trans ((hdr.trans B4.out).mono HBW.out.size)⟩
set_option maxRecDepth 100000 in
set_option maxHeartbeats 4000000 in
theorem elMinus_any (K : Option Addr) (kc : Nat) (x y : VA) (w : World) (hk : LiesVs w K [x, y]) (ha : AscI y.v.st) (l1 : x.v.st.length ≤ 10000) (l2 : y.v.st.length ≤ 10000) : Calls Tryz.prog 124 #[.int .i64 13, .slice K 2 kc] w (RetI w (x.v.st.filter fun n => !decide (n ∈ y.v.st))) := by
  obtain ⟨b, o, rfl, X, Y, hx0, hy0⟩ := kids2 hk
  have HB := Lib.hid (show RowKit.Below w.heap.size w (w.alloc (.cells #[.slice (some ⟨b, o, none⟩) 2 kc] 112)) from (RowKit.Below.refl _ _).alloc (Nat.le_refl _) _)
  obtain ⟨W, hW⟩ : ∃ W, w.alloc (.cells #[.slice (some ⟨b, o, none⟩) 2 kc] 112) = W := ⟨_, rfl⟩
  have hB : RowKit.Below w.heap.size w W := by rw [← hW]; exact HB.out
  have hrow : W.heap[w.heap.size]? = some (.cells #[.slice (some ⟨b, o, none⟩) 2 kc] 112 (0, 0)) := by rw [← hW]; exact heap_alloc_new _ _
  have z0 := cell_row hrow (i := 0) rfl
  have HK := Lib.hid (hk.later hB)
  obtain ⟨c0, c1, c2, c3, c4⟩ := X.later hB
  obtain ⟨d0, d1, d2, d3, d4⟩ := Y.later hB
  have hx := hx0.later hB
  have hy := hy0.later hB
  have hdr : RowKit.Below W.heap.size W W.drew := ⟨rfl, rfl, rfl, Nat.le_refl _, fun _ _ => rfl⟩
  have HW := Lib.hid hW
  have HBW := Lib.hid hB
  have HC := Lib.hid (chosenOut_any x.v.st x y (some ⟨b, o, none⟩) kc w.heap.size x.a1 x.c1 W hx.st l1 HK.out z0 l2 ha)
  have hm := hmf
  clear HB hB hW hrow hk hx hy hx0 hy0 X Y ha
  go_enter Tryz.func124, Tryz.ntmps124
  go_upto_region 1 with fail
  rw [HW.out]
  clear HW HK
  go_wp2_with fail
  refine HC.out.mono ?_
  rintro e w4 ⟨A', c', rfl, hr, hc, b4⟩
  have HR := Lib.hid hr
  have HCC := Lib.hid hc
  have B4 := Lib.hid b4
  clear hr hc b4
  go_wp2_with fail
  go_ret
  exact ⟨A', c', rfl, HR.out.less HBW.out.size, HCC.out, HBW.out.trans (B4.out.mono HBW.out.size)⟩
end Go.Proofs.YtmeeombadkgneaaGreat
