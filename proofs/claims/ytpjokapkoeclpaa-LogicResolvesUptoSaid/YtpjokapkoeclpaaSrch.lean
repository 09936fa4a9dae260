/-
  What the library's BinarySearchFunc returns at a sorted list of declarations, and of nodes; conditions: the list lies in memory and is not too long.
-/
import Derived.Test.YtpjokapkoeclpaaIns
namespace Go.Proofs.Ytpjokapkoeclpaa
open Go.RowKit Go.Shelf

attribute [local go_sem] Oper.semAt_some
def hitB {α : Type} (l : List α) (cf : α → Int) (i : Nat) : Bool := match l[i]? with | some x => cf x == 0 | none => false
/-- A place in a sorted list has been found. -/
def SearchPost {α : Type} (l : List α) (cf : α → Int) (w : World) (e : Ending) (w' : World) : Prop :=
  ∃ i : Nat, i ≤ l.length ∧ e = .returned (.tuple #[.int .i64 i, .bool (hitB l cf i)]) ∧ (∀ t (_ : t < l.length), t < i → cf l[t] < 0) ∧ (∀ t (_ : t < l.length), i ≤ t → 0 ≤ cf l[t]) ∧ Below w.heap.size w w'
theorem hitB_in {α : Type} {l : List α} {cf : α → Int} {i : Nat} (h : i < l.length) : hitB l cf i = (cf l[i] == 0) := by unfold hitB; rw [List.getElem?_eq_getElem h]
theorem hitB_out {α : Type} {l : List α} {cf : α → Int} {i : Nat} (h : l.length ≤ i) : hitB l cf i = false := by unfold hitB; rw [List.getElem?_eq_none h]

set_option maxRecDepth 100000 in
set_option maxHeartbeats 4000000 in
theorem searchD_any (l : List (ByteArray × Int)) (d : ByteArray × Int) (A : Option Addr) (cap : Nat) (w : World) (hD : DeclsAt w A l) (hl : l.length ≤ 1048576)
    (hmono : ∀ i j (hi : i < l.length) (hj : j < l.length), i ≤ j → cmpD l[j].1 l[j].2 d.1 d.2 < 0 → cmpD l[i].1 l[i].2 d.1 d.2 < 0) :
    Calls Try.prog 90 #[.slice A l.length cap, dv d.1 d.2, .func (.func 58) #[] #[]] w (SearchPost l (fun e => cmpD e.1 e.2 d.1 d.2) w) := by
  have HB : Below w.heap.size w (w.alloc (.cells #[.string d.1, .int .i64 d.2] 58)) := (Below.refl _ _).alloc (Nat.le_refl _) _
  obtain ⟨b, hA, hc⟩ := hD.later HB
  have p0 : (w.alloc (.cells #[.string d.1, .int .i64 d.2] 58)).cell? ⟨w.heap.size, 0, none⟩ = some (.string d.1) := by simp [go_sem]
  have p1 : (w.alloc (.cells #[.string d.1, .int .i64 d.2] 58)).cell? ⟨w.heap.size, 1, none⟩ = some (.int .i64 d.2) := by simp [go_sem]
  have HBx := Lib.hid HB
  have HM := Lib.hid hmono
  have HC := Lib.hid hc
  clear HB hD hmono hc
  go_enter Try.func90, Try.ntmps90
  go_wp2_with fail
  generalize w.alloc (.cells #[.string d.1, .int .i64 d.2] 58) = W at *
  go_loopw [9, 10] (fun i j wr => ∃ lo hi : Nat, i = .int .i64 lo ∧ j = .int .i64 hi ∧ lo ≤ hi ∧ hi ≤ l.length ∧ Hid (∀ t (_ : t < l.length), t < lo → cmpD l[t].1 l[t].2 d.1 d.2 < 0) ∧ Hid (∀ t (_ : t < l.length), hi ≤ t → 0 ≤ cmpD l[t].1 l[t].2 d.1 d.2) ∧ Below W.heap.size W wr) (fun i j _ => (intOf j - intOf i).toNat)
  case atStart => exact ⟨0, l.length, rfl, rfl, Nat.zero_le _, Nat.le_refl _, Lib.hid (fun t _ h => by omega), Lib.hid (fun t h h' => by omega), Below.refl _ _⟩
  case round =>
    obtain ⟨lo, hi, rfl, rfl, hlh, hin, I1, I2, hB⟩ := hrel
    have l0 := cell_regrown (cellB hB (Nat.le_refl _) p0)
    have l1 := cell_regrown (cellB hB (Nat.le_refl _) p1)
    clear p0 p1
    by_cases hlt : lo < hi
    · have hm : (lo + hi) / 2 < l.length := by omega
      obtain rfl := hA (by omega)
      have k0 := cell_regrown (cellB hB (Nat.le_refl _) (HC.out ((lo + hi) / 2) hm).1)
      have k1 := cell_regrown (cellB hB (Nat.le_refl _) (HC.out ((lo + hi) / 2) hm).2)
      have cc := fun d1 os => Calls.regrown_of (d := d1) (os := os) (w := wr) (cmpDecls_any l[(lo + hi) / 2].1 d.1 l[(lo + hi) / 2].2 d.2 _)
      have CC := Lib.hid cc
      clear cc hA
      have I3 := Lib.hid (fun h => fun t (ht : t < l.length) (htt : t < (lo + hi) / 2 + 1) => HM.out t ((lo + hi) / 2) ht hm (by omega) h)
      have I4 := Lib.hid (fun (h : ¬ cmpD l[(lo + hi) / 2].1 l[(lo + hi) / 2].2 d.1 d.2 < 0) => fun t (ht : t < l.length) (htt : (lo + hi) / 2 ≤ t) => Int.not_lt.1 fun h' => h (HM.out ((lo + hi) / 2) t hm ht htt h'))
      generalize cmpD l[(lo + hi) / 2].1 l[(lo + hi) / 2].2 d.1 d.2 = x at *
      generalize l[(lo + hi) / 2] = q at *
      clear HM HC
      by_cases hx : x < 0
      · go_wp2_with fail
        refine wp_region_quiet_below (by kernel_rfl) (by kernel_rfl) ?_
        repeat (go_big_quiet_step (exact CC.out _ _))
        refine wpQuiet_nil ?_
        intro _ hw'
        obtain ⟨⟨dq, osq⟩, hw''⟩ := hw'
        subst hw''
        have hB1 := Lib.hid (hB.trans ((below_regrown wr dq osq).mono hB.size))
        clear k0 k1 l0 l1 hB
        go_wp2_with fail
        go_roundw
        case rel => exact ⟨(lo + hi) / 2 + 1, hi, by go_num, rfl, by omega, hin, I3.out hx, I2, hB1.out⟩
        case measure => simp [intOf]; omega
      · go_wp2_with fail
        refine wp_region_quiet_below (by kernel_rfl) (by kernel_rfl) ?_
        repeat (go_big_quiet_step (exact CC.out _ _))
        refine wpQuiet_nil ?_
        intro _ hw'
        obtain ⟨⟨dq, osq⟩, hw''⟩ := hw'
        subst hw''
        have hB1 := Lib.hid (hB.trans ((below_regrown wr dq osq).mono hB.size))
        clear k0 k1 l0 l1 hB
        go_wp2_with fail
        go_roundw
        case rel => exact ⟨lo, (lo + hi) / 2, rfl, by go_num, by omega, by omega, I1, I4.out hx, hB1.out⟩
        case measure => simp [intOf]; omega
    · obtain rfl : hi = lo := by omega
      by_cases hn : hi < l.length
      · have hh := hitB_in (l := l) (cf := fun e => cmpD e.1 e.2 d.1 d.2) hn
        obtain rfl := hA (by omega)
        have k0 := cell_regrown (cellB hB (Nat.le_refl _) (HC.out hi hn).1)
        have k1 := cell_regrown (cellB hB (Nat.le_refl _) (HC.out hi hn).2)
        have cc := fun d1 os => Calls.regrown_of (d := d1) (os := os) (w := wr) (cmpDecls_any l[hi].1 d.1 l[hi].2 d.2 _)
        have CC := Lib.hid cc
        have Hh := Lib.hid hh
        clear cc hA hh
        generalize cmpD l[hi].1 l[hi].2 d.1 d.2 = x at *
        generalize l[hi] = q at *
        clear HM HC
        go_wp2_with fail
        refine wp_region_quiet_below (by kernel_rfl) (by kernel_rfl) ?_
        repeat (go_big_quiet_step (exact CC.out _ _))
        refine wpQuiet_nil ?_
        intro _ hw'
        obtain ⟨⟨dq, osq⟩, hw''⟩ := hw'
        subst hw''
        have hB1 := Lib.hid (HBx.out.trans ((hB.trans ((below_regrown wr dq osq).mono hB.size)).mono HBx.out.size))
        clear k0 k1 l0 l1 hB
        go_wp2_with fail
        go_ret2
        exact ⟨hi, hin, by rw [Hh.out]; rfl, I1.out, I2.out, hB1.out⟩
      · have hh := Lib.hid (hitB_out (l := l) (cf := fun e => cmpD e.1 e.2 d.1 d.2) (i := hi) (by omega))
        clear HM HC hA
        go_wp2_with fail
        go_quiet (fail)
        have hB1 := Lib.hid (HBx.out.trans ((below_drewN hB nq).mono HBx.out.size))
        clear l0 l1 hB
        go_wp2_with fail
        go_ret2
        exact ⟨hi, hin, by rw [hh.out]; rfl, I1.out, I2.out, hB1.out⟩

set_option maxRecDepth 100000 in
set_option maxHeartbeats 4000000 in
theorem searchN_any (l : List Nd) (x : Nd) (A XA : Option Addr) (cap xc : Nat) (w : World) (hD : Lies w A cap l) (hX : Lies w XA xc x.ks) (hl : l.length ≤ 1048576)
    (hmono : ∀ i j (hi : i < l.length) (hj : j < l.length), i ≤ j → cmpN l[j] x < 0 → cmpN l[i] x < 0) :
    Calls Try.prog 94 #[.slice A l.length cap, nv x.op x.so x.nm x.nu (.slice XA x.ks.length xc), .func (.func 35) #[] #[]] w (SearchPost l (fun e => cmpN e x) w) := by
  have HB : Below w.heap.size w (w.alloc (boxO x (.slice XA x.ks.length xc))) := (Below.refl _ _).alloc (Nat.le_refl _) _
  have HL := Lib.hid (hD.later HB)
  have HX := Lib.hid (hX.later HB)
  have H5 := Lib.hid (five_new w x (.slice XA x.ks.length xc) 24)
  have HBx := Lib.hid HB
  have HM := Lib.hid hmono
  clear HB hD hmono hX
  go_enter Try.func94, Try.ntmps94
  go_wp2_with fail
  generalize w.alloc (boxO x (.slice XA x.ks.length xc)) = W at *
  go_loopw [9, 10] (fun i j wr => ∃ lo hi : Nat, i = .int .i64 lo ∧ j = .int .i64 hi ∧ lo ≤ hi ∧ hi ≤ l.length ∧ Hid (∀ t (_ : t < l.length), t < lo → cmpN l[t] x < 0) ∧ Hid (∀ t (_ : t < l.length), hi ≤ t → 0 ≤ cmpN l[t] x) ∧ Below W.heap.size W wr) (fun i j _ => (intOf j - intOf i).toNat)
  case atStart => exact ⟨0, l.length, rfl, rfl, Nat.zero_le _, Nat.le_refl _, Lib.hid (fun t _ h => by omega), Lib.hid (fun t h h' => by omega), Below.refl _ _⟩
  case round =>
    obtain ⟨lo, hi, rfl, rfl, hlh, hin, I1, I2, hB⟩ := hrel
    have p5 := H5.out.later hB
    have l0 := cell_regrown p5.c0
    have l1 := cell_regrown p5.c1
    have l2 := cell_regrown p5.c2
    have l3 := cell_regrown p5.c3
    have l4 := cell_regrown p5.c4
    clear p5
    by_cases hlt : lo < hi
    · have hm : (lo + hi) / 2 < l.length := by omega
      obtain ⟨b, o, A', C', rfl, g5, hK⟩ := HL.out.kid hm
      have q5 := g5.later hB
      have k0 := cell_regrown q5.c0
      have k1 := cell_regrown q5.c1
      have k2 := cell_regrown q5.c2
      have k3 := cell_regrown q5.c3
      have k4 := cell_regrown q5.c4
      have cc := fun d1 os => Calls.regrown_of (d := d1) (os := os) (w := wr) (compare_any l[(lo + hi) / 2] x A' XA C' xc _ (hK.later (hB.trans ((below_regrown wr d1 os).mono hB.size))) (HX.out.later (hB.trans ((below_regrown wr d1 os).mono hB.size))))
      have CC := Lib.hid cc
      clear cc g5 hK q5
      have I3 := Lib.hid (fun h => fun t (ht : t < l.length) (htt : t < (lo + hi) / 2 + 1) => HM.out t ((lo + hi) / 2) ht hm (by omega) h)
      have I4 := Lib.hid (fun (h : ¬ cmpN l[(lo + hi) / 2] x < 0) => fun t (ht : t < l.length) (htt : (lo + hi) / 2 ≤ t) => Int.not_lt.1 fun h' => h (HM.out ((lo + hi) / 2) t hm ht htt h'))
      generalize cmpN l[(lo + hi) / 2] x = y at *
      generalize l[(lo + hi) / 2] = q at *
      clear HM HL HX
      by_cases hx : y < 0
      · go_wp2_with fail
        refine wp_region_quiet_below (by kernel_rfl) (by kernel_rfl) ?_
        repeat (go_big_quiet_step (exact CC.out _ _))
        refine wpQuiet_nil ?_
        intro _ hw'
        obtain ⟨⟨dq, osq⟩, hw''⟩ := hw'
        subst hw''
        have hB1 := Lib.hid (hB.trans ((below_regrown wr dq osq).mono hB.size))
        clear k0 k1 k2 k3 k4 l0 l1 l2 l3 l4 hB
        go_wp2_with fail
        go_roundw
        case rel => exact ⟨(lo + hi) / 2 + 1, hi, by go_num, rfl, by omega, hin, I3.out hx, I2, hB1.out⟩
        case measure => simp [intOf]; omega
      · go_wp2_with fail
        refine wp_region_quiet_below (by kernel_rfl) (by kernel_rfl) ?_
        repeat (go_big_quiet_step (exact CC.out _ _))
        refine wpQuiet_nil ?_
        intro _ hw'
        obtain ⟨⟨dq, osq⟩, hw''⟩ := hw'
        subst hw''
        have hB1 := Lib.hid (hB.trans ((below_regrown wr dq osq).mono hB.size))
        clear k0 k1 k2 k3 k4 l0 l1 l2 l3 l4 hB
        go_wp2_with fail
        go_roundw
        case rel => exact ⟨lo, (lo + hi) / 2, rfl, by go_num, by omega, by omega, I1, I4.out hx, hB1.out⟩
        case measure => simp [intOf]; omega
    · obtain rfl : hi = lo := by omega
      by_cases hn : hi < l.length
      · have hh := hitB_in (l := l) (cf := fun e => cmpN e x) hn
        obtain ⟨b, o, A', C', rfl, g5, hK⟩ := HL.out.kid hn
        have q5 := g5.later hB
        have k0 := cell_regrown q5.c0
        have k1 := cell_regrown q5.c1
        have k2 := cell_regrown q5.c2
        have k3 := cell_regrown q5.c3
        have k4 := cell_regrown q5.c4
        have cc := fun d1 os => Calls.regrown_of (d := d1) (os := os) (w := wr) (compare_any l[hi] x A' XA C' xc _ (hK.later (hB.trans ((below_regrown wr d1 os).mono hB.size))) (HX.out.later (hB.trans ((below_regrown wr d1 os).mono hB.size))))
        have CC := Lib.hid cc
        have Hh := Lib.hid hh
        clear cc hh g5 hK q5
        generalize cmpN l[hi] x = y at *
        generalize l[hi] = q at *
        clear HM HL HX
        go_wp2_with fail
        refine wp_region_quiet_below (by kernel_rfl) (by kernel_rfl) ?_
        repeat (go_big_quiet_step (exact CC.out _ _))
        refine wpQuiet_nil ?_
        intro _ hw'
        obtain ⟨⟨dq, osq⟩, hw''⟩ := hw'
        subst hw''
        have hB1 := Lib.hid (HBx.out.trans ((hB.trans ((below_regrown wr dq osq).mono hB.size)).mono HBx.out.size))
        clear k0 k1 k2 k3 k4 l0 l1 l2 l3 l4 hB
        go_wp2_with fail
        go_ret2
        exact ⟨hi, hin, by rw [Hh.out]; rfl, I1.out, I2.out, hB1.out⟩
      · have hh := Lib.hid (hitB_out (l := l) (cf := fun e => cmpN e x) (i := hi) (by omega))
        clear HM HL HX
        go_wp2_with fail
        go_quiet (fail)
        have hB1 := Lib.hid (HBx.out.trans ((below_drewN hB nq).mono HBx.out.size))
        clear l0 l1 l2 l3 l4 hB
        go_wp2_with fail
        go_ret2
        exact ⟨hi, hin, by rw [hh.out]; rfl, I1.out, I2.out, hB1.out⟩
end Go.Proofs.Ytpjokapkoeclpaa
