/-
  What the document's own Conj returns; conditions: the nodes lie in memory and none of their lists is too long to be made.
-/
import Derived.Test.YtbadegimohdfeaaJoin
namespace Go.Proofs.Ytbadegimohdfeaa
open Go.RowKit Go.Shelf

attribute [local go_sem] Oper.semAt_some

set_option maxRecDepth 100000 in
set_option maxHeartbeats 4000000 in
theorem refJoin_any (l : List Nd) (A : Option Addr) (cap : Nat) (w : World) (hL : Lies w A cap l) (hl : l.length ≤ 1048576) (hcap : l.length ≤ cap) (hsh : ∀ y ∈ l, Short y) :
    Calls Try.prog 33 #[.slice A l.length cap] w (RetN w (joinL l)) := by
  have hsh := Lib.hid hsh
  have HL := Lib.hid hL
  clear hL
  by_cases h0 : l = []
  · subst h0
    have h0' : (((List.length (α := Nd) []) : Int) == 0) = true := rfl
    go_enter Try.func33, Try.ntmps33
    go_wp2_with fail
    refine bodyPost_ret (v := nv 30 0 ⟨#[]⟩ 0 (.slice none 0 0)) ?_ rfl ⟨none, 0, rfl, fun W _ => lies_nil W _ _, fine_true, (Below.refl _ _).alloc (Nat.le_refl _) _⟩
    simp [results, Try.f33, go_sem]
  obtain ⟨x, xs, rfl⟩ := List.exists_cons_of_ne_nil h0
  have hB0 : Below w.heap.size w (w.alloc (.cells zero5 24)) := (Below.refl _ _).alloc (Nat.le_refl _) _
  have hz0 := heap_alloc_new w (.cells zero5 24)
  obtain ⟨b, o, A', C', rfl, g5, hK⟩ := HL.out.kid (i := 0) (by simp)
  have hfx := HL.out.fine (i := 0) (by simp)
  simp only [List.getElem_cons_zero, Nat.zero_mul, Nat.add_zero] at g5 hK hfx
  obtain ⟨a0, a1, a2, a3, a4⟩ := g5.later hB0
  have C0 := Lib.hid (same_any x A' C' _ (hK.later hB0) hfx (hsh.out x (by simp)))
  have HB0 := Lib.hid hB0
  have HZ0 := Lib.hid hz0
  have hs0 : (w.alloc (.cells zero5 24)).heap.size = w.heap.size + 1 := by simp
  have hn0 : (((x :: xs).length : Int) == 0) = false := by simp; omega
  rw [List.length_cons] at hl hcap
  clear g5 hK hB0 hz0
  go_enter Try.func33, Try.ntmps33
  go_wp2_with fail
  generalize w.alloc (.cells zero5 24) = W0 at *
  refine C0.out.mono ?_
  rintro e w1 ⟨A1, c1, rfl, hrob, hFu, hb⟩
  have HR := Lib.hid hrob
  have HBB := Lib.hid hb
  have HB := Lib.hid (HB0.out.trans (hb.mono HB0.out.size))
  have hs1 := hb.size
  have mixed : Try.prog.follows Departure.mixedOrders = true := by kernel_rfl
  clear hrob hb a0 a1 a2 a3 a4 C0
  go_wp2_with fail
  all_goals
    have hr2 := heap_alloc_new w1 (.cells #[.int .i64 x.op, .int .i64 x.so, .string x.nm, .int .i64 x.nu, .slice A1 x.ks.length c1] 24)
    have hb2 : Below w1.heap.size w1 (w1.alloc (.cells #[.int .i64 x.op, .int .i64 x.so, .string x.nm, .int .i64 x.nu, .slice A1 x.ks.length c1] 24)) := (Below.refl _ _).alloc (Nat.le_refl _) _
    have hs2 : (w1.alloc (.cells #[.int .i64 x.op, .int .i64 x.so, .string x.nm, .int .i64 x.nu, .slice A1 x.ks.length c1] 24)).heap.size = w1.heap.size + 1 := by simp
    have hj2 : JoinAt (w.heap.size + 1) w1.heap.size w1 (w1.alloc (.cells #[.int .i64 x.op, .int .i64 x.so, .string x.nm, .int .i64 x.nu, .slice A1 x.ks.length c1] 24)) x :=
      ⟨A1, c1, hr2, fun W hW => HR.out W (fun k h1 h2 _ => (hW k (by omega) (by omega) (by simp; omega)).trans (Below.heap_alloc _ _ _ h2)), hFu, hb2⟩
    have HJ2 := Lib.hid hj2
    clear hj2 hr2 hb2
    generalize w1.alloc (.cells #[.int .i64 x.op, .int .i64 x.so, .string x.nm, .int .i64 x.nu, .slice A1 x.ks.length c1] 24) = W2 at *
    go_loopw [17] (fun i wr => ∃ k : Nat, k ≤ xs.length ∧ i = .int .i64 k ∧ Hid (JoinAt (w.heap.size + 1) w1.heap.size w1 wr ((xs.take k).foldl andN x))) (fun i _ => xs.length - (intOf i).toNat)
    case atStart => exact ⟨0, Nat.zero_le _, rfl, HJ2⟩
    case round =>
      obtain ⟨k, hk, rfl, hj⟩ := hrel
      by_cases hlt : k < xs.length
      · try (exfalso; omega)
        all_goals
          obtain ⟨A4, c4, hrb, hro, hfu, hBj⟩ := hj
          obtain ⟨b', o', A5, C5, he, g5, hK⟩ := HL.out.kid (i := k + 1) (by simp; omega)
          cases he
          have hfq := HL.out.fine (i := k + 1) (by simp; omega)
          simp only [List.getElem_cons_succ] at g5 hK hfq
          have hshq := hsh.out xs[k] (by simp)
          have htk := Lib.hid (foldl_take_snoc x xs hlt)
          have hbw : Below w.heap.size w wr := HB.out.trans (hBj.mono HB.out.size)
          have e5 : o + (k + 1) * 5 = o + 5 + k * 5 := by omega
          rw [e5] at g5
          obtain ⟨a0, a1, a2, a3, a4⟩ := g5.later hbw
          have HBW := Lib.hid hbw
          have HBJ := Lib.hid hBj
          have HRO := Lib.hid hro
          have hszr := hBj.size
          have hrl := (Array.getElem?_eq_some_iff.1 hrb).1
          have HRB := Lib.hid hrb
          generalize (xs.take k).foldl andN x = u at *
          generalize xs[k] = q at *
          have C := Lib.hid (fun W' (h : Below wr.heap.size wr W') => same_any q A5 C5 W' (hK.later (HBW.out.trans (h.mono HBW.out.size))) hfq hshq)
          obtain ⟨r0, r1, r2, r3, r4⟩ : wr.cell? ⟨w1.heap.size, 0, none⟩ = some (.int .i64 u.op) ∧ wr.cell? ⟨w1.heap.size, 1, none⟩ = some (.int .i64 u.so) ∧ wr.cell? ⟨w1.heap.size, 2, none⟩ = some (.string u.nm) ∧ wr.cell? ⟨w1.heap.size, 3, none⟩ = some (.int .i64 u.nu) ∧ wr.cell? ⟨w1.heap.size, 4, none⟩ = some (.slice A4 u.ks.length c4) := ⟨cell_row hrb (i := 0) rfl, cell_row hrb (i := 1) rfl, cell_row hrb (i := 2) rfl, cell_row hrb (i := 3) rfl, cell_row hrb (i := 4) rfl⟩
          clear g5 hK hbw hBj hro hrb e5 HL hsh HR HBB HB HJ2
          go_wp2_with fail
          have BP := Lib.hid (fun O => (((Below.refl wr.heap.size wr).alloc (Nat.le_refl _) O).drew : Below wr.heap.size wr (wr.alloc O).drew))
          go_region_with_o (first
            | (go_at_call 60
               refine (C.out _ ?_).mono ?_
               exact BP.out _
               rintro e w3 ⟨A3, c3, rfl, hrob3, hfu3, hb3⟩
               have hbw3 : Below wr.heap.size wr w3 := (BP.out _).trans (hb3.mono (BP.out _).size)
               have hrb3 := (hbw3.block _ hrl).trans HRB.out
               obtain ⟨s0, s1, s2, s3, s4⟩ : w3.cell? ⟨w1.heap.size, 0, none⟩ = some (.int .i64 u.op) ∧ w3.cell? ⟨w1.heap.size, 1, none⟩ = some (.int .i64 u.so) ∧ w3.cell? ⟨w1.heap.size, 2, none⟩ = some (.string u.nm) ∧ w3.cell? ⟨w1.heap.size, 3, none⟩ = some (.int .i64 u.nu) ∧ w3.cell? ⟨w1.heap.size, 4, none⟩ = some (.slice A4 u.ks.length c4) := ⟨cell_row hrb3 (i := 0) rfl, cell_row hrb3 (i := 1) rfl, cell_row hrb3 (i := 2) rfl, cell_row hrb3 (i := 3) rfl, cell_row hrb3 (i := 4) rfl⟩)
            | (go_at_call 61
               refine (two_any 33 u q A4 A3 c4 c3 _).mono ?_
               rintro e w4 ⟨kb, rfl, hk4, hkb4, hb4⟩
               have hrb4 := (hb4.block _ (Nat.lt_of_lt_of_le hrl hbw3.size)).trans hrb3
               have f0 := frozen_of_row w4 w1.heap.size 0 _ _ hrb4
               have f1 := frozen_of_row w4 w1.heap.size 1 _ _ hrb4
               have f2 := frozen_of_row w4 w1.heap.size 2 _ _ hrb4
               have f3 := frozen_of_row w4 w1.heap.size 3 _ _ hrb4
               have f4 := frozen_of_row w4 w1.heap.size 4 _ _ hrb4
               obtain ⟨v0, v1, v2, v3, v4⟩ : w4.cell? ⟨w1.heap.size, 0, none⟩ = some (.int .i64 u.op) ∧ w4.cell? ⟨w1.heap.size, 1, none⟩ = some (.int .i64 u.so) ∧ w4.cell? ⟨w1.heap.size, 2, none⟩ = some (.string u.nm) ∧ w4.cell? ⟨w1.heap.size, 3, none⟩ = some (.int .i64 u.nu) ∧ w4.cell? ⟨w1.heap.size, 4, none⟩ = some (.slice A4 u.ks.length c4) := ⟨cell_row hrb4 (i := 0) rfl, cell_row hrb4 (i := 1) rfl, cell_row hrb4 (i := 2) rfl, cell_row hrb4 (i := 3) rfl, cell_row hrb4 (i := 4) rfl⟩))
          all_goals
            have hsz3 := hbw3.size
            have hB3 := hbw3.trans (hb4.mono hsz3)
            have hnew : ∀ O, wr.heap.size ≤ (wr.alloc O).drew.heap.size := fun O => (BP.out O).size
            have HSTEP := Lib.hid (join_step (n0 := w.heap.size + 1) hk4 hrb4 (by omega) (by omega) ((HRO.out.later hbw3).later hb4) ((hrob3.newNone (n0 := w.heap.size + 1) (row := some w1.heap.size) (fun g e => by cases e; exact Nat.lt_of_lt_of_le hrl (hnew _)) (Nat.le_trans (by omega) (hnew _))).later hb4) hfu hfu3 (HBJ.out.trans (hB3.mono hszr)))
            clear hk4 hkb4 hB3 hnew hrob3 hb3 hbw3 hrb3 hb4 hrb4 s0 s1 s2 s3 s4 f0 f1 f2 f3 f4 v0 v1 v2 v3 v4
            go_wp2_with fail
            go_roundw
            case rel => exact ⟨k + 1, by omega, by go_num, by rw [htk.out]; exact HSTEP⟩
            case measure => simp [intOf]; omega
      · rw [List.take_of_length_le (by omega)] at hj
        obtain ⟨A4, c4, hrb, hro, hfu, hBj⟩ := hj
        have hv : joinL (x :: xs) = xs.foldl andN x := rfl
        have HV := Lib.hid hv
        clear hv
        generalize xs.foldl andN x = v at *
        have hbw : Below W0.heap.size W0 wr := HBB.out.trans (hBj.mono hs1)
        have hz := (hbw.block w.heap.size (by omega)).trans HZ0.out
        obtain ⟨r0, r1, r2, r3, r4⟩ : wr.cell? ⟨w1.heap.size, 0, none⟩ = some (.int .i64 v.op) ∧ wr.cell? ⟨w1.heap.size, 1, none⟩ = some (.int .i64 v.so) ∧ wr.cell? ⟨w1.heap.size, 2, none⟩ = some (.string v.nm) ∧ wr.cell? ⟨w1.heap.size, 3, none⟩ = some (.int .i64 v.nu) ∧ wr.cell? ⟨w1.heap.size, 4, none⟩ = some (.slice A4 v.ks.length c4) := ⟨cell_row hrb (i := 0) rfl, cell_row hrb (i := 1) rfl, cell_row hrb (i := 2) rfl, cell_row hrb (i := 3) rfl, cell_row hrb (i := 4) rfl⟩
        have z0 := cell_row hz (i := 0) rfl
        have z1 := cell_row hz (i := 1) rfl
        have z2 := cell_row hz (i := 2) rfl
        have z3 := cell_row hz (i := 3) rfl
        have z4 := cell_row hz (i := 4) rfl
        have f0 := frozen_of_row wr w.heap.size 0 _ _ hz
        have f1 := frozen_of_row wr w.heap.size 1 _ _ hz
        have f2 := frozen_of_row wr w.heap.size 2 _ _ hz
        have f3 := frozen_of_row wr w.heap.size 3 _ _ hz
        have f4 := frozen_of_row wr w.heap.size 4 _ _ hz
        have Hfin := Lib.hid (set5_same (.int .i64 v.op) (.int .i64 v.so) (.string v.nm) (.int .i64 v.nu) (.slice A4 v.ks.length c4) hz)
        have HRF := Lib.hid (join_end (rr := w.heap.size) hro (by omega) (.int .i64 v.op) (.int .i64 v.so) (.string v.nm) (.int .i64 v.nu) (.slice A4 v.ks.length c4))
        have HBF := Lib.hid (Below.set5 (HB0.out.trans (hbw.mono HB0.out.size)) (b := w.heap.size) (by omega) (.int .i64 v.op) (.int .i64 v.so) (.string v.nm) (.int .i64 v.nu) (.slice A4 v.ks.length c4))
        clear hbw hz hro hrb hBj HBB HB HR HL hsh HJ2
        go_wp2_with fail
        have hf := Hfin.out
        have y0 := cell_row hf (i := 0) rfl
        have y1 := cell_row hf (i := 1) rfl
        have y2 := cell_row hf (i := 2) rfl
        have y3 := cell_row hf (i := 3) rfl
        have y4 := cell_row hf (i := 4) rfl
        rw [HV.out]
        refine bodyPost_ret (v := nv v.op v.so v.nm v.nu (.slice A4 v.ks.length c4)) ?_ rfl ⟨A4, c4, rfl, HRF.out, hfu, HBF.out⟩
        clear hf Hfin HRF HBF
        simp [results, Try.f33, go_sem, y0, y1, y2, y3, y4]
end Go.Proofs.Ytbadegimohdfeaa
