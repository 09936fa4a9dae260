/-
  What the program's printable returns of every node; conditions: the tree lies in memory, and so do the package's tables.
-/
import Derived.Test.YtgkjcimgghflmaaGreatDoorYRpr
namespace Go.Proofs.YtgkjcimgghflmaaGreatDoor
open Go.RowKit Go.Shelf
attribute [local go_sem] Oper.semAt_some
set_option maxRecDepth 100000 in
set_option maxHeartbeats 4000000 in
theorem ff_b1_1 (t : Nd) (s : Value) (w : World)
    (o1 : (t.op == 1) = true)
    (hb : nameB t.nm = false)
    : Calls Tryz.prog 53 #[nv t.op t.so t.nm t.nu s] w fun e w' => e = .returned (.bool false) ∧ Below w.heap.size w w' := by
  have HB := Lib.hid ((Below.refl w.heap.size w).alloc (Nat.le_refl _) (.cells #[.int .i64 t.op, .int .i64 t.so, .string t.nm, .int .i64 t.nu, s] 27))
  have Hnm := Lib.hid hb
  clear hb
  go_enter Tryz.func53, Tryz.ntmps53
  go_wp2_with fail
  refine (name_any _ _).mono ?_
  rintro e w2 ⟨rfl, rfl⟩
  rw [Hnm.out]
  go_wp2_with fail
  go_ret
  exact ⟨rfl, HB.out⟩
set_option maxRecDepth 100000 in
set_option maxHeartbeats 4000000 in
theorem ff_b1_2 (t : Nd) (s : Value) (w : World)
    (o1 : (t.op == 1) = true)
    (hb : nameB t.nm = true)
    (hz : (t.nu == 0) = false)
    : Calls Tryz.prog 53 #[nv t.op t.so t.nm t.nu s] w fun e w' => e = .returned (.bool false) ∧ Below w.heap.size w w' := by
  have HB := Lib.hid ((Below.refl w.heap.size w).alloc (Nat.le_refl _) (.cells #[.int .i64 t.op, .int .i64 t.so, .string t.nm, .int .i64 t.nu, s] 27))
  have Hnm := Lib.hid hb
  clear hb
  go_enter Tryz.func53, Tryz.ntmps53
  go_wp2_with fail
  refine (name_any _ _).mono ?_
  rintro e w2 ⟨rfl, rfl⟩
  rw [Hnm.out]
  go_wp2_with fail
  go_ret
  exact ⟨rfl, HB.out⟩
set_option maxRecDepth 100000 in
set_option maxHeartbeats 4000000 in
theorem ff_b1_3 (t : Nd) (s : Value) (w : World)
    (o1 : (t.op == 1) = true)
    (hb : nameB t.nm = true)
    (hz : (t.nu == 0) = true)
    (h0 : ¬ 0 ≤ t.so)
    : Calls Tryz.prog 53 #[nv t.op t.so t.nm t.nu s] w fun e w' => e = .returned (.bool false) ∧ Below w.heap.size w w' := by
  have HB := Lib.hid ((Below.refl w.heap.size w).alloc (Nat.le_refl _) (.cells #[.int .i64 t.op, .int .i64 t.so, .string t.nm, .int .i64 t.nu, s] 27))
  have Hnm := Lib.hid hb
  clear hb
  go_enter Tryz.func53, Tryz.ntmps53
  go_wp2_with fail
  refine (name_any _ _).mono ?_
  rintro e w2 ⟨rfl, rfl⟩
  rw [Hnm.out]
  go_wp2_with fail
  go_ret
  exact ⟨rfl, HB.out⟩
set_option maxRecDepth 100000 in
set_option maxHeartbeats 4000000 in
theorem ff_b1_4 (t : Nd) (s : Value) (w : World)
    (o1 : (t.op == 1) = true)
    (hb : nameB t.nm = true)
    (hz : (t.nu == 0) = true)
    (h0 : 0 ≤ t.so)
    : Calls Tryz.prog 53 #[nv t.op t.so t.nm t.nu s] w fun e w' => e = .returned (.bool (decide (t.so ≤ 5))) ∧ Below w.heap.size w w' := by
  have HB := Lib.hid ((Below.refl w.heap.size w).alloc (Nat.le_refl _) (.cells #[.int .i64 t.op, .int .i64 t.so, .string t.nm, .int .i64 t.nu, s] 27))
  have Hnm := Lib.hid hb
  clear hb
  go_enter Tryz.func53, Tryz.ntmps53
  go_wp2_with fail
  refine (name_any _ _).mono ?_
  rintro e w2 ⟨rfl, rfl⟩
  rw [Hnm.out]
  go_wp2_with fail
  go_ret
  exact ⟨rfl, HB.out⟩
set_option maxRecDepth 100000 in
set_option maxHeartbeats 4000000 in
theorem ff_b3_1 (t : Nd) (s : Value) (w : World)
    (o1 : (t.op == 1) = false)
    (o3 : (t.op == 3) = true)
    (hb : nameB t.nm = false)
    : Calls Tryz.prog 53 #[nv t.op t.so t.nm t.nu s] w fun e w' => e = .returned (.bool false) ∧ Below w.heap.size w w' := by
  have HB := Lib.hid ((Below.refl w.heap.size w).alloc (Nat.le_refl _) (.cells #[.int .i64 t.op, .int .i64 t.so, .string t.nm, .int .i64 t.nu, s] 27))
  have Hnm := Lib.hid hb
  clear hb
  go_enter Tryz.func53, Tryz.ntmps53
  go_wp2_with fail
  refine (name_any _ _).mono ?_
  rintro e w2 ⟨rfl, rfl⟩
  rw [Hnm.out]
  go_wp2_with fail
  go_ret
  exact ⟨rfl, HB.out⟩
set_option maxRecDepth 100000 in
set_option maxHeartbeats 4000000 in
theorem ff_b3_2 (t : Nd) (s : Value) (w : World)
    (o1 : (t.op == 1) = false)
    (o3 : (t.op == 3) = true)
    (hb : nameB t.nm = true)
    (hz : (t.nu == 0) = false)
    : Calls Tryz.prog 53 #[nv t.op t.so t.nm t.nu s] w fun e w' => e = .returned (.bool false) ∧ Below w.heap.size w w' := by
  have HB := Lib.hid ((Below.refl w.heap.size w).alloc (Nat.le_refl _) (.cells #[.int .i64 t.op, .int .i64 t.so, .string t.nm, .int .i64 t.nu, s] 27))
  have Hnm := Lib.hid hb
  clear hb
  go_enter Tryz.func53, Tryz.ntmps53
  go_wp2_with fail
  refine (name_any _ _).mono ?_
  rintro e w2 ⟨rfl, rfl⟩
  rw [Hnm.out]
  go_wp2_with fail
  go_ret
  exact ⟨rfl, HB.out⟩
set_option maxRecDepth 100000 in
set_option maxHeartbeats 4000000 in
theorem ff_b3_3 (t : Nd) (s : Value) (w : World)
    (o1 : (t.op == 1) = false)
    (o3 : (t.op == 3) = true)
    (hb : nameB t.nm = true)
    (hz : (t.nu == 0) = true)
    (h0 : ¬ 0 ≤ t.so)
    : Calls Tryz.prog 53 #[nv t.op t.so t.nm t.nu s] w fun e w' => e = .returned (.bool false) ∧ Below w.heap.size w w' := by
  have HB := Lib.hid ((Below.refl w.heap.size w).alloc (Nat.le_refl _) (.cells #[.int .i64 t.op, .int .i64 t.so, .string t.nm, .int .i64 t.nu, s] 27))
  have Hnm := Lib.hid hb
  clear hb
  go_enter Tryz.func53, Tryz.ntmps53
  go_wp2_with fail
  refine (name_any _ _).mono ?_
  rintro e w2 ⟨rfl, rfl⟩
  rw [Hnm.out]
  go_wp2_with fail
  go_ret
  exact ⟨rfl, HB.out⟩
set_option maxRecDepth 100000 in
set_option maxHeartbeats 4000000 in
theorem ff_b3_4 (t : Nd) (s : Value) (w : World)
    (o1 : (t.op == 1) = false)
    (o3 : (t.op == 3) = true)
    (hb : nameB t.nm = true)
    (hz : (t.nu == 0) = true)
    (h0 : 0 ≤ t.so)
    : Calls Tryz.prog 53 #[nv t.op t.so t.nm t.nu s] w fun e w' => e = .returned (.bool (decide (t.so ≤ 5))) ∧ Below w.heap.size w w' := by
  have HB := Lib.hid ((Below.refl w.heap.size w).alloc (Nat.le_refl _) (.cells #[.int .i64 t.op, .int .i64 t.so, .string t.nm, .int .i64 t.nu, s] 27))
  have Hnm := Lib.hid hb
  clear hb
  go_enter Tryz.func53, Tryz.ntmps53
  go_wp2_with fail
  refine (name_any _ _).mono ?_
  rintro e w2 ⟨rfl, rfl⟩
  rw [Hnm.out]
  go_wp2_with fail
  go_ret
  exact ⟨rfl, HB.out⟩
set_option maxRecDepth 100000 in
set_option maxHeartbeats 4000000 in
theorem ff_m_1 (t : Nd) (s : Value) (w : World)
    (o1 : (t.op == 1) = false)
    (o3 : (t.op == 3) = false)
    (hnm : (t.nm.toList == []) = false)
    : Calls Tryz.prog 53 #[nv t.op t.so t.nm t.nu s] w fun e w' => e = .returned (.bool false) ∧ Below w.heap.size w w' := by
  have HB := Lib.hid ((Below.refl w.heap.size w).alloc (Nat.le_refl _) (.cells #[.int .i64 t.op, .int .i64 t.so, .string t.nm, .int .i64 t.nu, s] 27))
  go_enter Tryz.func53, Tryz.ntmps53
  go_wp2_with fail
  go_ret
  exact ⟨rfl, HB.out⟩
set_option maxRecDepth 100000 in
set_option maxHeartbeats 4000000 in
theorem ff_m_2 (t : Nd) (s : Value) (w : World)
    (o1 : (t.op == 1) = false)
    (o3 : (t.op == 3) = false)
    (hnm : (t.nm.toList == []) = true)
    (hs : (t.so == 0) = false)
    : Calls Tryz.prog 53 #[nv t.op t.so t.nm t.nu s] w fun e w' => e = .returned (.bool false) ∧ Below w.heap.size w w' := by
  have HB := Lib.hid ((Below.refl w.heap.size w).alloc (Nat.le_refl _) (.cells #[.int .i64 t.op, .int .i64 t.so, .string t.nm, .int .i64 t.nu, s] 27))
  go_enter Tryz.func53, Tryz.ntmps53
  go_wp2_with fail
  go_ret
  exact ⟨rfl, HB.out⟩
set_option maxRecDepth 100000 in
set_option maxHeartbeats 4000000 in
theorem ff_m2_1 (t : Nd) (s : Value) (w : World)
    (o1 : (t.op == 1) = false)
    (o3 : (t.op == 3) = false)
    (hnm : (t.nm.toList == []) = true)
    (hs : (t.so == 0) = true)
    (o2 : (t.op == 2) = true)
    (h1 : ¬ -1000000000000 ≤ t.nu)
    : Calls Tryz.prog 53 #[nv t.op t.so t.nm t.nu s] w fun e w' => e = .returned (.bool false) ∧ Below w.heap.size w w' := by
  have HB := Lib.hid ((Below.refl w.heap.size w).alloc (Nat.le_refl _) (.cells #[.int .i64 t.op, .int .i64 t.so, .string t.nm, .int .i64 t.nu, s] 27))
  go_enter Tryz.func53, Tryz.ntmps53
  go_wp2_with fail
  go_ret
  exact ⟨rfl, HB.out⟩
set_option maxRecDepth 100000 in
set_option maxHeartbeats 4000000 in
theorem ff_m2_2 (t : Nd) (s : Value) (w : World)
    (o1 : (t.op == 1) = false)
    (o3 : (t.op == 3) = false)
    (hnm : (t.nm.toList == []) = true)
    (hs : (t.so == 0) = true)
    (o2 : (t.op == 2) = true)
    (h1 : -1000000000000 ≤ t.nu)
    (h2 : ¬ t.nu ≤ 1000000000000)
    : Calls Tryz.prog 53 #[nv t.op t.so t.nm t.nu s] w fun e w' => e = .returned (.bool false) ∧ Below w.heap.size w w' := by
  have HB := Lib.hid ((Below.refl w.heap.size w).alloc (Nat.le_refl _) (.cells #[.int .i64 t.op, .int .i64 t.so, .string t.nm, .int .i64 t.nu, s] 27))
  go_enter Tryz.func53, Tryz.ntmps53
  go_wp2_with fail
  go_ret
  exact ⟨rfl, HB.out⟩
set_option maxRecDepth 100000 in
set_option maxHeartbeats 4000000 in
theorem ff_m2_3 (t : Nd) (s : Value) (w : World)
    (o1 : (t.op == 1) = false)
    (o3 : (t.op == 3) = false)
    (hnm : (t.nm.toList == []) = true)
    (hs : (t.so == 0) = true)
    (o2 : (t.op == 2) = true)
    (h1 : -1000000000000 ≤ t.nu)
    (h2 : t.nu ≤ 1000000000000)
    : Calls Tryz.prog 53 #[nv t.op t.so t.nm t.nu s] w fun e w' => e = .returned (.bool true) ∧ Below w.heap.size w w' := by
  have HB := Lib.hid ((Below.refl w.heap.size w).alloc (Nat.le_refl _) (.cells #[.int .i64 t.op, .int .i64 t.so, .string t.nm, .int .i64 t.nu, s] 27))
  go_enter Tryz.func53, Tryz.ntmps53
  go_wp2_with fail
  go_ret
  exact ⟨rfl, HB.out⟩
set_option maxRecDepth 100000 in
set_option maxHeartbeats 4000000 in
theorem ff_m7_1 (t : Nd) (s : Value) (w : World)
    (o1 : (t.op == 1) = false)
    (o3 : (t.op == 3) = false)
    (hnm : (t.nm.toList == []) = true)
    (hs : (t.so == 0) = true)
    (o2 : (t.op == 2) = false)
    (o7 : (t.op == 7) = true)
    (h1 : ¬ -1000000000000 ≤ t.nu)
    : Calls Tryz.prog 53 #[nv t.op t.so t.nm t.nu s] w fun e w' => e = .returned (.bool false) ∧ Below w.heap.size w w' := by
  have HB := Lib.hid ((Below.refl w.heap.size w).alloc (Nat.le_refl _) (.cells #[.int .i64 t.op, .int .i64 t.so, .string t.nm, .int .i64 t.nu, s] 27))
  go_enter Tryz.func53, Tryz.ntmps53
  go_wp2_with fail
  go_ret
  exact ⟨rfl, HB.out⟩
set_option maxRecDepth 100000 in
set_option maxHeartbeats 4000000 in
theorem ff_m7_2 (t : Nd) (s : Value) (w : World)
    (o1 : (t.op == 1) = false)
    (o3 : (t.op == 3) = false)
    (hnm : (t.nm.toList == []) = true)
    (hs : (t.so == 0) = true)
    (o2 : (t.op == 2) = false)
    (o7 : (t.op == 7) = true)
    (h1 : -1000000000000 ≤ t.nu)
    (h2 : ¬ t.nu ≤ 1000000000000)
    : Calls Tryz.prog 53 #[nv t.op t.so t.nm t.nu s] w fun e w' => e = .returned (.bool false) ∧ Below w.heap.size w w' := by
  have HB := Lib.hid ((Below.refl w.heap.size w).alloc (Nat.le_refl _) (.cells #[.int .i64 t.op, .int .i64 t.so, .string t.nm, .int .i64 t.nu, s] 27))
  go_enter Tryz.func53, Tryz.ntmps53
  go_wp2_with fail
  go_ret
  exact ⟨rfl, HB.out⟩
set_option maxRecDepth 100000 in
set_option maxHeartbeats 4000000 in
theorem ff_m7_3 (t : Nd) (s : Value) (w : World)
    (o1 : (t.op == 1) = false)
    (o3 : (t.op == 3) = false)
    (hnm : (t.nm.toList == []) = true)
    (hs : (t.so == 0) = true)
    (o2 : (t.op == 2) = false)
    (o7 : (t.op == 7) = true)
    (h1 : -1000000000000 ≤ t.nu)
    (h2 : t.nu ≤ 1000000000000)
    : Calls Tryz.prog 53 #[nv t.op t.so t.nm t.nu s] w fun e w' => e = .returned (.bool true) ∧ Below w.heap.size w w' := by
  have HB := Lib.hid ((Below.refl w.heap.size w).alloc (Nat.le_refl _) (.cells #[.int .i64 t.op, .int .i64 t.so, .string t.nm, .int .i64 t.nu, s] 27))
  go_enter Tryz.func53, Tryz.ntmps53
  go_wp2_with fail
  go_ret
  exact ⟨rfl, HB.out⟩
set_option maxRecDepth 100000 in
set_option maxHeartbeats 4000000 in
theorem ff_m0_1 (t : Nd) (s : Value) (w : World)
    (o1 : (t.op == 1) = false)
    (o3 : (t.op == 3) = false)
    (hnm : (t.nm.toList == []) = true)
    (hs : (t.so == 0) = true)
    (o2 : (t.op == 2) = false)
    (o7 : (t.op == 7) = false)
    (hz : (t.nu == 0) = true)
    : Calls Tryz.prog 53 #[nv t.op t.so t.nm t.nu s] w fun e w' => e = .returned (.bool true) ∧ Below w.heap.size w w' := by
  have HB := Lib.hid ((Below.refl w.heap.size w).alloc (Nat.le_refl _) (.cells #[.int .i64 t.op, .int .i64 t.so, .string t.nm, .int .i64 t.nu, s] 27))
  go_enter Tryz.func53, Tryz.ntmps53
  go_wp2_with fail
  go_ret
  exact ⟨rfl, HB.out⟩
set_option maxRecDepth 100000 in
set_option maxHeartbeats 4000000 in
theorem ff_m0_2 (t : Nd) (s : Value) (w : World)
    (o1 : (t.op == 1) = false)
    (o3 : (t.op == 3) = false)
    (hnm : (t.nm.toList == []) = true)
    (hs : (t.so == 0) = true)
    (o2 : (t.op == 2) = false)
    (o7 : (t.op == 7) = false)
    (hz : (t.nu == 0) = false)
    : Calls Tryz.prog 53 #[nv t.op t.so t.nm t.nu s] w fun e w' => e = .returned (.bool false) ∧ Below w.heap.size w w' := by
  have HB := Lib.hid ((Below.refl w.heap.size w).alloc (Nat.le_refl _) (.cells #[.int .i64 t.op, .int .i64 t.so, .string t.nm, .int .i64 t.nu, s] 27))
  go_enter Tryz.func53, Tryz.ntmps53
  go_wp2_with fail
  go_ret
  exact ⟨rfl, HB.out⟩
open Classical in
theorem ff_any (t : Nd) (s : Value) (w : World) : Calls Tryz.prog 53 #[nv t.op t.so t.nm t.nu s] w fun e w' => e = .returned (.bool (decide (fldOk t))) ∧ Below w.heap.size w w' := by
  by_cases h13 : t.op = 1 ∨ t.op = 3
  · have hf := fld_named h13
    have dn : ¬ fldOk t → decide (fldOk t) = false := decide_eq_false
    have dy : fldOk t → decide (fldOk t) = true := decide_eq_true
    have key : (t.op == 1) = true ∨ ((t.op == 1) = false ∧ (t.op == 3) = true) := by
      by_cases h1 : t.op = 1
      · exact .inl (by simpa using h1)
      · exact .inr ⟨by simpa using h1, by simpa using h13.resolve_left h1⟩
    cases hb : nameB t.nm
    case false =>
      rw [dn (fun h => by have := (hf.1 h).1; rw [hb] at this; cases this)]
      rcases key with o1 | ⟨o1, o3⟩
      · exact ff_b1_1 t s w o1 hb
      · exact ff_b3_1 t s w o1 o3 hb
    cases hz : (t.nu == 0)
    case false =>
      rw [dn (fun h => by have := (hf.1 h).2.1; rw [this] at hz; cases hz)]
      rcases key with o1 | ⟨o1, o3⟩
      · exact ff_b1_2 t s w o1 hb hz
      · exact ff_b3_2 t s w o1 o3 hb hz
    by_cases h0 : 0 ≤ t.so
    case neg =>
      rw [dn (fun h => h0 (hf.1 h).2.2.1)]
      rcases key with o1 | ⟨o1, o3⟩
      · exact ff_b1_3 t s w o1 hb hz h0
      · exact ff_b3_3 t s w o1 o3 hb hz h0
    by_cases h5 : t.so ≤ 5
    case neg =>
      rw [dn (fun h => h5 (hf.1 h).2.2.2)]
      rcases key with o1 | ⟨o1, o3⟩
      · have c := ff_b1_4 t s w o1 hb hz h0; rw [decide_eq_false h5] at c; exact c
      · have c := ff_b3_4 t s w o1 o3 hb hz h0; rw [decide_eq_false h5] at c; exact c
    rw [dy (hf.2 ⟨hb, by simpa using hz, h0, h5⟩)]
    rcases key with o1 | ⟨o1, o3⟩
    · have c := ff_b1_4 t s w o1 hb hz h0; rw [decide_eq_true h5] at c; exact c
    · have c := ff_b3_4 t s w o1 o3 hb hz h0; rw [decide_eq_true h5] at c; exact c
  · have h1 : t.op ≠ 1 := fun h => h13 (.inl h)
    have h3 : t.op ≠ 3 := fun h => h13 (.inr h)
    have o1 : (t.op == 1) = false := by simpa using h1
    have o3 : (t.op == 3) = false := by simpa using h3
    have hf := fld_other h1 h3
    have dn : ¬ fldOk t → decide (fldOk t) = false := decide_eq_false
    have dy : fldOk t → decide (fldOk t) = true := decide_eq_true
    cases hnm : (t.nm.toList == [])
    case false =>
      rw [dn (fun h => by have := (hf.1 h).1; rw [this] at hnm; cases hnm)]
      exact ff_m_1 t s w o1 o3 hnm
    have hnm' : t.nm.toList = [] := by simpa using hnm
    cases hs : (t.so == 0)
    case false =>
      rw [dn (fun h => by have := (hf.1 h).2.1; rw [this] at hs; cases hs)]
      exact ff_m_2 t s w o1 o3 hnm hs
    have hs' : t.so = 0 := by simpa using hs
    by_cases h27 : t.op = 2 ∨ t.op = 7
    · rw [if_pos h27] at hf
      have key : (t.op == 2) = true ∨ ((t.op == 2) = false ∧ (t.op == 7) = true) := by
        by_cases h2 : t.op = 2
        · exact .inl (by simpa using h2)
        · exact .inr ⟨by simpa using h2, by simpa using h27.resolve_left h2⟩
      by_cases u1 : -1000000000000 ≤ t.nu
      case neg =>
        rw [dn (fun h => u1 (hf.1 h).2.2.1)]
        rcases key with o2 | ⟨o2, o7⟩
        · exact ff_m2_1 t s w o1 o3 hnm hs o2 u1
        · exact ff_m7_1 t s w o1 o3 hnm hs o2 o7 u1
      by_cases u2 : t.nu ≤ 1000000000000
      case neg =>
        rw [dn (fun h => u2 (hf.1 h).2.2.2)]
        rcases key with o2 | ⟨o2, o7⟩
        · exact ff_m2_2 t s w o1 o3 hnm hs o2 u1 u2
        · exact ff_m7_2 t s w o1 o3 hnm hs o2 o7 u1 u2
      rw [dy (hf.2 ⟨hnm', hs', u1, u2⟩)]
      rcases key with o2 | ⟨o2, o7⟩
      · exact ff_m2_3 t s w o1 o3 hnm hs o2 u1 u2
      · exact ff_m7_3 t s w o1 o3 hnm hs o2 o7 u1 u2
    · rw [if_neg h27] at hf
      have o2 : (t.op == 2) = false := by simpa using fun h => h27 (.inl h)
      have o7 : (t.op == 7) = false := by simpa using fun h => h27 (.inr h)
      cases hz : (t.nu == 0)
      case true =>
        rw [dy (hf.2 ⟨hnm', hs', by simpa using hz⟩)]
        exact ff_m0_1 t s w o1 o3 hnm hs o2 o7 hz
      case false =>
        rw [dn (fun h => by have := (hf.1 h).2.2; rw [this] at hz; cases hz)]
        exact ff_m0_2 t s w o1 o3 hnm hs o2 o7 hz
/-- What the program's kidsFit answers. -/
def kfB (op : Int) (n : Nat) : Bool :=
  if op = 1 ∨ op = 2 then ((n : Int) == 0) else if op = 3 then decide ((n : Int) ≤ 8) else if op = 32 ∨ op = 6 ∨ op = 7 then ((n : Int) == 1)
  else if sgn op ≠ [] then ((n : Int) == 2) else (wrd op).isSome && ((n : Int) == wrdN op)
set_option maxRecDepth 100000 in
set_option maxHeartbeats 4000000 in
theorem kf_any (t : Nd) (A : Option Addr) (cap : Nat) (w : World) (hT : Tabs w) :
    Calls Tryz.prog 54 #[nv t.op t.so t.nm t.nu (.slice A t.ks.length cap)] w fun e w' => e = .returned (.bool (kfB t.op t.ks.length)) ∧ Below w.heap.size w w' := by
  obtain ⟨W, hW⟩ : ∃ W, w.alloc (.cells #[.int .i64 t.op, .int .i64 t.so, .string t.nm, .int .i64 t.nu, .slice A t.ks.length cap] 27) = W := ⟨_, rfl⟩
  have X := five_new w t (.slice A t.ks.length cap) 27
  have HB : Below w.heap.size w W := by rw [← hW]; exact (Below.refl _ _).alloc (Nat.le_refl _) _
  rw [hW] at X
  have HT := Lib.hid (hT.later HB)
  have HX := Lib.hid X
  have HW := Lib.hid hW
  have HB := Lib.hid HB
  clear hW hT X
  obtain ⟨x0, x1, x2, x3, x4⟩ := HX.out
  by_cases h12 : t.op = 1 ∨ t.op = 2
  · have hr := Lib.hid (show kfB t.op t.ks.length = ((t.ks.length : Int) == 0) from if_pos h12)
    have key : (t.op == 1) = true ∨ ((t.op == 1) = false ∧ (t.op == 2) = true) := by
      by_cases h2 : t.op = 1
      · exact .inl (by simpa using h2)
      · exact .inr ⟨by simpa using h2, by simpa using h12.resolve_left h2⟩
    clear h12
    rcases key with o2 | ⟨o2, o7⟩
    all_goals
      go_enter Tryz.func54, Tryz.ntmps54
      go_wp2_with fail
      rw [HW.out]
      go_ret
      exact ⟨by rw [hr.out]; rfl, HB.out⟩
  have o1 : (t.op == 1) = false := by simpa using fun h => h12 (.inl h)
  have o2 : (t.op == 2) = false := by simpa using fun h => h12 (.inr h)
  by_cases h3 : t.op = 3
  · have hr := Lib.hid (show kfB t.op t.ks.length = decide ((t.ks.length : Int) ≤ 8) by unfold kfB; rw [if_neg h12, if_pos h3])
    have o3 : (t.op == 3) = true := by simpa using h3
    clear h12 h3
    go_enter Tryz.func54, Tryz.ntmps54
    go_wp2_with fail
    rw [HW.out]
    go_ret
    exact ⟨by rw [hr.out]; rfl, HB.out⟩
  have o3 : (t.op == 3) = false := by simpa using h3
  by_cases h6 : t.op = 32 ∨ t.op = 6 ∨ t.op = 7
  · have hr := Lib.hid (show kfB t.op t.ks.length = ((t.ks.length : Int) == 1) by unfold kfB; rw [if_neg h12, if_neg h3, if_pos h6])
    have key : (t.op == 32) = true ∨ ((t.op == 32) = false ∧ (t.op == 6) = true) ∨ ((t.op == 32) = false ∧ (t.op == 6) = false ∧ (t.op == 7) = true) := by
      by_cases h2 : t.op = 32
      · exact .inl (by simpa using h2)
      · by_cases h4 : t.op = 6
        · exact .inr (.inl ⟨by simpa using h2, by simpa using h4⟩)
        · exact .inr (.inr ⟨by simpa using h2, by simpa using h4, by simpa using (h6.resolve_left h2).resolve_left h4⟩)
    clear h12 h3 h6
    rcases key with p2 | ⟨p2, p7⟩ | ⟨p2, p6, p7⟩
    all_goals
      go_enter Tryz.func54, Tryz.ntmps54
      go_wp2_with fail
      rw [HW.out]
      go_ret
      exact ⟨by rw [hr.out]; rfl, HB.out⟩
  have o32 : (t.op == 32) = false := by simpa using fun h => h6 (.inl h)
  have o6 : (t.op == 6) = false := by simpa using fun h => h6 (.inr (.inl h))
  have o7 : (t.op == 7) = false := by simpa using fun h => h6 (.inr (.inr h))
  have cs : ∀ w, Tabs w → Calls Tryz.prog 90 #[.int .i64 t.op] w fun e w' => e = .returned (.string (bs (sgn t.op))) ∧ Below w.heap.size w w' := signOf_any t.op
  by_cases hs : sgn t.op ≠ []
  · have hr := Lib.hid (show kfB t.op t.ks.length = ((t.ks.length : Int) == 2) by unfold kfB; rw [if_neg h12, if_neg h3, if_neg h6, if_pos hs])
    have hbe : ((bs (sgn t.op)).toList == []) = false := by
      rw [ByteArray.toList_eq]; simpa [bs] using hs
    generalize bs (sgn t.op) = sb at *
    clear h12 h3 h6 hs
    go_enter Tryz.func54, Tryz.ntmps54
    go_wp2_with fail
    rw [HW.out]
    refine (cs _ HT.out).mono ?_
    rintro e w1 ⟨rfl, b1⟩
    have B1 := Lib.hid b1
    clear b1
    go_wp2_with fail
    go_ret
    exact ⟨by rw [hr.out]; rfl, HB.out.trans (B1.out.mono HB.out.size)⟩
  · have hr := Lib.hid (show kfB t.op t.ks.length = ((wrd t.op).isSome && ((t.ks.length : Int) == wrdN t.op)) by unfold kfB; rw [if_neg h12, if_neg h3, if_neg h6, if_neg hs])
    have hbe : ((bs (sgn t.op)).toList == []) = true := by
      rw [ByteArray.toList_eq]; simpa [bs] using hs
    generalize bs (sgn t.op) = sb at *
    have cw := fun w h => wordOf_any t.op w h
    clear h12 h3 h6 hs
    unfold wordV at cw
    generalize (if (wrd t.op).isSome = true then t.op else 0) = op' at *
    generalize wrdS t.op = ws at *
    generalize wrdN t.op = wn at *
    cases hb : (wrd t.op).isSome
    all_goals
      rw [hb] at hr cw
      clear hb
      go_enter Tryz.func54, Tryz.ntmps54
      go_wp2_with fail
      rw [HW.out]
      refine (cs _ HT.out).mono ?_
      rintro e w1 ⟨rfl, b1⟩
      obtain ⟨x0, x1, x2, x3, x4⟩ := HX.out.later b1
      have B1 := Lib.hid b1
      have HT1 := Lib.hid (HT.out.later b1)
      clear b1
      go_wp2_with fail
      refine (cw _ HT1.out).mono ?_
      rintro e w2 ⟨rfl, b2⟩
      have B2 := Lib.hid (B1.out.trans (b2.mono B1.out.size))
      clear b2
      go_wp2_with fail
      go_ret
      exact ⟨by rw [hr.out]; rfl, HB.out.trans ((B2.out.alloc B2.out.size _).mono HB.out.size)⟩
end Go.Proofs.YtgkjcimgghflmaaGreatDoor
namespace Go.Proofs.YtgkjcimgghflmaaGreatDoor
open Go.RowKit Go.Shelf
attribute [local go_sem] Oper.semAt_some
theorem kf_cnt (op : Int) (n : Nat) : kfB op n = true ↔ cntOk op n := by
  by_cases hw : op ∈ [3, 37, 8, 1, 2, 9, 30, 31, 6, 7, 10, 4, 5, 38, 39, 11, 12, 13, 41, 40, 14, 15, 16, 32, 33, 34, 35, 36]
  · simp only [List.mem_cons, List.not_mem_nil, or_false] at hw
    rcases hw with e | e | e | e | e | e | e | e | e | e | e | e | e | e | e | e | e | e | e | e | e | e | e | e | e | e | e | e <;>
      (rw [e]; simp [cntOk, kfB, sgn, wrd, wrdN]; try omega)
  · simp only [List.mem_cons, List.not_mem_nil, or_false, not_or] at hw
    have h1 : sgn op = [] := by unfold sgn; simp [hw]
    have h2 : wrd op = none := by unfold wrd; simp [hw]
    constructor
    · intro h
      unfold kfB at h
      rw [h1, h2] at h
      simp [hw] at h
    · intro h
      unfold cntOk at h
      omega
open Classical in
set_option maxRecDepth 100000 in
set_option maxHeartbeats 8000000 in
theorem pri_any (t : Nd) : ∀ (A : Option Addr) (cap : Nat) (w : World), Lies w A cap t.ks → Tabs w →
    Calls Tryz.prog 26 #[nv t.op t.so t.nm t.nu (.slice A t.ks.length cap)] w fun e w' => e = .returned (.bool (prB t)) ∧ Below w.heap.size w w' := by
  induction t using Nd.ind with
  | h t ih =>
  intro A cap w hL hT
  have hn := hL.len
  unfold maxLen at hn
  obtain ⟨W, hW⟩ : ∃ W, w.alloc (.cells #[.int .i64 t.op, .int .i64 t.so, .string t.nm, .int .i64 t.nu, .slice A t.ks.length cap] 27) = W := ⟨_, rfl⟩
  have X := five_new w t (.slice A t.ks.length cap) 27
  have HB : Below w.heap.size w W := by rw [← hW]; exact (Below.refl _ _).alloc (Nat.le_refl _) _
  rw [hW] at X
  have cf := fun W' => ff_any t (.slice A t.ks.length cap) W'
  have ck := fun W' h => kf_any t A cap W' h
  have hno : ¬ (fldOk t ∧ cntOk t.op t.ks.length) → prB t = false := pr_no
  have hall : (fldOk t ∧ cntOk t.op t.ks.length) → prB t = t.ks.all prB := pr_all
  have HT := Lib.hid (hT.later HB)
  have HL := Lib.hid (hL.later HB)
  have HX := Lib.hid X
  have HW := Lib.hid hW
  have HB := Lib.hid HB
  clear hW hT X hL
  obtain ⟨x0, x1, x2, x3, x4⟩ := HX.out
  by_cases hf : fldOk t
  case neg =>
    have hr := Lib.hid (hno fun h => hf h.1)
    rw [decide_eq_false hf] at cf
    clear hf hno hall ih ck
    go_enter Tryz.func26, Tryz.ntmps26
    go_wp2_with fail
    rw [HW.out]
    refine (cf _).mono ?_
    rintro e w1 ⟨rfl, b1⟩
    have B1 := Lib.hid b1
    clear b1
    go_wp2_with fail
    go_ret
    exact ⟨by rw [hr.out]; rfl, HB.out.trans (B1.out.mono HB.out.size)⟩
  rw [decide_eq_true hf] at cf
  have hkc := kf_cnt t.op t.ks.length
  cases hk : kfB t.op t.ks.length
  case false =>
    have hr := Lib.hid (hno fun h => by have := hkc.2 h.2; rw [hk] at this; cases this)
    rw [hk] at ck
    clear hf hno hall ih hk hkc
    go_enter Tryz.func26, Tryz.ntmps26
    go_wp2_with fail
    rw [HW.out]
    refine (cf _).mono ?_
    rintro e w1 ⟨rfl, b1⟩
    obtain ⟨x0, x1, x2, x3, x4⟩ := HX.out.later b1
    have B1 := Lib.hid b1
    have HT1 := Lib.hid (HT.out.later b1)
    clear b1
    go_wp2_with fail
    refine (ck _ HT1.out).mono ?_
    rintro e w2 ⟨rfl, b2⟩
    have B1 := Lib.hid (B1.out.trans (b2.mono B1.out.size))
    clear b2
    go_wp2_with fail
    go_ret
    exact ⟨by rw [hr.out]; rfl, HB.out.trans (B1.out.mono HB.out.size)⟩
  have HP := Lib.hid (hall ⟨hf, hkc.1 hk⟩)
  rw [hk] at ck
  have IH := Lib.hid ih
  clear hf hno hall ih hk hkc
  go_enter Tryz.func26, Tryz.ntmps26
  go_wp2_with fail
  rw [HW.out]
  refine (cf _).mono ?_
  rintro e w1 ⟨rfl, b1⟩
  obtain ⟨x0, x1, x2, x3, x4⟩ := HX.out.later b1
  have B1 := Lib.hid b1
  have HT1 := Lib.hid (HT.out.later b1)
  clear b1
  go_wp2_with fail
  refine (ck _ HT1.out).mono ?_
  rintro e w2 ⟨rfl, b2⟩
  obtain ⟨x0, x1, x2, x3, x4⟩ := HX.out.later (B1.out.trans (b2.mono B1.out.size))
  have B1 := Lib.hid (B1.out.trans (b2.mono B1.out.size))
  clear b2
  go_wp2_with fail
  have hs1 := B1.out.size
  go_loopw [16] (fun i wr => ∃ k : Nat, k ≤ t.ks.length ∧ i = .int .i64 k ∧ Hid (∀ j (h : j < t.ks.length), j < k → prB t.ks[j] = true) ∧ Below W.heap.size W wr) (fun i _ => t.ks.length - (intOf i).toNat)
  case atStart => exact ⟨0, Nat.zero_le _, rfl, fun j hj hjk => absurd hjk (by omega), B1.out⟩
  case round =>
    obtain ⟨k, hk, rfl, hj, hBr⟩ := hrel
    have HBr := Lib.hid hBr
    have hszr := hBr.size
    clear x0 x1 x2 x3 x4
    by_cases hlt : k < t.ks.length
    · obtain ⟨b, o, A', C', rfl, g5, hKd⟩ := HL.out.kid hlt
      obtain ⟨y0, y1, y2, y3, y4⟩ := g5.later hBr
      have c := Lib.hid (fun W' (hb : Below W.heap.size W W') => IH.out k hlt A' C' W' (hKd.later hb) (HT.out.later hb))
      have hsn := Lib.hid (fun (e : prB t.ks[k] = true) => (show Hid (∀ j (h : j < t.ks.length), j < k + 1 → prB t.ks[j] = true) from fun j hjs hjk => by
        by_cases e' : j = k
        · subst e'; exact e
        · exact hj.out j hjs (by omega)))
      have hno := Lib.hid (fun (e : prB t.ks[k] = false) => HP.out.trans (List.all_eq_false.2 ⟨_, List.getElem_mem hlt, by rw [e]; decide⟩))
      generalize t.ks[k] = q at *
      clear g5 hKd hBr IH hj ck cf
      cases hq : prB q
      case true =>
        have Hq := Lib.hid hq
        have Hsn := hsn.out hq
        clear hq hno hsn
        go_wp2_with fail
        refine (c.out _ (HBr.out.alloc hszr _)).mono ?_
        rintro e w2 ⟨rfl, b2⟩
        rw [Hq.out]
        have B2 := Lib.hid ((HBr.out.alloc hszr _).trans (b2.mono (HBr.out.alloc hszr _).size))
        clear b2
        go_wp2_with fail
        go_roundw
        case rel => exact ⟨k + 1, by omega, by go_num, Hsn, B2.out⟩
        case measure => simp [intOf]; omega
      case false =>
        have Hq := Lib.hid hq
        have Hr := Lib.hid (hno.out hq)
        clear hq hno hsn
        go_wp2_with fail
        refine (c.out _ (HBr.out.alloc hszr _)).mono ?_
        rintro e w2 ⟨rfl, b2⟩
        rw [Hq.out]
        have B2 := Lib.hid ((HBr.out.alloc hszr _).trans (b2.mono (HBr.out.alloc hszr _).size))
        clear b2
        go_wp2_with fail
        go_ret
        exact ⟨by rw [Hr.out]; rfl, HB.out.trans (B2.out.mono HB.out.size)⟩
    · have Hr := Lib.hid (show prB t = true from HP.out.trans (List.all_eq_true.2 fun x hx => by
        obtain ⟨i, hi, rfl⟩ := List.getElem_of_mem hx
        exact hj.out i hi (by omega)))
      clear hBr hj cf ck
      go_wp2_with fail
      go_ret
      exact ⟨by rw [Hr.out]; rfl, HB.out.trans (HBr.out.mono HB.out.size)⟩
end Go.Proofs.YtgkjcimgghflmaaGreatDoor
