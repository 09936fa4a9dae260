/-
  What the document's own kids and printable return; conditions: the tree lies in memory.
  What the document's own printable returns of every node, and how long a printable node's text is; conditions: the tree lies in memory.
-/
import Derived.Test.YtgkjcimgghflmaaGreatDoorZShw
namespace Go.Proofs.YtgkjcimgghflmaaGreatDoor
open Go.RowKit Go.Shelf

attribute [local go_sem] Oper.semAt_some
/-- The number of kids that an operator takes as the document tells it: -1 any, -2 it is none. -/
def kidN (op : Int) : Int :=
  if op = 3 then -1 else if op = 37 then 2 else if op = 8 then 3 else match wantsL op with
    | none => -2
    | some l => l.length

theorem wantsL_none {op : Int} (h : op ∉ wantOps) : wantsL op = none := by
  simp only [wantOps, List.mem_cons, List.not_mem_nil, or_false, not_or] at h
  unfold wantsL
  simp [h]
set_option maxHeartbeats 4000000 in
theorem kidsOf_any (op : Int) (w : World) : Calls Tryz.prog 62 #[.int .i64 op] w fun e w' => e = .returned (.int .i64 (kidN op)) ∧ Below w.heap.size w w' := by
  by_cases h3 : op = 3
  · subst h3
    go_enter Tryz.func62, Tryz.ntmps62
    go_wp2_with fail
    go_ret
    exact ⟨rfl, Below.refl _ _⟩
  by_cases h37 : op = 37
  · subst h37
    go_enter Tryz.func62, Tryz.ntmps62
    go_wp2_with fail
    go_ret
    exact ⟨rfl, Below.refl _ _⟩
  by_cases h8 : op = 8
  · subst h8
    go_enter Tryz.func62, Tryz.ntmps62
    go_wp2_with fail
    go_ret
    exact ⟨rfl, Below.refl _ _⟩
  have hk : kidN op = match wantsL op with
    | none => -2
    | some l => l.length := by unfold kidN; rw [if_neg h3, if_neg h37, if_neg h8]
  have e3 : (op == 3) = false := by simpa using h3
  have e37 : (op == 37) = false := by simpa using h37
  have e8 : (op == 8) = false := by simpa using h8
  clear h3 h37 h8
  by_cases hw : op ∈ wantOps
  · have c := wants_some op w hw
    have HK := Lib.hid hk
    clear hk hw
    go_enter Tryz.func62, Tryz.ntmps62
    go_wp2_with fail
    refine c.mono ?_
    rintro e w1 ⟨A, l, hl, rfl, hi, hb⟩
    have HL := Lib.hid hl
    have HB := Lib.hid hb
    clear hl hi hb
    go_wp2_with fail
    go_ret
    exact ⟨by rw [HK.out, HL.out]; rfl, HB.out⟩
  · have c := wants_none op w hw
    have hn : wantsL op = none := wantsL_none hw
    rw [hn] at hk
    have HK := Lib.hid hk
    clear hk hw hn
    go_enter Tryz.func62, Tryz.ntmps62
    go_wp2_with fail
    refine c.mono ?_
    rintro e w1 ⟨⟨v, rfl⟩, rfl⟩
    go_wp2_with fail
    go_ret
    exact ⟨by rw [HK.out]; rfl, Below.refl _ _⟩

theorem kidN_cases (op : Int) : kidN op = -2 ∨ (kidN op = -1 ∧ op = 3) ∨ (0 ≤ kidN op ∧ op ≠ 3) := by
  unfold kidN
  split
  · exact .inr (.inl ⟨rfl, by assumption⟩)
  · rename_i h
    split
    · exact .inr (.inr ⟨by omega, h⟩)
    · split
      · exact .inr (.inr ⟨by omega, h⟩)
      · split
        · exact .inl rfl
        · exact .inr (.inr ⟨by omega, h⟩)
theorem cnt_kidN (op : Int) (n : Nat) : cntOk op n ↔ (0 ≤ kidN op ∧ kidN op = n) ∨ (kidN op = -1 ∧ n ≤ 8) := by
  by_cases hw : op ∈ [3, 37, 8, 1, 2, 9, 30, 31, 6, 7, 10, 4, 5, 38, 39, 11, 12, 13, 41, 40, 14, 15, 16, 32, 33, 34, 35, 36]
  · simp only [List.mem_cons, List.not_mem_nil, or_false] at hw
    rcases hw with e | e | e | e | e | e | e | e | e | e | e | e | e | e | e | e | e | e | e | e | e | e | e | e | e | e | e | e <;>
      (rw [e]; simp [cntOk, kidN, wantsL]; try omega)
  · simp only [List.mem_cons, List.not_mem_nil, or_false, not_or] at hw
    have hn : kidN op = -2 := by
      unfold kidN
      rw [if_neg hw.1, if_neg hw.2.1, if_neg hw.2.2.1, wantsL_none (by simp [wantOps, hw])]
    rw [hn]
    constructor
    · intro h
      unfold cntOk at h
      omega
    · intro h; omega

theorem pr_no {t : Nd} (h : ¬ (fldOk t ∧ cntOk t.op t.ks.length)) : prB t = false := by
  rw [← Bool.not_eq_true]
  exact fun h' => h (pr_frm h')
theorem pr_all {t : Nd} (h : fldOk t ∧ cntOk t.op t.ks.length) : prB t = t.ks.all prB := by
  rw [prB_eq, frm_iff.2 h, Bool.true_and]

set_option maxRecDepth 100000 in
set_option maxHeartbeats 4000000 in
theorem rpr_a1 (t : Nd) (kv : Int) (A : Option Addr) (cap : Nat) (w : World) (hL : Lies w A cap t.ks)
    (ck : ∀ w, Calls Tryz.prog 62 #[.int .i64 t.op] w fun e w' => e = .returned (.int .i64 kv) ∧ Below w.heap.size w w')
    (hk1 : kv = -2)
    : Calls Tryz.prog 29 #[nv t.op t.so t.nm t.nu (.slice A t.ks.length cap)] w fun e w' => e = .returned (.bool false) ∧ Below w.heap.size w w' := by
  have hn := hL.len
  unfold maxLen at hn
  obtain ⟨W, hW⟩ : ∃ W, w.alloc (.cells #[.int .i64 t.op, .int .i64 t.so, .string t.nm, .int .i64 t.nu, .slice A t.ks.length cap] 27) = W := ⟨_, rfl⟩
  have X := five_new w t (.slice A t.ks.length cap) 27
  have HB : Below w.heap.size w W := by rw [← hW]; exact (Below.refl _ _).alloc (Nat.le_refl _) _
  rw [hW] at X
  have HL := Lib.hid (hL.later HB)
  have HX := Lib.hid X
  have HW := Lib.hid hW
  have HB := Lib.hid HB
  clear hW hL X
  obtain ⟨x0, x1, x2, x3, x4⟩ := HX.out
  subst hk1
  go_enter Tryz.func29, Tryz.ntmps29
  go_wp2_with fail
  rw [HW.out]
  refine (ck _).mono ?_
  rintro e w1 ⟨rfl, b1⟩
  obtain ⟨x0, x1, x2, x3, x4⟩ := HX.out.later b1
  have B1 := Lib.hid b1
  clear b1 ck
  go_wp2_with fail
  go_ret
  exact ⟨rfl, HB.out.trans (B1.out.mono HB.out.size)⟩

set_option maxRecDepth 100000 in
set_option maxHeartbeats 4000000 in
theorem rpr_a2 (t : Nd) (kv : Int) (A : Option Addr) (cap : Nat) (w : World) (hL : Lies w A cap t.ks)
    (ck : ∀ w, Calls Tryz.prog 62 #[.int .i64 t.op] w fun e w' => e = .returned (.int .i64 kv) ∧ Below w.heap.size w w')
    (hk0 : 0 ≤ kv)
    (hk1 : kv ≠ t.ks.length)
    : Calls Tryz.prog 29 #[nv t.op t.so t.nm t.nu (.slice A t.ks.length cap)] w fun e w' => e = .returned (.bool false) ∧ Below w.heap.size w w' := by
  have hn := hL.len
  unfold maxLen at hn
  obtain ⟨W, hW⟩ : ∃ W, w.alloc (.cells #[.int .i64 t.op, .int .i64 t.so, .string t.nm, .int .i64 t.nu, .slice A t.ks.length cap] 27) = W := ⟨_, rfl⟩
  have X := five_new w t (.slice A t.ks.length cap) 27
  have HB : Below w.heap.size w W := by rw [← hW]; exact (Below.refl _ _).alloc (Nat.le_refl _) _
  rw [hW] at X
  have HL := Lib.hid (hL.later HB)
  have HX := Lib.hid X
  have HW := Lib.hid hW
  have HB := Lib.hid HB
  clear hW hL X
  obtain ⟨x0, x1, x2, x3, x4⟩ := HX.out
  have k2b : (kv == -2) = false := by rw [beq_eq_false_iff_ne]; omega
  have knb : (kv != (t.ks.length : Int)) = true := by simpa using hk1
  clear hk1
  go_enter Tryz.func29, Tryz.ntmps29
  go_wp2_with fail
  rw [HW.out]
  refine (ck _).mono ?_
  rintro e w1 ⟨rfl, b1⟩
  obtain ⟨x0, x1, x2, x3, x4⟩ := HX.out.later b1
  have B1 := Lib.hid b1
  clear b1 ck
  go_wp2_with fail
  go_ret
  exact ⟨rfl, HB.out.trans (B1.out.mono HB.out.size)⟩

set_option maxRecDepth 100000 in
set_option maxHeartbeats 4000000 in
theorem rpr_a3 (t : Nd) (kv : Int) (A : Option Addr) (cap : Nat) (w : World) (hL : Lies w A cap t.ks)
    (ck : ∀ w, Calls Tryz.prog 62 #[.int .i64 t.op] w fun e w' => e = .returned (.int .i64 kv) ∧ Below w.heap.size w w')
    (hk1 : kv = -1)
    (hk8 : 8 < t.ks.length)
    : Calls Tryz.prog 29 #[nv t.op t.so t.nm t.nu (.slice A t.ks.length cap)] w fun e w' => e = .returned (.bool false) ∧ Below w.heap.size w w' := by
  have hn := hL.len
  unfold maxLen at hn
  obtain ⟨W, hW⟩ : ∃ W, w.alloc (.cells #[.int .i64 t.op, .int .i64 t.so, .string t.nm, .int .i64 t.nu, .slice A t.ks.length cap] 27) = W := ⟨_, rfl⟩
  have X := five_new w t (.slice A t.ks.length cap) 27
  have HB : Below w.heap.size w W := by rw [← hW]; exact (Below.refl _ _).alloc (Nat.le_refl _) _
  rw [hW] at X
  have HL := Lib.hid (hL.later HB)
  have HX := Lib.hid X
  have HW := Lib.hid hW
  have HB := Lib.hid HB
  clear hW hL X
  obtain ⟨x0, x1, x2, x3, x4⟩ := HX.out
  have k8 : ((8 : Int) < t.ks.length) := by omega
  subst hk1
  go_enter Tryz.func29, Tryz.ntmps29
  go_wp2_with fail
  rw [HW.out]
  refine (ck _).mono ?_
  rintro e w1 ⟨rfl, b1⟩
  obtain ⟨x0, x1, x2, x3, x4⟩ := HX.out.later b1
  have B1 := Lib.hid b1
  clear b1 ck
  go_wp2_with fail
  go_ret
  exact ⟨rfl, HB.out.trans (B1.out.mono HB.out.size)⟩

set_option maxRecDepth 100000 in
set_option maxHeartbeats 4000000 in
theorem rpr_b1_n1 (t : Nd) (kv : Int) (A : Option Addr) (cap : Nat) (w : World) (hL : Lies w A cap t.ks)
    (ck : ∀ w, Calls Tryz.prog 62 #[.int .i64 t.op] w fun e w' => e = .returned (.int .i64 kv) ∧ Below w.heap.size w w')
    (hk0 : 0 ≤ kv)
    (hk1 : kv = t.ks.length)
    (o1 : (t.op == 1) = true)
    (hnm : (t.nm.toList == []) = true)
    : Calls Tryz.prog 29 #[nv t.op t.so t.nm t.nu (.slice A t.ks.length cap)] w fun e w' => e = .returned (.bool false) ∧ Below w.heap.size w w' := by
  have hn := hL.len
  unfold maxLen at hn
  obtain ⟨W, hW⟩ : ∃ W, w.alloc (.cells #[.int .i64 t.op, .int .i64 t.so, .string t.nm, .int .i64 t.nu, .slice A t.ks.length cap] 27) = W := ⟨_, rfl⟩
  have X := five_new w t (.slice A t.ks.length cap) 27
  have HB : Below w.heap.size w W := by rw [← hW]; exact (Below.refl _ _).alloc (Nat.le_refl _) _
  rw [hW] at X
  have HL := Lib.hid (hL.later HB)
  have HX := Lib.hid X
  have HW := Lib.hid hW
  have HB := Lib.hid HB
  clear hW hL X
  obtain ⟨x0, x1, x2, x3, x4⟩ := HX.out
  have k2 : ¬ kv = -2 := by omega
  have k2b : (kv == -2) = false := by simpa using k2
  have k1b : (kv == -1) = false := by rw [beq_eq_false_iff_ne]; omega
  have knb : (kv != (t.ks.length : Int)) = false := by rw [hk1]; simp
  clear k2
  go_enter Tryz.func29, Tryz.ntmps29
  go_wp2_with fail
  rw [HW.out]
  refine (ck _).mono ?_
  rintro e w1 ⟨rfl, b1⟩
  obtain ⟨x0, x1, x2, x3, x4⟩ := HX.out.later b1
  have B1 := Lib.hid b1
  clear b1 ck
  go_wp2_with fail
  go_ret
  exact ⟨rfl, HB.out.trans (B1.out.mono HB.out.size)⟩

set_option maxRecDepth 100000 in
set_option maxHeartbeats 4000000 in
theorem rpr_b1_n2 (t : Nd) (kv : Int) (A : Option Addr) (cap : Nat) (w : World) (hL : Lies w A cap t.ks)
    (ck : ∀ w, Calls Tryz.prog 62 #[.int .i64 t.op] w fun e w' => e = .returned (.int .i64 kv) ∧ Below w.heap.size w w')
    (hk0 : 0 ≤ kv)
    (hk1 : kv = t.ks.length)
    (o1 : (t.op == 1) = true)
    (hnm : (t.nm.toList == []) = false)
    (hb : nameB t.nm = false)
    : Calls Tryz.prog 29 #[nv t.op t.so t.nm t.nu (.slice A t.ks.length cap)] w fun e w' => e = .returned (.bool false) ∧ Below w.heap.size w w' := by
  have hn := hL.len
  unfold maxLen at hn
  obtain ⟨W, hW⟩ : ∃ W, w.alloc (.cells #[.int .i64 t.op, .int .i64 t.so, .string t.nm, .int .i64 t.nu, .slice A t.ks.length cap] 27) = W := ⟨_, rfl⟩
  have X := five_new w t (.slice A t.ks.length cap) 27
  have HB : Below w.heap.size w W := by rw [← hW]; exact (Below.refl _ _).alloc (Nat.le_refl _) _
  rw [hW] at X
  have HL := Lib.hid (hL.later HB)
  have HX := Lib.hid X
  have HW := Lib.hid hW
  have HB := Lib.hid HB
  clear hW hL X
  obtain ⟨x0, x1, x2, x3, x4⟩ := HX.out
  have k2 : ¬ kv = -2 := by omega
  have k2b : (kv == -2) = false := by simpa using k2
  have k1b : (kv == -1) = false := by rw [beq_eq_false_iff_ne]; omega
  have knb : (kv != (t.ks.length : Int)) = false := by rw [hk1]; simp
  clear k2
  have Hnm := Lib.hid hb
  clear hb
  go_enter Tryz.func29, Tryz.ntmps29
  go_wp2_with fail
  rw [HW.out]
  refine (ck _).mono ?_
  rintro e w1 ⟨rfl, b1⟩
  obtain ⟨x0, x1, x2, x3, x4⟩ := HX.out.later b1
  have B1 := Lib.hid b1
  clear b1 ck
  go_wp2_with fail
  refine (refName_any _ _).mono ?_
  rintro e w2 ⟨rfl, b2⟩
  rw [Hnm.out]
  obtain ⟨x0, x1, x2, x3, x4⟩ := HX.out.later (b2.mono B1.out.size |> fun h => B1.out.trans h)
  have B1 := Lib.hid (B1.out.trans (b2.mono B1.out.size))
  clear b2
  go_wp2_with fail
  go_ret
  exact ⟨rfl, HB.out.trans (B1.out.mono HB.out.size)⟩

set_option maxRecDepth 100000 in
set_option maxHeartbeats 4000000 in
theorem rpr_b1_n3 (t : Nd) (kv : Int) (A : Option Addr) (cap : Nat) (w : World) (hL : Lies w A cap t.ks)
    (ck : ∀ w, Calls Tryz.prog 62 #[.int .i64 t.op] w fun e w' => e = .returned (.int .i64 kv) ∧ Below w.heap.size w w')
    (hk0 : 0 ≤ kv)
    (hk1 : kv = t.ks.length)
    (o1 : (t.op == 1) = true)
    (hnm : (t.nm.toList == []) = false)
    (hb : nameB t.nm = true)
    (h0 : t.so < 0)
    : Calls Tryz.prog 29 #[nv t.op t.so t.nm t.nu (.slice A t.ks.length cap)] w fun e w' => e = .returned (.bool false) ∧ Below w.heap.size w w' := by
  have hn := hL.len
  unfold maxLen at hn
  obtain ⟨W, hW⟩ : ∃ W, w.alloc (.cells #[.int .i64 t.op, .int .i64 t.so, .string t.nm, .int .i64 t.nu, .slice A t.ks.length cap] 27) = W := ⟨_, rfl⟩
  have X := five_new w t (.slice A t.ks.length cap) 27
  have HB : Below w.heap.size w W := by rw [← hW]; exact (Below.refl _ _).alloc (Nat.le_refl _) _
  rw [hW] at X
  have HL := Lib.hid (hL.later HB)
  have HX := Lib.hid X
  have HW := Lib.hid hW
  have HB := Lib.hid HB
  clear hW hL X
  obtain ⟨x0, x1, x2, x3, x4⟩ := HX.out
  have k2 : ¬ kv = -2 := by omega
  have k2b : (kv == -2) = false := by simpa using k2
  have k1b : (kv == -1) = false := by rw [beq_eq_false_iff_ne]; omega
  have knb : (kv != (t.ks.length : Int)) = false := by rw [hk1]; simp
  clear k2
  have Hnm := Lib.hid hb
  clear hb
  go_enter Tryz.func29, Tryz.ntmps29
  go_wp2_with fail
  rw [HW.out]
  refine (ck _).mono ?_
  rintro e w1 ⟨rfl, b1⟩
  obtain ⟨x0, x1, x2, x3, x4⟩ := HX.out.later b1
  have B1 := Lib.hid b1
  clear b1 ck
  go_wp2_with fail
  refine (refName_any _ _).mono ?_
  rintro e w2 ⟨rfl, b2⟩
  rw [Hnm.out]
  obtain ⟨x0, x1, x2, x3, x4⟩ := HX.out.later (b2.mono B1.out.size |> fun h => B1.out.trans h)
  have B1 := Lib.hid (B1.out.trans (b2.mono B1.out.size))
  clear b2
  go_wp2_with fail
  go_ret
  exact ⟨rfl, HB.out.trans (B1.out.mono HB.out.size)⟩

set_option maxRecDepth 100000 in
set_option maxHeartbeats 4000000 in
theorem rpr_b1_n4 (t : Nd) (kv : Int) (A : Option Addr) (cap : Nat) (w : World) (hL : Lies w A cap t.ks)
    (ck : ∀ w, Calls Tryz.prog 62 #[.int .i64 t.op] w fun e w' => e = .returned (.int .i64 kv) ∧ Below w.heap.size w w')
    (hk0 : 0 ≤ kv)
    (hk1 : kv = t.ks.length)
    (o1 : (t.op == 1) = true)
    (hnm : (t.nm.toList == []) = false)
    (hb : nameB t.nm = true)
    (h0 : ¬ t.so < 0)
    (h5 : 5 < t.so)
    : Calls Tryz.prog 29 #[nv t.op t.so t.nm t.nu (.slice A t.ks.length cap)] w fun e w' => e = .returned (.bool false) ∧ Below w.heap.size w w' := by
  have hn := hL.len
  unfold maxLen at hn
  obtain ⟨W, hW⟩ : ∃ W, w.alloc (.cells #[.int .i64 t.op, .int .i64 t.so, .string t.nm, .int .i64 t.nu, .slice A t.ks.length cap] 27) = W := ⟨_, rfl⟩
  have X := five_new w t (.slice A t.ks.length cap) 27
  have HB : Below w.heap.size w W := by rw [← hW]; exact (Below.refl _ _).alloc (Nat.le_refl _) _
  rw [hW] at X
  have HL := Lib.hid (hL.later HB)
  have HX := Lib.hid X
  have HW := Lib.hid hW
  have HB := Lib.hid HB
  clear hW hL X
  obtain ⟨x0, x1, x2, x3, x4⟩ := HX.out
  have k2 : ¬ kv = -2 := by omega
  have k2b : (kv == -2) = false := by simpa using k2
  have k1b : (kv == -1) = false := by rw [beq_eq_false_iff_ne]; omega
  have knb : (kv != (t.ks.length : Int)) = false := by rw [hk1]; simp
  clear k2
  have Hnm := Lib.hid hb
  clear hb
  go_enter Tryz.func29, Tryz.ntmps29
  go_wp2_with fail
  rw [HW.out]
  refine (ck _).mono ?_
  rintro e w1 ⟨rfl, b1⟩
  obtain ⟨x0, x1, x2, x3, x4⟩ := HX.out.later b1
  have B1 := Lib.hid b1
  clear b1 ck
  go_wp2_with fail
  refine (refName_any _ _).mono ?_
  rintro e w2 ⟨rfl, b2⟩
  rw [Hnm.out]
  obtain ⟨x0, x1, x2, x3, x4⟩ := HX.out.later (b2.mono B1.out.size |> fun h => B1.out.trans h)
  have B1 := Lib.hid (B1.out.trans (b2.mono B1.out.size))
  clear b2
  go_wp2_with fail
  go_ret
  exact ⟨rfl, HB.out.trans (B1.out.mono HB.out.size)⟩

set_option maxRecDepth 100000 in
set_option maxHeartbeats 4000000 in
theorem rpr_b1_n5 (t : Nd) (kv : Int) (A : Option Addr) (cap : Nat) (w : World) (hL : Lies w A cap t.ks)
    (ck : ∀ w, Calls Tryz.prog 62 #[.int .i64 t.op] w fun e w' => e = .returned (.int .i64 kv) ∧ Below w.heap.size w w')
    (hk0 : 0 ≤ kv)
    (hk1 : kv = t.ks.length)
    (o1 : (t.op == 1) = true)
    (hnm : (t.nm.toList == []) = false)
    (hb : nameB t.nm = true)
    (h0 : ¬ t.so < 0)
    (h5 : ¬ 5 < t.so)
    (hz : (t.nu != 0) = true)
    : Calls Tryz.prog 29 #[nv t.op t.so t.nm t.nu (.slice A t.ks.length cap)] w fun e w' => e = .returned (.bool false) ∧ Below w.heap.size w w' := by
  have hn := hL.len
  unfold maxLen at hn
  obtain ⟨W, hW⟩ : ∃ W, w.alloc (.cells #[.int .i64 t.op, .int .i64 t.so, .string t.nm, .int .i64 t.nu, .slice A t.ks.length cap] 27) = W := ⟨_, rfl⟩
  have X := five_new w t (.slice A t.ks.length cap) 27
  have HB : Below w.heap.size w W := by rw [← hW]; exact (Below.refl _ _).alloc (Nat.le_refl _) _
  rw [hW] at X
  have HL := Lib.hid (hL.later HB)
  have HX := Lib.hid X
  have HW := Lib.hid hW
  have HB := Lib.hid HB
  clear hW hL X
  obtain ⟨x0, x1, x2, x3, x4⟩ := HX.out
  have k2 : ¬ kv = -2 := by omega
  have k2b : (kv == -2) = false := by simpa using k2
  have k1b : (kv == -1) = false := by rw [beq_eq_false_iff_ne]; omega
  have knb : (kv != (t.ks.length : Int)) = false := by rw [hk1]; simp
  clear k2
  have Hnm := Lib.hid hb
  clear hb
  have o2 : (t.op == 2) = false := by rw [beq_iff_eq] at o1; rw [o1]; rfl
  have o7 : (t.op == 7) = false := by rw [beq_iff_eq] at o1; rw [o1]; rfl
  go_enter Tryz.func29, Tryz.ntmps29
  go_wp2_with fail
  rw [HW.out]
  refine (ck _).mono ?_
  rintro e w1 ⟨rfl, b1⟩
  obtain ⟨x0, x1, x2, x3, x4⟩ := HX.out.later b1
  have B1 := Lib.hid b1
  clear b1 ck
  go_wp2_with fail
  refine (refName_any _ _).mono ?_
  rintro e w2 ⟨rfl, b2⟩
  rw [Hnm.out]
  obtain ⟨x0, x1, x2, x3, x4⟩ := HX.out.later (b2.mono B1.out.size |> fun h => B1.out.trans h)
  have B1 := Lib.hid (B1.out.trans (b2.mono B1.out.size))
  clear b2
  go_wp2_with fail
  go_ret
  exact ⟨rfl, HB.out.trans (B1.out.mono HB.out.size)⟩

set_option maxRecDepth 100000 in
set_option maxHeartbeats 4000000 in
theorem rpr_b1_n6 (t : Nd) (kv : Int) (A : Option Addr) (cap : Nat) (w : World) (hL : Lies w A cap t.ks)
    (ck : ∀ w, Calls Tryz.prog 62 #[.int .i64 t.op] w fun e w' => e = .returned (.int .i64 kv) ∧ Below w.heap.size w w')
    (hk0 : 0 ≤ kv)
    (hk1 : kv = t.ks.length)
    (o1 : (t.op == 1) = true)
    (hnm : (t.nm.toList == []) = false)
    (hb : nameB t.nm = true)
    (h0 : ¬ t.so < 0)
    (h5 : ¬ 5 < t.so)
    (hz : t.nu = 0)
    (hpr : prB t = t.ks.all prB) (ih : ∀ i (hi : i < t.ks.length), ∀ (A : Option Addr) (cap : Nat) (w : World), Lies w A cap t.ks[i].ks → Calls Tryz.prog 29 #[nv t.ks[i].op t.ks[i].so t.ks[i].nm t.ks[i].nu (.slice A t.ks[i].ks.length cap)] w fun e w' => e = .returned (.bool (prB t.ks[i])) ∧ Below w.heap.size w w')
    : Calls Tryz.prog 29 #[nv t.op t.so t.nm t.nu (.slice A t.ks.length cap)] w fun e w' => e = .returned (.bool (prB t)) ∧ Below w.heap.size w w' := by
  have hn := hL.len
  unfold maxLen at hn
  obtain ⟨W, hW⟩ : ∃ W, w.alloc (.cells #[.int .i64 t.op, .int .i64 t.so, .string t.nm, .int .i64 t.nu, .slice A t.ks.length cap] 27) = W := ⟨_, rfl⟩
  have X := five_new w t (.slice A t.ks.length cap) 27
  have HB : Below w.heap.size w W := by rw [← hW]; exact (Below.refl _ _).alloc (Nat.le_refl _) _
  rw [hW] at X
  have HL := Lib.hid (hL.later HB)
  have HX := Lib.hid X
  have HW := Lib.hid hW
  have HB := Lib.hid HB
  have HP := Lib.hid hpr
  have IH := Lib.hid ih
  clear hpr ih
  clear hW hL X
  obtain ⟨x0, x1, x2, x3, x4⟩ := HX.out
  have k2 : ¬ kv = -2 := by omega
  have k2b : (kv == -2) = false := by simpa using k2
  have k1b : (kv == -1) = false := by rw [beq_eq_false_iff_ne]; omega
  have knb : (kv != (t.ks.length : Int)) = false := by rw [hk1]; simp
  clear k2
  have Hnm := Lib.hid hb
  clear hb
  have o2 : (t.op == 2) = false := by rw [beq_iff_eq] at o1; rw [o1]; rfl
  have o7 : (t.op == 7) = false := by rw [beq_iff_eq] at o1; rw [o1]; rfl
  have u1 : ¬ 1000000000000 < t.nu := by omega
  have u2 : ¬ t.nu < -1000000000000 := by omega
  have u3 : (t.nu != 0) = false := by simp [hz]
  clear hz
  go_enter Tryz.func29, Tryz.ntmps29
  go_wp2_with fail
  rw [HW.out]
  refine (ck _).mono ?_
  rintro e w1 ⟨rfl, b1⟩
  obtain ⟨x0, x1, x2, x3, x4⟩ := HX.out.later b1
  have B1 := Lib.hid b1
  clear b1 ck
  go_wp2_with fail
  refine (refName_any _ _).mono ?_
  rintro e w2 ⟨rfl, b2⟩
  rw [Hnm.out]
  obtain ⟨x0, x1, x2, x3, x4⟩ := HX.out.later (b2.mono B1.out.size |> fun h => B1.out.trans h)
  have B1 := Lib.hid (B1.out.trans (b2.mono B1.out.size))
  clear b2
  go_wp2_with fail
  have hs1 := B1.out.size
  go_loopw [103] (fun i wr => ∃ k : Nat, k ≤ t.ks.length ∧ i = .int .i64 k ∧ Hid (∀ j (h : j < t.ks.length), j < k → prB t.ks[j] = true) ∧ Below W.heap.size W wr) (fun i _ => t.ks.length - (intOf i).toNat)
  case atStart => exact ⟨0, Nat.zero_le _, rfl, fun j hj hjk => absurd hjk (by omega), B1.out⟩
  case round =>
    obtain ⟨k, hk, rfl, hj, hBr⟩ := hrel
    have HBr := Lib.hid hBr
    have hszr := hBr.size
    clear x0 x1 x2 x3 x4
    by_cases hlt : k < t.ks.length
    · obtain ⟨b, o, A', C', rfl, g5, hKd⟩ := HL.out.kid hlt
      obtain ⟨y0, y1, y2, y3, y4⟩ := g5.later hBr
      have c := Lib.hid (fun W' (hb : Below W.heap.size W W') => IH.out k hlt A' C' W' (hKd.later hb))
      have hsn := Lib.hid (fun (e : prB t.ks[k] = true) => (show Hid (∀ j (h : j < t.ks.length), j < k + 1 → prB t.ks[j] = true) from fun j hjs hjk => by
        by_cases e' : j = k
        · subst e'; exact e
        · exact hj.out j hjs (by omega)))
      have hno := Lib.hid (fun (e : prB t.ks[k] = false) => HP.out.trans (List.all_eq_false.2 ⟨_, List.getElem_mem hlt, by rw [e]; decide⟩))
      generalize t.ks[k] = q at *
      clear g5 hKd hBr IH hj
      cases hq : prB q
      case true =>
        have Hq := Lib.hid hq
        have Hsn := hsn.out hq
        clear hq hno hsn
        go_wp2_with fail
        refine (c.out _ (HBr.out.alloc hszr _)).mono ?_
        rintro e w2 ⟨rfl, b2⟩
        rw [Hq.out]
        have B2 := Lib.hid ((HBr.out.alloc hszr _).trans (b2.mono (HBr.out.alloc hszr _).size))
        clear b2
        go_wp2_with fail
        go_roundw
        case rel => exact ⟨k + 1, by omega, by go_num, Hsn, B2.out⟩
        case measure => simp [intOf]; omega
      case false =>
        have Hq := Lib.hid hq
        have Hr := Lib.hid (hno.out hq)
        clear hq hno hsn
        go_wp2_with fail
        refine (c.out _ (HBr.out.alloc hszr _)).mono ?_
        rintro e w2 ⟨rfl, b2⟩
        rw [Hq.out]
        have B2 := Lib.hid ((HBr.out.alloc hszr _).trans (b2.mono (HBr.out.alloc hszr _).size))
        clear b2
        go_wp2_with fail
        go_ret
        exact ⟨by rw [Hr.out]; rfl, HB.out.trans (B2.out.mono HB.out.size)⟩
    · have Hr := Lib.hid (show prB t = true from HP.out.trans (List.all_eq_true.2 fun x hx => by
        obtain ⟨i, hi, rfl⟩ := List.getElem_of_mem hx
        exact hj.out i hi (by omega)))
      clear hBr hj
      go_wp2_with fail
      go_ret
      exact ⟨by rw [Hr.out]; rfl, HB.out.trans (HBr.out.mono HB.out.size)⟩

set_option maxRecDepth 100000 in
set_option maxHeartbeats 4000000 in
theorem rpr_b3_n1 (t : Nd) (kv : Int) (A : Option Addr) (cap : Nat) (w : World) (hL : Lies w A cap t.ks)
    (ck : ∀ w, Calls Tryz.prog 62 #[.int .i64 t.op] w fun e w' => e = .returned (.int .i64 kv) ∧ Below w.heap.size w w')
    (hk1 : kv = -1)
    (hk8 : t.ks.length ≤ 8)
    (o1 : (t.op == 1) = false)
    (o3 : (t.op == 3) = true)
    (hnm : (t.nm.toList == []) = true)
    : Calls Tryz.prog 29 #[nv t.op t.so t.nm t.nu (.slice A t.ks.length cap)] w fun e w' => e = .returned (.bool false) ∧ Below w.heap.size w w' := by
  have hn := hL.len
  unfold maxLen at hn
  obtain ⟨W, hW⟩ : ∃ W, w.alloc (.cells #[.int .i64 t.op, .int .i64 t.so, .string t.nm, .int .i64 t.nu, .slice A t.ks.length cap] 27) = W := ⟨_, rfl⟩
  have X := five_new w t (.slice A t.ks.length cap) 27
  have HB : Below w.heap.size w W := by rw [← hW]; exact (Below.refl _ _).alloc (Nat.le_refl _) _
  rw [hW] at X
  have HL := Lib.hid (hL.later HB)
  have HX := Lib.hid X
  have HW := Lib.hid hW
  have HB := Lib.hid HB
  clear hW hL X
  obtain ⟨x0, x1, x2, x3, x4⟩ := HX.out
  have k8 : ¬ ((8 : Int) < t.ks.length) := by omega
  subst hk1
  go_enter Tryz.func29, Tryz.ntmps29
  go_wp2_with fail
  rw [HW.out]
  refine (ck _).mono ?_
  rintro e w1 ⟨rfl, b1⟩
  obtain ⟨x0, x1, x2, x3, x4⟩ := HX.out.later b1
  have B1 := Lib.hid b1
  clear b1 ck
  go_wp2_with fail
  go_ret
  exact ⟨rfl, HB.out.trans (B1.out.mono HB.out.size)⟩

set_option maxRecDepth 100000 in
set_option maxHeartbeats 4000000 in
theorem rpr_b3_n2 (t : Nd) (kv : Int) (A : Option Addr) (cap : Nat) (w : World) (hL : Lies w A cap t.ks)
    (ck : ∀ w, Calls Tryz.prog 62 #[.int .i64 t.op] w fun e w' => e = .returned (.int .i64 kv) ∧ Below w.heap.size w w')
    (hk1 : kv = -1)
    (hk8 : t.ks.length ≤ 8)
    (o1 : (t.op == 1) = false)
    (o3 : (t.op == 3) = true)
    (hnm : (t.nm.toList == []) = false)
    (hb : nameB t.nm = false)
    : Calls Tryz.prog 29 #[nv t.op t.so t.nm t.nu (.slice A t.ks.length cap)] w fun e w' => e = .returned (.bool false) ∧ Below w.heap.size w w' := by
  have hn := hL.len
  unfold maxLen at hn
  obtain ⟨W, hW⟩ : ∃ W, w.alloc (.cells #[.int .i64 t.op, .int .i64 t.so, .string t.nm, .int .i64 t.nu, .slice A t.ks.length cap] 27) = W := ⟨_, rfl⟩
  have X := five_new w t (.slice A t.ks.length cap) 27
  have HB : Below w.heap.size w W := by rw [← hW]; exact (Below.refl _ _).alloc (Nat.le_refl _) _
  rw [hW] at X
  have HL := Lib.hid (hL.later HB)
  have HX := Lib.hid X
  have HW := Lib.hid hW
  have HB := Lib.hid HB
  clear hW hL X
  obtain ⟨x0, x1, x2, x3, x4⟩ := HX.out
  have k8 : ¬ ((8 : Int) < t.ks.length) := by omega
  subst hk1
  have Hnm := Lib.hid hb
  clear hb
  go_enter Tryz.func29, Tryz.ntmps29
  go_wp2_with fail
  rw [HW.out]
  refine (ck _).mono ?_
  rintro e w1 ⟨rfl, b1⟩
  obtain ⟨x0, x1, x2, x3, x4⟩ := HX.out.later b1
  have B1 := Lib.hid b1
  clear b1 ck
  go_wp2_with fail
  refine (refName_any _ _).mono ?_
  rintro e w2 ⟨rfl, b2⟩
  rw [Hnm.out]
  obtain ⟨x0, x1, x2, x3, x4⟩ := HX.out.later (b2.mono B1.out.size |> fun h => B1.out.trans h)
  have B1 := Lib.hid (B1.out.trans (b2.mono B1.out.size))
  clear b2
  go_wp2_with fail
  go_ret
  exact ⟨rfl, HB.out.trans (B1.out.mono HB.out.size)⟩

set_option maxRecDepth 100000 in
set_option maxHeartbeats 4000000 in
theorem rpr_b3_n3 (t : Nd) (kv : Int) (A : Option Addr) (cap : Nat) (w : World) (hL : Lies w A cap t.ks)
    (ck : ∀ w, Calls Tryz.prog 62 #[.int .i64 t.op] w fun e w' => e = .returned (.int .i64 kv) ∧ Below w.heap.size w w')
    (hk1 : kv = -1)
    (hk8 : t.ks.length ≤ 8)
    (o1 : (t.op == 1) = false)
    (o3 : (t.op == 3) = true)
    (hnm : (t.nm.toList == []) = false)
    (hb : nameB t.nm = true)
    (h0 : t.so < 0)
    : Calls Tryz.prog 29 #[nv t.op t.so t.nm t.nu (.slice A t.ks.length cap)] w fun e w' => e = .returned (.bool false) ∧ Below w.heap.size w w' := by
  have hn := hL.len
  unfold maxLen at hn
  obtain ⟨W, hW⟩ : ∃ W, w.alloc (.cells #[.int .i64 t.op, .int .i64 t.so, .string t.nm, .int .i64 t.nu, .slice A t.ks.length cap] 27) = W := ⟨_, rfl⟩
  have X := five_new w t (.slice A t.ks.length cap) 27
  have HB : Below w.heap.size w W := by rw [← hW]; exact (Below.refl _ _).alloc (Nat.le_refl _) _
  rw [hW] at X
  have HL := Lib.hid (hL.later HB)
  have HX := Lib.hid X
  have HW := Lib.hid hW
  have HB := Lib.hid HB
  clear hW hL X
  obtain ⟨x0, x1, x2, x3, x4⟩ := HX.out
  have k8 : ¬ ((8 : Int) < t.ks.length) := by omega
  subst hk1
  have Hnm := Lib.hid hb
  clear hb
  go_enter Tryz.func29, Tryz.ntmps29
  go_wp2_with fail
  rw [HW.out]
  refine (ck _).mono ?_
  rintro e w1 ⟨rfl, b1⟩
  obtain ⟨x0, x1, x2, x3, x4⟩ := HX.out.later b1
  have B1 := Lib.hid b1
  clear b1 ck
  go_wp2_with fail
  refine (refName_any _ _).mono ?_
  rintro e w2 ⟨rfl, b2⟩
  rw [Hnm.out]
  obtain ⟨x0, x1, x2, x3, x4⟩ := HX.out.later (b2.mono B1.out.size |> fun h => B1.out.trans h)
  have B1 := Lib.hid (B1.out.trans (b2.mono B1.out.size))
  clear b2
  go_wp2_with fail
  go_ret
  exact ⟨rfl, HB.out.trans (B1.out.mono HB.out.size)⟩

set_option maxRecDepth 100000 in
set_option maxHeartbeats 4000000 in
theorem rpr_b3_n4 (t : Nd) (kv : Int) (A : Option Addr) (cap : Nat) (w : World) (hL : Lies w A cap t.ks)
    (ck : ∀ w, Calls Tryz.prog 62 #[.int .i64 t.op] w fun e w' => e = .returned (.int .i64 kv) ∧ Below w.heap.size w w')
    (hk1 : kv = -1)
    (hk8 : t.ks.length ≤ 8)
    (o1 : (t.op == 1) = false)
    (o3 : (t.op == 3) = true)
    (hnm : (t.nm.toList == []) = false)
    (hb : nameB t.nm = true)
    (h0 : ¬ t.so < 0)
    (h5 : 5 < t.so)
    : Calls Tryz.prog 29 #[nv t.op t.so t.nm t.nu (.slice A t.ks.length cap)] w fun e w' => e = .returned (.bool false) ∧ Below w.heap.size w w' := by
  have hn := hL.len
  unfold maxLen at hn
  obtain ⟨W, hW⟩ : ∃ W, w.alloc (.cells #[.int .i64 t.op, .int .i64 t.so, .string t.nm, .int .i64 t.nu, .slice A t.ks.length cap] 27) = W := ⟨_, rfl⟩
  have X := five_new w t (.slice A t.ks.length cap) 27
  have HB : Below w.heap.size w W := by rw [← hW]; exact (Below.refl _ _).alloc (Nat.le_refl _) _
  rw [hW] at X
  have HL := Lib.hid (hL.later HB)
  have HX := Lib.hid X
  have HW := Lib.hid hW
  have HB := Lib.hid HB
  clear hW hL X
  obtain ⟨x0, x1, x2, x3, x4⟩ := HX.out
  have k8 : ¬ ((8 : Int) < t.ks.length) := by omega
  subst hk1
  have Hnm := Lib.hid hb
  clear hb
  go_enter Tryz.func29, Tryz.ntmps29
  go_wp2_with fail
  rw [HW.out]
  refine (ck _).mono ?_
  rintro e w1 ⟨rfl, b1⟩
  obtain ⟨x0, x1, x2, x3, x4⟩ := HX.out.later b1
  have B1 := Lib.hid b1
  clear b1 ck
  go_wp2_with fail
  refine (refName_any _ _).mono ?_
  rintro e w2 ⟨rfl, b2⟩
  rw [Hnm.out]
  obtain ⟨x0, x1, x2, x3, x4⟩ := HX.out.later (b2.mono B1.out.size |> fun h => B1.out.trans h)
  have B1 := Lib.hid (B1.out.trans (b2.mono B1.out.size))
  clear b2
  go_wp2_with fail
  go_ret
  exact ⟨rfl, HB.out.trans (B1.out.mono HB.out.size)⟩

set_option maxRecDepth 100000 in
set_option maxHeartbeats 4000000 in
theorem rpr_b3_n5 (t : Nd) (kv : Int) (A : Option Addr) (cap : Nat) (w : World) (hL : Lies w A cap t.ks)
    (ck : ∀ w, Calls Tryz.prog 62 #[.int .i64 t.op] w fun e w' => e = .returned (.int .i64 kv) ∧ Below w.heap.size w w')
    (hk1 : kv = -1)
    (hk8 : t.ks.length ≤ 8)
    (o1 : (t.op == 1) = false)
    (o3 : (t.op == 3) = true)
    (hnm : (t.nm.toList == []) = false)
    (hb : nameB t.nm = true)
    (h0 : ¬ t.so < 0)
    (h5 : ¬ 5 < t.so)
    (hz : (t.nu != 0) = true)
    : Calls Tryz.prog 29 #[nv t.op t.so t.nm t.nu (.slice A t.ks.length cap)] w fun e w' => e = .returned (.bool false) ∧ Below w.heap.size w w' := by
  have hn := hL.len
  unfold maxLen at hn
  obtain ⟨W, hW⟩ : ∃ W, w.alloc (.cells #[.int .i64 t.op, .int .i64 t.so, .string t.nm, .int .i64 t.nu, .slice A t.ks.length cap] 27) = W := ⟨_, rfl⟩
  have X := five_new w t (.slice A t.ks.length cap) 27
  have HB : Below w.heap.size w W := by rw [← hW]; exact (Below.refl _ _).alloc (Nat.le_refl _) _
  rw [hW] at X
  have HL := Lib.hid (hL.later HB)
  have HX := Lib.hid X
  have HW := Lib.hid hW
  have HB := Lib.hid HB
  clear hW hL X
  obtain ⟨x0, x1, x2, x3, x4⟩ := HX.out
  have k8 : ¬ ((8 : Int) < t.ks.length) := by omega
  subst hk1
  have Hnm := Lib.hid hb
  clear hb
  have o2 : (t.op == 2) = false := by rw [beq_iff_eq] at o3; rw [o3]; rfl
  have o7 : (t.op == 7) = false := by rw [beq_iff_eq] at o3; rw [o3]; rfl
  go_enter Tryz.func29, Tryz.ntmps29
  go_wp2_with fail
  rw [HW.out]
  refine (ck _).mono ?_
  rintro e w1 ⟨rfl, b1⟩
  obtain ⟨x0, x1, x2, x3, x4⟩ := HX.out.later b1
  have B1 := Lib.hid b1
  clear b1 ck
  go_wp2_with fail
  refine (refName_any _ _).mono ?_
  rintro e w2 ⟨rfl, b2⟩
  rw [Hnm.out]
  obtain ⟨x0, x1, x2, x3, x4⟩ := HX.out.later (b2.mono B1.out.size |> fun h => B1.out.trans h)
  have B1 := Lib.hid (B1.out.trans (b2.mono B1.out.size))
  clear b2
  go_wp2_with fail
  go_ret
  exact ⟨rfl, HB.out.trans (B1.out.mono HB.out.size)⟩

set_option maxRecDepth 100000 in
set_option maxHeartbeats 4000000 in
theorem rpr_b3_n6 (t : Nd) (kv : Int) (A : Option Addr) (cap : Nat) (w : World) (hL : Lies w A cap t.ks)
    (ck : ∀ w, Calls Tryz.prog 62 #[.int .i64 t.op] w fun e w' => e = .returned (.int .i64 kv) ∧ Below w.heap.size w w')
    (hk1 : kv = -1)
    (hk8 : t.ks.length ≤ 8)
    (o1 : (t.op == 1) = false)
    (o3 : (t.op == 3) = true)
    (hnm : (t.nm.toList == []) = false)
    (hb : nameB t.nm = true)
    (h0 : ¬ t.so < 0)
    (h5 : ¬ 5 < t.so)
    (hz : t.nu = 0)
    (hpr : prB t = t.ks.all prB) (ih : ∀ i (hi : i < t.ks.length), ∀ (A : Option Addr) (cap : Nat) (w : World), Lies w A cap t.ks[i].ks → Calls Tryz.prog 29 #[nv t.ks[i].op t.ks[i].so t.ks[i].nm t.ks[i].nu (.slice A t.ks[i].ks.length cap)] w fun e w' => e = .returned (.bool (prB t.ks[i])) ∧ Below w.heap.size w w')
    : Calls Tryz.prog 29 #[nv t.op t.so t.nm t.nu (.slice A t.ks.length cap)] w fun e w' => e = .returned (.bool (prB t)) ∧ Below w.heap.size w w' := by
  have hn := hL.len
  unfold maxLen at hn
  obtain ⟨W, hW⟩ : ∃ W, w.alloc (.cells #[.int .i64 t.op, .int .i64 t.so, .string t.nm, .int .i64 t.nu, .slice A t.ks.length cap] 27) = W := ⟨_, rfl⟩
  have X := five_new w t (.slice A t.ks.length cap) 27
  have HB : Below w.heap.size w W := by rw [← hW]; exact (Below.refl _ _).alloc (Nat.le_refl _) _
  rw [hW] at X
  have HL := Lib.hid (hL.later HB)
  have HX := Lib.hid X
  have HW := Lib.hid hW
  have HB := Lib.hid HB
  have HP := Lib.hid hpr
  have IH := Lib.hid ih
  clear hpr ih
  clear hW hL X
  obtain ⟨x0, x1, x2, x3, x4⟩ := HX.out
  have k8 : ¬ ((8 : Int) < t.ks.length) := by omega
  subst hk1
  have Hnm := Lib.hid hb
  clear hb
  have o2 : (t.op == 2) = false := by rw [beq_iff_eq] at o3; rw [o3]; rfl
  have o7 : (t.op == 7) = false := by rw [beq_iff_eq] at o3; rw [o3]; rfl
  have u1 : ¬ 1000000000000 < t.nu := by omega
  have u2 : ¬ t.nu < -1000000000000 := by omega
  have u3 : (t.nu != 0) = false := by simp [hz]
  clear hz
  go_enter Tryz.func29, Tryz.ntmps29
  go_wp2_with fail
  rw [HW.out]
  refine (ck _).mono ?_
  rintro e w1 ⟨rfl, b1⟩
  obtain ⟨x0, x1, x2, x3, x4⟩ := HX.out.later b1
  have B1 := Lib.hid b1
  clear b1 ck
  go_wp2_with fail
  refine (refName_any _ _).mono ?_
  rintro e w2 ⟨rfl, b2⟩
  rw [Hnm.out]
  obtain ⟨x0, x1, x2, x3, x4⟩ := HX.out.later (b2.mono B1.out.size |> fun h => B1.out.trans h)
  have B1 := Lib.hid (B1.out.trans (b2.mono B1.out.size))
  clear b2
  go_wp2_with fail
  have hs1 := B1.out.size
  go_loopw [103] (fun i wr => ∃ k : Nat, k ≤ t.ks.length ∧ i = .int .i64 k ∧ Hid (∀ j (h : j < t.ks.length), j < k → prB t.ks[j] = true) ∧ Below W.heap.size W wr) (fun i _ => t.ks.length - (intOf i).toNat)
  case atStart => exact ⟨0, Nat.zero_le _, rfl, fun j hj hjk => absurd hjk (by omega), B1.out⟩
  case round =>
    obtain ⟨k, hk, rfl, hj, hBr⟩ := hrel
    have HBr := Lib.hid hBr
    have hszr := hBr.size
    clear x0 x1 x2 x3 x4
    by_cases hlt : k < t.ks.length
    · obtain ⟨b, o, A', C', rfl, g5, hKd⟩ := HL.out.kid hlt
      obtain ⟨y0, y1, y2, y3, y4⟩ := g5.later hBr
      have c := Lib.hid (fun W' (hb : Below W.heap.size W W') => IH.out k hlt A' C' W' (hKd.later hb))
      have hsn := Lib.hid (fun (e : prB t.ks[k] = true) => (show Hid (∀ j (h : j < t.ks.length), j < k + 1 → prB t.ks[j] = true) from fun j hjs hjk => by
        by_cases e' : j = k
        · subst e'; exact e
        · exact hj.out j hjs (by omega)))
      have hno := Lib.hid (fun (e : prB t.ks[k] = false) => HP.out.trans (List.all_eq_false.2 ⟨_, List.getElem_mem hlt, by rw [e]; decide⟩))
      generalize t.ks[k] = q at *
      clear g5 hKd hBr IH hj
      cases hq : prB q
      case true =>
        have Hq := Lib.hid hq
        have Hsn := hsn.out hq
        clear hq hno hsn
        go_wp2_with fail
        refine (c.out _ (HBr.out.alloc hszr _)).mono ?_
        rintro e w2 ⟨rfl, b2⟩
        rw [Hq.out]
        have B2 := Lib.hid ((HBr.out.alloc hszr _).trans (b2.mono (HBr.out.alloc hszr _).size))
        clear b2
        go_wp2_with fail
        go_roundw
        case rel => exact ⟨k + 1, by omega, by go_num, Hsn, B2.out⟩
        case measure => simp [intOf]; omega
      case false =>
        have Hq := Lib.hid hq
        have Hr := Lib.hid (hno.out hq)
        clear hq hno hsn
        go_wp2_with fail
        refine (c.out _ (HBr.out.alloc hszr _)).mono ?_
        rintro e w2 ⟨rfl, b2⟩
        rw [Hq.out]
        have B2 := Lib.hid ((HBr.out.alloc hszr _).trans (b2.mono (HBr.out.alloc hszr _).size))
        clear b2
        go_wp2_with fail
        go_ret
        exact ⟨by rw [Hr.out]; rfl, HB.out.trans (B2.out.mono HB.out.size)⟩
    · have Hr := Lib.hid (show prB t = true from HP.out.trans (List.all_eq_true.2 fun x hx => by
        obtain ⟨i, hi, rfl⟩ := List.getElem_of_mem hx
        exact hj.out i hi (by omega)))
      clear hBr hj
      go_wp2_with fail
      go_ret
      exact ⟨by rw [Hr.out]; rfl, HB.out.trans (HBr.out.mono HB.out.size)⟩

set_option maxRecDepth 100000 in
set_option maxHeartbeats 4000000 in
theorem rpr_m1 (t : Nd) (kv : Int) (A : Option Addr) (cap : Nat) (w : World) (hL : Lies w A cap t.ks)
    (ck : ∀ w, Calls Tryz.prog 62 #[.int .i64 t.op] w fun e w' => e = .returned (.int .i64 kv) ∧ Below w.heap.size w w')
    (hk0 : 0 ≤ kv)
    (hk1 : kv = t.ks.length)
    (o1 : (t.op == 1) = false)
    (o3 : (t.op == 3) = false)
    (hnm : (t.nm.toList == []) = false)
    : Calls Tryz.prog 29 #[nv t.op t.so t.nm t.nu (.slice A t.ks.length cap)] w fun e w' => e = .returned (.bool false) ∧ Below w.heap.size w w' := by
  have hn := hL.len
  unfold maxLen at hn
  obtain ⟨W, hW⟩ : ∃ W, w.alloc (.cells #[.int .i64 t.op, .int .i64 t.so, .string t.nm, .int .i64 t.nu, .slice A t.ks.length cap] 27) = W := ⟨_, rfl⟩
  have X := five_new w t (.slice A t.ks.length cap) 27
  have HB : Below w.heap.size w W := by rw [← hW]; exact (Below.refl _ _).alloc (Nat.le_refl _) _
  rw [hW] at X
  have HL := Lib.hid (hL.later HB)
  have HX := Lib.hid X
  have HW := Lib.hid hW
  have HB := Lib.hid HB
  clear hW hL X
  obtain ⟨x0, x1, x2, x3, x4⟩ := HX.out
  have k2 : ¬ kv = -2 := by omega
  have k2b : (kv == -2) = false := by simpa using k2
  have k1b : (kv == -1) = false := by rw [beq_eq_false_iff_ne]; omega
  have knb : (kv != (t.ks.length : Int)) = false := by rw [hk1]; simp
  clear k2
  go_enter Tryz.func29, Tryz.ntmps29
  go_wp2_with fail
  rw [HW.out]
  refine (ck _).mono ?_
  rintro e w1 ⟨rfl, b1⟩
  obtain ⟨x0, x1, x2, x3, x4⟩ := HX.out.later b1
  have B1 := Lib.hid b1
  clear b1 ck
  go_wp2_with fail
  go_ret
  exact ⟨rfl, HB.out.trans (B1.out.mono HB.out.size)⟩

set_option maxRecDepth 100000 in
set_option maxHeartbeats 4000000 in
theorem rpr_m2 (t : Nd) (kv : Int) (A : Option Addr) (cap : Nat) (w : World) (hL : Lies w A cap t.ks)
    (ck : ∀ w, Calls Tryz.prog 62 #[.int .i64 t.op] w fun e w' => e = .returned (.int .i64 kv) ∧ Below w.heap.size w w')
    (hk0 : 0 ≤ kv)
    (hk1 : kv = t.ks.length)
    (o1 : (t.op == 1) = false)
    (o3 : (t.op == 3) = false)
    (hnm : (t.nm.toList == []) = true)
    (h0 : t.so < 0)
    : Calls Tryz.prog 29 #[nv t.op t.so t.nm t.nu (.slice A t.ks.length cap)] w fun e w' => e = .returned (.bool false) ∧ Below w.heap.size w w' := by
  have hn := hL.len
  unfold maxLen at hn
  obtain ⟨W, hW⟩ : ∃ W, w.alloc (.cells #[.int .i64 t.op, .int .i64 t.so, .string t.nm, .int .i64 t.nu, .slice A t.ks.length cap] 27) = W := ⟨_, rfl⟩
  have X := five_new w t (.slice A t.ks.length cap) 27
  have HB : Below w.heap.size w W := by rw [← hW]; exact (Below.refl _ _).alloc (Nat.le_refl _) _
  rw [hW] at X
  have HL := Lib.hid (hL.later HB)
  have HX := Lib.hid X
  have HW := Lib.hid hW
  have HB := Lib.hid HB
  clear hW hL X
  obtain ⟨x0, x1, x2, x3, x4⟩ := HX.out
  have k2 : ¬ kv = -2 := by omega
  have k2b : (kv == -2) = false := by simpa using k2
  have k1b : (kv == -1) = false := by rw [beq_eq_false_iff_ne]; omega
  have knb : (kv != (t.ks.length : Int)) = false := by rw [hk1]; simp
  clear k2
  go_enter Tryz.func29, Tryz.ntmps29
  go_wp2_with fail
  rw [HW.out]
  refine (ck _).mono ?_
  rintro e w1 ⟨rfl, b1⟩
  obtain ⟨x0, x1, x2, x3, x4⟩ := HX.out.later b1
  have B1 := Lib.hid b1
  clear b1 ck
  go_wp2_with fail
  go_ret
  exact ⟨rfl, HB.out.trans (B1.out.mono HB.out.size)⟩

set_option maxRecDepth 100000 in
set_option maxHeartbeats 4000000 in
theorem rpr_m3 (t : Nd) (kv : Int) (A : Option Addr) (cap : Nat) (w : World) (hL : Lies w A cap t.ks)
    (ck : ∀ w, Calls Tryz.prog 62 #[.int .i64 t.op] w fun e w' => e = .returned (.int .i64 kv) ∧ Below w.heap.size w w')
    (hk0 : 0 ≤ kv)
    (hk1 : kv = t.ks.length)
    (o1 : (t.op == 1) = false)
    (o3 : (t.op == 3) = false)
    (hnm : (t.nm.toList == []) = true)
    (h0 : ¬ t.so < 0)
    (h5 : 5 < t.so)
    : Calls Tryz.prog 29 #[nv t.op t.so t.nm t.nu (.slice A t.ks.length cap)] w fun e w' => e = .returned (.bool false) ∧ Below w.heap.size w w' := by
  have hn := hL.len
  unfold maxLen at hn
  obtain ⟨W, hW⟩ : ∃ W, w.alloc (.cells #[.int .i64 t.op, .int .i64 t.so, .string t.nm, .int .i64 t.nu, .slice A t.ks.length cap] 27) = W := ⟨_, rfl⟩
  have X := five_new w t (.slice A t.ks.length cap) 27
  have HB : Below w.heap.size w W := by rw [← hW]; exact (Below.refl _ _).alloc (Nat.le_refl _) _
  rw [hW] at X
  have HL := Lib.hid (hL.later HB)
  have HX := Lib.hid X
  have HW := Lib.hid hW
  have HB := Lib.hid HB
  clear hW hL X
  obtain ⟨x0, x1, x2, x3, x4⟩ := HX.out
  have k2 : ¬ kv = -2 := by omega
  have k2b : (kv == -2) = false := by simpa using k2
  have k1b : (kv == -1) = false := by rw [beq_eq_false_iff_ne]; omega
  have knb : (kv != (t.ks.length : Int)) = false := by rw [hk1]; simp
  clear k2
  go_enter Tryz.func29, Tryz.ntmps29
  go_wp2_with fail
  rw [HW.out]
  refine (ck _).mono ?_
  rintro e w1 ⟨rfl, b1⟩
  obtain ⟨x0, x1, x2, x3, x4⟩ := HX.out.later b1
  have B1 := Lib.hid b1
  clear b1 ck
  go_wp2_with fail
  go_ret
  exact ⟨rfl, HB.out.trans (B1.out.mono HB.out.size)⟩

set_option maxRecDepth 100000 in
set_option maxHeartbeats 4000000 in
theorem rpr_m4 (t : Nd) (kv : Int) (A : Option Addr) (cap : Nat) (w : World) (hL : Lies w A cap t.ks)
    (ck : ∀ w, Calls Tryz.prog 62 #[.int .i64 t.op] w fun e w' => e = .returned (.int .i64 kv) ∧ Below w.heap.size w w')
    (hk0 : 0 ≤ kv)
    (hk1 : kv = t.ks.length)
    (o1 : (t.op == 1) = false)
    (o3 : (t.op == 3) = false)
    (hnm : (t.nm.toList == []) = true)
    (h0 : ¬ t.so < 0)
    (h5 : ¬ 5 < t.so)
    (hs : (t.so != 0) = true)
    : Calls Tryz.prog 29 #[nv t.op t.so t.nm t.nu (.slice A t.ks.length cap)] w fun e w' => e = .returned (.bool false) ∧ Below w.heap.size w w' := by
  have hn := hL.len
  unfold maxLen at hn
  obtain ⟨W, hW⟩ : ∃ W, w.alloc (.cells #[.int .i64 t.op, .int .i64 t.so, .string t.nm, .int .i64 t.nu, .slice A t.ks.length cap] 27) = W := ⟨_, rfl⟩
  have X := five_new w t (.slice A t.ks.length cap) 27
  have HB : Below w.heap.size w W := by rw [← hW]; exact (Below.refl _ _).alloc (Nat.le_refl _) _
  rw [hW] at X
  have HL := Lib.hid (hL.later HB)
  have HX := Lib.hid X
  have HW := Lib.hid hW
  have HB := Lib.hid HB
  clear hW hL X
  obtain ⟨x0, x1, x2, x3, x4⟩ := HX.out
  have k2 : ¬ kv = -2 := by omega
  have k2b : (kv == -2) = false := by simpa using k2
  have k1b : (kv == -1) = false := by rw [beq_eq_false_iff_ne]; omega
  have knb : (kv != (t.ks.length : Int)) = false := by rw [hk1]; simp
  clear k2
  go_enter Tryz.func29, Tryz.ntmps29
  go_wp2_with fail
  rw [HW.out]
  refine (ck _).mono ?_
  rintro e w1 ⟨rfl, b1⟩
  obtain ⟨x0, x1, x2, x3, x4⟩ := HX.out.later b1
  have B1 := Lib.hid b1
  clear b1 ck
  go_wp2_with fail
  go_ret
  exact ⟨rfl, HB.out.trans (B1.out.mono HB.out.size)⟩

set_option maxRecDepth 100000 in
set_option maxHeartbeats 4000000 in
theorem rpr_m2_1 (t : Nd) (kv : Int) (A : Option Addr) (cap : Nat) (w : World) (hL : Lies w A cap t.ks)
    (ck : ∀ w, Calls Tryz.prog 62 #[.int .i64 t.op] w fun e w' => e = .returned (.int .i64 kv) ∧ Below w.heap.size w w')
    (hk0 : 0 ≤ kv)
    (hk1 : kv = t.ks.length)
    (o1 : (t.op == 1) = false)
    (o3 : (t.op == 3) = false)
    (hnm : (t.nm.toList == []) = true)
    (h0 : t.so = 0)
    (o2 : (t.op == 2) = true)
    (h1 : 1000000000000 < t.nu)
    : Calls Tryz.prog 29 #[nv t.op t.so t.nm t.nu (.slice A t.ks.length cap)] w fun e w' => e = .returned (.bool false) ∧ Below w.heap.size w w' := by
  have hn := hL.len
  unfold maxLen at hn
  obtain ⟨W, hW⟩ : ∃ W, w.alloc (.cells #[.int .i64 t.op, .int .i64 t.so, .string t.nm, .int .i64 t.nu, .slice A t.ks.length cap] 27) = W := ⟨_, rfl⟩
  have X := five_new w t (.slice A t.ks.length cap) 27
  have HB : Below w.heap.size w W := by rw [← hW]; exact (Below.refl _ _).alloc (Nat.le_refl _) _
  rw [hW] at X
  have HL := Lib.hid (hL.later HB)
  have HX := Lib.hid X
  have HW := Lib.hid hW
  have HB := Lib.hid HB
  clear hW hL X
  obtain ⟨x0, x1, x2, x3, x4⟩ := HX.out
  have k2 : ¬ kv = -2 := by omega
  have k2b : (kv == -2) = false := by simpa using k2
  have k1b : (kv == -1) = false := by rw [beq_eq_false_iff_ne]; omega
  have knb : (kv != (t.ks.length : Int)) = false := by rw [hk1]; simp
  clear k2
  have s1 : ¬ t.so < 0 := by omega
  have s2 : ¬ 5 < t.so := by omega
  have s3 : (t.so != 0) = false := by simp [h0]
  clear h0
  go_enter Tryz.func29, Tryz.ntmps29
  go_wp2_with fail
  rw [HW.out]
  refine (ck _).mono ?_
  rintro e w1 ⟨rfl, b1⟩
  obtain ⟨x0, x1, x2, x3, x4⟩ := HX.out.later b1
  have B1 := Lib.hid b1
  clear b1 ck
  go_wp2_with fail
  go_ret
  exact ⟨rfl, HB.out.trans (B1.out.mono HB.out.size)⟩

set_option maxRecDepth 100000 in
set_option maxHeartbeats 4000000 in
theorem rpr_m2_2 (t : Nd) (kv : Int) (A : Option Addr) (cap : Nat) (w : World) (hL : Lies w A cap t.ks)
    (ck : ∀ w, Calls Tryz.prog 62 #[.int .i64 t.op] w fun e w' => e = .returned (.int .i64 kv) ∧ Below w.heap.size w w')
    (hk0 : 0 ≤ kv)
    (hk1 : kv = t.ks.length)
    (o1 : (t.op == 1) = false)
    (o3 : (t.op == 3) = false)
    (hnm : (t.nm.toList == []) = true)
    (h0 : t.so = 0)
    (o2 : (t.op == 2) = true)
    (h1 : ¬ 1000000000000 < t.nu)
    (h2 : t.nu < -1000000000000)
    : Calls Tryz.prog 29 #[nv t.op t.so t.nm t.nu (.slice A t.ks.length cap)] w fun e w' => e = .returned (.bool false) ∧ Below w.heap.size w w' := by
  have hn := hL.len
  unfold maxLen at hn
  obtain ⟨W, hW⟩ : ∃ W, w.alloc (.cells #[.int .i64 t.op, .int .i64 t.so, .string t.nm, .int .i64 t.nu, .slice A t.ks.length cap] 27) = W := ⟨_, rfl⟩
  have X := five_new w t (.slice A t.ks.length cap) 27
  have HB : Below w.heap.size w W := by rw [← hW]; exact (Below.refl _ _).alloc (Nat.le_refl _) _
  rw [hW] at X
  have HL := Lib.hid (hL.later HB)
  have HX := Lib.hid X
  have HW := Lib.hid hW
  have HB := Lib.hid HB
  clear hW hL X
  obtain ⟨x0, x1, x2, x3, x4⟩ := HX.out
  have k2 : ¬ kv = -2 := by omega
  have k2b : (kv == -2) = false := by simpa using k2
  have k1b : (kv == -1) = false := by rw [beq_eq_false_iff_ne]; omega
  have knb : (kv != (t.ks.length : Int)) = false := by rw [hk1]; simp
  clear k2
  have s1 : ¬ t.so < 0 := by omega
  have s2 : ¬ 5 < t.so := by omega
  have s3 : (t.so != 0) = false := by simp [h0]
  clear h0
  go_enter Tryz.func29, Tryz.ntmps29
  go_wp2_with fail
  rw [HW.out]
  refine (ck _).mono ?_
  rintro e w1 ⟨rfl, b1⟩
  obtain ⟨x0, x1, x2, x3, x4⟩ := HX.out.later b1
  have B1 := Lib.hid b1
  clear b1 ck
  go_wp2_with fail
  go_ret
  exact ⟨rfl, HB.out.trans (B1.out.mono HB.out.size)⟩

set_option maxRecDepth 100000 in
set_option maxHeartbeats 4000000 in
theorem rpr_m2_3 (t : Nd) (kv : Int) (A : Option Addr) (cap : Nat) (w : World) (hL : Lies w A cap t.ks)
    (ck : ∀ w, Calls Tryz.prog 62 #[.int .i64 t.op] w fun e w' => e = .returned (.int .i64 kv) ∧ Below w.heap.size w w')
    (hk0 : 0 ≤ kv)
    (hk1 : kv = t.ks.length)
    (o1 : (t.op == 1) = false)
    (o3 : (t.op == 3) = false)
    (hnm : (t.nm.toList == []) = true)
    (h0 : t.so = 0)
    (o2 : (t.op == 2) = true)
    (h1 : ¬ 1000000000000 < t.nu)
    (h2 : ¬ t.nu < -1000000000000)
    (hpr : prB t = t.ks.all prB) (ih : ∀ i (hi : i < t.ks.length), ∀ (A : Option Addr) (cap : Nat) (w : World), Lies w A cap t.ks[i].ks → Calls Tryz.prog 29 #[nv t.ks[i].op t.ks[i].so t.ks[i].nm t.ks[i].nu (.slice A t.ks[i].ks.length cap)] w fun e w' => e = .returned (.bool (prB t.ks[i])) ∧ Below w.heap.size w w')
    : Calls Tryz.prog 29 #[nv t.op t.so t.nm t.nu (.slice A t.ks.length cap)] w fun e w' => e = .returned (.bool (prB t)) ∧ Below w.heap.size w w' := by
  have hn := hL.len
  unfold maxLen at hn
  obtain ⟨W, hW⟩ : ∃ W, w.alloc (.cells #[.int .i64 t.op, .int .i64 t.so, .string t.nm, .int .i64 t.nu, .slice A t.ks.length cap] 27) = W := ⟨_, rfl⟩
  have X := five_new w t (.slice A t.ks.length cap) 27
  have HB : Below w.heap.size w W := by rw [← hW]; exact (Below.refl _ _).alloc (Nat.le_refl _) _
  rw [hW] at X
  have HL := Lib.hid (hL.later HB)
  have HX := Lib.hid X
  have HW := Lib.hid hW
  have HB := Lib.hid HB
  have HP := Lib.hid hpr
  have IH := Lib.hid ih
  clear hpr ih
  clear hW hL X
  obtain ⟨x0, x1, x2, x3, x4⟩ := HX.out
  have k2 : ¬ kv = -2 := by omega
  have k2b : (kv == -2) = false := by simpa using k2
  have k1b : (kv == -1) = false := by rw [beq_eq_false_iff_ne]; omega
  have knb : (kv != (t.ks.length : Int)) = false := by rw [hk1]; simp
  clear k2
  have s1 : ¬ t.so < 0 := by omega
  have s2 : ¬ 5 < t.so := by omega
  have s3 : (t.so != 0) = false := by simp [h0]
  clear h0
  go_enter Tryz.func29, Tryz.ntmps29
  go_wp2_with fail
  rw [HW.out]
  refine (ck _).mono ?_
  rintro e w1 ⟨rfl, b1⟩
  obtain ⟨x0, x1, x2, x3, x4⟩ := HX.out.later b1
  have B1 := Lib.hid b1
  clear b1 ck
  go_wp2_with fail
  have hs1 := B1.out.size
  go_loopw [103] (fun i wr => ∃ k : Nat, k ≤ t.ks.length ∧ i = .int .i64 k ∧ Hid (∀ j (h : j < t.ks.length), j < k → prB t.ks[j] = true) ∧ Below W.heap.size W wr) (fun i _ => t.ks.length - (intOf i).toNat)
  case atStart => exact ⟨0, Nat.zero_le _, rfl, fun j hj hjk => absurd hjk (by omega), B1.out⟩
  case round =>
    obtain ⟨k, hk, rfl, hj, hBr⟩ := hrel
    have HBr := Lib.hid hBr
    have hszr := hBr.size
    clear x0 x1 x2 x3 x4
    by_cases hlt : k < t.ks.length
    · obtain ⟨b, o, A', C', rfl, g5, hKd⟩ := HL.out.kid hlt
      obtain ⟨y0, y1, y2, y3, y4⟩ := g5.later hBr
      have c := Lib.hid (fun W' (hb : Below W.heap.size W W') => IH.out k hlt A' C' W' (hKd.later hb))
      have hsn := Lib.hid (fun (e : prB t.ks[k] = true) => (show Hid (∀ j (h : j < t.ks.length), j < k + 1 → prB t.ks[j] = true) from fun j hjs hjk => by
        by_cases e' : j = k
        · subst e'; exact e
        · exact hj.out j hjs (by omega)))
      have hno := Lib.hid (fun (e : prB t.ks[k] = false) => HP.out.trans (List.all_eq_false.2 ⟨_, List.getElem_mem hlt, by rw [e]; decide⟩))
      generalize t.ks[k] = q at *
      clear g5 hKd hBr IH hj
      cases hq : prB q
      case true =>
        have Hq := Lib.hid hq
        have Hsn := hsn.out hq
        clear hq hno hsn
        go_wp2_with fail
        refine (c.out _ (HBr.out.alloc hszr _)).mono ?_
        rintro e w2 ⟨rfl, b2⟩
        rw [Hq.out]
        have B2 := Lib.hid ((HBr.out.alloc hszr _).trans (b2.mono (HBr.out.alloc hszr _).size))
        clear b2
        go_wp2_with fail
        go_roundw
        case rel => exact ⟨k + 1, by omega, by go_num, Hsn, B2.out⟩
        case measure => simp [intOf]; omega
      case false =>
        have Hq := Lib.hid hq
        have Hr := Lib.hid (hno.out hq)
        clear hq hno hsn
        go_wp2_with fail
        refine (c.out _ (HBr.out.alloc hszr _)).mono ?_
        rintro e w2 ⟨rfl, b2⟩
        rw [Hq.out]
        have B2 := Lib.hid ((HBr.out.alloc hszr _).trans (b2.mono (HBr.out.alloc hszr _).size))
        clear b2
        go_wp2_with fail
        go_ret
        exact ⟨by rw [Hr.out]; rfl, HB.out.trans (B2.out.mono HB.out.size)⟩
    · have Hr := Lib.hid (show prB t = true from HP.out.trans (List.all_eq_true.2 fun x hx => by
        obtain ⟨i, hi, rfl⟩ := List.getElem_of_mem hx
        exact hj.out i hi (by omega)))
      clear hBr hj
      go_wp2_with fail
      go_ret
      exact ⟨by rw [Hr.out]; rfl, HB.out.trans (HBr.out.mono HB.out.size)⟩

set_option maxRecDepth 100000 in
set_option maxHeartbeats 4000000 in
theorem rpr_m7_1 (t : Nd) (kv : Int) (A : Option Addr) (cap : Nat) (w : World) (hL : Lies w A cap t.ks)
    (ck : ∀ w, Calls Tryz.prog 62 #[.int .i64 t.op] w fun e w' => e = .returned (.int .i64 kv) ∧ Below w.heap.size w w')
    (hk0 : 0 ≤ kv)
    (hk1 : kv = t.ks.length)
    (o1 : (t.op == 1) = false)
    (o3 : (t.op == 3) = false)
    (hnm : (t.nm.toList == []) = true)
    (h0 : t.so = 0)
    (o2 : (t.op == 2) = false)
    (o7 : (t.op == 7) = true)
    (h1 : 1000000000000 < t.nu)
    : Calls Tryz.prog 29 #[nv t.op t.so t.nm t.nu (.slice A t.ks.length cap)] w fun e w' => e = .returned (.bool false) ∧ Below w.heap.size w w' := by
  have hn := hL.len
  unfold maxLen at hn
  obtain ⟨W, hW⟩ : ∃ W, w.alloc (.cells #[.int .i64 t.op, .int .i64 t.so, .string t.nm, .int .i64 t.nu, .slice A t.ks.length cap] 27) = W := ⟨_, rfl⟩
  have X := five_new w t (.slice A t.ks.length cap) 27
  have HB : Below w.heap.size w W := by rw [← hW]; exact (Below.refl _ _).alloc (Nat.le_refl _) _
  rw [hW] at X
  have HL := Lib.hid (hL.later HB)
  have HX := Lib.hid X
  have HW := Lib.hid hW
  have HB := Lib.hid HB
  clear hW hL X
  obtain ⟨x0, x1, x2, x3, x4⟩ := HX.out
  have k2 : ¬ kv = -2 := by omega
  have k2b : (kv == -2) = false := by simpa using k2
  have k1b : (kv == -1) = false := by rw [beq_eq_false_iff_ne]; omega
  have knb : (kv != (t.ks.length : Int)) = false := by rw [hk1]; simp
  clear k2
  have s1 : ¬ t.so < 0 := by omega
  have s2 : ¬ 5 < t.so := by omega
  have s3 : (t.so != 0) = false := by simp [h0]
  clear h0
  go_enter Tryz.func29, Tryz.ntmps29
  go_wp2_with fail
  rw [HW.out]
  refine (ck _).mono ?_
  rintro e w1 ⟨rfl, b1⟩
  obtain ⟨x0, x1, x2, x3, x4⟩ := HX.out.later b1
  have B1 := Lib.hid b1
  clear b1 ck
  go_wp2_with fail
  go_ret
  exact ⟨rfl, HB.out.trans (B1.out.mono HB.out.size)⟩

set_option maxRecDepth 100000 in
set_option maxHeartbeats 4000000 in
theorem rpr_m7_2 (t : Nd) (kv : Int) (A : Option Addr) (cap : Nat) (w : World) (hL : Lies w A cap t.ks)
    (ck : ∀ w, Calls Tryz.prog 62 #[.int .i64 t.op] w fun e w' => e = .returned (.int .i64 kv) ∧ Below w.heap.size w w')
    (hk0 : 0 ≤ kv)
    (hk1 : kv = t.ks.length)
    (o1 : (t.op == 1) = false)
    (o3 : (t.op == 3) = false)
    (hnm : (t.nm.toList == []) = true)
    (h0 : t.so = 0)
    (o2 : (t.op == 2) = false)
    (o7 : (t.op == 7) = true)
    (h1 : ¬ 1000000000000 < t.nu)
    (h2 : t.nu < -1000000000000)
    : Calls Tryz.prog 29 #[nv t.op t.so t.nm t.nu (.slice A t.ks.length cap)] w fun e w' => e = .returned (.bool false) ∧ Below w.heap.size w w' := by
  have hn := hL.len
  unfold maxLen at hn
  obtain ⟨W, hW⟩ : ∃ W, w.alloc (.cells #[.int .i64 t.op, .int .i64 t.so, .string t.nm, .int .i64 t.nu, .slice A t.ks.length cap] 27) = W := ⟨_, rfl⟩
  have X := five_new w t (.slice A t.ks.length cap) 27
  have HB : Below w.heap.size w W := by rw [← hW]; exact (Below.refl _ _).alloc (Nat.le_refl _) _
  rw [hW] at X
  have HL := Lib.hid (hL.later HB)
  have HX := Lib.hid X
  have HW := Lib.hid hW
  have HB := Lib.hid HB
  clear hW hL X
  obtain ⟨x0, x1, x2, x3, x4⟩ := HX.out
  have k2 : ¬ kv = -2 := by omega
  have k2b : (kv == -2) = false := by simpa using k2
  have k1b : (kv == -1) = false := by rw [beq_eq_false_iff_ne]; omega
  have knb : (kv != (t.ks.length : Int)) = false := by rw [hk1]; simp
  clear k2
  have s1 : ¬ t.so < 0 := by omega
  have s2 : ¬ 5 < t.so := by omega
  have s3 : (t.so != 0) = false := by simp [h0]
  clear h0
  go_enter Tryz.func29, Tryz.ntmps29
  go_wp2_with fail
  rw [HW.out]
  refine (ck _).mono ?_
  rintro e w1 ⟨rfl, b1⟩
  obtain ⟨x0, x1, x2, x3, x4⟩ := HX.out.later b1
  have B1 := Lib.hid b1
  clear b1 ck
  go_wp2_with fail
  go_ret
  exact ⟨rfl, HB.out.trans (B1.out.mono HB.out.size)⟩

set_option maxRecDepth 100000 in
set_option maxHeartbeats 4000000 in
theorem rpr_m7_3 (t : Nd) (kv : Int) (A : Option Addr) (cap : Nat) (w : World) (hL : Lies w A cap t.ks)
    (ck : ∀ w, Calls Tryz.prog 62 #[.int .i64 t.op] w fun e w' => e = .returned (.int .i64 kv) ∧ Below w.heap.size w w')
    (hk0 : 0 ≤ kv)
    (hk1 : kv = t.ks.length)
    (o1 : (t.op == 1) = false)
    (o3 : (t.op == 3) = false)
    (hnm : (t.nm.toList == []) = true)
    (h0 : t.so = 0)
    (o2 : (t.op == 2) = false)
    (o7 : (t.op == 7) = true)
    (h1 : ¬ 1000000000000 < t.nu)
    (h2 : ¬ t.nu < -1000000000000)
    (hpr : prB t = t.ks.all prB) (ih : ∀ i (hi : i < t.ks.length), ∀ (A : Option Addr) (cap : Nat) (w : World), Lies w A cap t.ks[i].ks → Calls Tryz.prog 29 #[nv t.ks[i].op t.ks[i].so t.ks[i].nm t.ks[i].nu (.slice A t.ks[i].ks.length cap)] w fun e w' => e = .returned (.bool (prB t.ks[i])) ∧ Below w.heap.size w w')
    : Calls Tryz.prog 29 #[nv t.op t.so t.nm t.nu (.slice A t.ks.length cap)] w fun e w' => e = .returned (.bool (prB t)) ∧ Below w.heap.size w w' := by
  have hn := hL.len
  unfold maxLen at hn
  obtain ⟨W, hW⟩ : ∃ W, w.alloc (.cells #[.int .i64 t.op, .int .i64 t.so, .string t.nm, .int .i64 t.nu, .slice A t.ks.length cap] 27) = W := ⟨_, rfl⟩
  have X := five_new w t (.slice A t.ks.length cap) 27
  have HB : Below w.heap.size w W := by rw [← hW]; exact (Below.refl _ _).alloc (Nat.le_refl _) _
  rw [hW] at X
  have HL := Lib.hid (hL.later HB)
  have HX := Lib.hid X
  have HW := Lib.hid hW
  have HB := Lib.hid HB
  have HP := Lib.hid hpr
  have IH := Lib.hid ih
  clear hpr ih
  clear hW hL X
  obtain ⟨x0, x1, x2, x3, x4⟩ := HX.out
  have k2 : ¬ kv = -2 := by omega
  have k2b : (kv == -2) = false := by simpa using k2
  have k1b : (kv == -1) = false := by rw [beq_eq_false_iff_ne]; omega
  have knb : (kv != (t.ks.length : Int)) = false := by rw [hk1]; simp
  clear k2
  have s1 : ¬ t.so < 0 := by omega
  have s2 : ¬ 5 < t.so := by omega
  have s3 : (t.so != 0) = false := by simp [h0]
  clear h0
  go_enter Tryz.func29, Tryz.ntmps29
  go_wp2_with fail
  rw [HW.out]
  refine (ck _).mono ?_
  rintro e w1 ⟨rfl, b1⟩
  obtain ⟨x0, x1, x2, x3, x4⟩ := HX.out.later b1
  have B1 := Lib.hid b1
  clear b1 ck
  go_wp2_with fail
  have hs1 := B1.out.size
  go_loopw [103] (fun i wr => ∃ k : Nat, k ≤ t.ks.length ∧ i = .int .i64 k ∧ Hid (∀ j (h : j < t.ks.length), j < k → prB t.ks[j] = true) ∧ Below W.heap.size W wr) (fun i _ => t.ks.length - (intOf i).toNat)
  case atStart => exact ⟨0, Nat.zero_le _, rfl, fun j hj hjk => absurd hjk (by omega), B1.out⟩
  case round =>
    obtain ⟨k, hk, rfl, hj, hBr⟩ := hrel
    have HBr := Lib.hid hBr
    have hszr := hBr.size
    clear x0 x1 x2 x3 x4
    by_cases hlt : k < t.ks.length
    · obtain ⟨b, o, A', C', rfl, g5, hKd⟩ := HL.out.kid hlt
      obtain ⟨y0, y1, y2, y3, y4⟩ := g5.later hBr
      have c := Lib.hid (fun W' (hb : Below W.heap.size W W') => IH.out k hlt A' C' W' (hKd.later hb))
      have hsn := Lib.hid (fun (e : prB t.ks[k] = true) => (show Hid (∀ j (h : j < t.ks.length), j < k + 1 → prB t.ks[j] = true) from fun j hjs hjk => by
        by_cases e' : j = k
        · subst e'; exact e
        · exact hj.out j hjs (by omega)))
      have hno := Lib.hid (fun (e : prB t.ks[k] = false) => HP.out.trans (List.all_eq_false.2 ⟨_, List.getElem_mem hlt, by rw [e]; decide⟩))
      generalize t.ks[k] = q at *
      clear g5 hKd hBr IH hj
      cases hq : prB q
      case true =>
        have Hq := Lib.hid hq
        have Hsn := hsn.out hq
        clear hq hno hsn
        go_wp2_with fail
        refine (c.out _ (HBr.out.alloc hszr _)).mono ?_
        rintro e w2 ⟨rfl, b2⟩
        rw [Hq.out]
        have B2 := Lib.hid ((HBr.out.alloc hszr _).trans (b2.mono (HBr.out.alloc hszr _).size))
        clear b2
        go_wp2_with fail
        go_roundw
        case rel => exact ⟨k + 1, by omega, by go_num, Hsn, B2.out⟩
        case measure => simp [intOf]; omega
      case false =>
        have Hq := Lib.hid hq
        have Hr := Lib.hid (hno.out hq)
        clear hq hno hsn
        go_wp2_with fail
        refine (c.out _ (HBr.out.alloc hszr _)).mono ?_
        rintro e w2 ⟨rfl, b2⟩
        rw [Hq.out]
        have B2 := Lib.hid ((HBr.out.alloc hszr _).trans (b2.mono (HBr.out.alloc hszr _).size))
        clear b2
        go_wp2_with fail
        go_ret
        exact ⟨by rw [Hr.out]; rfl, HB.out.trans (B2.out.mono HB.out.size)⟩
    · have Hr := Lib.hid (show prB t = true from HP.out.trans (List.all_eq_true.2 fun x hx => by
        obtain ⟨i, hi, rfl⟩ := List.getElem_of_mem hx
        exact hj.out i hi (by omega)))
      clear hBr hj
      go_wp2_with fail
      go_ret
      exact ⟨by rw [Hr.out]; rfl, HB.out.trans (HBr.out.mono HB.out.size)⟩

set_option maxRecDepth 100000 in
set_option maxHeartbeats 4000000 in
theorem rpr_m0_1 (t : Nd) (kv : Int) (A : Option Addr) (cap : Nat) (w : World) (hL : Lies w A cap t.ks)
    (ck : ∀ w, Calls Tryz.prog 62 #[.int .i64 t.op] w fun e w' => e = .returned (.int .i64 kv) ∧ Below w.heap.size w w')
    (hk0 : 0 ≤ kv)
    (hk1 : kv = t.ks.length)
    (o1 : (t.op == 1) = false)
    (o3 : (t.op == 3) = false)
    (hnm : (t.nm.toList == []) = true)
    (h0 : t.so = 0)
    (o2 : (t.op == 2) = false)
    (o7 : (t.op == 7) = false)
    (h1 : (t.nu != 0) = true)
    : Calls Tryz.prog 29 #[nv t.op t.so t.nm t.nu (.slice A t.ks.length cap)] w fun e w' => e = .returned (.bool false) ∧ Below w.heap.size w w' := by
  have hn := hL.len
  unfold maxLen at hn
  obtain ⟨W, hW⟩ : ∃ W, w.alloc (.cells #[.int .i64 t.op, .int .i64 t.so, .string t.nm, .int .i64 t.nu, .slice A t.ks.length cap] 27) = W := ⟨_, rfl⟩
  have X := five_new w t (.slice A t.ks.length cap) 27
  have HB : Below w.heap.size w W := by rw [← hW]; exact (Below.refl _ _).alloc (Nat.le_refl _) _
  rw [hW] at X
  have HL := Lib.hid (hL.later HB)
  have HX := Lib.hid X
  have HW := Lib.hid hW
  have HB := Lib.hid HB
  clear hW hL X
  obtain ⟨x0, x1, x2, x3, x4⟩ := HX.out
  have k2 : ¬ kv = -2 := by omega
  have k2b : (kv == -2) = false := by simpa using k2
  have k1b : (kv == -1) = false := by rw [beq_eq_false_iff_ne]; omega
  have knb : (kv != (t.ks.length : Int)) = false := by rw [hk1]; simp
  clear k2
  have s1 : ¬ t.so < 0 := by omega
  have s2 : ¬ 5 < t.so := by omega
  have s3 : (t.so != 0) = false := by simp [h0]
  clear h0
  go_enter Tryz.func29, Tryz.ntmps29
  go_wp2_with fail
  rw [HW.out]
  refine (ck _).mono ?_
  rintro e w1 ⟨rfl, b1⟩
  obtain ⟨x0, x1, x2, x3, x4⟩ := HX.out.later b1
  have B1 := Lib.hid b1
  clear b1 ck
  go_wp2_with fail
  go_ret
  exact ⟨rfl, HB.out.trans (B1.out.mono HB.out.size)⟩

set_option maxRecDepth 100000 in
set_option maxHeartbeats 4000000 in
theorem rpr_m0_2 (t : Nd) (kv : Int) (A : Option Addr) (cap : Nat) (w : World) (hL : Lies w A cap t.ks)
    (ck : ∀ w, Calls Tryz.prog 62 #[.int .i64 t.op] w fun e w' => e = .returned (.int .i64 kv) ∧ Below w.heap.size w w')
    (hk0 : 0 ≤ kv)
    (hk1 : kv = t.ks.length)
    (o1 : (t.op == 1) = false)
    (o3 : (t.op == 3) = false)
    (hnm : (t.nm.toList == []) = true)
    (h0 : t.so = 0)
    (o2 : (t.op == 2) = false)
    (o7 : (t.op == 7) = false)
    (hz : t.nu = 0)
    (hpr : prB t = t.ks.all prB) (ih : ∀ i (hi : i < t.ks.length), ∀ (A : Option Addr) (cap : Nat) (w : World), Lies w A cap t.ks[i].ks → Calls Tryz.prog 29 #[nv t.ks[i].op t.ks[i].so t.ks[i].nm t.ks[i].nu (.slice A t.ks[i].ks.length cap)] w fun e w' => e = .returned (.bool (prB t.ks[i])) ∧ Below w.heap.size w w')
    : Calls Tryz.prog 29 #[nv t.op t.so t.nm t.nu (.slice A t.ks.length cap)] w fun e w' => e = .returned (.bool (prB t)) ∧ Below w.heap.size w w' := by
  have hn := hL.len
  unfold maxLen at hn
  obtain ⟨W, hW⟩ : ∃ W, w.alloc (.cells #[.int .i64 t.op, .int .i64 t.so, .string t.nm, .int .i64 t.nu, .slice A t.ks.length cap] 27) = W := ⟨_, rfl⟩
  have X := five_new w t (.slice A t.ks.length cap) 27
  have HB : Below w.heap.size w W := by rw [← hW]; exact (Below.refl _ _).alloc (Nat.le_refl _) _
  rw [hW] at X
  have HL := Lib.hid (hL.later HB)
  have HX := Lib.hid X
  have HW := Lib.hid hW
  have HB := Lib.hid HB
  have HP := Lib.hid hpr
  have IH := Lib.hid ih
  clear hpr ih
  clear hW hL X
  obtain ⟨x0, x1, x2, x3, x4⟩ := HX.out
  have k2 : ¬ kv = -2 := by omega
  have k2b : (kv == -2) = false := by simpa using k2
  have k1b : (kv == -1) = false := by rw [beq_eq_false_iff_ne]; omega
  have knb : (kv != (t.ks.length : Int)) = false := by rw [hk1]; simp
  clear k2
  have s1 : ¬ t.so < 0 := by omega
  have s2 : ¬ 5 < t.so := by omega
  have s3 : (t.so != 0) = false := by simp [h0]
  clear h0
  have u1 : ¬ 1000000000000 < t.nu := by omega
  have u2 : ¬ t.nu < -1000000000000 := by omega
  have u3 : (t.nu != 0) = false := by simp [hz]
  clear hz
  go_enter Tryz.func29, Tryz.ntmps29
  go_wp2_with fail
  rw [HW.out]
  refine (ck _).mono ?_
  rintro e w1 ⟨rfl, b1⟩
  obtain ⟨x0, x1, x2, x3, x4⟩ := HX.out.later b1
  have B1 := Lib.hid b1
  clear b1 ck
  go_wp2_with fail
  have hs1 := B1.out.size
  go_loopw [103] (fun i wr => ∃ k : Nat, k ≤ t.ks.length ∧ i = .int .i64 k ∧ Hid (∀ j (h : j < t.ks.length), j < k → prB t.ks[j] = true) ∧ Below W.heap.size W wr) (fun i _ => t.ks.length - (intOf i).toNat)
  case atStart => exact ⟨0, Nat.zero_le _, rfl, fun j hj hjk => absurd hjk (by omega), B1.out⟩
  case round =>
    obtain ⟨k, hk, rfl, hj, hBr⟩ := hrel
    have HBr := Lib.hid hBr
    have hszr := hBr.size
    clear x0 x1 x2 x3 x4
    by_cases hlt : k < t.ks.length
    · obtain ⟨b, o, A', C', rfl, g5, hKd⟩ := HL.out.kid hlt
      obtain ⟨y0, y1, y2, y3, y4⟩ := g5.later hBr
      have c := Lib.hid (fun W' (hb : Below W.heap.size W W') => IH.out k hlt A' C' W' (hKd.later hb))
      have hsn := Lib.hid (fun (e : prB t.ks[k] = true) => (show Hid (∀ j (h : j < t.ks.length), j < k + 1 → prB t.ks[j] = true) from fun j hjs hjk => by
        by_cases e' : j = k
        · subst e'; exact e
        · exact hj.out j hjs (by omega)))
      have hno := Lib.hid (fun (e : prB t.ks[k] = false) => HP.out.trans (List.all_eq_false.2 ⟨_, List.getElem_mem hlt, by rw [e]; decide⟩))
      generalize t.ks[k] = q at *
      clear g5 hKd hBr IH hj
      cases hq : prB q
      case true =>
        have Hq := Lib.hid hq
        have Hsn := hsn.out hq
        clear hq hno hsn
        go_wp2_with fail
        refine (c.out _ (HBr.out.alloc hszr _)).mono ?_
        rintro e w2 ⟨rfl, b2⟩
        rw [Hq.out]
        have B2 := Lib.hid ((HBr.out.alloc hszr _).trans (b2.mono (HBr.out.alloc hszr _).size))
        clear b2
        go_wp2_with fail
        go_roundw
        case rel => exact ⟨k + 1, by omega, by go_num, Hsn, B2.out⟩
        case measure => simp [intOf]; omega
      case false =>
        have Hq := Lib.hid hq
        have Hr := Lib.hid (hno.out hq)
        clear hq hno hsn
        go_wp2_with fail
        refine (c.out _ (HBr.out.alloc hszr _)).mono ?_
        rintro e w2 ⟨rfl, b2⟩
        rw [Hq.out]
        have B2 := Lib.hid ((HBr.out.alloc hszr _).trans (b2.mono (HBr.out.alloc hszr _).size))
        clear b2
        go_wp2_with fail
        go_ret
        exact ⟨by rw [Hr.out]; rfl, HB.out.trans (B2.out.mono HB.out.size)⟩
    · have Hr := Lib.hid (show prB t = true from HP.out.trans (List.all_eq_true.2 fun x hx => by
        obtain ⟨i, hi, rfl⟩ := List.getElem_of_mem hx
        exact hj.out i hi (by omega)))
      clear hBr hj
      go_wp2_with fail
      go_ret
      exact ⟨by rw [Hr.out]; rfl, HB.out.trans (HBr.out.mono HB.out.size)⟩
end Go.Proofs.YtgkjcimgghflmaaGreatDoor
namespace Go.Proofs.YtgkjcimgghflmaaGreatDoor
open Go.RowKit Go.Shelf

theorem fld_named {t : Nd} (h : t.op = 1 ∨ t.op = 3) : fldOk t ↔ nameB t.nm = true ∧ t.nu = 0 ∧ 0 ≤ t.so ∧ t.so ≤ 5 := by
  unfold fldOk; rw [if_pos h]
theorem fld_other {t : Nd} (h1 : t.op ≠ 1) (h3 : t.op ≠ 3) : fldOk t ↔ t.nm.toList = [] ∧ t.so = 0 ∧ (if t.op = 2 ∨ t.op = 7 then -1000000000000 ≤ t.nu ∧ t.nu ≤ 1000000000000 else t.nu = 0) := by
  unfold fldOk; rw [if_neg (by omega)]
theorem nameB_empty {s : ByteArray} (h : (s.toList == []) = true) : nameB s = false := by
  refine nameB_no fun ⟨_, ⟨h', _⟩, _⟩ => ?_
  have : s.toList.length = 0 := by rw [beq_iff_eq.1 h]; rfl
  rw [toList_size] at this
  omega

set_option maxRecDepth 100000 in
theorem rpr_any (t : Nd) : ∀ (A : Option Addr) (cap : Nat) (w : World), Lies w A cap t.ks →
    Calls Tryz.prog 29 #[nv t.op t.so t.nm t.nu (.slice A t.ks.length cap)] w fun e w' => e = .returned (.bool (prB t)) ∧ Below w.heap.size w w' := by
  induction t using Nd.ind with
  | h t ih =>
  intro A cap w hL
  have ck := kidsOf_any t.op
  have hcnt := cnt_kidN t.op t.ks.length
  have hkc := kidN_cases t.op
  generalize kidN t.op = kv at *
  by_cases hc : cntOk t.op t.ks.length
  · have hall : fldOk t → prB t = t.ks.all prB := fun h => pr_all ⟨h, hc⟩
    have hno : ¬ fldOk t → prB t = false := fun h => pr_no fun h' => h h'.1
    rcases hcnt.1 hc with ⟨k0, k1⟩ | ⟨k1, k8⟩
    · have h3 : t.op ≠ 3 := by rcases hkc with h | ⟨h, _⟩ | ⟨_, h⟩ <;> omega
      by_cases h1 : t.op = 1
      · have o1 : (t.op == 1) = true := by simpa using h1
        have hf := fld_named (t := t) (.inl h1)
        cases hnm : (t.nm.toList == [])
        case true =>
          rw [hno (fun h => by have := (hf.1 h).1; rw [nameB_empty hnm] at this; cases this)]
          exact rpr_b1_n1 t kv A cap w hL ck k0 k1 o1 hnm
        cases hb : nameB t.nm
        case false =>
          rw [hno (fun h => by have := (hf.1 h).1; rw [hb] at this; cases this)]
          exact rpr_b1_n2 t kv A cap w hL ck k0 k1 o1 hnm hb
        by_cases h0 : t.so < 0
        · rw [hno (fun h => by have := (hf.1 h).2.2.1; omega)]
          exact rpr_b1_n3 t kv A cap w hL ck k0 k1 o1 hnm hb h0
        by_cases h5 : 5 < t.so
        · rw [hno (fun h => by have := (hf.1 h).2.2.2; omega)]
          exact rpr_b1_n4 t kv A cap w hL ck k0 k1 o1 hnm hb h0 h5
        by_cases hz : t.nu = 0
        · exact rpr_b1_n6 t kv A cap w hL ck k0 k1 o1 hnm hb h0 h5 hz (hall (hf.2 ⟨hb, hz, by omega, by omega⟩)) ih
        · rw [hno (fun h => hz (hf.1 h).2.1)]
          exact rpr_b1_n5 t kv A cap w hL ck k0 k1 o1 hnm hb h0 h5 (by simpa using hz)
      · have o1 : (t.op == 1) = false := by simpa using h1
        have o3 : (t.op == 3) = false := by simpa using h3
        have hf := fld_other h1 h3
        cases hnm : (t.nm.toList == [])
        case false =>
          rw [hno (fun h => by have := (hf.1 h).1; rw [this] at hnm; cases hnm)]
          exact rpr_m1 t kv A cap w hL ck k0 k1 o1 o3 hnm
        have hnm' : t.nm.toList = [] := by simpa using hnm
        by_cases h0 : t.so < 0
        · rw [hno (fun h => by have := (hf.1 h).2.1; omega)]
          exact rpr_m2 t kv A cap w hL ck k0 k1 o1 o3 hnm h0
        by_cases h5 : 5 < t.so
        · rw [hno (fun h => by have := (hf.1 h).2.1; omega)]
          exact rpr_m3 t kv A cap w hL ck k0 k1 o1 o3 hnm h0 h5
        by_cases hs : t.so = 0
        case neg =>
          rw [hno (fun h => hs (hf.1 h).2.1)]
          exact rpr_m4 t kv A cap w hL ck k0 k1 o1 o3 hnm h0 h5 (by simpa using hs)
        by_cases h2 : t.op = 2
        · have o2 : (t.op == 2) = true := by simpa using h2
          rw [if_pos (.inl h2)] at hf
          by_cases u1 : 1000000000000 < t.nu
          · rw [hno (fun h => by have := (hf.1 h).2.2; omega)]
            exact rpr_m2_1 t kv A cap w hL ck k0 k1 o1 o3 hnm hs o2 u1
          by_cases u2 : t.nu < -1000000000000
          · rw [hno (fun h => by have := (hf.1 h).2.2; omega)]
            exact rpr_m2_2 t kv A cap w hL ck k0 k1 o1 o3 hnm hs o2 u1 u2
          exact rpr_m2_3 t kv A cap w hL ck k0 k1 o1 o3 hnm hs o2 u1 u2 (hall (hf.2 ⟨hnm', hs, by omega, by omega⟩)) ih
        have o2 : (t.op == 2) = false := by simpa using h2
        by_cases h7 : t.op = 7
        · have o7 : (t.op == 7) = true := by simpa using h7
          rw [if_pos (.inr h7)] at hf
          by_cases u1 : 1000000000000 < t.nu
          · rw [hno (fun h => by have := (hf.1 h).2.2; omega)]
            exact rpr_m7_1 t kv A cap w hL ck k0 k1 o1 o3 hnm hs o2 o7 u1
          by_cases u2 : t.nu < -1000000000000
          · rw [hno (fun h => by have := (hf.1 h).2.2; omega)]
            exact rpr_m7_2 t kv A cap w hL ck k0 k1 o1 o3 hnm hs o2 o7 u1 u2
          exact rpr_m7_3 t kv A cap w hL ck k0 k1 o1 o3 hnm hs o2 o7 u1 u2 (hall (hf.2 ⟨hnm', hs, by omega, by omega⟩)) ih
        have o7 : (t.op == 7) = false := by simpa using h7
        rw [if_neg (by omega)] at hf
        by_cases hz : t.nu = 0
        · exact rpr_m0_2 t kv A cap w hL ck k0 k1 o1 o3 hnm hs o2 o7 hz (hall (hf.2 ⟨hnm', hs, hz⟩)) ih
        · rw [hno (fun h => hz (hf.1 h).2.2)]
          exact rpr_m0_1 t kv A cap w hL ck k0 k1 o1 o3 hnm hs o2 o7 (by simpa using hz)
    · have h3 : t.op = 3 := by rcases hkc with h | ⟨_, h⟩ | ⟨h, _⟩ <;> omega
      have o1 : (t.op == 1) = false := by rw [h3]; rfl
      have o3 : (t.op == 3) = true := by simpa using h3
      have hf := fld_named (t := t) (.inr h3)
      cases hnm : (t.nm.toList == [])
      case true =>
        rw [hno (fun h => by have := (hf.1 h).1; rw [nameB_empty hnm] at this; cases this)]
        exact rpr_b3_n1 t kv A cap w hL ck k1 k8 o1 o3 hnm
      cases hb : nameB t.nm
      case false =>
        rw [hno (fun h => by have := (hf.1 h).1; rw [hb] at this; cases this)]
        exact rpr_b3_n2 t kv A cap w hL ck k1 k8 o1 o3 hnm hb
      by_cases h0 : t.so < 0
      · rw [hno (fun h => by have := (hf.1 h).2.2.1; omega)]
        exact rpr_b3_n3 t kv A cap w hL ck k1 k8 o1 o3 hnm hb h0
      by_cases h5 : 5 < t.so
      · rw [hno (fun h => by have := (hf.1 h).2.2.2; omega)]
        exact rpr_b3_n4 t kv A cap w hL ck k1 k8 o1 o3 hnm hb h0 h5
      by_cases hz : t.nu = 0
      · exact rpr_b3_n6 t kv A cap w hL ck k1 k8 o1 o3 hnm hb h0 h5 hz (hall (hf.2 ⟨hb, hz, by omega, by omega⟩)) ih
      · rw [hno (fun h => hz (hf.1 h).2.1)]
        exact rpr_b3_n5 t kv A cap w hL ck k1 k8 o1 o3 hnm hb h0 h5 (by simpa using hz)
  · rw [pr_no fun h => hc h.2]
    rcases hkc with h | ⟨h, h3⟩ | ⟨h, h3⟩
    · exact rpr_a1 t kv A cap w hL ck h
    · exact rpr_a3 t kv A cap w hL ck h (by rcases Nat.lt_or_ge 8 t.ks.length with h' | h'; exact h'; exact absurd (hcnt.2 (.inr ⟨h, h'⟩)) hc)
    · exact rpr_a2 t kv A cap w hL ck h (fun h' => hc (hcnt.2 (.inl ⟨h, h'⟩)))

/-- A printable node's text has at most 64 bytes for each node. -/
theorem itoa_len {n : Int} (h0 : -1000000000000 ≤ n) (h1 : n ≤ 1000000000000) : (Lib.itoa n).length ≤ 20 := by
  by_cases h : n < 0
  · rw [itoa_neg h]
    have := dec_len (n := n.natAbs) (by omega)
    simp only [List.length_cons]; omega
  · rw [itoa_pos h]
    have := dec_len (n := n.toNat) (by omega)
    omega
theorem nameB_len {s : ByteArray} (h : nameB s = true) : s.size ≤ 24 := by
  by_cases h' : s.size ≤ 24
  · exact h'
  · rw [nameB_no fun hh => h' hh.1] at h; cases h
theorem sgn_len (op : Int) : (sgn op).length ≤ 3 := by
  unfold sgn
  repeat' split
  all_goals decide
theorem commas_len : ∀ (l : List (List UInt8)), (commas l).length ≤ (l.map List.length).sum + 2 * l.length
  | [] => by simp [commas]
  | [a] => by simp [commas]
  | a :: b :: l => by
    have := commas_len (b :: l)
    simp only [commas, List.map_cons, List.sum_cons, List.length_append, List.length_cons] at this ⊢
    omega
theorem hd_len {t : Nd} (hf : fldOk t) (hr : restOp t.op) : (hdT t).length ≤ 24 := by
  unfold hdT
  split
  · rename_i h
    have := nameB_len ((fld_named (.inr h)).1 hf).1
    rw [Array.length_toList]
    exact this
  · rcases hr with e | e | e | e | e | e | e | e | e <;> (rw [e]; decide)
theorem txt_len (t : Nd) : prB t = true → (txt t).length ≤ 64 * cnt t := by
  induction t using Nd.ind with
  | h t ih =>
  intro hp
  obtain ⟨hf, hc⟩ := pr_frm hp
  have hK : ∀ i (hi : i < t.ks.length), (txt t.ks[i]).length ≤ 64 * cnt t.ks[i] := fun i hi => ih i hi (pr_kid hp i hi)
  have hb : t.op = 2 ∨ t.op = 7 → -1000000000000 ≤ t.nu ∧ t.nu ≤ 1000000000000 := fun h => by
    unfold fldOk at hf
    rw [if_neg (by omega), if_pos h] at hf
    exact hf.2.2
  have hcn := cnt_eq t
  rcases cnt_cases hc with ⟨hs, h2⟩ | ⟨e, h0⟩ | ⟨e, h0⟩ | ⟨e, h1⟩ | ⟨e, h1⟩ | ⟨e, h1⟩ | hr
  · obtain ⟨q, r, hk⟩ := two_of h2
    have h0' := hK 0 (by omega)
    have h1' := hK 1 (by omega)
    simp only [hk, List.getElem_cons_zero, List.getElem_cons_succ, List.map_cons, List.map_nil, List.sum_cons, List.sum_nil] at h0' h1' hcn
    have := sgn_len t.op
    rw [txt_eq t, txtW, if_pos hs, hk]
    simp [paren]; omega
  · rw [txt_eq t, txtW]
    rcases e with e | e | e | e
    · have := nameB_len ((fld_named (.inl e)).1 hf).1
      rw [e]; simp [sgn]
      have h2 : t.nm.data.size = t.nm.size := rfl
      omega
    all_goals (rw [e]; simp [sgn, wrdS, wrd]; omega)
  · have := itoa_len (hb (.inl e)).1 (hb (.inl e)).2
    rw [txt_eq t, txtW, e]; simp [sgn, intT]
    split <;> (try simp [paren]) <;> omega
  · obtain ⟨q, hk⟩ := one_of h1
    have h0' := hK 0 (by omega)
    simp only [hk, List.getElem_cons_zero, List.map_cons, List.map_nil, List.sum_cons, List.sum_nil] at h0' hcn
    rw [txt_eq t, txtW, hk, e]; simp [sgn, paren]; omega
  · obtain ⟨q, hk⟩ := one_of h1
    have h0' := hK 0 (by omega)
    simp only [hk, List.getElem_cons_zero, List.map_cons, List.map_nil, List.sum_cons, List.sum_nil] at h0' hcn
    rw [txt_eq t, txtW, hk, e]; simp only [sgn, natKid, hk]
    simp [paren]
    split <;> simp <;> omega
  · obtain ⟨q, hk⟩ := one_of h1
    have h0' := hK 0 (by omega)
    have i1 := itoa_len (hb (.inr e)).1 (hb (.inr e)).2
    have i2 := itoa_len (n := -t.nu) (by have := hb (.inr e); omega) (by have := hb (.inr e); omega)
    simp only [hk, List.getElem_cons_zero, List.map_cons, List.map_nil, List.sum_cons, List.sum_nil] at h0' hcn
    rw [txt_eq t, txtW, hk, e]; simp only [sgn]
    simp [paren]
    split <;> simp <;> omega
  · rw [txt_rest hr]
    have h1 := commas_len (t.ks.map txt)
    have h2 := hd_len hf hr
    have h3 : ((t.ks.map txt).map List.length).sum ≤ 64 * (t.ks.map cnt).sum := by
      have : ∀ l : List Nd, (∀ x ∈ l, (txt x).length ≤ 64 * cnt x) → ((l.map txt).map List.length).sum ≤ 64 * (l.map cnt).sum := by
        intro l
        induction l with
        | nil => intro _; simp
        | cons a l ihl =>
          intro h
          have ha := h a (by simp)
          have hl := ihl fun x hx => h x (by simp [hx])
          simp only [List.map_cons, List.sum_cons]
          omega
      refine this _ fun x hx => ?_
      obtain ⟨i, hi, rfl⟩ := List.getElem_of_mem hx
      exact hK i hi
    have h8 : t.ks.length ≤ 8 := by
      unfold cntOk at hc
      unfold restOp at hr
      omega
    simp only [paren, List.length_append, List.length_cons, List.length_nil, List.length_map] at h1 ⊢
    omega
end Go.Proofs.YtgkjcimgghflmaaGreatDoor
