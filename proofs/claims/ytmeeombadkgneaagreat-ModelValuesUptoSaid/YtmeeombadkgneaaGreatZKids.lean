/-
  What package logic's Check, and what it calls, returns; conditions: the tree lies in memory.
-/
import Derived.Lib.QuietBelow
import Derived.BigQuiet
import Derived.Test.YtmeeombadkgneaaGreatZFns
namespace Go.Proofs.YtmeeombadkgneaaGreat
open Go.RowKit Go.Shelf

attribute [local go_sem] Oper.semAt_some
/-- Whether a node has the Name, Sort and Num that its Op uses, and no others. -/
def fieldsB (op so : Int) (nm : ByteArray) (nu : Int) : Bool :=
  if (op == 1) = true ∨ (op == 3) = true then nameB nm && (decide (1 ≤ so) && (decide (so ≤ 5) && (nu == 0)))
  else if (nm.toList == []) = false ∨ (so == 0) = false then false
  else if (op == 2) = true ∨ (op == 7) = true then decide (-1000000000000 ≤ nu) && decide (nu ≤ 1000000000000)
  else if (op == 42) = true then decide (0 ≤ nu) && decide (nu < 200)
  else nu == 0

theorem fields_1 {op so nu : Int} {nm : ByteArray} (h : (op == 1) = true ∨ (op == 3) = true) : fieldsB op so nm nu = (nameB nm && (decide (1 ≤ so) && (decide (so ≤ 5) && (nu == 0)))) := if_pos h
theorem fields_2 {op so nu : Int} {nm : ByteArray} (h1 : (op == 1) = false) (h3 : (op == 3) = false) (h : (nm.toList == []) = false ∨ (so == 0) = false) : fieldsB op so nm nu = false := by
  rw [fieldsB, if_neg (by simp [h1, h3]), if_pos h]
theorem fields_3 {op so nu : Int} {nm : ByteArray} (h1 : (op == 1) = false) (h3 : (op == 3) = false) (hn : (nm.toList == []) = true) (hs : (so == 0) = true) :
    fieldsB op so nm nu = if (op == 2) = true ∨ (op == 7) = true then decide (-1000000000000 ≤ nu) && decide (nu ≤ 1000000000000) else if (op == 42) = true then decide (0 ≤ nu) && decide (nu < 200) else nu == 0 := by
  rw [fieldsB, if_neg (by simp [h1, h3]), if_neg (by simp [hn, hs])]

set_option maxRecDepth 100000 in
set_option maxHeartbeats 2000000 in
theorem fields_any (op so nu : Int) (nm : ByteArray) (s : Value) (w : World) :
    Calls Tryz.prog 117 #[nv op so nm nu s] w fun e w' => e = .returned (.bool (fieldsB op so nm nu)) ∧ Below w.heap.size w w' := by
  have HB : ∀ O, Below w.heap.size w (w.alloc O) := fun O => (Below.refl _ _).alloc (Nat.le_refl _) _
  by_cases h1 : (op == 1) = true ∨ (op == 3) = true
  · rw [fields_1 h1]
    cases e1 : op == 1
    · have e3 : (op == 3) = true := by simpa [e1] using h1
      clear h1
      go_enter Tryz.func117, Tryz.ntmps117
      go_wp2_with (go_at_call 55; refine (name_any _ _).mono ?_; rintro e w' ⟨rfl, rfl⟩)
      all_goals go_ret
      all_goals (refine ⟨?_, HB _⟩; first | (simp [*]; done) | (simp [*]; omega))
    · clear h1
      go_enter Tryz.func117, Tryz.ntmps117
      go_wp2_with (go_at_call 55; refine (name_any _ _).mono ?_; rintro e w' ⟨rfl, rfl⟩)
      all_goals go_ret
      all_goals (refine ⟨?_, HB _⟩; first | (simp [*]; done) | (simp [*]; omega))
  have h1' : (op == 1) = false := by simpa using (not_or.1 h1).1
  have h3' : (op == 3) = false := by simpa using (not_or.1 h1).2
  clear h1
  cases hn : nm.toList == []
  · rw [fields_2 h1' h3' (.inl hn)]
    go_enter Tryz.func117, Tryz.ntmps117
    go_wp2
    go_ret
    exact ⟨rfl, HB _⟩
  cases hs : so == 0
  · rw [fields_2 h1' h3' (.inr hs)]
    go_enter Tryz.func117, Tryz.ntmps117
    go_wp2
    go_ret
    exact ⟨rfl, HB _⟩
  rw [fields_3 h1' h3' hn hs]
  cases e2 : op == 2
  case true =>
    rw [if_pos (.inl rfl)]
    go_enter Tryz.func117, Tryz.ntmps117
    go_wp2
    all_goals go_ret
    all_goals (refine ⟨?_, HB _⟩; first | (simp [*]; done) | (simp [*]; omega))
  cases e7 : op == 7
  case true =>
    rw [if_pos (.inr rfl)]
    go_enter Tryz.func117, Tryz.ntmps117
    go_wp2
    all_goals go_ret
    all_goals (refine ⟨?_, HB _⟩; first | (simp [*]; done) | (simp [*]; omega))
  rw [if_neg (by simp)]
  cases e42 : op == 42
  case true =>
    rw [if_pos rfl]
    go_enter Tryz.func117, Tryz.ntmps117
    go_wp2
    all_goals go_ret
    all_goals (refine ⟨?_, HB _⟩; first | (simp [*]; done) | (simp [*]; omega))
  rw [if_neg (by simp)]
  go_enter Tryz.func117, Tryz.ntmps117
  go_wp2
  all_goals go_ret
  all_goals (refine ⟨?_, HB _⟩; first | rfl | (simp [*]; done))

theorem ints_nil (w : World) : Ints w none [] := ⟨0, 0, fun h => by simp at h, fun i h => by simp at h⟩
theorem ints_1 (W : World) (a : Int) (t : TypeId) : Ints (W.alloc (.cells #[.int .i64 a] t)) (some ⟨W.heap.size, 0, none⟩) [a] :=
  ⟨_, 0, fun _ => rfl, fun i h => by
    obtain rfl : i = 0 := by simp at h; omega
    simp [go_sem]⟩
theorem ints_2 (W : World) (a b : Int) (t : TypeId) : Ints (W.alloc (.cells #[.int .i64 a, .int .i64 b] t)) (some ⟨W.heap.size, 0, none⟩) [a, b] :=
  ⟨_, 0, fun _ => rfl, fun i h => by
    obtain rfl | rfl : i = 0 ∨ i = 1 := by simp at h; omega
    · simp [go_sem]
    · simp [go_sem]⟩
theorem ints_3 (W : World) (a b c : Int) (t : TypeId) : Ints (W.alloc (.cells #[.int .i64 a, .int .i64 b, .int .i64 c] t)) (some ⟨W.heap.size, 0, none⟩) [a, b, c] :=
  ⟨_, 0, fun _ => rfl, fun i h => by
    obtain rfl | rfl | rfl : i = 0 ∨ i = 1 ∨ i = 2 := by simp at h; omega
    · simp [go_sem]
    · simp [go_sem]
    · simp [go_sem]⟩

set_option maxHeartbeats 1000000 in
theorem kids_1 (so nu : Int) (nm : ByteArray) (ks : List Nd) (A : Option Addr) (cap : Nat) (w : World) (hL : Lies w A cap ks) :
    Calls Tryz.prog 118 #[nv 1 so nm nu (.slice A ks.length cap)] w fun e w' => e = .returned (.bool (takesB ks [])) ∧ Below w.heap.size w w' := by
  have HB1 : Below w.heap.size w (w.alloc (.cells #[.int .i64 1, .int .i64 so, .string nm, .int .i64 nu, .slice A ks.length cap] 44)) := (Below.refl _ _).alloc (Nat.le_refl _) _
  have HB2 : ∀ O, Below w.heap.size w ((w.alloc (.cells #[.int .i64 1, .int .i64 so, .string nm, .int .i64 nu, .slice A ks.length cap] 44)).alloc O) := fun O => HB1.alloc (by simp) _
  have HL := Lib.hid hL
  clear hL
  go_enter Tryz.func118, Tryz.ntmps118
  go_wp2_with fail
  refine (takes_any ks [] A _ cap _ _ (HL.out.later HB1) (ints_nil _) (by decide)).mono ?_
  rintro e w1 ⟨rfl, hb1⟩
  have hB : Below w.heap.size w w1 := HB1.trans (hb1.mono (by simp))
  clear hb1
  go_wp2_with fail
  go_ret
  exact ⟨rfl, hB⟩

set_option maxHeartbeats 1000000 in
theorem kids_2 (so nu : Int) (nm : ByteArray) (ks : List Nd) (A : Option Addr) (cap : Nat) (w : World) (hL : Lies w A cap ks) :
    Calls Tryz.prog 118 #[nv 2 so nm nu (.slice A ks.length cap)] w fun e w' => e = .returned (.bool (takesB ks [])) ∧ Below w.heap.size w w' := by
  have HB1 : Below w.heap.size w (w.alloc (.cells #[.int .i64 2, .int .i64 so, .string nm, .int .i64 nu, .slice A ks.length cap] 44)) := (Below.refl _ _).alloc (Nat.le_refl _) _
  have HB2 : ∀ O, Below w.heap.size w ((w.alloc (.cells #[.int .i64 2, .int .i64 so, .string nm, .int .i64 nu, .slice A ks.length cap] 44)).alloc O) := fun O => HB1.alloc (by simp) _
  have HL := Lib.hid hL
  clear hL
  go_enter Tryz.func118, Tryz.ntmps118
  go_wp2_with fail
  refine (takes_any ks [] A _ cap _ _ (HL.out.later HB1) (ints_nil _) (by decide)).mono ?_
  rintro e w1 ⟨rfl, hb1⟩
  have hB : Below w.heap.size w w1 := HB1.trans (hb1.mono (by simp))
  clear hb1
  go_wp2_with fail
  go_ret
  exact ⟨rfl, hB⟩

set_option maxHeartbeats 1000000 in
theorem kids_9 (so nu : Int) (nm : ByteArray) (ks : List Nd) (A : Option Addr) (cap : Nat) (w : World) (hL : Lies w A cap ks) :
    Calls Tryz.prog 118 #[nv 9 so nm nu (.slice A ks.length cap)] w fun e w' => e = .returned (.bool (takesB ks [])) ∧ Below w.heap.size w w' := by
  have HB1 : Below w.heap.size w (w.alloc (.cells #[.int .i64 9, .int .i64 so, .string nm, .int .i64 nu, .slice A ks.length cap] 44)) := (Below.refl _ _).alloc (Nat.le_refl _) _
  have HB2 : ∀ O, Below w.heap.size w ((w.alloc (.cells #[.int .i64 9, .int .i64 so, .string nm, .int .i64 nu, .slice A ks.length cap] 44)).alloc O) := fun O => HB1.alloc (by simp) _
  have HL := Lib.hid hL
  clear hL
  go_enter Tryz.func118, Tryz.ntmps118
  go_wp2_with fail
  refine (takes_any ks [] A _ cap _ _ (HL.out.later HB1) (ints_nil _) (by decide)).mono ?_
  rintro e w1 ⟨rfl, hb1⟩
  have hB : Below w.heap.size w w1 := HB1.trans (hb1.mono (by simp))
  clear hb1
  go_wp2_with fail
  go_ret
  exact ⟨rfl, hB⟩

set_option maxHeartbeats 1000000 in
theorem kids_30 (so nu : Int) (nm : ByteArray) (ks : List Nd) (A : Option Addr) (cap : Nat) (w : World) (hL : Lies w A cap ks) :
    Calls Tryz.prog 118 #[nv 30 so nm nu (.slice A ks.length cap)] w fun e w' => e = .returned (.bool (takesB ks [])) ∧ Below w.heap.size w w' := by
  have HB1 : Below w.heap.size w (w.alloc (.cells #[.int .i64 30, .int .i64 so, .string nm, .int .i64 nu, .slice A ks.length cap] 44)) := (Below.refl _ _).alloc (Nat.le_refl _) _
  have HB2 : ∀ O, Below w.heap.size w ((w.alloc (.cells #[.int .i64 30, .int .i64 so, .string nm, .int .i64 nu, .slice A ks.length cap] 44)).alloc O) := fun O => HB1.alloc (by simp) _
  have HL := Lib.hid hL
  clear hL
  go_enter Tryz.func118, Tryz.ntmps118
  go_wp2_with fail
  refine (takes_any ks [] A _ cap _ _ (HL.out.later HB1) (ints_nil _) (by decide)).mono ?_
  rintro e w1 ⟨rfl, hb1⟩
  have hB : Below w.heap.size w w1 := HB1.trans (hb1.mono (by simp))
  clear hb1
  go_wp2_with fail
  go_ret
  exact ⟨rfl, hB⟩

set_option maxHeartbeats 1000000 in
theorem kids_31 (so nu : Int) (nm : ByteArray) (ks : List Nd) (A : Option Addr) (cap : Nat) (w : World) (hL : Lies w A cap ks) :
    Calls Tryz.prog 118 #[nv 31 so nm nu (.slice A ks.length cap)] w fun e w' => e = .returned (.bool (takesB ks [])) ∧ Below w.heap.size w w' := by
  have HB1 : Below w.heap.size w (w.alloc (.cells #[.int .i64 31, .int .i64 so, .string nm, .int .i64 nu, .slice A ks.length cap] 44)) := (Below.refl _ _).alloc (Nat.le_refl _) _
  have HB2 : ∀ O, Below w.heap.size w ((w.alloc (.cells #[.int .i64 31, .int .i64 so, .string nm, .int .i64 nu, .slice A ks.length cap] 44)).alloc O) := fun O => HB1.alloc (by simp) _
  have HL := Lib.hid hL
  clear hL
  go_enter Tryz.func118, Tryz.ntmps118
  go_wp2_with fail
  refine (takes_any ks [] A _ cap _ _ (HL.out.later HB1) (ints_nil _) (by decide)).mono ?_
  rintro e w1 ⟨rfl, hb1⟩
  have hB : Below w.heap.size w w1 := HB1.trans (hb1.mono (by simp))
  clear hb1
  go_wp2_with fail
  go_ret
  exact ⟨rfl, hB⟩

set_option maxHeartbeats 1000000 in
theorem kids_6 (so nu : Int) (nm : ByteArray) (ks : List Nd) (A : Option Addr) (cap : Nat) (w : World) (hL : Lies w A cap ks) :
    Calls Tryz.prog 118 #[nv 6 so nm nu (.slice A ks.length cap)] w fun e w' => e = .returned (.bool (takesB ks [1])) ∧ Below w.heap.size w w' := by
  have HB1 : Below w.heap.size w (w.alloc (.cells #[.int .i64 6, .int .i64 so, .string nm, .int .i64 nu, .slice A ks.length cap] 44)) := (Below.refl _ _).alloc (Nat.le_refl _) _
  have HB2 : ∀ O, Below w.heap.size w ((w.alloc (.cells #[.int .i64 6, .int .i64 so, .string nm, .int .i64 nu, .slice A ks.length cap] 44)).alloc O) := fun O => HB1.alloc (by simp) _
  have HL := Lib.hid hL
  clear hL
  go_enter Tryz.func118, Tryz.ntmps118
  go_wp2_with fail
  refine (takes_any ks [1] A _ cap _ _ (HL.out.later (HB2 _)) (by have := ints_1 (w.alloc (.cells #[.int .i64 6, .int .i64 so, .string nm, .int .i64 nu, .slice A ks.length cap] 44)) 1 3; rw [World.size_alloc] at this; exact this) (by decide)).mono ?_
  rintro e w1 ⟨rfl, hb1⟩
  have hB : Below w.heap.size w w1 := (HB2 _).trans (hb1.mono (by simp; omega))
  clear hb1
  go_wp2_with fail
  go_ret
  exact ⟨rfl, hB⟩

set_option maxHeartbeats 1000000 in
theorem kids_7 (so nu : Int) (nm : ByteArray) (ks : List Nd) (A : Option Addr) (cap : Nat) (w : World) (hL : Lies w A cap ks) :
    Calls Tryz.prog 118 #[nv 7 so nm nu (.slice A ks.length cap)] w fun e w' => e = .returned (.bool (takesB ks [1])) ∧ Below w.heap.size w w' := by
  have HB1 : Below w.heap.size w (w.alloc (.cells #[.int .i64 7, .int .i64 so, .string nm, .int .i64 nu, .slice A ks.length cap] 44)) := (Below.refl _ _).alloc (Nat.le_refl _) _
  have HB2 : ∀ O, Below w.heap.size w ((w.alloc (.cells #[.int .i64 7, .int .i64 so, .string nm, .int .i64 nu, .slice A ks.length cap] 44)).alloc O) := fun O => HB1.alloc (by simp) _
  have HL := Lib.hid hL
  clear hL
  go_enter Tryz.func118, Tryz.ntmps118
  go_wp2_with fail
  refine (takes_any ks [1] A _ cap _ _ (HL.out.later (HB2 _)) (by have := ints_1 (w.alloc (.cells #[.int .i64 7, .int .i64 so, .string nm, .int .i64 nu, .slice A ks.length cap] 44)) 1 3; rw [World.size_alloc] at this; exact this) (by decide)).mono ?_
  rintro e w1 ⟨rfl, hb1⟩
  have hB : Below w.heap.size w w1 := (HB2 _).trans (hb1.mono (by simp; omega))
  clear hb1
  go_wp2_with fail
  go_ret
  exact ⟨rfl, hB⟩

set_option maxHeartbeats 1000000 in
theorem kids_10 (so nu : Int) (nm : ByteArray) (ks : List Nd) (A : Option Addr) (cap : Nat) (w : World) (hL : Lies w A cap ks) :
    Calls Tryz.prog 118 #[nv 10 so nm nu (.slice A ks.length cap)] w fun e w' => e = .returned (.bool (takesB ks [1])) ∧ Below w.heap.size w w' := by
  have HB1 : Below w.heap.size w (w.alloc (.cells #[.int .i64 10, .int .i64 so, .string nm, .int .i64 nu, .slice A ks.length cap] 44)) := (Below.refl _ _).alloc (Nat.le_refl _) _
  have HB2 : ∀ O, Below w.heap.size w ((w.alloc (.cells #[.int .i64 10, .int .i64 so, .string nm, .int .i64 nu, .slice A ks.length cap] 44)).alloc O) := fun O => HB1.alloc (by simp) _
  have HL := Lib.hid hL
  clear hL
  go_enter Tryz.func118, Tryz.ntmps118
  go_wp2_with fail
  refine (takes_any ks [1] A _ cap _ _ (HL.out.later (HB2 _)) (by have := ints_1 (w.alloc (.cells #[.int .i64 10, .int .i64 so, .string nm, .int .i64 nu, .slice A ks.length cap] 44)) 1 3; rw [World.size_alloc] at this; exact this) (by decide)).mono ?_
  rintro e w1 ⟨rfl, hb1⟩
  have hB : Below w.heap.size w w1 := (HB2 _).trans (hb1.mono (by simp; omega))
  clear hb1
  go_wp2_with fail
  go_ret
  exact ⟨rfl, hB⟩

set_option maxHeartbeats 1000000 in
theorem kids_4 (so nu : Int) (nm : ByteArray) (ks : List Nd) (A : Option Addr) (cap : Nat) (w : World) (hL : Lies w A cap ks) :
    Calls Tryz.prog 118 #[nv 4 so nm nu (.slice A ks.length cap)] w fun e w' => e = .returned (.bool (takesB ks [1, 1])) ∧ Below w.heap.size w w' := by
  have HB1 : Below w.heap.size w (w.alloc (.cells #[.int .i64 4, .int .i64 so, .string nm, .int .i64 nu, .slice A ks.length cap] 44)) := (Below.refl _ _).alloc (Nat.le_refl _) _
  have HB2 : ∀ O, Below w.heap.size w ((w.alloc (.cells #[.int .i64 4, .int .i64 so, .string nm, .int .i64 nu, .slice A ks.length cap] 44)).alloc O) := fun O => HB1.alloc (by simp) _
  have HL := Lib.hid hL
  clear hL
  go_enter Tryz.func118, Tryz.ntmps118
  go_wp2_with fail
  refine (takes_any ks [1, 1] A _ cap _ _ (HL.out.later (HB2 _)) (by have := ints_2 (w.alloc (.cells #[.int .i64 4, .int .i64 so, .string nm, .int .i64 nu, .slice A ks.length cap] 44)) 1 1 3; rw [World.size_alloc] at this; exact this) (by decide)).mono ?_
  rintro e w1 ⟨rfl, hb1⟩
  have hB : Below w.heap.size w w1 := (HB2 _).trans (hb1.mono (by simp; omega))
  clear hb1
  go_wp2_with fail
  go_ret
  exact ⟨rfl, hB⟩

set_option maxHeartbeats 1000000 in
theorem kids_5 (so nu : Int) (nm : ByteArray) (ks : List Nd) (A : Option Addr) (cap : Nat) (w : World) (hL : Lies w A cap ks) :
    Calls Tryz.prog 118 #[nv 5 so nm nu (.slice A ks.length cap)] w fun e w' => e = .returned (.bool (takesB ks [1, 1])) ∧ Below w.heap.size w w' := by
  have HB1 : Below w.heap.size w (w.alloc (.cells #[.int .i64 5, .int .i64 so, .string nm, .int .i64 nu, .slice A ks.length cap] 44)) := (Below.refl _ _).alloc (Nat.le_refl _) _
  have HB2 : ∀ O, Below w.heap.size w ((w.alloc (.cells #[.int .i64 5, .int .i64 so, .string nm, .int .i64 nu, .slice A ks.length cap] 44)).alloc O) := fun O => HB1.alloc (by simp) _
  have HL := Lib.hid hL
  clear hL
  go_enter Tryz.func118, Tryz.ntmps118
  go_wp2_with fail
  refine (takes_any ks [1, 1] A _ cap _ _ (HL.out.later (HB2 _)) (by have := ints_2 (w.alloc (.cells #[.int .i64 5, .int .i64 so, .string nm, .int .i64 nu, .slice A ks.length cap] 44)) 1 1 3; rw [World.size_alloc] at this; exact this) (by decide)).mono ?_
  rintro e w1 ⟨rfl, hb1⟩
  have hB : Below w.heap.size w w1 := (HB2 _).trans (hb1.mono (by simp; omega))
  clear hb1
  go_wp2_with fail
  go_ret
  exact ⟨rfl, hB⟩

set_option maxHeartbeats 1000000 in
theorem kids_38 (so nu : Int) (nm : ByteArray) (ks : List Nd) (A : Option Addr) (cap : Nat) (w : World) (hL : Lies w A cap ks) :
    Calls Tryz.prog 118 #[nv 38 so nm nu (.slice A ks.length cap)] w fun e w' => e = .returned (.bool (takesB ks [1, 1])) ∧ Below w.heap.size w w' := by
  have HB1 : Below w.heap.size w (w.alloc (.cells #[.int .i64 38, .int .i64 so, .string nm, .int .i64 nu, .slice A ks.length cap] 44)) := (Below.refl _ _).alloc (Nat.le_refl _) _
  have HB2 : ∀ O, Below w.heap.size w ((w.alloc (.cells #[.int .i64 38, .int .i64 so, .string nm, .int .i64 nu, .slice A ks.length cap] 44)).alloc O) := fun O => HB1.alloc (by simp) _
  have HL := Lib.hid hL
  clear hL
  go_enter Tryz.func118, Tryz.ntmps118
  go_wp2_with fail
  refine (takes_any ks [1, 1] A _ cap _ _ (HL.out.later (HB2 _)) (by have := ints_2 (w.alloc (.cells #[.int .i64 38, .int .i64 so, .string nm, .int .i64 nu, .slice A ks.length cap] 44)) 1 1 3; rw [World.size_alloc] at this; exact this) (by decide)).mono ?_
  rintro e w1 ⟨rfl, hb1⟩
  have hB : Below w.heap.size w w1 := (HB2 _).trans (hb1.mono (by simp; omega))
  clear hb1
  go_wp2_with fail
  go_ret
  exact ⟨rfl, hB⟩

set_option maxHeartbeats 1000000 in
theorem kids_39 (so nu : Int) (nm : ByteArray) (ks : List Nd) (A : Option Addr) (cap : Nat) (w : World) (hL : Lies w A cap ks) :
    Calls Tryz.prog 118 #[nv 39 so nm nu (.slice A ks.length cap)] w fun e w' => e = .returned (.bool (takesB ks [1, 1])) ∧ Below w.heap.size w w' := by
  have HB1 : Below w.heap.size w (w.alloc (.cells #[.int .i64 39, .int .i64 so, .string nm, .int .i64 nu, .slice A ks.length cap] 44)) := (Below.refl _ _).alloc (Nat.le_refl _) _
  have HB2 : ∀ O, Below w.heap.size w ((w.alloc (.cells #[.int .i64 39, .int .i64 so, .string nm, .int .i64 nu, .slice A ks.length cap] 44)).alloc O) := fun O => HB1.alloc (by simp) _
  have HL := Lib.hid hL
  clear hL
  go_enter Tryz.func118, Tryz.ntmps118
  go_wp2_with fail
  refine (takes_any ks [1, 1] A _ cap _ _ (HL.out.later (HB2 _)) (by have := ints_2 (w.alloc (.cells #[.int .i64 39, .int .i64 so, .string nm, .int .i64 nu, .slice A ks.length cap] 44)) 1 1 3; rw [World.size_alloc] at this; exact this) (by decide)).mono ?_
  rintro e w1 ⟨rfl, hb1⟩
  have hB : Below w.heap.size w w1 := (HB2 _).trans (hb1.mono (by simp; omega))
  clear hb1
  go_wp2_with fail
  go_ret
  exact ⟨rfl, hB⟩

set_option maxHeartbeats 1000000 in
theorem kids_11 (so nu : Int) (nm : ByteArray) (ks : List Nd) (A : Option Addr) (cap : Nat) (w : World) (hL : Lies w A cap ks) :
    Calls Tryz.prog 118 #[nv 11 so nm nu (.slice A ks.length cap)] w fun e w' => e = .returned (.bool (takesB ks [4, 4])) ∧ Below w.heap.size w w' := by
  have HB1 : Below w.heap.size w (w.alloc (.cells #[.int .i64 11, .int .i64 so, .string nm, .int .i64 nu, .slice A ks.length cap] 44)) := (Below.refl _ _).alloc (Nat.le_refl _) _
  have HB2 : ∀ O, Below w.heap.size w ((w.alloc (.cells #[.int .i64 11, .int .i64 so, .string nm, .int .i64 nu, .slice A ks.length cap] 44)).alloc O) := fun O => HB1.alloc (by simp) _
  have HL := Lib.hid hL
  clear hL
  go_enter Tryz.func118, Tryz.ntmps118
  go_wp2_with fail
  refine (takes_any ks [4, 4] A _ cap _ _ (HL.out.later (HB2 _)) (by have := ints_2 (w.alloc (.cells #[.int .i64 11, .int .i64 so, .string nm, .int .i64 nu, .slice A ks.length cap] 44)) 4 4 3; rw [World.size_alloc] at this; exact this) (by decide)).mono ?_
  rintro e w1 ⟨rfl, hb1⟩
  have hB : Below w.heap.size w w1 := (HB2 _).trans (hb1.mono (by simp; omega))
  clear hb1
  go_wp2_with fail
  go_ret
  exact ⟨rfl, hB⟩

set_option maxHeartbeats 1000000 in
theorem kids_12 (so nu : Int) (nm : ByteArray) (ks : List Nd) (A : Option Addr) (cap : Nat) (w : World) (hL : Lies w A cap ks) :
    Calls Tryz.prog 118 #[nv 12 so nm nu (.slice A ks.length cap)] w fun e w' => e = .returned (.bool (takesB ks [4, 4])) ∧ Below w.heap.size w w' := by
  have HB1 : Below w.heap.size w (w.alloc (.cells #[.int .i64 12, .int .i64 so, .string nm, .int .i64 nu, .slice A ks.length cap] 44)) := (Below.refl _ _).alloc (Nat.le_refl _) _
  have HB2 : ∀ O, Below w.heap.size w ((w.alloc (.cells #[.int .i64 12, .int .i64 so, .string nm, .int .i64 nu, .slice A ks.length cap] 44)).alloc O) := fun O => HB1.alloc (by simp) _
  have HL := Lib.hid hL
  clear hL
  go_enter Tryz.func118, Tryz.ntmps118
  go_wp2_with fail
  refine (takes_any ks [4, 4] A _ cap _ _ (HL.out.later (HB2 _)) (by have := ints_2 (w.alloc (.cells #[.int .i64 12, .int .i64 so, .string nm, .int .i64 nu, .slice A ks.length cap] 44)) 4 4 3; rw [World.size_alloc] at this; exact this) (by decide)).mono ?_
  rintro e w1 ⟨rfl, hb1⟩
  have hB : Below w.heap.size w w1 := (HB2 _).trans (hb1.mono (by simp; omega))
  clear hb1
  go_wp2_with fail
  go_ret
  exact ⟨rfl, hB⟩

set_option maxHeartbeats 1000000 in
theorem kids_13 (so nu : Int) (nm : ByteArray) (ks : List Nd) (A : Option Addr) (cap : Nat) (w : World) (hL : Lies w A cap ks) :
    Calls Tryz.prog 118 #[nv 13 so nm nu (.slice A ks.length cap)] w fun e w' => e = .returned (.bool (takesB ks [4, 4])) ∧ Below w.heap.size w w' := by
  have HB1 : Below w.heap.size w (w.alloc (.cells #[.int .i64 13, .int .i64 so, .string nm, .int .i64 nu, .slice A ks.length cap] 44)) := (Below.refl _ _).alloc (Nat.le_refl _) _
  have HB2 : ∀ O, Below w.heap.size w ((w.alloc (.cells #[.int .i64 13, .int .i64 so, .string nm, .int .i64 nu, .slice A ks.length cap] 44)).alloc O) := fun O => HB1.alloc (by simp) _
  have HL := Lib.hid hL
  clear hL
  go_enter Tryz.func118, Tryz.ntmps118
  go_wp2_with fail
  refine (takes_any ks [4, 4] A _ cap _ _ (HL.out.later (HB2 _)) (by have := ints_2 (w.alloc (.cells #[.int .i64 13, .int .i64 so, .string nm, .int .i64 nu, .slice A ks.length cap] 44)) 4 4 3; rw [World.size_alloc] at this; exact this) (by decide)).mono ?_
  rintro e w1 ⟨rfl, hb1⟩
  have hB : Below w.heap.size w w1 := (HB2 _).trans (hb1.mono (by simp; omega))
  clear hb1
  go_wp2_with fail
  go_ret
  exact ⟨rfl, hB⟩

set_option maxHeartbeats 1000000 in
theorem kids_41 (so nu : Int) (nm : ByteArray) (ks : List Nd) (A : Option Addr) (cap : Nat) (w : World) (hL : Lies w A cap ks) :
    Calls Tryz.prog 118 #[nv 41 so nm nu (.slice A ks.length cap)] w fun e w' => e = .returned (.bool (takesB ks [4, 4])) ∧ Below w.heap.size w w' := by
  have HB1 : Below w.heap.size w (w.alloc (.cells #[.int .i64 41, .int .i64 so, .string nm, .int .i64 nu, .slice A ks.length cap] 44)) := (Below.refl _ _).alloc (Nat.le_refl _) _
  have HB2 : ∀ O, Below w.heap.size w ((w.alloc (.cells #[.int .i64 41, .int .i64 so, .string nm, .int .i64 nu, .slice A ks.length cap] 44)).alloc O) := fun O => HB1.alloc (by simp) _
  have HL := Lib.hid hL
  clear hL
  go_enter Tryz.func118, Tryz.ntmps118
  go_wp2_with fail
  refine (takes_any ks [4, 4] A _ cap _ _ (HL.out.later (HB2 _)) (by have := ints_2 (w.alloc (.cells #[.int .i64 41, .int .i64 so, .string nm, .int .i64 nu, .slice A ks.length cap] 44)) 4 4 3; rw [World.size_alloc] at this; exact this) (by decide)).mono ?_
  rintro e w1 ⟨rfl, hb1⟩
  have hB : Below w.heap.size w w1 := (HB2 _).trans (hb1.mono (by simp; omega))
  clear hb1
  go_wp2_with fail
  go_ret
  exact ⟨rfl, hB⟩

set_option maxHeartbeats 1000000 in
theorem kids_40 (so nu : Int) (nm : ByteArray) (ks : List Nd) (A : Option Addr) (cap : Nat) (w : World) (hL : Lies w A cap ks) :
    Calls Tryz.prog 118 #[nv 40 so nm nu (.slice A ks.length cap)] w fun e w' => e = .returned (.bool (takesB ks [1, 4])) ∧ Below w.heap.size w w' := by
  have HB1 : Below w.heap.size w (w.alloc (.cells #[.int .i64 40, .int .i64 so, .string nm, .int .i64 nu, .slice A ks.length cap] 44)) := (Below.refl _ _).alloc (Nat.le_refl _) _
  have HB2 : ∀ O, Below w.heap.size w ((w.alloc (.cells #[.int .i64 40, .int .i64 so, .string nm, .int .i64 nu, .slice A ks.length cap] 44)).alloc O) := fun O => HB1.alloc (by simp) _
  have HL := Lib.hid hL
  clear hL
  go_enter Tryz.func118, Tryz.ntmps118
  go_wp2_with fail
  refine (takes_any ks [1, 4] A _ cap _ _ (HL.out.later (HB2 _)) (by have := ints_2 (w.alloc (.cells #[.int .i64 40, .int .i64 so, .string nm, .int .i64 nu, .slice A ks.length cap] 44)) 1 4 3; rw [World.size_alloc] at this; exact this) (by decide)).mono ?_
  rintro e w1 ⟨rfl, hb1⟩
  have hB : Below w.heap.size w w1 := (HB2 _).trans (hb1.mono (by simp; omega))
  clear hb1
  go_wp2_with fail
  go_ret
  exact ⟨rfl, hB⟩

set_option maxHeartbeats 1000000 in
theorem kids_14 (so nu : Int) (nm : ByteArray) (ks : List Nd) (A : Option Addr) (cap : Nat) (w : World) (hL : Lies w A cap ks) :
    Calls Tryz.prog 118 #[nv 14 so nm nu (.slice A ks.length cap)] w fun e w' => e = .returned (.bool (takesB ks [5, 1])) ∧ Below w.heap.size w w' := by
  have HB1 : Below w.heap.size w (w.alloc (.cells #[.int .i64 14, .int .i64 so, .string nm, .int .i64 nu, .slice A ks.length cap] 44)) := (Below.refl _ _).alloc (Nat.le_refl _) _
  have HB2 : ∀ O, Below w.heap.size w ((w.alloc (.cells #[.int .i64 14, .int .i64 so, .string nm, .int .i64 nu, .slice A ks.length cap] 44)).alloc O) := fun O => HB1.alloc (by simp) _
  have HL := Lib.hid hL
  clear hL
  go_enter Tryz.func118, Tryz.ntmps118
  go_wp2_with fail
  refine (takes_any ks [5, 1] A _ cap _ _ (HL.out.later (HB2 _)) (by have := ints_2 (w.alloc (.cells #[.int .i64 14, .int .i64 so, .string nm, .int .i64 nu, .slice A ks.length cap] 44)) 5 1 3; rw [World.size_alloc] at this; exact this) (by decide)).mono ?_
  rintro e w1 ⟨rfl, hb1⟩
  have hB : Below w.heap.size w w1 := (HB2 _).trans (hb1.mono (by simp; omega))
  clear hb1
  go_wp2_with fail
  go_ret
  exact ⟨rfl, hB⟩

set_option maxHeartbeats 1000000 in
theorem kids_15 (so nu : Int) (nm : ByteArray) (ks : List Nd) (A : Option Addr) (cap : Nat) (w : World) (hL : Lies w A cap ks) :
    Calls Tryz.prog 118 #[nv 15 so nm nu (.slice A ks.length cap)] w fun e w' => e = .returned (.bool (takesB ks [5, 1, 1])) ∧ Below w.heap.size w w' := by
  have HB1 : Below w.heap.size w (w.alloc (.cells #[.int .i64 15, .int .i64 so, .string nm, .int .i64 nu, .slice A ks.length cap] 44)) := (Below.refl _ _).alloc (Nat.le_refl _) _
  have HB2 : ∀ O, Below w.heap.size w ((w.alloc (.cells #[.int .i64 15, .int .i64 so, .string nm, .int .i64 nu, .slice A ks.length cap] 44)).alloc O) := fun O => HB1.alloc (by simp) _
  have HL := Lib.hid hL
  clear hL
  go_enter Tryz.func118, Tryz.ntmps118
  go_wp2_with fail
  refine (takes_any ks [5, 1, 1] A _ cap _ _ (HL.out.later (HB2 _)) (by have := ints_3 (w.alloc (.cells #[.int .i64 15, .int .i64 so, .string nm, .int .i64 nu, .slice A ks.length cap] 44)) 5 1 1 3; rw [World.size_alloc] at this; exact this) (by decide)).mono ?_
  rintro e w1 ⟨rfl, hb1⟩
  have hB : Below w.heap.size w w1 := (HB2 _).trans (hb1.mono (by simp; omega))
  clear hb1
  go_wp2_with fail
  go_ret
  exact ⟨rfl, hB⟩

set_option maxHeartbeats 1000000 in
theorem kids_16 (so nu : Int) (nm : ByteArray) (ks : List Nd) (A : Option Addr) (cap : Nat) (w : World) (hL : Lies w A cap ks) :
    Calls Tryz.prog 118 #[nv 16 so nm nu (.slice A ks.length cap)] w fun e w' => e = .returned (.bool (takesB ks [5])) ∧ Below w.heap.size w w' := by
  have HB1 : Below w.heap.size w (w.alloc (.cells #[.int .i64 16, .int .i64 so, .string nm, .int .i64 nu, .slice A ks.length cap] 44)) := (Below.refl _ _).alloc (Nat.le_refl _) _
  have HB2 : ∀ O, Below w.heap.size w ((w.alloc (.cells #[.int .i64 16, .int .i64 so, .string nm, .int .i64 nu, .slice A ks.length cap] 44)).alloc O) := fun O => HB1.alloc (by simp) _
  have HL := Lib.hid hL
  clear hL
  go_enter Tryz.func118, Tryz.ntmps118
  go_wp2_with fail
  refine (takes_any ks [5] A _ cap _ _ (HL.out.later (HB2 _)) (by have := ints_1 (w.alloc (.cells #[.int .i64 16, .int .i64 so, .string nm, .int .i64 nu, .slice A ks.length cap] 44)) 5 3; rw [World.size_alloc] at this; exact this) (by decide)).mono ?_
  rintro e w1 ⟨rfl, hb1⟩
  have hB : Below w.heap.size w w1 := (HB2 _).trans (hb1.mono (by simp; omega))
  clear hb1
  go_wp2_with fail
  go_ret
  exact ⟨rfl, hB⟩

set_option maxHeartbeats 1000000 in
theorem kids_32 (so nu : Int) (nm : ByteArray) (ks : List Nd) (A : Option Addr) (cap : Nat) (w : World) (hL : Lies w A cap ks) :
    Calls Tryz.prog 118 #[nv 32 so nm nu (.slice A ks.length cap)] w fun e w' => e = .returned (.bool (takesB ks [2])) ∧ Below w.heap.size w w' := by
  have HB1 : Below w.heap.size w (w.alloc (.cells #[.int .i64 32, .int .i64 so, .string nm, .int .i64 nu, .slice A ks.length cap] 44)) := (Below.refl _ _).alloc (Nat.le_refl _) _
  have HB2 : ∀ O, Below w.heap.size w ((w.alloc (.cells #[.int .i64 32, .int .i64 so, .string nm, .int .i64 nu, .slice A ks.length cap] 44)).alloc O) := fun O => HB1.alloc (by simp) _
  have HL := Lib.hid hL
  clear hL
  go_enter Tryz.func118, Tryz.ntmps118
  go_wp2_with fail
  refine (takes_any ks [2] A _ cap _ _ (HL.out.later (HB2 _)) (by have := ints_1 (w.alloc (.cells #[.int .i64 32, .int .i64 so, .string nm, .int .i64 nu, .slice A ks.length cap] 44)) 2 3; rw [World.size_alloc] at this; exact this) (by decide)).mono ?_
  rintro e w1 ⟨rfl, hb1⟩
  have hB : Below w.heap.size w w1 := (HB2 _).trans (hb1.mono (by simp; omega))
  clear hb1
  go_wp2_with fail
  go_ret
  exact ⟨rfl, hB⟩

set_option maxHeartbeats 1000000 in
theorem kids_33 (so nu : Int) (nm : ByteArray) (ks : List Nd) (A : Option Addr) (cap : Nat) (w : World) (hL : Lies w A cap ks) :
    Calls Tryz.prog 118 #[nv 33 so nm nu (.slice A ks.length cap)] w fun e w' => e = .returned (.bool (takesB ks [2, 2])) ∧ Below w.heap.size w w' := by
  have HB1 : Below w.heap.size w (w.alloc (.cells #[.int .i64 33, .int .i64 so, .string nm, .int .i64 nu, .slice A ks.length cap] 44)) := (Below.refl _ _).alloc (Nat.le_refl _) _
  have HB2 : ∀ O, Below w.heap.size w ((w.alloc (.cells #[.int .i64 33, .int .i64 so, .string nm, .int .i64 nu, .slice A ks.length cap] 44)).alloc O) := fun O => HB1.alloc (by simp) _
  have HL := Lib.hid hL
  clear hL
  go_enter Tryz.func118, Tryz.ntmps118
  go_wp2_with fail
  refine (takes_any ks [2, 2] A _ cap _ _ (HL.out.later (HB2 _)) (by have := ints_2 (w.alloc (.cells #[.int .i64 33, .int .i64 so, .string nm, .int .i64 nu, .slice A ks.length cap] 44)) 2 2 3; rw [World.size_alloc] at this; exact this) (by decide)).mono ?_
  rintro e w1 ⟨rfl, hb1⟩
  have hB : Below w.heap.size w w1 := (HB2 _).trans (hb1.mono (by simp; omega))
  clear hb1
  go_wp2_with fail
  go_ret
  exact ⟨rfl, hB⟩

set_option maxHeartbeats 1000000 in
theorem kids_34 (so nu : Int) (nm : ByteArray) (ks : List Nd) (A : Option Addr) (cap : Nat) (w : World) (hL : Lies w A cap ks) :
    Calls Tryz.prog 118 #[nv 34 so nm nu (.slice A ks.length cap)] w fun e w' => e = .returned (.bool (takesB ks [2, 2])) ∧ Below w.heap.size w w' := by
  have HB1 : Below w.heap.size w (w.alloc (.cells #[.int .i64 34, .int .i64 so, .string nm, .int .i64 nu, .slice A ks.length cap] 44)) := (Below.refl _ _).alloc (Nat.le_refl _) _
  have HB2 : ∀ O, Below w.heap.size w ((w.alloc (.cells #[.int .i64 34, .int .i64 so, .string nm, .int .i64 nu, .slice A ks.length cap] 44)).alloc O) := fun O => HB1.alloc (by simp) _
  have HL := Lib.hid hL
  clear hL
  go_enter Tryz.func118, Tryz.ntmps118
  go_wp2_with fail
  refine (takes_any ks [2, 2] A _ cap _ _ (HL.out.later (HB2 _)) (by have := ints_2 (w.alloc (.cells #[.int .i64 34, .int .i64 so, .string nm, .int .i64 nu, .slice A ks.length cap] 44)) 2 2 3; rw [World.size_alloc] at this; exact this) (by decide)).mono ?_
  rintro e w1 ⟨rfl, hb1⟩
  have hB : Below w.heap.size w w1 := (HB2 _).trans (hb1.mono (by simp; omega))
  clear hb1
  go_wp2_with fail
  go_ret
  exact ⟨rfl, hB⟩

set_option maxHeartbeats 1000000 in
theorem kids_35 (so nu : Int) (nm : ByteArray) (ks : List Nd) (A : Option Addr) (cap : Nat) (w : World) (hL : Lies w A cap ks) :
    Calls Tryz.prog 118 #[nv 35 so nm nu (.slice A ks.length cap)] w fun e w' => e = .returned (.bool (takesB ks [2, 2])) ∧ Below w.heap.size w w' := by
  have HB1 : Below w.heap.size w (w.alloc (.cells #[.int .i64 35, .int .i64 so, .string nm, .int .i64 nu, .slice A ks.length cap] 44)) := (Below.refl _ _).alloc (Nat.le_refl _) _
  have HB2 : ∀ O, Below w.heap.size w ((w.alloc (.cells #[.int .i64 35, .int .i64 so, .string nm, .int .i64 nu, .slice A ks.length cap] 44)).alloc O) := fun O => HB1.alloc (by simp) _
  have HL := Lib.hid hL
  clear hL
  go_enter Tryz.func118, Tryz.ntmps118
  go_wp2_with fail
  refine (takes_any ks [2, 2] A _ cap _ _ (HL.out.later (HB2 _)) (by have := ints_2 (w.alloc (.cells #[.int .i64 35, .int .i64 so, .string nm, .int .i64 nu, .slice A ks.length cap] 44)) 2 2 3; rw [World.size_alloc] at this; exact this) (by decide)).mono ?_
  rintro e w1 ⟨rfl, hb1⟩
  have hB : Below w.heap.size w w1 := (HB2 _).trans (hb1.mono (by simp; omega))
  clear hb1
  go_wp2_with fail
  go_ret
  exact ⟨rfl, hB⟩

set_option maxHeartbeats 1000000 in
theorem kids_36 (so nu : Int) (nm : ByteArray) (ks : List Nd) (A : Option Addr) (cap : Nat) (w : World) (hL : Lies w A cap ks) :
    Calls Tryz.prog 118 #[nv 36 so nm nu (.slice A ks.length cap)] w fun e w' => e = .returned (.bool (takesB ks [2, 2])) ∧ Below w.heap.size w w' := by
  have HB1 : Below w.heap.size w (w.alloc (.cells #[.int .i64 36, .int .i64 so, .string nm, .int .i64 nu, .slice A ks.length cap] 44)) := (Below.refl _ _).alloc (Nat.le_refl _) _
  have HB2 : ∀ O, Below w.heap.size w ((w.alloc (.cells #[.int .i64 36, .int .i64 so, .string nm, .int .i64 nu, .slice A ks.length cap] 44)).alloc O) := fun O => HB1.alloc (by simp) _
  have HL := Lib.hid hL
  clear hL
  go_enter Tryz.func118, Tryz.ntmps118
  go_wp2_with fail
  refine (takes_any ks [2, 2] A _ cap _ _ (HL.out.later (HB2 _)) (by have := ints_2 (w.alloc (.cells #[.int .i64 36, .int .i64 so, .string nm, .int .i64 nu, .slice A ks.length cap] 44)) 2 2 3; rw [World.size_alloc] at this; exact this) (by decide)).mono ?_
  rintro e w1 ⟨rfl, hb1⟩
  have hB : Below w.heap.size w w1 := (HB2 _).trans (hb1.mono (by simp; omega))
  clear hb1
  go_wp2_with fail
  go_ret
  exact ⟨rfl, hB⟩

set_option maxHeartbeats 1000000 in
theorem kids_3 (so nu : Int) (nm : ByteArray) (ks : List Nd) (A : Option Addr) (cap : Nat) (w : World) (hn : ks.length ≤ maxLen) :
    Calls Tryz.prog 118 #[nv 3 so nm nu (.slice A ks.length cap)] w fun e w' => e = .returned (.bool (decide (ks.length ≤ 8))) ∧ Below w.heap.size w w' := by
  unfold maxLen at hn
  have HB1 : Below w.heap.size w (w.alloc (.cells #[.int .i64 3, .int .i64 so, .string nm, .int .i64 nu, .slice A ks.length cap] 44)) := (Below.refl _ _).alloc (Nat.le_refl _) _
  by_cases h : ks.length ≤ 8
  · rw [decide_eq_true h]
    go_enter Tryz.func118, Tryz.ntmps118
    go_wp2_with fail
    go_ret
    exact ⟨by simp; omega, HB1⟩
  · rw [decide_eq_false h]
    go_enter Tryz.func118, Tryz.ntmps118
    go_wp2_with fail
    go_ret
    exact ⟨by simp; omega, HB1⟩

set_option maxHeartbeats 1000000 in
theorem kids_42 (so nu : Int) (nm : ByteArray) (ks : List Nd) (A : Option Addr) (cap : Nat) (w : World) (hn : ks.length ≤ maxLen) :
    Calls Tryz.prog 118 #[nv 42 so nm nu (.slice A ks.length cap)] w fun e w' => e = .returned (.bool (decide (1 ≤ ks.length ∧ ks.length ≤ 40))) ∧ Below w.heap.size w w' := by
  unfold maxLen at hn
  have HB1 : Below w.heap.size w (w.alloc (.cells #[.int .i64 42, .int .i64 so, .string nm, .int .i64 nu, .slice A ks.length cap] 44)) := (Below.refl _ _).alloc (Nat.le_refl _) _
  by_cases h1 : 1 ≤ ks.length
  · by_cases h : ks.length ≤ 40
    · rw [decide_eq_true ⟨h1, h⟩]
      go_enter Tryz.func118, Tryz.ntmps118
      go_wp2_with fail
      go_ret
      exact ⟨by simp; omega, HB1⟩
    · rw [decide_eq_false (by omega)]
      go_enter Tryz.func118, Tryz.ntmps118
      go_wp2_with fail
      go_ret
      exact ⟨by simp; omega, HB1⟩
  · rw [decide_eq_false (by omega)]
    have h0 : ks.length = 0 := by omega
    go_enter Tryz.func118, Tryz.ntmps118
    go_wp2_with fail
    all_goals go_ret
    all_goals exact ⟨by simp, (Below.refl _ _).alloc (Nat.le_refl _) _⟩

def eqB : List Nd → Bool
  | [a, b] => alikeB a b
  | _ => false

set_option maxRecDepth 100000 in
set_option maxHeartbeats 1000000 in
theorem kids_37 (so nu : Int) (nm : ByteArray) (ks : List Nd) (A : Option Addr) (cap : Nat) (w : World) (hL : Lies w A cap ks) :
    Calls Tryz.prog 118 #[nv 37 so nm nu (.slice A ks.length cap)] w fun e w' => e = .returned (.bool (eqB ks)) ∧ Below w.heap.size w w' := by
  have hn := hL.len
  unfold maxLen at hn
  have HB1 : Below w.heap.size w (w.alloc (.cells #[.int .i64 37, .int .i64 so, .string nm, .int .i64 nu, .slice A ks.length cap] 44)) := (Below.refl _ _).alloc (Nat.le_refl _) _
  have HL := Lib.hid hL
  clear hL
  by_cases h2 : ks.length = 2
  case neg =>
    have h2' : ((ks.length : Int) == 2) = false := by rw [beq_eq_false_iff_ne]; omega
    have hr : eqB ks = false := by
      unfold eqB; split
      · simp at h2
      · rfl
    rw [hr]
    clear h2
    go_enter Tryz.func118, Tryz.ntmps118
    go_wp2_with fail
    go_quiet (fail)
    go_wp2_with fail
    go_ret
    exact ⟨rfl, below_drewN HB1 _⟩
  match ks, h2, hn, HL, HB1 with
  | [p, q], _, hn, HL, HB1 => ?_
  obtain ⟨b, o, A', C', hA, h5, hk⟩ := HL.out.fns
  obtain rfl := hA (by simp)
  have g0 := h5 0 (by simp)
  have g1 := h5 1 (by simp)
  have l0 := hk 0 (by simp)
  have l1 := hk 1 (by simp)
  simp only [List.getElem_cons_zero, List.getElem_cons_succ, Nat.zero_mul, Nat.add_zero, Nat.one_mul] at g0 g1 l0 l1
  have d4 : (w.alloc (.cells #[.int .i64 37, .int .i64 so, .string nm, .int .i64 nu, .slice (some ⟨b, o, none⟩) 2 cap] 44)).cell? ⟨w.heap.size, 4, none⟩ = some (.slice (some ⟨b, o, none⟩) 2 cap) := by simp [go_sem]
  have HBx := HB1
  simp only [List.length_cons, List.length_nil, Nat.zero_add, Nat.reduceAdd] at HBx
  have p0 := g0.later HBx
  have p1 := g1.later HBx
  have q0 := l0.later HBx
  have q1 := l1.later HBx
  clear hk h5 hA HL HB1 g0 g1 l0 l1
  show Calls Tryz.prog 118 #[nv 37 so nm nu (.slice (some ⟨b, o, none⟩) 2 cap)] w _
  go_enter Tryz.func118, Tryz.ntmps118
  go_wp2_with fail
  generalize hW : w.alloc (.cells #[.int .i64 37, .int .i64 so, .string nm, .int .i64 nu, .slice (some ⟨b, o, none⟩) 2 cap] 44) = W1 at *
  clear hW
  have e4 := cell_regrown d4
  have a0 := cell_regrown p0.c0
  have a1 := cell_regrown p0.c1
  have a2 := cell_regrown p0.c2
  have a3 := cell_regrown p0.c3
  have a4 := cell_regrown p0.c4
  have b0 := cell_regrown p1.c0
  have b1 := cell_regrown p1.c1
  have b2 := cell_regrown p1.c2
  have b3 := cell_regrown p1.c3
  have b4 := cell_regrown p1.c4
  have c := fun d os => Calls.regrown_of (alike_any p q _ _ _ _ _ (q0.later (below_regrown W1 d os)) (q1.later (below_regrown W1 d os)))
  have C := Lib.hid c
  clear c d4 p0 p1 q0 q1
  refine wp_region_quiet_below (by kernel_rfl) (by kernel_rfl) ?_
  repeat (go_big_quiet_step (exact C.out _ _))
  refine wpQuiet_nil ?_
  intro _ hw'
  obtain ⟨⟨dq, osq⟩, hw''⟩ := hw'
  subst hw''
  clear e4 a0 a1 a2 a3 a4 b0 b1 b2 b3 b4
  go_wp2_with fail
  go_ret
  exact ⟨rfl, HBx.trans ((below_regrown W1 dq osq).mono HBx.size)⟩

def iteB : List Nd → Bool
  | [a, b, c] => decide (sortN a = 2) && alikeB b c
  | _ => false

set_option maxRecDepth 100000 in
set_option maxHeartbeats 1000000 in
theorem kids_8 (so nu : Int) (nm : ByteArray) (ks : List Nd) (A : Option Addr) (cap : Nat) (w : World) (hL : Lies w A cap ks) :
    Calls Tryz.prog 118 #[nv 8 so nm nu (.slice A ks.length cap)] w fun e w' => e = .returned (.bool (iteB ks)) ∧ Below w.heap.size w w' := by
  have hn := hL.len
  unfold maxLen at hn
  have HB1 : Below w.heap.size w (w.alloc (.cells #[.int .i64 8, .int .i64 so, .string nm, .int .i64 nu, .slice A ks.length cap] 44)) := (Below.refl _ _).alloc (Nat.le_refl _) _
  have HL := Lib.hid hL
  clear hL
  by_cases h2 : ks.length = 3
  case neg =>
    have h2' : ((ks.length : Int) == 3) = false := by rw [beq_eq_false_iff_ne]; omega
    have hr : iteB ks = false := by
      unfold iteB; split
      · simp at h2
      · rfl
    rw [hr]
    clear h2
    go_enter Tryz.func118, Tryz.ntmps118
    go_wp2_with fail
    go_quiet (fail)
    go_wp2_with fail
    go_ret
    exact ⟨rfl, below_drewN HB1 _⟩
  match ks, h2, hn, HL, HB1 with
  | [r, p, q], _, hn, HL, HB1 => ?_
  obtain ⟨b, o, A', C', hA, h5, hk⟩ := HL.out.fns
  obtain rfl := hA (by simp)
  have f0 := h5 0 (by simp)
  have m0 := hk 0 (by simp)
  have g0 := h5 1 (by simp)
  have g1 := h5 2 (by simp)
  have l0 := hk 1 (by simp)
  have l1 := hk 2 (by simp)
  simp only [List.getElem_cons_zero, List.getElem_cons_succ, Nat.zero_mul, Nat.add_zero, Nat.one_mul, Nat.reduceMul] at f0 g0 g1 l0 l1 m0
  have d4 : (w.alloc (.cells #[.int .i64 8, .int .i64 so, .string nm, .int .i64 nu, .slice (some ⟨b, o, none⟩) 3 cap] 44)).cell? ⟨w.heap.size, 4, none⟩ = some (.slice (some ⟨b, o, none⟩) 3 cap) := by simp [go_sem]
  have HBx := HB1
  simp only [List.length_cons, List.length_nil, Nat.zero_add, Nat.reduceAdd] at HBx
  have n0 := f0.later HBx
  have p0 := g0.later HBx
  have p1 := g1.later HBx
  have r0 := m0.later HBx
  have q0 := l0.later HBx
  have q1 := l1.later HBx
  clear hk h5 hA HL HB1 g0 g1 l0 l1 f0 m0
  show Calls Tryz.prog 118 #[nv 8 so nm nu (.slice (some ⟨b, o, none⟩) 3 cap)] w _
  by_cases hs : sortN r = 2
  case neg =>
    have hs' : (sortN r == 2) = false := by simpa using hs
    have hr : iteB [r, p, q] = false := by simp [iteB, hs]
    rw [hr]
    clear hs
    go_enter Tryz.func118, Tryz.ntmps118
    go_wp2_with fail
    generalize hW : w.alloc (.cells #[.int .i64 8, .int .i64 so, .string nm, .int .i64 nu, .slice (some ⟨b, o, none⟩) 3 cap] 44) = W1 at *
    clear hW
    have e4 := cell_regrown d4
    have c0 := cell_regrown n0.c0
    have c1 := cell_regrown n0.c1
    have c2 := cell_regrown n0.c2
    have c3 := cell_regrown n0.c3
    have c4 := cell_regrown n0.c4
    have s := fun d os => Calls.regrown_of (sort_any r _ _ _ (r0.later (below_regrown W1 d os)))
    have S := Lib.hid s
    clear s d4 p0 p1 q0 q1 r0 n0
    refine wp_region_quiet_below (by kernel_rfl) (by kernel_rfl) ?_
    repeat (go_big_quiet_step (exact S.out _ _))
    refine wpQuiet_nil ?_
    intro _ hw'
    obtain ⟨⟨dq, osq⟩, hw''⟩ := hw'
    subst hw''
    clear e4 c0 c1 c2 c3 c4
    go_wp2_with fail
    go_ret
    exact ⟨rfl, HBx.trans ((below_regrown W1 dq osq).mono HBx.size)⟩
  have hs' : (sortN r == 2) = true := by simpa using hs
  have hr : iteB [r, p, q] = alikeB p q := by simp [iteB, hs]
  rw [hr]
  have Hs := Lib.hid hs
  clear hs hr
  go_enter Tryz.func118, Tryz.ntmps118
  go_wp2_with fail
  generalize hW : w.alloc (.cells #[.int .i64 8, .int .i64 so, .string nm, .int .i64 nu, .slice (some ⟨b, o, none⟩) 3 cap] 44) = W1 at *
  clear hW
  have e4 := cell_regrown d4
  have c0 := cell_regrown n0.c0
  have c1 := cell_regrown n0.c1
  have c2 := cell_regrown n0.c2
  have c3 := cell_regrown n0.c3
  have c4 := cell_regrown n0.c4
  have a0 := cell_regrown p0.c0
  have a1 := cell_regrown p0.c1
  have a2 := cell_regrown p0.c2
  have a3 := cell_regrown p0.c3
  have a4 := cell_regrown p0.c4
  have b0 := cell_regrown p1.c0
  have b1 := cell_regrown p1.c1
  have b2 := cell_regrown p1.c2
  have b3 := cell_regrown p1.c3
  have b4 := cell_regrown p1.c4
  have s := fun d os => Calls.regrown_of (sort_any r _ _ _ (r0.later (below_regrown W1 d os)))
  have S := Lib.hid s
  have c := fun d os => Calls.regrown_of (alike_any p q _ _ _ _ _ (q0.later (below_regrown W1 d os)) (q1.later (below_regrown W1 d os)))
  have C := Lib.hid c
  clear c s d4 p0 p1 q0 q1 r0 n0
  refine wp_region_quiet_below (by kernel_rfl) (by kernel_rfl) ?_
  repeat (go_big_quiet_step (first | (go_at_call 96; exact S.out _ _) | (go_at_call 143; exact C.out _ _)))
  refine wpQuiet_nil ?_
  intro _ hw'
  obtain ⟨⟨dq, osq⟩, hw''⟩ := hw'
  subst hw''
  clear e4 a0 a1 a2 a3 a4 b0 b1 b2 b3 b4 c0 c1 c2 c3 c4
  go_wp2_with fail
  go_ret
  exact ⟨rfl, HBx.trans ((below_regrown W1 dq osq).mono HBx.size)⟩

def kidOps : List Int := [1, 2, 9, 30, 31, 3, 42, 6, 7, 10, 4, 5, 38, 39, 11, 12, 13, 41, 40, 14, 15, 16, 32, 33, 34, 35, 36, 37, 8]

set_option maxRecDepth 100000 in
set_option maxHeartbeats 1000000 in
theorem kids_none (op so nu : Int) (nm : ByteArray) (s : Value) (w : World) (h : op ∉ kidOps) :
    Calls Tryz.prog 118 #[nv op so nm nu s] w fun e w' => e = .returned (.bool false) ∧ Below w.heap.size w w' := by
  have HB1 : Below w.heap.size w (w.alloc (.cells #[.int .i64 op, .int .i64 so, .string nm, .int .i64 nu, s] 44)) := (Below.refl _ _).alloc (Nat.le_refl _) _
  simp only [kidOps, List.mem_cons, List.not_mem_nil, or_false, not_or, ← ne_eq, ← beq_eq_false_iff_ne] at h
  obtain ⟨h1, h2, h3, h4, h5, h6, h7, h8, h9, h10, h11, h12, h13, h14, h15, h16, h17, h18, h19, h20, h21, h22, h23, h24, h25, h26, h27, h28, h29⟩ := h
  go_enter Tryz.func118, Tryz.ntmps118
  go_wp2_with fail
  go_ret
  exact ⟨rfl, HB1⟩

/-- Whether a node has kids of the number and the sorts that its Op takes. -/
def kidsB (op : Int) (ks : List Nd) : Bool :=
  if op ∈ [1, 2, 9, 30, 31] then takesB ks []
  else if op = 3 then decide (ks.length ≤ 8)
  else if op = 42 then decide (1 ≤ ks.length ∧ ks.length ≤ 40)
  else if op ∈ [6, 7, 10] then takesB ks [1]
  else if op ∈ [4, 5, 38, 39] then takesB ks [1, 1]
  else if op ∈ [11, 12, 13, 41] then takesB ks [4, 4]
  else if op = 40 then takesB ks [1, 4]
  else if op = 14 then takesB ks [5, 1]
  else if op = 15 then takesB ks [5, 1, 1]
  else if op = 16 then takesB ks [5]
  else if op = 32 then takesB ks [2]
  else if op ∈ [33, 34, 35, 36] then takesB ks [2, 2]
  else if op = 37 then eqB ks
  else if op = 8 then iteB ks
  else false

theorem kids_any (op so nu : Int) (nm : ByteArray) (ks : List Nd) (A : Option Addr) (cap : Nat) (w : World) (hL : Lies w A cap ks) :
    Calls Tryz.prog 118 #[nv op so nm nu (.slice A ks.length cap)] w fun e w' => e = .returned (.bool (kidsB op ks)) ∧ Below w.heap.size w w' := by
  by_cases h : op ∈ kidOps
  case neg =>
    have : kidsB op ks = false := by
      simp only [kidOps, List.mem_cons, List.not_mem_nil, or_false, not_or] at h
      simp [kidsB, h]
    rw [this]
    exact kids_none op so nu nm _ w h
  simp only [kidOps, List.mem_cons, List.not_mem_nil, or_false] at h
  rcases h with rfl | rfl | rfl | rfl | rfl | rfl | rfl | rfl | rfl | rfl | rfl | rfl | rfl | rfl | rfl | rfl | rfl | rfl | rfl | rfl | rfl | rfl | rfl | rfl | rfl | rfl | rfl | rfl | rfl
  · exact kids_1 so nu nm ks A cap w hL
  · exact kids_2 so nu nm ks A cap w hL
  · exact kids_9 so nu nm ks A cap w hL
  · exact kids_30 so nu nm ks A cap w hL
  · exact kids_31 so nu nm ks A cap w hL
  · exact kids_3 so nu nm ks A cap w hL.len
  · exact kids_42 so nu nm ks A cap w hL.len
  · exact kids_6 so nu nm ks A cap w hL
  · exact kids_7 so nu nm ks A cap w hL
  · exact kids_10 so nu nm ks A cap w hL
  · exact kids_4 so nu nm ks A cap w hL
  · exact kids_5 so nu nm ks A cap w hL
  · exact kids_38 so nu nm ks A cap w hL
  · exact kids_39 so nu nm ks A cap w hL
  · exact kids_11 so nu nm ks A cap w hL
  · exact kids_12 so nu nm ks A cap w hL
  · exact kids_13 so nu nm ks A cap w hL
  · exact kids_41 so nu nm ks A cap w hL
  · exact kids_40 so nu nm ks A cap w hL
  · exact kids_14 so nu nm ks A cap w hL
  · exact kids_15 so nu nm ks A cap w hL
  · exact kids_16 so nu nm ks A cap w hL
  · exact kids_32 so nu nm ks A cap w hL
  · exact kids_33 so nu nm ks A cap w hL
  · exact kids_34 so nu nm ks A cap w hL
  · exact kids_35 so nu nm ks A cap w hL
  · exact kids_36 so nu nm ks A cap w hL
  · exact kids_37 so nu nm ks A cap w hL
  · exact kids_8 so nu nm ks A cap w hL
end Go.Proofs.YtmeeombadkgneaaGreat
