/-
  What the document's own functions on the fields of a node return; conditions: none but that the tree lies in memory.
-/
import Derived.Lib.QuietBelow
import Derived.BigQuiet
import Derived.Test.YtmeeombadkgneaaGreatZRefWords
import Derived.Test.YtmeeombadkgneaaGreatZLoops
namespace Go.Proofs.YtmeeombadkgneaaGreat
open Go.RowKit Go.Shelf

attribute [local go_sem] Oper.semAt_some
theorem fields_named {op so nu : Int} {nm : ByteArray} (h : op = 1 ∨ op = 3) : fieldsB op so nm nu = (nameB nm && (decide (1 ≤ so) && (decide (so ≤ 5) && (nu == 0)))) := by
  rcases h with rfl | rfl <;> rfl

set_option maxRecDepth 100000 in
set_option maxHeartbeats 2000000 in
theorem refOwn_named (op so nu : Int) (nm : ByteArray) (s : Value) (w : World) (h : op = 1 ∨ op = 3) :
    Calls Tryz.prog 126 #[nv op so nm nu s] w fun e w' => e = .returned (.bool (nameB nm && (decide (1 ≤ so) && (decide (so ≤ 5) && (nu == 0))))) ∧ Below w.heap.size w w' := by
  have HB : Below w.heap.size w (w.alloc (.cells #[.int .i64 op, .int .i64 so, .string nm, .int .i64 nu, s] 44)) := (Below.refl _ _).alloc (Nat.le_refl _) _
  have H5 := five_new w (Nd.mk op so nm nu []) s 44
  simp only [Nd.op, Nd.so, Nd.nm, Nd.nu] at H5
  have HH := Lib.hid HB
  have H5 := Lib.hid H5
  clear HB
  rcases h with rfl | rfl
  all_goals
    cases hn : nameB nm
    case false =>
      have Hn := Lib.hid hn
      clear hn
      go_enter Tryz.func126, Tryz.ntmps126
      go_wp2_with fail
      refine (refName_any _ _).mono ?_
      rintro e w1 ⟨rfl, hb1⟩
      rw [Hn.out]
      have HB1 := Lib.hid (HH.out.trans (hb1.mono (by simp)))
      clear hb1
      go_wp2_with fail
      go_ret
      exact ⟨rfl, HB1.out⟩
    case true =>
      have Hn := Lib.hid hn
      clear hn
      by_cases h1 : 1 ≤ so
      case neg =>
        have hd := Lib.hid (show (true && (decide (1 ≤ so) && (decide (so ≤ 5) && (nu == 0)))) = false by simp [h1])
        have h1' : so < 1 := by omega
        clear h1
        go_enter Tryz.func126, Tryz.ntmps126
        go_wp2_with fail
        refine (refName_any _ _).mono ?_
        rintro e w1 ⟨rfl, hb1⟩
        rw [Hn.out]
        have HB1 := Lib.hid (HH.out.trans (hb1.mono (by simp)))
        obtain ⟨d0, d1, d2, d3, d4⟩ := H5.out.later hb1
        simp only [Nd.op, Nd.so, Nd.nm, Nd.nu] at d0 d1 d2 d3
        clear hb1 d2 d4
        go_wp2_with fail
        go_ret
        exact ⟨by rw [hd.out]; rfl, HB1.out⟩
      by_cases h2 : so ≤ 5
      case neg =>
        have hd := Lib.hid (show (true && (decide (1 ≤ so) && (decide (so ≤ 5) && (nu == 0)))) = false by simp [h2])
        have h2' : 5 < so := by omega
        have h1' : ¬ so < 1 := by omega
        clear h2 h1
        go_enter Tryz.func126, Tryz.ntmps126
        go_wp2_with fail
        refine (refName_any _ _).mono ?_
        rintro e w1 ⟨rfl, hb1⟩
        rw [Hn.out]
        have HB1 := Lib.hid (HH.out.trans (hb1.mono (by simp)))
        obtain ⟨d0, d1, d2, d3, d4⟩ := H5.out.later hb1
        simp only [Nd.op, Nd.so, Nd.nm, Nd.nu] at d0 d1 d2 d3
        clear hb1 d2 d4
        go_wp2_with fail
        go_ret
        exact ⟨by rw [hd.out]; rfl, HB1.out⟩
      have hd := Lib.hid (show (true && (decide (1 ≤ so) && (decide (so ≤ 5) && (nu == 0)))) = (nu == 0) by simp [h1, h2])
      have h1' : ¬ so < 1 := by omega
      have h2' : ¬ 5 < so := by omega
      clear h1 h2
      go_enter Tryz.func126, Tryz.ntmps126
      go_wp2_with fail
      refine (refName_any _ _).mono ?_
      rintro e w1 ⟨rfl, hb1⟩
      rw [Hn.out]
      have HB1 := Lib.hid (HH.out.trans (hb1.mono (by simp)))
      obtain ⟨d0, d1, d2, d3, d4⟩ := H5.out.later hb1
      simp only [Nd.op, Nd.so, Nd.nm, Nd.nu] at d0 d1 d2 d3
      clear hb1 d2 d4
      go_wp2_with fail
      go_ret
      exact ⟨by rw [hd.out]; rfl, HB1.out⟩

set_option maxRecDepth 100000 in
set_option maxHeartbeats 2000000 in
theorem refOwn_plain (op so nu : Int) (nm : ByteArray) (s : Value) (w : World) (h1 : op ≠ 1) (h3 : op ≠ 3) :
    Calls Tryz.prog 126 #[nv op so nm nu s] w fun e w' => e = .returned (.bool (fieldsB op so nm nu)) ∧ Below w.heap.size w w' := by
  have HB : ∀ O, Below w.heap.size w (w.alloc O) := fun O => (Below.refl _ _).alloc (Nat.le_refl _) _
  have h1' : (op == 1) = false := by simpa using h1
  have h3' : (op == 3) = false := by simpa using h3
  clear h1 h3
  cases hn : nm.toList == []
  · rw [fields_2 h1' h3' (.inl hn)]
    go_enter Tryz.func126, Tryz.ntmps126
    go_wp2
    go_ret
    exact ⟨rfl, HB _⟩
  cases hs : so == 0
  · rw [fields_2 h1' h3' (.inr hs)]
    go_enter Tryz.func126, Tryz.ntmps126
    go_wp2
    go_ret
    exact ⟨rfl, HB _⟩
  rw [fields_3 h1' h3' hn hs]
  cases e2 : op == 2
  case true =>
    rw [if_pos (.inl rfl)]
    go_enter Tryz.func126, Tryz.ntmps126
    go_wp2
    all_goals go_ret
    all_goals (refine ⟨?_, HB _⟩; first | rfl | (simp [*]; done) | (simp [*]; omega))
  cases e7 : op == 7
  case true =>
    rw [if_pos (.inr rfl)]
    go_enter Tryz.func126, Tryz.ntmps126
    go_wp2
    all_goals go_ret
    all_goals (refine ⟨?_, HB _⟩; first | rfl | (simp [*]; done) | (simp [*]; omega))
  rw [if_neg (by simp)]
  cases e42 : op == 42
  case true =>
    rw [if_pos rfl]
    go_enter Tryz.func126, Tryz.ntmps126
    go_wp2
    all_goals go_ret
    all_goals (refine ⟨?_, HB _⟩; first | rfl | (simp [*]; done) | (simp [*]; omega))
  rw [if_neg (by simp)]
  go_enter Tryz.func126, Tryz.ntmps126
  go_wp2
  all_goals go_ret
  all_goals (refine ⟨?_, HB _⟩; first | rfl | (simp [*]; done))

theorem refOwn_any (op so nu : Int) (nm : ByteArray) (s : Value) (w : World) :
    Calls Tryz.prog 126 #[nv op so nm nu s] w fun e w' => e = .returned (.bool (fieldsB op so nm nu)) ∧ Below w.heap.size w w' := by
  by_cases h : op = 1 ∨ op = 3
  · rw [fields_named h]; exact refOwn_named op so nu nm s w h
  · exact refOwn_plain op so nu nm s w (fun e => h (.inl e)) (fun e => h (.inr e))

def plainB (s : Int) : Bool := decide (s = 1 ∨ s = 3 ∨ s = 4 ∨ s = 5)
set_option maxHeartbeats 1000000 in
theorem plain_any (s : Int) (w : World) : Calls Tryz.prog 127 #[.int .i64 s] w fun e w' => e = .returned (.bool (plainB s)) ∧ w = w' := by
  unfold plainB
  cases e1 : s == 1
  case true =>
    obtain rfl : s = 1 := by simpa using e1
    go_enter Tryz.func127, Tryz.ntmps127
    go_wp2
    go_ret
    exact ⟨rfl, rfl⟩
  cases e3 : s == 3
  case true =>
    obtain rfl : s = 3 := by simpa using e3
    go_enter Tryz.func127, Tryz.ntmps127
    go_wp2
    go_ret
    exact ⟨rfl, rfl⟩
  cases e4 : s == 4
  case true =>
    obtain rfl : s = 4 := by simpa using e4
    go_enter Tryz.func127, Tryz.ntmps127
    go_wp2
    go_ret
    exact ⟨rfl, rfl⟩
  have hd : decide (s = 1 ∨ s = 3 ∨ s = 4 ∨ s = 5) = (s == 5) := by
    rw [beq_eq_false_iff_ne] at e1 e3 e4
    by_cases h : s = 5 <;> simp [h, e1, e3, e4]
  rw [hd]
  go_enter Tryz.func127, Tryz.ntmps127
  go_wp2
  go_ret
  exact ⟨rfl, rfl⟩

/-- The sorts that an operator takes, where they are a list. -/
def wantsL (op : Int) : Option (List Int) :=
  if op ∈ [1, 2, 9, 30, 31] then some []
  else if op ∈ [6, 7, 10] then some [1]
  else if op ∈ [4, 5, 38, 39] then some [1, 1]
  else if op ∈ [11, 12, 13, 41] then some [4, 4]
  else if op = 40 then some [1, 4]
  else if op = 14 then some [5, 1]
  else if op = 15 then some [5, 1, 1]
  else if op = 16 then some [5]
  else if op = 32 then some [2]
  else if op ∈ [33, 34, 35, 36] then some [2, 2]
  else none
def wantOps : List Int := [1, 2, 9, 30, 31, 6, 7, 10, 4, 5, 38, 39, 11, 12, 13, 41, 40, 14, 15, 16, 32, 33, 34, 35, 36]

set_option maxRecDepth 100000 in
set_option maxHeartbeats 2000000 in
theorem wants_some (op : Int) (w : World) (h : op ∈ wantOps) :
    Calls Tryz.prog 128 #[.int .i64 op] w fun e w' => ∃ A l, wantsL op = some l ∧ e = .returned (.tuple #[.slice A l.length l.length, .bool true]) ∧ Ints w' A l ∧ Below w.heap.size w w' := by
  have HB : ∀ O, Below w.heap.size w (w.alloc O) := fun O => (Below.refl _ _).alloc (Nat.le_refl _) _
  simp only [wantOps, List.mem_cons, List.not_mem_nil, or_false] at h
  rcases h with rfl | rfl | rfl | rfl | rfl | rfl | rfl | rfl | rfl | rfl | rfl | rfl | rfl | rfl | rfl | rfl | rfl | rfl | rfl | rfl | rfl | rfl | rfl | rfl | rfl
  all_goals
    go_enter Tryz.func128, Tryz.ntmps128
    go_wp2_with fail
    go_ret2
  all_goals first
    | exact ⟨none, [], rfl, rfl, ints_nil _, Below.refl _ _⟩
    | exact ⟨_, _, rfl, rfl, ints_1 _ _ _, HB _⟩
    | exact ⟨_, _, rfl, rfl, ints_2 _ _ _ _, HB _⟩
    | exact ⟨_, _, rfl, rfl, ints_3 _ _ _ _ _, HB _⟩

set_option maxRecDepth 100000 in
set_option maxHeartbeats 2000000 in
theorem wants_none (op : Int) (w : World) (h : op ∉ wantOps) :
    Calls Tryz.prog 128 #[.int .i64 op] w fun e w' => (∃ v, e = .returned (.tuple #[v, .bool false])) ∧ w = w' := by
  simp only [wantOps, List.mem_cons, List.not_mem_nil, or_false, not_or, ← ne_eq, ← beq_eq_false_iff_ne] at h
  obtain ⟨h1, h2, h3, h4, h5, h6, h7, h8, h9, h10, h11, h12, h13, h14, h15, h16, h17, h18, h19, h20, h21, h22, h23, h24, h25⟩ := h
  go_enter Tryz.func128, Tryz.ntmps128
  go_wp2_with fail
  go_ret2
  exact ⟨⟨_, rfl⟩, rfl⟩
end Go.Proofs.YtmeeombadkgneaaGreat
