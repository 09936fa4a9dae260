/-
  What BinarySearch returns of an ascending list of numbers, and what has, at, holds and product return; conditions: the lists lie in memory.
-/
import Derived.Test.YtmeeombadkgneaaGreatZVa32
namespace Go.Proofs.YtmeeombadkgneaaGreat
open Go.Proofs Go.RowKit Go.Shelf Go.Sort Go.Lib

attribute [local go_sem] Oper.semAt_some
set_option maxRecDepth 100000 in
set_option maxHeartbeats 4000000 in
theorem nan64_any (a : Int) (w : World) : Calls Tryz.prog 106 #[.int .i64 a] w fun e w' => e = .returned (.bool false) ∧ w = w' := by
  have hne : (a != a) = false := by simp
  go_enter Tryz.func106, Tryz.ntmps106
  go_wp2_with fail
  go_ret
  exact ⟨rfl, rfl⟩
set_option maxRecDepth 100000 in
set_option maxHeartbeats 4000000 in
theorem sNan_any (a : Int) (w : World) : Calls Tryz.prog 158 #[.int .i64 a] w fun e w' => e = .returned (.bool false) ∧ w = w' := by
  have hne : (a != a) = false := by simp
  go_enter Tryz.func158, Tryz.ntmps158
  go_wp2_with fail
  go_ret
  exact ⟨rfl, rfl⟩
set_option maxRecDepth 100000 in
set_option maxHeartbeats 4000000 in
theorem less64_any (a b : Int) (w : World) : Calls Tryz.prog 157 #[.int .i64 a, .int .i64 b] w fun e w' => e = .returned (.bool (decide (a < b))) ∧ w = w' := by
  have hd := Lib.hid (rfl : decide (a < b) = decide (a < b))
  cases h : decide (a < b) <;>
  · go_enter Tryz.func157, Tryz.ntmps157
    go_wp2_with (go_at_call 106; refine (nan64_any _ _).mono ?_; rintro e w1 ⟨rfl, rfl⟩)
    go_ret
    exact ⟨rfl, rfl⟩
/-- Ascending numbers. -/
def AscI (l : List Int) : Prop := l.Pairwise (· < ·)
theorem ascI_of {l : List Int} (h : ascB l = true) : AscI l := by
  have h2 : ∀ j (h : j < l.length), ascAt l j h := by
    intro j hj
    by_cases e : ascAt l j hj
    · exact e
    · rw [ascB_no hj e] at h; cases h
  have step : ∀ d i (hi : i + d + 1 < l.length), l[i] < l[i + d + 1] := by
    intro d
    induction d with
    | zero =>
      intro i hi
      have := (h2 (i + 0 + 1) hi).2 (by omega)
      simpa using this
    | succ d ih =>
      intro i hi
      have a := ih i (by omega)
      have b := (h2 (i + (d + 1) + 1) hi).2 (by omega)
      have e : i + (d + 1) + 1 - 1 = i + d + 1 := by omega
      simp only [e] at b
      exact Int.lt_trans a b
  refine List.pairwise_iff_getElem.2 fun i j hi hj hij => ?_
  obtain ⟨d, rfl⟩ : ∃ d, j = i + d + 1 := ⟨j - i - 1, by omega⟩
  exact step d i hj
/-- The place of a number in an ascending list: how many are less. -/
def plI (l : List Int) (n : Int) : Nat := (l.filter (fun x => decide (x < n))).length
theorem plI_split {l : List Int} (n : Int) {i : Nat} (hi : i ≤ l.length) (h1 : ∀ t (_ : t < l.length), t < i → l[t] < n) (h2 : ∀ t (_ : t < l.length), i ≤ t → n ≤ l[t]) : plI l n = i := by
  unfold plI
  rw [← List.take_append_drop i l, List.filter_append, List.length_append]
  have a : (l.take i).filter (fun x => decide (x < n)) = l.take i := by
    rw [List.filter_eq_self]
    intro x hx
    obtain ⟨k, hk, rfl⟩ := List.getElem_of_mem hx
    rw [List.length_take] at hk
    rw [List.getElem_take]
    exact decide_eq_true (h1 k (by omega) (by omega))
  have b : (l.drop i).filter (fun x => decide (x < n)) = [] := by
    rw [List.filter_eq_nil_iff]
    intro x hx
    obtain ⟨k, hk, rfl⟩ := List.getElem_of_mem hx
    rw [List.length_drop] at hk
    rw [List.getElem_drop]
    have := h2 (i + k) (by omega) (by omega)
    simp; omega
  rw [a, b, List.length_take]
  simp; omega
theorem has_split {l : List Int} (n : Int) {i : Nat} (hi : i ≤ l.length) (h1 : ∀ t (_ : t < l.length), t < i → l[t] < n) (h2 : ∀ t (_ : t < l.length), i ≤ t → n ≤ l[t]) (ha : AscI l) : decide (n ∈ l) = match l[i]? with | some x => x == n | none => false := by
  by_cases hl : i < l.length
  · rw [List.getElem?_eq_getElem hl]
    by_cases e : l[i] = n
    · have hm : n ∈ l := by rw [← e]; exact List.getElem_mem hl
      simp [hm, e]
    · have hm : n ∉ l := by
        intro hm
        obtain ⟨k, hk, rfl⟩ := List.getElem_of_mem hm
        by_cases hki : k < i
        · have := h1 k hk hki; omega
        · by_cases hik : i = k
          · subst hik; exact e rfl
          · have a := List.pairwise_iff_getElem.1 ha i k hl hk (by omega)
            have b := h2 i hl (Nat.le_refl _)
            omega
      simp [hm, e]
  · rw [List.getElem?_eq_none (by omega)]
    have hm : n ∉ l := by
      intro hm
      obtain ⟨k, hk, rfl⟩ := List.getElem_of_mem hm
      have := h1 k hk (by omega); omega
    simp [hm]
set_option maxRecDepth 100000 in
set_option maxHeartbeats 4000000 in
theorem searchI_any (l : List Int) (n : Int) (A : Option Addr) (cap : Nat) (w : World) (hS : Ints w A l) (hl : l.length ≤ 10000) (ha : AscI l) :
    Calls Tryz.prog 145 #[.slice A l.length cap, .int .i64 n] w fun e w' => e = .returned (.tuple #[.int .i64 (plI l n), .bool (decide (n ∈ l))]) ∧ w = w' := by
  have HS := Lib.hid hS
  have hmono : ∀ i j (hi : i < l.length) (hj : j < l.length), i ≤ j → l[j] < n → l[i] < n := by
    intro i j hi hj hij h
    by_cases e : i = j
    · subst e; exact h
    · have := List.pairwise_iff_getElem.1 ha i j hi hj (by omega); omega
  have HM := Lib.hid hmono
  have HP := Lib.hid (fun i => plI_split (l := l) n (i := i))
  have HH := Lib.hid (fun i => has_split (l := l) n (i := i))
  have HA := Lib.hid ha
  clear hS hmono ha
  go_enter Tryz.func145, Tryz.ntmps145
  go_wp2_with fail
  go_loopw [7, 8] (fun i j wr => ∃ lo hi : Nat, i = .int .i64 lo ∧ j = .int .i64 hi ∧ lo ≤ hi ∧ hi ≤ l.length ∧ Hid (∀ t (_ : t < l.length), t < lo → l[t] < n) ∧ Hid (∀ t (_ : t < l.length), hi ≤ t → n ≤ l[t]) ∧ w = wr) (fun i j _ => (intOf j - intOf i).toNat)
  case atStart => exact ⟨0, l.length, rfl, rfl, Nat.zero_le _, Nat.le_refl _, Lib.hid (fun t _ h => by omega), Lib.hid (fun t h h' => by omega), rfl⟩
  case round =>
    obtain ⟨lo, hi, rfl, rfl, hlh, hin, I1, I2, rfl⟩ := hrel
    by_cases hlt : lo < hi
    · obtain ⟨m, hm0⟩ : ∃ m, m = (lo + hi) / 2 := ⟨_, rfl⟩
      have em : ((lo : Int) + (hi : Int)) / 2 = (m : Int) := by omega
      have hlm : lo ≤ m := by omega
      have hmh : m < hi := by omega
      have hm : m < l.length := by omega
      obtain ⟨b, o, ha, hc⟩ := HS.out
      have ha := ha (by omega)
      have c0 := hc m hm
      have I3 := Lib.hid (fun (h : l[m] < n) => fun t (ht : t < l.length) (htt : t < m + 1) => HM.out t m ht hm (by omega) h)
      have I4 := Lib.hid (fun (h : ¬ l[m] < n) => fun t (ht : t < l.length) (htt : m ≤ t) => Int.not_lt.1 fun h' => h (HM.out m t hm ht htt h'))
      generalize l[m] = q at *
      clear HM hc HP HH HA hm0
      rw [ha] at *
      have Em := Lib.hid em
      clear em
      by_cases hx : q < n
      · have hx' := Lib.hid (decide_eq_true hx)
        go_upto_region 5 with fail
        rw [Em.out]
        go_wp2_with fail
        refine (less64_any q n _).mono ?_
        rintro e w1 ⟨rfl, rfl⟩
        rw [hx'.out]
        go_wp2_with fail
        go_roundw
        case rel => exact ⟨m + 1, hi, by go_num, rfl, by omega, hin, I3.out hx, I2, by first | trivial | rfl⟩
        case measure => simp [intOf]; omega
      · have hx' := Lib.hid (decide_eq_false hx)
        go_upto_region 5 with fail
        rw [Em.out]
        go_wp2_with fail
        refine (less64_any q n _).mono ?_
        rintro e w1 ⟨rfl, rfl⟩
        rw [hx'.out]
        go_wp2_with fail
        go_roundw
        case rel => exact ⟨lo, m, rfl, rfl, by omega, by omega, I1, I4.out hx, by first | trivial | rfl⟩
        case measure => simp [intOf]; omega
    · obtain rfl : hi = lo := by omega
      have HPL := Lib.hid (HP.out hi hin I1.out I2.out)
      have hhs := HH.out hi hin I1.out I2.out HA.out
      by_cases hn : hi < l.length
      · obtain ⟨b, o, ha, hc⟩ := HS.out
        have ha := ha (by omega)
        have c0 := hc hi hn
        rw [List.getElem?_eq_getElem hn] at hhs
        simp only at hhs
        generalize l[hi] = q at *
        clear HM hc HP HH HA
        rw [ha] at *
        have HHS := Lib.hid hhs
        clear hhs
        cases hq : q == n
        case true =>
          have HQ := Lib.hid (HHS.out.trans hq)
          clear HHS
          go_wp2_with fail
          go_ret2
          exact ⟨by rw [HPL.out, HQ.out]; rfl, rfl⟩
        case false =>
          have HQ := Lib.hid (HHS.out.trans hq)
          clear HHS
          go_wp2_with (go_at_call 158; refine (sNan_any _ _).mono ?_; rintro e w1 ⟨rfl, rfl⟩)
          go_ret2
          exact ⟨by rw [HPL.out, HQ.out]; rfl, rfl⟩
      · rw [List.getElem?_eq_none (by omega)] at hhs
        have HHS := Lib.hid hhs
        clear HM HP HH HA hhs
        go_wp2_with fail
        go_ret2
        exact ⟨by rw [HPL.out, HHS.out]; rfl, rfl⟩
set_option maxRecDepth 100000 in
set_option maxHeartbeats 4000000 in
theorem hasV_any (x : VA) (n : Int) (w : World) (hx : LiesV w x) (hl : x.v.st.length ≤ 10000) (ha : AscI x.v.st) :
    Calls Tryz.prog 151 #[vv x, .int .i64 n] w fun e w' => e = .returned (.bool (decide (n ∈ x.v.st))) ∧ Below w.heap.size w w' := by
  have HB := Lib.hid (show Below w.heap.size w (w.alloc (boxV x 63)) from (Below.refl _ _).alloc (Nat.le_refl _) _)
  have HX := Lib.hid (hx.later HB.out)
  have HA := Lib.hid ha
  clear hx ha
  go_enter Tryz.func151, Tryz.ntmps151
  go_wp2_with fail
  refine (searchI_any x.v.st n x.a1 x.c1 _ HX.out.st hl HA.out).mono ?_
  rintro e w1 ⟨rfl, rfl⟩
  go_wp2_with fail
  go_ret
  exact ⟨rfl, HB.out⟩
/-- An array's number at an index. -/
def atI (ix xs : List Int) (n : Int) : Int := if n ∈ ix then xs.getD (plI ix n) 0 else 0
theorem plI_lt {l : List Int} {n : Int} (h : n ∈ l) : plI l n < l.length := by
  unfold plI
  have h1 : (l.filter fun x => decide (x < n)).length ≤ l.length := List.length_filter_le _ _
  by_cases e : (l.filter fun x => decide (x < n)).length = l.length
  · have := List.length_filter_eq_length_iff.1 e n h
    simp at this
  · omega
set_option maxRecDepth 100000 in
set_option maxHeartbeats 4000000 in
theorem atV_any (x : VA) (n : Int) (w : World) (hx : LiesV w x) (hl : x.v.ix.length ≤ 10000) (ha : AscI x.v.ix) (hlen : x.v.xs.length = x.v.ix.length) :
    Calls Tryz.prog 148 #[vv x, .int .i64 n] w fun e w' => e = .returned (.int .i64 (atI x.v.ix x.v.xs n)) ∧ Below w.heap.size w w' := by
  have HB := Lib.hid (show Below w.heap.size w (w.alloc (boxV x 63)) from (Below.refl _ _).alloc (Nat.le_refl _) _)
  have HX := Lib.hid (hx.later HB.out)
  have HX0 := Lib.hid hx
  have HA := Lib.hid ha
  have HPL := Lib.hid (plI_lt (l := x.v.ix) (n := n))
  have HAT := Lib.hid (show atI x.v.ix x.v.xs n = if n ∈ x.v.ix then x.v.xs.getD (plI x.v.ix n) 0 else 0 from rfl)
  have HLEN := Lib.hid hlen
  clear hx ha hlen
  by_cases hm : n ∈ x.v.ix
  · have hd := Lib.hid (decide_eq_true hm)
    have hlt : plI x.v.ix n < x.v.xs.length := by rw [HLEN.out]; exact HPL.out hm
    have hat : atI x.v.ix x.v.xs n = x.v.xs[plI x.v.ix n] := by
      rw [HAT.out, if_pos hm, List.getD_eq_getElem?_getD, List.getElem?_eq_getElem hlt]; rfl
    obtain ⟨b, o, hb, hc⟩ := HX0.out.xs
    have hb := hb (by omega)
    have c0 := hc _ hlt
    have hbl : b < w.heap.size := World.block_lt_of_cell? _ _ c0
    have hbn : ¬ b = w.heap.size := by omega
    have HR := Lib.hid hat
    have hbig : plI x.v.ix n < 10000 := by have := HPL.out hm; omega
    have HS := Lib.hid (fun W' (h : Ints W' x.a2 x.v.ix) => searchI_any x.v.ix n x.a2 x.c2 W' h hl HA.out)
    generalize hp : plI x.v.ix n = p at *
    generalize x.v.xs[p] = y at *
    clear hc hat hm HPL HAT HA hp
    go_enter Tryz.func148, Tryz.ntmps148
    go_wp2_with fail
    refine (HS.out _ (HX0.out.later ((Below.refl _ _).alloc (Nat.le_refl _) _)).ix).mono ?_
    rintro e w1 ⟨rfl, rfl⟩
    rw [hd.out]
    go_wp2_with fail
    go_ret
    exact ⟨by rw [HR.out]; rfl, (Below.refl _ _).alloc (Nat.le_refl _) _⟩
  · have hd := Lib.hid (decide_eq_false hm)
    have HR := Lib.hid (show atI x.v.ix x.v.xs n = 0 by rw [HAT.out, if_neg hm])
    clear hm HPL HAT
    go_enter Tryz.func148, Tryz.ntmps148
    go_wp2_with fail
    refine (searchI_any x.v.ix n x.a2 x.c2 _ HX.out.ix hl HA.out).mono ?_
    rintro e w1 ⟨rfl, rfl⟩
    rw [hd.out]
    go_wp2_with fail
    go_ret
    exact ⟨by rw [HR.out]; rfl, HB.out⟩
set_option maxRecDepth 100000 in
set_option maxHeartbeats 4000000 in
theorem holds_any (x : VA) (w : World) : Calls Tryz.prog 48 #[vv x] w fun e w' => e = .returned (.bool (x.v.nu == 1)) ∧ Below w.heap.size w w' := by
  have HB := Lib.hid (show Below w.heap.size w (w.alloc (boxV x 63)) from (Below.refl _ _).alloc (Nat.le_refl _) _)
  go_enter Tryz.func48, Tryz.ntmps48
  go_wp2_with fail
  go_ret
  exact ⟨rfl, HB.out⟩
end Go.Proofs.YtmeeombadkgneaaGreat
