/-
  What the functions on lists of numbers return, package model's and the document's: bounded, ascending, nonzero, fits; conditions: the lists lie in memory.
-/
import Derived.Test.YtmeeombadkgneaaGreatZKids
namespace Go.Proofs.YtmeeombadkgneaaGreat
open Go.RowKit Go.Shelf

attribute [local go_sem] Oper.semAt_some
/-- A number of values. -/
def bndB (n : Int) : Bool := decide (-1152921504606846976 ≤ n ∧ n ≤ 1152921504606846976)
theorem bounded_any (c : Int) (w : World) : Calls Tryz.prog 92 #[.int .i64 c] w fun e w' => e = .returned (.bool (bndB c)) ∧ w = w' := by
  have hb : ∀ b, bndB c = b ↔ decide (-1152921504606846976 ≤ c ∧ c ≤ 1152921504606846976) = b := fun b => Iff.rfl
  generalize bndB c = B at *
  by_cases h1 : -1152921504606846976 ≤ c
  · by_cases h2 : c ≤ 1152921504606846976
    · obtain rfl : B = true := (hb _).2 (by simp; omega)
      clear hb
      go_enter Tryz.func92, Tryz.ntmps92
      go_wp2
      go_ret
      exact ⟨rfl, rfl⟩
    · obtain rfl : B = false := (hb _).2 (by simp; omega)
      clear hb
      go_enter Tryz.func92, Tryz.ntmps92
      go_wp2
      go_ret
      exact ⟨rfl, rfl⟩
  · obtain rfl : B = false := (hb _).2 (by simp; omega)
    clear hb
    go_enter Tryz.func92, Tryz.ntmps92
    go_wp2
    go_ret
    exact ⟨rfl, rfl⟩

theorem fits_any (c : Int) (w : World) : Calls Tryz.prog 44 #[.int .i64 c] w fun e w' => e = .returned (.bool (bndB c)) ∧ w = w' := by
  have hb : ∀ b, bndB c = b ↔ decide (-1152921504606846976 ≤ c ∧ c ≤ 1152921504606846976) = b := fun b => Iff.rfl
  generalize bndB c = B at *
  by_cases h1 : -1152921504606846976 ≤ c
  · by_cases h2 : c ≤ 1152921504606846976
    · obtain rfl : B = true := (hb _).2 (by simp; omega)
      clear hb
      go_enter Tryz.func44, Tryz.ntmps44
      go_wp2
      go_ret
      exact ⟨rfl, rfl⟩
    · obtain rfl : B = false := (hb _).2 (by simp; omega)
      clear hb
      go_enter Tryz.func44, Tryz.ntmps44
      go_wp2
      go_ret
      exact ⟨rfl, rfl⟩
  · obtain rfl : B = false := (hb _).2 (by simp; omega)
    clear hb
    go_enter Tryz.func44, Tryz.ntmps44
    go_wp2
    go_ret
    exact ⟨rfl, rfl⟩

/-- Where a list is ascending, within the bounds. -/
def ascAt (l : List Int) (j : Nat) (h : j < l.length) : Prop := bndB l[j] = true ∧ (0 < j → l[j - 1] < l[j])
def nzAt (l : List Int) (j : Nat) (h : j < l.length) : Prop := bndB l[j] = true ∧ l[j] ≠ 0
open Classical in
noncomputable def ascB (l : List Int) : Bool := decide (∀ j (h : j < l.length), ascAt l j h)
open Classical in
noncomputable def nzB (l : List Int) : Bool := decide (∀ j (h : j < l.length), nzAt l j h)
open Classical in
theorem ascB_yes {l : List Int} (h : ∀ j (h : j < l.length), ascAt l j h) : ascB l = true := decide_eq_true h
open Classical in
theorem ascB_no {l : List Int} {k : Nat} (hk : k < l.length) (h : ¬ ascAt l k hk) : ascB l = false := decide_eq_false fun hh => h (hh k hk)
open Classical in
theorem nzB_yes {l : List Int} (h : ∀ j (h : j < l.length), nzAt l j h) : nzB l = true := decide_eq_true h
open Classical in
theorem nzB_no {l : List Int} {k : Nat} (hk : k < l.length) (h : ¬ nzAt l k hk) : nzB l = false := decide_eq_false fun hh => h (hh k hk)

set_option maxRecDepth 100000 in
set_option maxHeartbeats 4000000 in
theorem asc_any (l : List Int) (A : Option Addr) (cap : Nat) (w : World) (hS : Ints w A l) (hl : l.length ≤ maxLen) :
    Calls Tryz.prog 70 #[.slice A l.length cap] w fun e w' => e = .returned (.bool (ascB l)) ∧ w = w' := by
  unfold maxLen at hl
  have HS := Lib.hid hS
  clear hS
  go_enter Tryz.func70, Tryz.ntmps70
  go_wp2_with fail
  go_loopw [7] (fun i wr => ∃ k : Nat, k ≤ l.length ∧ i = .int .i64 k ∧ Hid (∀ j (h : j < l.length), j < k → ascAt l j h) ∧ w = wr) (fun i _ => l.length - (intOf i).toNat)
  case atStart => exact ⟨0, Nat.zero_le _, rfl, fun j hj hjk => absurd hjk (by omega), rfl⟩
  case round =>
    obtain ⟨k, hk, rfl, hj, rfl⟩ := hrel
    by_cases hlt : k < l.length
    · obtain ⟨b, o, ha, hc⟩ := HS.out
      obtain rfl := ha (by omega)
      have c0 := hc k hlt
      have HJ := Lib.hid (fun (e : ascAt l k hlt) => (show Hid (∀ j (h : j < l.length), j < k + 1 → ascAt l j h) from fun j h h2 => by
        by_cases e' : j = k
        · subst e'; exact e
        · exact hj.out j h (by omega)))
      have HN := Lib.hid (fun (e : ¬ ascAt l k hlt) => show ascB l = false from ascB_no hlt e)
      have HP := Lib.hid hc
      cases k with
      | zero =>
        rw [Nat.add_zero] at c0
        have hx := Lib.hid (fun (e : bndB l[0] = true) => (show ascAt l 0 hlt from ⟨e, fun h => absurd h (by omega)⟩))
        have hy := Lib.hid (fun (e : bndB l[0] = false) => (show ¬ ascAt l 0 hlt from fun h => by have := h.1; rw [e] at this; cases this))
        generalize l[0] = x at *
        clear hj hc ha HP HS
        cases hb : bndB x
        case false =>
          have Hr := Lib.hid (HN.out (hy.out hb))
          have Hb := Lib.hid hb
          clear hb HJ HN hx hy
          go_wp2_with fail
          refine (bounded_any x _).mono ?_
          rintro e w1 ⟨rfl, rfl⟩
          rw [Hb.out]
          go_wp2_with fail
          go_ret
          exact ⟨by rw [Hr.out]; rfl, rfl⟩
        case true =>
          have Hn := HJ.out (hx.out hb)
          have Hb := Lib.hid hb
          clear hb HJ HN hx hy
          go_wp2_with fail
          refine (bounded_any x _).mono ?_
          rintro e w1 ⟨rfl, rfl⟩
          rw [Hb.out]
          go_wp2_with fail
          go_roundw
          case rel => exact ⟨1, by omega, by go_num, Hn, by first | trivial | rfl⟩
          case measure => simp [intOf]; omega
      | succ m =>
        have c1 := hc m (by omega)
        have hx := Lib.hid (fun (e : bndB l[m + 1] = true) (e2 : l[m] < l[m + 1]) => (show ascAt l (m + 1) hlt from ⟨e, fun h => e2⟩))
        have hy := Lib.hid (fun (e : bndB l[m + 1] = false ∨ l[m + 1] ≤ l[m]) => (show ¬ ascAt l (m + 1) hlt from fun h => by
          rcases e with e | e
          · have := h.1; rw [e] at this; cases this
          · have : l[m] < l[m + 1] := h.2 (by omega)
            omega))
        generalize l[m + 1] = x at *
        generalize l[m] = y at *
        clear hj hc ha HP HS
        have hm0 : (0 : Int) < (m : Int) + 1 := by omega
        have hm1 : decide ((0 : Int) < (m : Int) + 1) = true := decide_eq_true hm0
        cases hb : bndB x
        case false =>
          have Hr := Lib.hid (HN.out (hy.out (.inl hb)))
          have Hb := Lib.hid hb
          clear hb HJ HN hx hy
          go_wp2_with fail
          refine (bounded_any x _).mono ?_
          rintro e w1 ⟨rfl, rfl⟩
          rw [Hb.out]
          go_wp2_with fail
          go_ret
          exact ⟨by rw [Hr.out]; rfl, rfl⟩
        case true =>
          by_cases hxy : x ≤ y
          · have Hr := Lib.hid (HN.out (hy.out (.inr hxy)))
            have Hb := Lib.hid hb
            have hd : decide (x ≤ y) = true := decide_eq_true hxy
            clear hb HJ HN hx hy hxy
            go_wp2_with fail
            refine (bounded_any x _).mono ?_
            rintro e w1 ⟨rfl, rfl⟩
            rw [Hb.out]
            go_wp2_with fail
            go_ret
            exact ⟨by rw [Hr.out]; rfl, rfl⟩
          · have Hn := HJ.out (hx.out hb (by omega))
            have Hb := Lib.hid hb
            have hd : decide (x ≤ y) = false := decide_eq_false hxy
            clear hb HJ HN hx hy hxy
            go_wp2_with fail
            refine (bounded_any x _).mono ?_
            rintro e w1 ⟨rfl, rfl⟩
            rw [Hb.out]
            go_wp2_with fail
            go_roundw
            case rel => exact ⟨m + 2, by omega, by go_num, Hn, by first | trivial | rfl⟩
            case measure => simp [intOf]; omega
    · have Hr := Lib.hid (show ascB l = true from ascB_yes fun j h => hj.out j h (by omega))
      clear hj HS
      go_wp2_with fail
      go_ret
      exact ⟨by rw [Hr.out]; rfl, rfl⟩
set_option maxRecDepth 100000 in
set_option maxHeartbeats 4000000 in
theorem refAsc_any (l : List Int) (A : Option Addr) (cap : Nat) (w : World) (hS : Ints w A l) (hl : l.length ≤ maxLen) :
    Calls Tryz.prog 45 #[.slice A l.length cap] w fun e w' => e = .returned (.bool (ascB l && decide (l.length ≤ 200))) ∧ w = w' := by
  unfold maxLen at hl
  have HS := Lib.hid hS
  clear hS
  go_enter Tryz.func45, Tryz.ntmps45
  go_wp2_with fail
  go_loopw [7] (fun i wr => ∃ k : Nat, k ≤ l.length ∧ i = .int .i64 k ∧ Hid (∀ j (h : j < l.length), j < k → ascAt l j h) ∧ w = wr) (fun i _ => l.length - (intOf i).toNat)
  case atStart => exact ⟨0, Nat.zero_le _, rfl, fun j hj hjk => absurd hjk (by omega), rfl⟩
  case round =>
    obtain ⟨k, hk, rfl, hj, rfl⟩ := hrel
    by_cases hlt : k < l.length
    · obtain ⟨b, o, ha, hc⟩ := HS.out
      obtain rfl := ha (by omega)
      have c0 := hc k hlt
      have HJ := Lib.hid (fun (e : ascAt l k hlt) => (show Hid (∀ j (h : j < l.length), j < k + 1 → ascAt l j h) from fun j h h2 => by
        by_cases e' : j = k
        · subst e'; exact e
        · exact hj.out j h (by omega)))
      have HN := Lib.hid (fun (e : ¬ ascAt l k hlt) => show ascB l = false from ascB_no hlt e)
      have HP := Lib.hid hc
      cases k with
      | zero =>
        rw [Nat.add_zero] at c0
        have hx := Lib.hid (fun (e : bndB l[0] = true) => (show ascAt l 0 hlt from ⟨e, fun h => absurd h (by omega)⟩))
        have hy := Lib.hid (fun (e : bndB l[0] = false) => (show ¬ ascAt l 0 hlt from fun h => by have := h.1; rw [e] at this; cases this))
        generalize l[0] = x at *
        clear hj hc ha HP HS
        cases hb : bndB x
        case false =>
          have Hr := Lib.hid (HN.out (hy.out hb))
          have Hb := Lib.hid hb
          clear hb HJ HN hx hy
          go_wp2_with fail
          refine (fits_any x _).mono ?_
          rintro e w1 ⟨rfl, rfl⟩
          rw [Hb.out]
          go_wp2_with fail
          go_ret
          exact ⟨by rw [Hr.out]; rfl, rfl⟩
        case true =>
          have Hn := HJ.out (hx.out hb)
          have Hb := Lib.hid hb
          clear hb HJ HN hx hy
          go_wp2_with fail
          refine (fits_any x _).mono ?_
          rintro e w1 ⟨rfl, rfl⟩
          rw [Hb.out]
          go_wp2_with fail
          go_roundw
          case rel => exact ⟨1, by omega, by go_num, Hn, by first | trivial | rfl⟩
          case measure => simp [intOf]; omega
      | succ m =>
        have c1 := hc m (by omega)
        have hx := Lib.hid (fun (e : bndB l[m + 1] = true) (e2 : l[m] < l[m + 1]) => (show ascAt l (m + 1) hlt from ⟨e, fun h => e2⟩))
        have hy := Lib.hid (fun (e : bndB l[m + 1] = false ∨ l[m + 1] ≤ l[m]) => (show ¬ ascAt l (m + 1) hlt from fun h => by
          rcases e with e | e
          · have := h.1; rw [e] at this; cases this
          · have : l[m] < l[m + 1] := h.2 (by omega)
            omega))
        generalize l[m + 1] = x at *
        generalize l[m] = y at *
        clear hj hc ha HP HS
        have hm0 : (0 : Int) < (m : Int) + 1 := by omega
        have hm1 : decide ((0 : Int) < (m : Int) + 1) = true := decide_eq_true hm0
        cases hb : bndB x
        case false =>
          have Hr := Lib.hid (HN.out (hy.out (.inl hb)))
          have Hb := Lib.hid hb
          clear hb HJ HN hx hy
          go_wp2_with fail
          refine (fits_any x _).mono ?_
          rintro e w1 ⟨rfl, rfl⟩
          rw [Hb.out]
          go_wp2_with fail
          go_ret
          exact ⟨by rw [Hr.out]; rfl, rfl⟩
        case true =>
          by_cases hxy : x ≤ y
          · have Hr := Lib.hid (HN.out (hy.out (.inr hxy)))
            have Hb := Lib.hid hb
            have hd : decide (x ≤ y) = true := decide_eq_true hxy
            clear hb HJ HN hx hy hxy
            go_wp2_with fail
            refine (fits_any x _).mono ?_
            rintro e w1 ⟨rfl, rfl⟩
            rw [Hb.out]
            go_wp2_with fail
            go_ret
            exact ⟨by rw [Hr.out]; rfl, rfl⟩
          · have Hn := HJ.out (hx.out hb (by omega))
            have Hb := Lib.hid hb
            have hd : decide (x ≤ y) = false := decide_eq_false hxy
            clear hb HJ HN hx hy hxy
            go_wp2_with fail
            refine (fits_any x _).mono ?_
            rintro e w1 ⟨rfl, rfl⟩
            rw [Hb.out]
            go_wp2_with fail
            go_roundw
            case rel => exact ⟨m + 2, by omega, by go_num, Hn, by first | trivial | rfl⟩
            case measure => simp [intOf]; omega
    · have Hr := Lib.hid (show ascB l = true from ascB_yes fun j h => hj.out j h (by omega))
      clear hj HS
      by_cases h2 : l.length ≤ 200
      · have hd : decide ((l.length : Int) ≤ 200) = true := decide_eq_true (by omega)
        have Hd := Lib.hid (show decide (l.length ≤ 200) = true from decide_eq_true h2)
        clear h2
        go_wp2_with fail
        go_ret
        exact ⟨by rw [Hr.out, Hd.out]; rfl, rfl⟩
      · have hd : decide ((l.length : Int) ≤ 200) = false := decide_eq_false (by omega)
        have Hd := Lib.hid (show decide (l.length ≤ 200) = false from decide_eq_false h2)
        clear h2
        go_wp2_with fail
        go_ret
        exact ⟨by rw [Hr.out, Hd.out]; rfl, rfl⟩
set_option maxRecDepth 100000 in
set_option maxHeartbeats 4000000 in
theorem nz_any (l : List Int) (A : Option Addr) (cap : Nat) (w : World) (hS : Ints w A l) (hl : l.length ≤ maxLen) :
    Calls Tryz.prog 71 #[.slice A l.length cap] w fun e w' => e = .returned (.bool (nzB l)) ∧ w = w' := by
  unfold maxLen at hl
  have HS := Lib.hid hS
  clear hS
  go_enter Tryz.func71, Tryz.ntmps71
  go_wp2_with fail
  go_loopw [7] (fun i wr => ∃ k : Nat, k ≤ l.length ∧ i = .int .i64 k ∧ Hid (∀ j (h : j < l.length), j < k → nzAt l j h) ∧ w = wr) (fun i _ => l.length - (intOf i).toNat)
  case atStart => exact ⟨0, Nat.zero_le _, rfl, fun j hj hjk => absurd hjk (by omega), rfl⟩
  case round =>
    obtain ⟨k, hk, rfl, hj, rfl⟩ := hrel
    by_cases hlt : k < l.length
    · obtain ⟨b, o, ha, hc⟩ := HS.out
      obtain rfl := ha (by omega)
      have c0 := hc k hlt
      have HJ := Lib.hid (fun (e : nzAt l k hlt) => (show Hid (∀ j (h : j < l.length), j < k + 1 → nzAt l j h) from fun j h h2 => by
        by_cases e' : j = k
        · subst e'; exact e
        · exact hj.out j h (by omega)))
      have HN := Lib.hid (fun (e : ¬ nzAt l k hlt) => show nzB l = false from nzB_no hlt e)
      have hx := Lib.hid (fun (e : bndB l[k] = true) (e2 : l[k] ≠ 0) => (show nzAt l k hlt from ⟨e, e2⟩))
      have hy := Lib.hid (fun (e : bndB l[k] = false ∨ l[k] = 0) => (show ¬ nzAt l k hlt from fun h => by
        rcases e with e | e
        · have := h.1; rw [e] at this; cases this
        · exact h.2 e))
      generalize l[k] = x at *
      clear hj hc ha HS
      cases hb : bndB x
      case false =>
        have Hr := Lib.hid (HN.out (hy.out (.inl hb)))
        have Hb := Lib.hid hb
        clear hb HJ HN hx hy
        go_wp2_with fail
        refine (bounded_any x _).mono ?_
        rintro e w1 ⟨rfl, rfl⟩
        rw [Hb.out]
        go_wp2_with fail
        go_ret
        exact ⟨by rw [Hr.out]; rfl, rfl⟩
      case true =>
        by_cases hxy : x = 0
        · have Hr := Lib.hid (HN.out (hy.out (.inr hxy)))
          have Hb := Lib.hid hb
          have hd : (x == 0) = true := by simpa using hxy
          clear hb HJ HN hx hy hxy
          go_wp2_with fail
          refine (bounded_any x _).mono ?_
          rintro e w1 ⟨rfl, rfl⟩
          rw [Hb.out]
          go_wp2_with fail
          go_ret
          exact ⟨by rw [Hr.out]; rfl, rfl⟩
        · have Hn := HJ.out (hx.out hb hxy)
          have Hb := Lib.hid hb
          have hd : (x == 0) = false := by simpa using hxy
          clear hb HJ HN hx hy hxy
          go_wp2_with fail
          refine (bounded_any x _).mono ?_
          rintro e w1 ⟨rfl, rfl⟩
          rw [Hb.out]
          go_wp2_with fail
          go_roundw
          case rel => exact ⟨k + 1, by omega, by go_num, Hn, by first | trivial | rfl⟩
          case measure => simp [intOf]; omega
    · have Hr := Lib.hid (show nzB l = true from nzB_yes fun j h => hj.out j h (by omega))
      clear hj HS
      go_wp2_with fail
      go_ret
      exact ⟨by rw [Hr.out]; rfl, rfl⟩
end Go.Proofs.YtmeeombadkgneaaGreat
