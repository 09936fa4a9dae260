/-
  What the functions on lists of numbers return, package model's and the document's: bounded, ascending, nonzero, fits; conditions: the lists lie in memory.
  What small, valid and ValidVal return of a value; conditions: the value's lists lie in memory.
-/
import Derived.Test.YtmeeombadkgneaaGreatZKids
namespace Go.Proofs.YtmeeombadkgneaaGreat
open Go.RowKit Go.Shelf

attribute [local go_sem] Oper.semAt_some
/-- A number of values. -/
def bndB (n : Int) : Bool := decide (-1152921504606846976 ≤ n ∧ n ≤ 1152921504606846976)
theorem bounded_any (c : Int) (w : World) : Calls Tryz.prog 92 #[.int .i64 c] w fun e w' => e = .returned (.bool (bndB c)) ∧ w = w' := by
  have hb : ∀ b, bndB c = b ↔ decide (-1152921504606846976 ≤ c ∧ c ≤ 1152921504606846976) = b := fun b => Iff.rfl
  generalize bndB c = B at *
  by_cases h1 : -1152921504606846976 ≤ c
  · by_cases h2 : c ≤ 1152921504606846976
    · obtain rfl : B = true := (hb _).2 (by simp; omega)
      clear hb
      go_enter Tryz.func92, Tryz.ntmps92
      go_wp2
      go_ret
      exact ⟨rfl, rfl⟩
    · obtain rfl : B = false := (hb _).2 (by simp; omega)
      clear hb
      go_enter Tryz.func92, Tryz.ntmps92
      go_wp2
      go_ret
      exact ⟨rfl, rfl⟩
  · obtain rfl : B = false := (hb _).2 (by simp; omega)
    clear hb
    go_enter Tryz.func92, Tryz.ntmps92
    go_wp2
    go_ret
    exact ⟨rfl, rfl⟩

theorem fits_any (c : Int) (w : World) : Calls Tryz.prog 44 #[.int .i64 c] w fun e w' => e = .returned (.bool (bndB c)) ∧ w = w' := by
  have hb : ∀ b, bndB c = b ↔ decide (-1152921504606846976 ≤ c ∧ c ≤ 1152921504606846976) = b := fun b => Iff.rfl
  generalize bndB c = B at *
  by_cases h1 : -1152921504606846976 ≤ c
  · by_cases h2 : c ≤ 1152921504606846976
    · obtain rfl : B = true := (hb _).2 (by simp; omega)
      clear hb
      go_enter Tryz.func44, Tryz.ntmps44
      go_wp2
      go_ret
      exact ⟨rfl, rfl⟩
    · obtain rfl : B = false := (hb _).2 (by simp; omega)
      clear hb
      go_enter Tryz.func44, Tryz.ntmps44
      go_wp2
      go_ret
      exact ⟨rfl, rfl⟩
  · obtain rfl : B = false := (hb _).2 (by simp; omega)
    clear hb
    go_enter Tryz.func44, Tryz.ntmps44
    go_wp2
    go_ret
    exact ⟨rfl, rfl⟩

/-- Where a list is ascending, within the bounds. -/
def ascAt (l : List Int) (j : Nat) (h : j < l.length) : Prop := bndB l[j] = true ∧ (0 < j → l[j - 1] < l[j])
def nzAt (l : List Int) (j : Nat) (h : j < l.length) : Prop := bndB l[j] = true ∧ l[j] ≠ 0
open Classical in
noncomputable def ascB (l : List Int) : Bool := decide (∀ j (h : j < l.length), ascAt l j h)
open Classical in
noncomputable def nzB (l : List Int) : Bool := decide (∀ j (h : j < l.length), nzAt l j h)
open Classical in
theorem ascB_yes {l : List Int} (h : ∀ j (h : j < l.length), ascAt l j h) : ascB l = true := decide_eq_true h
open Classical in
theorem ascB_no {l : List Int} {k : Nat} (hk : k < l.length) (h : ¬ ascAt l k hk) : ascB l = false := decide_eq_false fun hh => h (hh k hk)
open Classical in
theorem nzB_yes {l : List Int} (h : ∀ j (h : j < l.length), nzAt l j h) : nzB l = true := decide_eq_true h
open Classical in
theorem nzB_no {l : List Int} {k : Nat} (hk : k < l.length) (h : ¬ nzAt l k hk) : nzB l = false := decide_eq_false fun hh => h (hh k hk)

set_option maxRecDepth 100000 in
set_option maxHeartbeats 4000000 in
theorem asc_any (l : List Int) (A : Option Addr) (cap : Nat) (w : World) (hS : Ints w A l) (hl : l.length ≤ maxLen) :
    Calls Tryz.prog 70 #[.slice A l.length cap] w fun e w' => e = .returned (.bool (ascB l)) ∧ w = w' := by
  unfold maxLen at hl
  have HS := Lib.hid hS
  clear hS
  go_enter Tryz.func70, Tryz.ntmps70
  go_wp2_with fail
  go_loopw [7] (fun i wr => ∃ k : Nat, k ≤ l.length ∧ i = .int .i64 k ∧ Hid (∀ j (h : j < l.length), j < k → ascAt l j h) ∧ w = wr) (fun i _ => l.length - (intOf i).toNat)
  case atStart => exact ⟨0, Nat.zero_le _, rfl, fun j hj hjk => absurd hjk (by omega), rfl⟩
  case round =>
    obtain ⟨k, hk, rfl, hj, rfl⟩ := hrel
    by_cases hlt : k < l.length
    · obtain ⟨b, o, ha, hc⟩ := HS.out
      obtain rfl := ha (by omega)
      have c0 := hc k hlt
      have HJ := Lib.hid (fun (e : ascAt l k hlt) => (show Hid (∀ j (h : j < l.length), j < k + 1 → ascAt l j h) from fun j h h2 => by
        by_cases e' : j = k
        · subst e'; exact e
        · exact hj.out j h (by omega)))
      have HN := Lib.hid (fun (e : ¬ ascAt l k hlt) => show ascB l = false from ascB_no hlt e)
      have HP := Lib.hid hc
      cases k with
      | zero =>
        rw [Nat.add_zero] at c0
        have hx := Lib.hid (fun (e : bndB l[0] = true) => (show ascAt l 0 hlt from ⟨e, fun h => absurd h (by omega)⟩))
        have hy := Lib.hid (fun (e : bndB l[0] = false) => (show ¬ ascAt l 0 hlt from fun h => by have := h.1; rw [e] at this; cases this))
        generalize l[0] = x at *
        clear hj hc ha HP HS
        cases hb : bndB x
        case false =>
          have Hr := Lib.hid (HN.out (hy.out hb))
          have Hb := Lib.hid hb
          clear hb HJ HN hx hy
          go_wp2_with fail
          refine (bounded_any x _).mono ?_
          rintro e w1 ⟨rfl, rfl⟩
          rw [Hb.out]
          go_wp2_with fail
          go_ret
          exact ⟨by rw [Hr.out]; rfl, rfl⟩
        case true =>
          have Hn := HJ.out (hx.out hb)
          have Hb := Lib.hid hb
          clear hb HJ HN hx hy
          go_wp2_with fail
          refine (bounded_any x _).mono ?_
          rintro e w1 ⟨rfl, rfl⟩
          rw [Hb.out]
          go_wp2_with fail
          go_roundw
          case rel => exact ⟨1, by omega, by go_num, Hn, by first | trivial | rfl⟩
          case measure => simp [intOf]; omega
      | succ m =>
        have c1 := hc m (by omega)
        have hx := Lib.hid (fun (e : bndB l[m + 1] = true) (e2 : l[m] < l[m + 1]) => (show ascAt l (m + 1) hlt from ⟨e, fun h => e2⟩))
        have hy := Lib.hid (fun (e : bndB l[m + 1] = false ∨ l[m + 1] ≤ l[m]) => (show ¬ ascAt l (m + 1) hlt from fun h => by
          rcases e with e | e
          · have := h.1; rw [e] at this; cases this
          · have : l[m] < l[m + 1] := h.2 (by omega)
            omega))
        generalize l[m + 1] = x at *
        generalize l[m] = y at *
        clear hj hc ha HP HS
        have hm0 : (0 : Int) < (m : Int) + 1 := by omega
        have hm1 : decide ((0 : Int) < (m : Int) + 1) = true := decide_eq_true hm0
        cases hb : bndB x
        case false =>
          have Hr := Lib.hid (HN.out (hy.out (.inl hb)))
          have Hb := Lib.hid hb
          clear hb HJ HN hx hy
          go_wp2_with fail
          refine (bounded_any x _).mono ?_
          rintro e w1 ⟨rfl, rfl⟩
          rw [Hb.out]
          go_wp2_with fail
          go_ret
          exact ⟨by rw [Hr.out]; rfl, rfl⟩
        case true =>
          by_cases hxy : x ≤ y
          · have Hr := Lib.hid (HN.out (hy.out (.inr hxy)))
            have Hb := Lib.hid hb
            have hd : decide (x ≤ y) = true := decide_eq_true hxy
            clear hb HJ HN hx hy hxy
            go_wp2_with fail
            refine (bounded_any x _).mono ?_
            rintro e w1 ⟨rfl, rfl⟩
            rw [Hb.out]
            go_wp2_with fail
            go_ret
            exact ⟨by rw [Hr.out]; rfl, rfl⟩
          · have Hn := HJ.out (hx.out hb (by omega))
            have Hb := Lib.hid hb
            have hd : decide (x ≤ y) = false := decide_eq_false hxy
            clear hb HJ HN hx hy hxy
            go_wp2_with fail
            refine (bounded_any x _).mono ?_
            rintro e w1 ⟨rfl, rfl⟩
            rw [Hb.out]
            go_wp2_with fail
            go_roundw
            case rel => exact ⟨m + 2, by omega, by go_num, Hn, by first | trivial | rfl⟩
            case measure => simp [intOf]; omega
    · have Hr := Lib.hid (show ascB l = true from ascB_yes fun j h => hj.out j h (by omega))
      clear hj HS
      go_wp2_with fail
      go_ret
      exact ⟨by rw [Hr.out]; rfl, rfl⟩
set_option maxRecDepth 100000 in
set_option maxHeartbeats 4000000 in
theorem refAsc_any (l : List Int) (A : Option Addr) (cap : Nat) (w : World) (hS : Ints w A l) (hl : l.length ≤ maxLen) :
    Calls Tryz.prog 45 #[.slice A l.length cap] w fun e w' => e = .returned (.bool (ascB l && decide (l.length ≤ 200))) ∧ w = w' := by
  unfold maxLen at hl
  have HS := Lib.hid hS
  clear hS
  go_enter Tryz.func45, Tryz.ntmps45
  go_wp2_with fail
  go_loopw [7] (fun i wr => ∃ k : Nat, k ≤ l.length ∧ i = .int .i64 k ∧ Hid (∀ j (h : j < l.length), j < k → ascAt l j h) ∧ w = wr) (fun i _ => l.length - (intOf i).toNat)
  case atStart => exact ⟨0, Nat.zero_le _, rfl, fun j hj hjk => absurd hjk (by omega), rfl⟩
  case round =>
    obtain ⟨k, hk, rfl, hj, rfl⟩ := hrel
    by_cases hlt : k < l.length
    · obtain ⟨b, o, ha, hc⟩ := HS.out
      obtain rfl := ha (by omega)
      have c0 := hc k hlt
      have HJ := Lib.hid (fun (e : ascAt l k hlt) => (show Hid (∀ j (h : j < l.length), j < k + 1 → ascAt l j h) from fun j h h2 => by
        by_cases e' : j = k
        · subst e'; exact e
        · exact hj.out j h (by omega)))
      have HN := Lib.hid (fun (e : ¬ ascAt l k hlt) => show ascB l = false from ascB_no hlt e)
      have HP := Lib.hid hc
      cases k with
      | zero =>
        rw [Nat.add_zero] at c0
        have hx := Lib.hid (fun (e : bndB l[0] = true) => (show ascAt l 0 hlt from ⟨e, fun h => absurd h (by omega)⟩))
        have hy := Lib.hid (fun (e : bndB l[0] = false) => (show ¬ ascAt l 0 hlt from fun h => by have := h.1; rw [e] at this; cases this))
        generalize l[0] = x at *
        clear hj hc ha HP HS
        cases hb : bndB x
        case false =>
          have Hr := Lib.hid (HN.out (hy.out hb))
          have Hb := Lib.hid hb
          clear hb HJ HN hx hy
          go_wp2_with fail
          refine (fits_any x _).mono ?_
          rintro e w1 ⟨rfl, rfl⟩
          rw [Hb.out]
          go_wp2_with fail
          go_ret
          exact ⟨by rw [Hr.out]; rfl, rfl⟩
        case true =>
          have Hn := HJ.out (hx.out hb)
          have Hb := Lib.hid hb
          clear hb HJ HN hx hy
          go_wp2_with fail
          refine (fits_any x _).mono ?_
          rintro e w1 ⟨rfl, rfl⟩
          rw [Hb.out]
          go_wp2_with fail
          go_roundw
          case rel => exact ⟨1, by omega, by go_num, Hn, by first | trivial | rfl⟩
          case measure => simp [intOf]; omega
      | succ m =>
        have c1 := hc m (by omega)
        have hx := Lib.hid (fun (e : bndB l[m + 1] = true) (e2 : l[m] < l[m + 1]) => (show ascAt l (m + 1) hlt from ⟨e, fun h => e2⟩))
        have hy := Lib.hid (fun (e : bndB l[m + 1] = false ∨ l[m + 1] ≤ l[m]) => (show ¬ ascAt l (m + 1) hlt from fun h => by
          rcases e with e | e
          · have := h.1; rw [e] at this; cases this
          · have : l[m] < l[m + 1] := h.2 (by omega)
            omega))
        generalize l[m + 1] = x at *
        generalize l[m] = y at *
        clear hj hc ha HP HS
        have hm0 : (0 : Int) < (m : Int) + 1 := by omega
        have hm1 : decide ((0 : Int) < (m : Int) + 1) = true := decide_eq_true hm0
        cases hb : bndB x
        case false =>
          have Hr := Lib.hid (HN.out (hy.out (.inl hb)))
          have Hb := Lib.hid hb
          clear hb HJ HN hx hy
          go_wp2_with fail
          refine (fits_any x _).mono ?_
          rintro e w1 ⟨rfl, rfl⟩
          rw [Hb.out]
          go_wp2_with fail
          go_ret
          exact ⟨by rw [Hr.out]; rfl, rfl⟩
        case true =>
          by_cases hxy : x ≤ y
          · have Hr := Lib.hid (HN.out (hy.out (.inr hxy)))
            have Hb := Lib.hid hb
            have hd : decide (x ≤ y) = true := decide_eq_true hxy
            clear hb HJ HN hx hy hxy
            go_wp2_with fail
            refine (fits_any x _).mono ?_
            rintro e w1 ⟨rfl, rfl⟩
            rw [Hb.out]
            go_wp2_with fail
            go_ret
            exact ⟨by rw [Hr.out]; rfl, rfl⟩
          · have Hn := HJ.out (hx.out hb (by omega))
            have Hb := Lib.hid hb
            have hd : decide (x ≤ y) = false := decide_eq_false hxy
            clear hb HJ HN hx hy hxy
            go_wp2_with fail
            refine (fits_any x _).mono ?_
            rintro e w1 ⟨rfl, rfl⟩
            rw [Hb.out]
            go_wp2_with fail
            go_roundw
            case rel => exact ⟨m + 2, by omega, by go_num, Hn, by first | trivial | rfl⟩
            case measure => simp [intOf]; omega
    · have Hr := Lib.hid (show ascB l = true from ascB_yes fun j h => hj.out j h (by omega))
      clear hj HS
      by_cases h2 : l.length ≤ 200
      · have hd : decide ((l.length : Int) ≤ 200) = true := decide_eq_true (by omega)
        have Hd := Lib.hid (show decide (l.length ≤ 200) = true from decide_eq_true h2)
        clear h2
        go_wp2_with fail
        go_ret
        exact ⟨by rw [Hr.out, Hd.out]; rfl, rfl⟩
      · have hd : decide ((l.length : Int) ≤ 200) = false := decide_eq_false (by omega)
        have Hd := Lib.hid (show decide (l.length ≤ 200) = false from decide_eq_false h2)
        clear h2
        go_wp2_with fail
        go_ret
        exact ⟨by rw [Hr.out, Hd.out]; rfl, rfl⟩
set_option maxRecDepth 100000 in
set_option maxHeartbeats 4000000 in
theorem nz_any (l : List Int) (A : Option Addr) (cap : Nat) (w : World) (hS : Ints w A l) (hl : l.length ≤ maxLen) :
    Calls Tryz.prog 71 #[.slice A l.length cap] w fun e w' => e = .returned (.bool (nzB l)) ∧ w = w' := by
  unfold maxLen at hl
  have HS := Lib.hid hS
  clear hS
  go_enter Tryz.func71, Tryz.ntmps71
  go_wp2_with fail
  go_loopw [7] (fun i wr => ∃ k : Nat, k ≤ l.length ∧ i = .int .i64 k ∧ Hid (∀ j (h : j < l.length), j < k → nzAt l j h) ∧ w = wr) (fun i _ => l.length - (intOf i).toNat)
  case atStart => exact ⟨0, Nat.zero_le _, rfl, fun j hj hjk => absurd hjk (by omega), rfl⟩
  case round =>
    obtain ⟨k, hk, rfl, hj, rfl⟩ := hrel
    by_cases hlt : k < l.length
    · obtain ⟨b, o, ha, hc⟩ := HS.out
      obtain rfl := ha (by omega)
      have c0 := hc k hlt
      have HJ := Lib.hid (fun (e : nzAt l k hlt) => (show Hid (∀ j (h : j < l.length), j < k + 1 → nzAt l j h) from fun j h h2 => by
        by_cases e' : j = k
        · subst e'; exact e
        · exact hj.out j h (by omega)))
      have HN := Lib.hid (fun (e : ¬ nzAt l k hlt) => show nzB l = false from nzB_no hlt e)
      have hx := Lib.hid (fun (e : bndB l[k] = true) (e2 : l[k] ≠ 0) => (show nzAt l k hlt from ⟨e, e2⟩))
      have hy := Lib.hid (fun (e : bndB l[k] = false ∨ l[k] = 0) => (show ¬ nzAt l k hlt from fun h => by
        rcases e with e | e
        · have := h.1; rw [e] at this; cases this
        · exact h.2 e))
      generalize l[k] = x at *
      clear hj hc ha HS
      cases hb : bndB x
      case false =>
        have Hr := Lib.hid (HN.out (hy.out (.inl hb)))
        have Hb := Lib.hid hb
        clear hb HJ HN hx hy
        go_wp2_with fail
        refine (bounded_any x _).mono ?_
        rintro e w1 ⟨rfl, rfl⟩
        rw [Hb.out]
        go_wp2_with fail
        go_ret
        exact ⟨by rw [Hr.out]; rfl, rfl⟩
      case true =>
        by_cases hxy : x = 0
        · have Hr := Lib.hid (HN.out (hy.out (.inr hxy)))
          have Hb := Lib.hid hb
          have hd : (x == 0) = true := by simpa using hxy
          clear hb HJ HN hx hy hxy
          go_wp2_with fail
          refine (bounded_any x _).mono ?_
          rintro e w1 ⟨rfl, rfl⟩
          rw [Hb.out]
          go_wp2_with fail
          go_ret
          exact ⟨by rw [Hr.out]; rfl, rfl⟩
        · have Hn := HJ.out (hx.out hb hxy)
          have Hb := Lib.hid hb
          have hd : (x == 0) = false := by simpa using hxy
          clear hb HJ HN hx hy hxy
          go_wp2_with fail
          refine (bounded_any x _).mono ?_
          rintro e w1 ⟨rfl, rfl⟩
          rw [Hb.out]
          go_wp2_with fail
          go_roundw
          case rel => exact ⟨k + 1, by omega, by go_num, Hn, by first | trivial | rfl⟩
          case measure => simp [intOf]; omega
    · have Hr := Lib.hid (show nzB l = true from nzB_yes fun j h => hj.out j h (by omega))
      clear hj HS
      go_wp2_with fail
      go_ret
      exact ⟨by rw [Hr.out]; rfl, rfl⟩
end Go.Proofs.YtmeeombadkgneaaGreat
namespace Go.Proofs.YtmeeombadkgneaaGreat
open Go.RowKit Go.Shelf

attribute [local go_sem] Oper.semAt_some
/-- A value: sort, number, set, indices, integers. -/
structure Vl where
  so : Int
  nu : Int
  st : List Int
  ix : List Int
  xs : List Int
/-- A value and where its lists lie. -/
structure VA where
  v : Vl
  a1 : Option Addr
  c1 : Nat
  a2 : Option Addr
  c2 : Nat
  a3 : Option Addr
  c3 : Nat
def VA.cs (x : VA) : Array Value := #[.int .i64 x.v.so, .int .i64 x.v.nu, .slice x.a1 x.v.st.length x.c1, .slice x.a2 x.v.ix.length x.c2, .slice x.a3 x.v.xs.length x.c3]
abbrev vv (x : VA) : Value := .agg #[.int .i64 x.v.so, .int .i64 x.v.nu, .slice x.a1 x.v.st.length x.c1, .slice x.a2 x.v.ix.length x.c2, .slice x.a3 x.v.xs.length x.c3]
abbrev boxV (x : VA) (t : TypeId) : Obj := .cells #[.int .i64 x.v.so, .int .i64 x.v.nu, .slice x.a1 x.v.st.length x.c1, .slice x.a2 x.v.ix.length x.c2, .slice x.a3 x.v.xs.length x.c3] t
structure LiesV (w : World) (x : VA) : Prop where
  st : Ints w x.a1 x.v.st
  ix : Ints w x.a2 x.v.ix
  xs : Ints w x.a3 x.v.xs
  l1 : x.v.st.length ≤ maxLen
  l2 : x.v.ix.length ≤ maxLen
  l3 : x.v.xs.length ≤ maxLen
theorem LiesV.later {w w' : World} {x : VA} (h : LiesV w x) (hb : Below w.heap.size w w') : LiesV w' x := ⟨h.st.later hb, h.ix.later hb, h.xs.later hb, h.l1, h.l2, h.l3⟩
/-- The five cells of a value in memory. -/
structure FiveV (w : World) (b o : Nat) (x : VA) : Prop where
  c0 : w.cell? ⟨b, o, none⟩ = some (.int .i64 x.v.so)
  c1 : w.cell? ⟨b, o + 1, none⟩ = some (.int .i64 x.v.nu)
  c2 : w.cell? ⟨b, o + 2, none⟩ = some (.slice x.a1 x.v.st.length x.c1)
  c3 : w.cell? ⟨b, o + 3, none⟩ = some (.slice x.a2 x.v.ix.length x.c2)
  c4 : w.cell? ⟨b, o + 4, none⟩ = some (.slice x.a3 x.v.xs.length x.c3)
theorem FiveV.later {w w' : World} {b o : Nat} {x : VA} (h : FiveV w b o x) (hb : Below w.heap.size w w') : FiveV w' b o x :=
  ⟨cellB hb (Nat.le_refl _) h.c0, cellB hb (Nat.le_refl _) h.c1, cellB hb (Nat.le_refl _) h.c2, cellB hb (Nat.le_refl _) h.c3, cellB hb (Nat.le_refl _) h.c4⟩
theorem fiveV_new (w : World) (x : VA) (t : TypeId) : FiveV (w.alloc (boxV x t)) w.heap.size 0 x := ⟨by simp [go_sem], by simp [go_sem], by simp [go_sem], by simp [go_sem], by simp [go_sem]⟩

def smallV (v : Vl) : Bool := bndB v.nu && (decide (v.st.length ≤ 200) && decide (v.ix.length ≤ 200))
set_option maxRecDepth 100000 in
set_option maxHeartbeats 4000000 in
theorem small_any (x : VA) (w : World) : Calls Tryz.prog 69 #[vv x] w fun e w' => e = .returned (.bool (smallV x.v)) ∧ Below w.heap.size w w' := by
  have X := fiveV_new w x 63
  have HB := Lib.hid (show Below w.heap.size w (w.alloc (boxV x 63)) from (Below.refl _ _).alloc (Nat.le_refl _) _)
  have hr := Lib.hid (show smallV x.v = (bndB x.v.nu && (decide (x.v.st.length ≤ 200) && decide (x.v.ix.length ≤ 200))) from rfl)
  obtain ⟨x0, x1, x2, x3, x4⟩ := X
  cases hb : bndB x.v.nu
  case false =>
    have Hr := Lib.hid (show smallV x.v = false by rw [hr.out, hb]; rfl)
    have Hb := Lib.hid hb
    clear hb hr
    go_enter Tryz.func69, Tryz.ntmps69
    go_wp2_with fail
    refine (bounded_any x.v.nu _).mono ?_
    rintro e w1 ⟨rfl, rfl⟩
    rw [Hb.out]
    go_wp2_with fail
    go_ret
    exact ⟨by rw [Hr.out]; rfl, HB.out⟩
  have Hb := Lib.hid hb
  by_cases h1 : x.v.st.length ≤ 200
  case neg =>
    have Hr := Lib.hid (show smallV x.v = false by rw [hr.out, hb, decide_eq_false h1]; rfl)
    have d1 : decide ((x.v.st.length : Int) ≤ 200) = false := decide_eq_false (by omega)
    clear hb hr h1
    go_enter Tryz.func69, Tryz.ntmps69
    go_wp2_with fail
    refine (bounded_any x.v.nu _).mono ?_
    rintro e w1 ⟨rfl, rfl⟩
    rw [Hb.out]
    go_wp2_with fail
    go_ret
    exact ⟨by rw [Hr.out]; rfl, HB.out⟩
  have d1 : decide ((x.v.st.length : Int) ≤ 200) = true := decide_eq_true (by omega)
  by_cases h2 : x.v.ix.length ≤ 200
  · have Hr := Lib.hid (show smallV x.v = true by rw [hr.out, hb, decide_eq_true h1, decide_eq_true h2]; rfl)
    have d2 : decide ((x.v.ix.length : Int) ≤ 200) = true := decide_eq_true (by omega)
    clear hb hr h1 h2
    go_enter Tryz.func69, Tryz.ntmps69
    go_wp2_with fail
    refine (bounded_any x.v.nu _).mono ?_
    rintro e w1 ⟨rfl, rfl⟩
    rw [Hb.out]
    go_wp2_with fail
    go_ret
    exact ⟨by rw [Hr.out]; rfl, HB.out⟩
  · have Hr := Lib.hid (show smallV x.v = false by rw [hr.out, hb, decide_eq_true h1, decide_eq_false h2]; rfl)
    have d2 : decide ((x.v.ix.length : Int) ≤ 200) = false := decide_eq_false (by omega)
    clear hb hr h1 h2
    go_enter Tryz.func69, Tryz.ntmps69
    go_wp2_with fail
    refine (bounded_any x.v.nu _).mono ?_
    rintro e w1 ⟨rfl, rfl⟩
    rw [Hb.out]
    go_wp2_with fail
    go_ret
    exact ⟨by rw [Hr.out]; rfl, HB.out⟩

end Go.Proofs.YtmeeombadkgneaaGreat
