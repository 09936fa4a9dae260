/-
  What small, valid and ValidVal return of a value; conditions: the value's lists lie in memory.
-/
import Derived.Test.YtmeeombadkgneaaGreatZVa0
namespace Go.Proofs.YtmeeombadkgneaaGreat
open Go.RowKit Go.Shelf

attribute [local go_sem] Oper.semAt_some
/-- A value: sort, number, set, indices, integers. -/
structure Vl where
  so : Int
  nu : Int
  st : List Int
  ix : List Int
  xs : List Int
/-- A value and where its lists lie. -/
structure VA where
  v : Vl
  a1 : Option Addr
  c1 : Nat
  a2 : Option Addr
  c2 : Nat
  a3 : Option Addr
  c3 : Nat
def VA.cs (x : VA) : Array Value := #[.int .i64 x.v.so, .int .i64 x.v.nu, .slice x.a1 x.v.st.length x.c1, .slice x.a2 x.v.ix.length x.c2, .slice x.a3 x.v.xs.length x.c3]
abbrev vv (x : VA) : Value := .agg #[.int .i64 x.v.so, .int .i64 x.v.nu, .slice x.a1 x.v.st.length x.c1, .slice x.a2 x.v.ix.length x.c2, .slice x.a3 x.v.xs.length x.c3]
abbrev boxV (x : VA) (t : TypeId) : Obj := .cells #[.int .i64 x.v.so, .int .i64 x.v.nu, .slice x.a1 x.v.st.length x.c1, .slice x.a2 x.v.ix.length x.c2, .slice x.a3 x.v.xs.length x.c3] t
structure LiesV (w : World) (x : VA) : Prop where
  st : Ints w x.a1 x.v.st
  ix : Ints w x.a2 x.v.ix
  xs : Ints w x.a3 x.v.xs
  l1 : x.v.st.length ≤ maxLen
  l2 : x.v.ix.length ≤ maxLen
  l3 : x.v.xs.length ≤ maxLen
theorem LiesV.later {w w' : World} {x : VA} (h : LiesV w x) (hb : Below w.heap.size w w') : LiesV w' x := ⟨h.st.later hb, h.ix.later hb, h.xs.later hb, h.l1, h.l2, h.l3⟩
/-- The five cells of a value in memory. -/
structure FiveV (w : World) (b o : Nat) (x : VA) : Prop where
  c0 : w.cell? ⟨b, o, none⟩ = some (.int .i64 x.v.so)
  c1 : w.cell? ⟨b, o + 1, none⟩ = some (.int .i64 x.v.nu)
  c2 : w.cell? ⟨b, o + 2, none⟩ = some (.slice x.a1 x.v.st.length x.c1)
  c3 : w.cell? ⟨b, o + 3, none⟩ = some (.slice x.a2 x.v.ix.length x.c2)
  c4 : w.cell? ⟨b, o + 4, none⟩ = some (.slice x.a3 x.v.xs.length x.c3)
theorem FiveV.later {w w' : World} {b o : Nat} {x : VA} (h : FiveV w b o x) (hb : Below w.heap.size w w') : FiveV w' b o x :=
  ⟨cellB hb (Nat.le_refl _) h.c0, cellB hb (Nat.le_refl _) h.c1, cellB hb (Nat.le_refl _) h.c2, cellB hb (Nat.le_refl _) h.c3, cellB hb (Nat.le_refl _) h.c4⟩
theorem fiveV_new (w : World) (x : VA) (t : TypeId) : FiveV (w.alloc (boxV x t)) w.heap.size 0 x := ⟨by simp [go_sem], by simp [go_sem], by simp [go_sem], by simp [go_sem], by simp [go_sem]⟩

def smallV (v : Vl) : Bool := bndB v.nu && (decide (v.st.length ≤ 200) && decide (v.ix.length ≤ 200))
set_option maxRecDepth 100000 in
set_option maxHeartbeats 4000000 in
theorem small_any (x : VA) (w : World) : Calls Tryz.prog 69 #[vv x] w fun e w' => e = .returned (.bool (smallV x.v)) ∧ Below w.heap.size w w' := by
  have X := fiveV_new w x 63
  have HB := Lib.hid (show Below w.heap.size w (w.alloc (boxV x 63)) from (Below.refl _ _).alloc (Nat.le_refl _) _)
  have hr := Lib.hid (show smallV x.v = (bndB x.v.nu && (decide (x.v.st.length ≤ 200) && decide (x.v.ix.length ≤ 200))) from rfl)
  obtain ⟨x0, x1, x2, x3, x4⟩ := X
  cases hb : bndB x.v.nu
  case false =>
    have Hr := Lib.hid (show smallV x.v = false by rw [hr.out, hb]; rfl)
    have Hb := Lib.hid hb
    clear hb hr
    go_enter Tryz.func69, Tryz.ntmps69
    go_wp2_with fail
    refine (bounded_any x.v.nu _).mono ?_
    rintro e w1 ⟨rfl, rfl⟩
    rw [Hb.out]
    go_wp2_with fail
    go_ret
    exact ⟨by rw [Hr.out]; rfl, HB.out⟩
  have Hb := Lib.hid hb
  by_cases h1 : x.v.st.length ≤ 200
  case neg =>
    have Hr := Lib.hid (show smallV x.v = false by rw [hr.out, hb, decide_eq_false h1]; rfl)
    have d1 : decide ((x.v.st.length : Int) ≤ 200) = false := decide_eq_false (by omega)
    clear hb hr h1
    go_enter Tryz.func69, Tryz.ntmps69
    go_wp2_with fail
    refine (bounded_any x.v.nu _).mono ?_
    rintro e w1 ⟨rfl, rfl⟩
    rw [Hb.out]
    go_wp2_with fail
    go_ret
    exact ⟨by rw [Hr.out]; rfl, HB.out⟩
  have d1 : decide ((x.v.st.length : Int) ≤ 200) = true := decide_eq_true (by omega)
  by_cases h2 : x.v.ix.length ≤ 200
  · have Hr := Lib.hid (show smallV x.v = true by rw [hr.out, hb, decide_eq_true h1, decide_eq_true h2]; rfl)
    have d2 : decide ((x.v.ix.length : Int) ≤ 200) = true := decide_eq_true (by omega)
    clear hb hr h1 h2
    go_enter Tryz.func69, Tryz.ntmps69
    go_wp2_with fail
    refine (bounded_any x.v.nu _).mono ?_
    rintro e w1 ⟨rfl, rfl⟩
    rw [Hb.out]
    go_wp2_with fail
    go_ret
    exact ⟨by rw [Hr.out]; rfl, HB.out⟩
  · have Hr := Lib.hid (show smallV x.v = false by rw [hr.out, hb, decide_eq_true h1, decide_eq_false h2]; rfl)
    have d2 : decide ((x.v.ix.length : Int) ≤ 200) = false := decide_eq_false (by omega)
    clear hb hr h1 h2
    go_enter Tryz.func69, Tryz.ntmps69
    go_wp2_with fail
    refine (bounded_any x.v.nu _).mono ?_
    rintro e w1 ⟨rfl, rfl⟩
    rw [Hb.out]
    go_wp2_with fail
    go_ret
    exact ⟨by rw [Hr.out]; rfl, HB.out⟩

end Go.Proofs.YtmeeombadkgneaaGreat
