/-
  Values, entries and models that can be read as data lie in memory; conditions: none.
  The model that a law is called with, opened, with the capacities of its lists; conditions: the row's own.
-/
import Derived.Test.YtmeeombadkgneaaZOpen
import Derived.Test.YtmeeombadkgneaaZVa40
import Derived.Test.YtmeeombadkgneaaZEv19
namespace Go.Proofs.Ytmeeombadkgneaa
set_option maxRecDepth 100000
open Go.ChangeShapes Go.WideShapes Go.ChangeAt Go.RowKit Go.Deep

theorem Try.cells30 : Try.prog.cellsOf 30 = 1 := by kernel_rfl
theorem Try.cells38 : Try.prog.cellsOf 38 = 1 := by kernel_rfl
theorem Try.cells32 : Try.prog.cellsOf 32 = 5 := by kernel_rfl
theorem Try.cells40 : Try.prog.cellsOf 40 = 7 := by kernel_rfl
theorem spot_of_cell {w : World} {a : Addr} {v : Value} (h : w.cell? a = some v) : ∃ b o, a = ⟨b, o, none⟩ := by
  have hs := World.cell?_spot h
  obtain ⟨b, o, s⟩ := a
  simp at hs
  exact ⟨b, o, by rw [hs]⟩
theorem ints_of_trod {H : Type} {enc : TypeId × Value → H} {w : World} {base : Nat} {sp : Nat → Bool} {held : Bool} {fuel : Nat} {cs : List Value} {y : DataW H × List MemPlace}
    (h : DataW.trod enc Try.prog w base sp held fuel 30 cs = some y) : ∃ (sl : List Int) (A : Option Addr) (cap : Nat), cs = [.slice A sl.length cap] ∧ Ints w A sl ∧ sl.length ≤ maxLen := by
  rcases DataW.trod_slice Try.underlying30 h with ⟨h4, _⟩ | ⟨a, len, cap, elems, rest, m, hm0, h4, _, hb, hl, hm, hel, hall, _⟩
  · exact ⟨[], none, 0, h4, ints_nil w, by simp⟩
  · have each : ∀ i, i < len → ∃ x : Int, w.cell? (a.add i) = some (.int .i64 x) := by
      intro i hi
      have := hall i hi
      rw [List.getElem?_eq_getElem (by omega), Try.cells2] at this
      obtain ⟨cs', g1, g2⟩ := Option.bind_eq_some_iff.1 this
      obtain ⟨x, rfl, _, _⟩ := DataW.trod_int Try.underlying2 g2
      have := (World.cells?_some g1).2.2 0 (by omega)
      rw [Nat.mul_one] at this
      refine ⟨x, ?_⟩
      simpa [Addr.add] using this
    obtain ⟨X, hX⟩ := choose_lt each
    have hlen : ((List.range len).map X).length = len := by simp
    refine ⟨(List.range len).map X, some a, cap, by rw [hlen]; exact h4, ?_, by rw [hlen]; omega⟩
    by_cases h0 : 0 < len
    · obtain ⟨b, o, e⟩ := spot_of_cell (hX 0 h0)
      have e' : a = ⟨b, o, none⟩ := by simpa [Addr.add] using e
      subst e'
      refine ⟨b, o, fun _ => rfl, fun i hi => ?_⟩
      rw [hlen] at hi
      have := hX i hi
      rw [add_off] at this
      rw [this]
      simp
    · obtain rfl : len = 0 := by omega
      exact ⟨0, 0, by simp, by simp⟩
theorem val_of_trod {H : Type} {enc : TypeId × Value → H} {w : World} {base : Nat} {sp : Nat → Bool} {held : Bool} {fuel : Nat} {cs : List Value} {y : DataW H × List MemPlace}
    (h : DataW.trod enc Try.prog w base sp held fuel 32 cs = some y) : ∃ x : VA, cs = cells5V x ∧ LiesV w x := by
  obtain ⟨xs, n, rfl, _, hlen, hxl, hf⟩ := DataW.trod_struct Try.underlying32 h
  rw [Try.cells32] at hlen
  match cs, hlen with
  | [c0, c1, c2, c3, c4], _ =>
    have hxl' : xs.length = 5 := hxl
    have e0 : DataW.trod enc Try.prog w base sp held n 3 [c0] = xs[0]? := by
      have := hf 0 _ rfl
      simpa [Try.cells3] using this
    have e1 : DataW.trod enc Try.prog w base sp held n 2 [c1] = xs[1]? := by
      have := hf 1 _ rfl
      simpa [Try.cells2] using this
    have e2 : DataW.trod enc Try.prog w base sp held n 30 [c2] = xs[2]? := by
      have := hf 2 _ rfl
      simpa [Try.cells30] using this
    have e3 : DataW.trod enc Try.prog w base sp held n 30 [c3] = xs[3]? := by
      have := hf 3 _ rfl
      simpa [Try.cells30] using this
    have e4 : DataW.trod enc Try.prog w base sp held n 30 [c4] = xs[4]? := by
      have := hf 4 _ rfl
      simpa [Try.cells30] using this
    rw [List.getElem?_eq_getElem (by omega)] at e0 e1 e2 e3 e4
    obtain ⟨so, h0, _, _⟩ := DataW.trod_int Try.underlying3 e0
    obtain ⟨nu, h1, _, _⟩ := DataW.trod_int Try.underlying2 e1
    obtain ⟨s2, A2, k2, h2, i2, l2⟩ := ints_of_trod e2
    obtain ⟨s3, A3, k3, h3, i3, l3⟩ := ints_of_trod e3
    obtain ⟨s4, A4, k4, h4, i4, l4⟩ := ints_of_trod e4
    simp only [List.cons.injEq, and_true] at h0 h1 h2 h3 h4
    subst h0 h1 h2 h3 h4
    exact ⟨⟨⟨so, nu, s2, s3, s4⟩, A2, k2, A3, k3, A4, k4⟩, rfl, i2, i3, i4, l2, l3, l4⟩
theorem vals_of_trod {H : Type} {enc : TypeId × Value → H} {w : World} {base : Nat} {sp : Nat → Bool} {held : Bool} {fuel : Nat} {cs : List Value} {y : DataW H × List MemPlace}
    (h : DataW.trod enc Try.prog w base sp held fuel 38 cs = some y) : ∃ (l : List VA) (A : Option Addr) (cap : Nat), cs = [.slice A l.length cap] ∧ LiesVs w A l := by
  rcases DataW.trod_slice Try.underlying38 h with ⟨h4, _⟩ | ⟨a, len, cap, elems, rest, m, hm0, h4, _, hb, hl, hm, hel, hall, _⟩
  · exact ⟨[], none, 0, h4, by simp, ⟨0, 0, fun h => absurd h (by simp), fun i h => absurd h (by simp)⟩, fun i h => absurd h (by simp)⟩
  · have each : ∀ i, i < len → ∃ x : VA, (∀ j (_ : j < 5), w.cell? ((a.add (i * 5)).add j) = (cells5V x)[j]?) ∧ LiesV w x := by
      intro i hi
      have := hall i hi
      rw [List.getElem?_eq_getElem (by omega), Try.cells32] at this
      obtain ⟨cs', g1, g2⟩ := Option.bind_eq_some_iff.1 this
      obtain ⟨x, rfl, hx⟩ := val_of_trod g2
      exact ⟨x, fun j hj => (World.cells?_some g1).2.2 j hj, hx⟩
    haveI : Inhabited VA := ⟨zeroV⟩
    obtain ⟨X, hX⟩ := choose_lt each
    have hlen : ((List.range len).map X).length = len := by simp
    refine ⟨(List.range len).map X, some a, cap, by rw [hlen]; exact h4, by rw [hlen]; omega, ?_, fun i hi => ?_⟩
    · by_cases h0 : 0 < len
      · obtain ⟨b, o, e⟩ := spot_of_cell (hX 0 h0 |>.1 0 (by omega))
        have e' : a = ⟨b, o, none⟩ := by simpa [Addr.add] using e
        subst e'
        refine ⟨b, o, fun _ => rfl, fun i hi => ?_⟩
        rw [hlen] at hi
        have hc := (hX i hi).1
        simp only [add_off] at hc
        simp only [List.getElem_map, List.getElem_range]
        exact ⟨hc 0 (by omega), hc 1 (by omega), hc 2 (by omega), hc 3 (by omega), hc 4 (by omega)⟩
      · obtain rfl : len = 0 := by omega
        exact ⟨0, 0, by simp, by simp⟩
    · rw [hlen] at hi
      simp only [List.getElem_map, List.getElem_range]
      exact (hX i hi).2
theorem entry_of_trod {H : Type} {enc : TypeId × Value → H} {w : World} {base : Nat} {sp : Nat → Bool} {held : Bool} {fuel : Nat} {cs : List Value} {y : DataW H × List MemPlace}
    (h : DataW.trod enc Try.prog w base sp held fuel 40 cs = some y) : ∃ x : EA, cs = cells7E x ∧ LiesE w x := by
  obtain ⟨xs, n, rfl, _, hlen, hxl, hf⟩ := DataW.trod_struct Try.underlying40 h
  rw [Try.cells40] at hlen
  match cs, hlen with
  | [c0, c1, c2, c3, c4, c5, c6], _ =>
    have hxl' : xs.length = 3 := hxl
    have e0 : DataW.trod enc Try.prog w base sp held n 9 [c0] = xs[0]? := by
      have := hf 0 _ rfl
      simpa [Try.cells9] using this
    have e1 : DataW.trod enc Try.prog w base sp held n 38 [c1] = xs[1]? := by
      have := hf 1 _ rfl
      simpa [Try.cells9, Try.cells38] using this
    have e2 : DataW.trod enc Try.prog w base sp held n 32 [c2, c3, c4, c5, c6] = xs[2]? := by
      have := hf 2 _ rfl
      simpa [Try.cells9, Try.cells38, Try.cells32] using this
    rw [List.getElem?_eq_getElem (by omega)] at e0 e1 e2
    obtain ⟨nm, h0, _, w0⟩ := DataW.trod_string Try.underlying9 e0
    obtain ⟨l, A, cap, h1, hl⟩ := vals_of_trod e1
    obtain ⟨x, h2, hx⟩ := val_of_trod e2
    simp only [List.cons.injEq, and_true] at h0 h1
    subst h0 h1
    refine ⟨⟨nm, l, A, cap, x⟩, ?_, w0, hl, hx⟩
    simp only [cells5V, List.cons.injEq, and_true] at h2
    obtain ⟨rfl, rfl, rfl, rfl, rfl⟩ := h2
    rfl
/-- An argument that is a model. -/
theorem open_model {H : Type} {enc : TypeId × Value → H} {w : World} {base : Nat} {sp : Nat → Bool} {held : Bool} {r : Reach} {b0 : Nat} {v : Value} {d : DataW H} {p : List MemPlace}
    (hv : Value.okWide Try.prog w r b0 26 v) (h : DataW.Trod enc Try.prog w base sp held 26 v d p) :
    ∃ (l : List EA) (A : Option Addr) (cap : Nat), v = .slice A l.length cap ∧ LiesM w A l := by
  obtain ⟨a', len', cap', rfl⟩ := okWide_slice Try.underlying26 hv
  obtain ⟨fuel, hf⟩ := h
  rcases DataW.trod_slice Try.underlying26 hf with ⟨h4, _⟩ | ⟨a, len, cap, elems, rest, m, hm0, h4, _, hb, hl, hm, hel, hall, _⟩
  · simp only [Value.cells, List.cons.injEq, and_true] at h4
    exact ⟨[], none, 0, h4, by simp, ⟨0, 0, fun h => absurd h (by simp), fun i h => absurd h (by simp)⟩, fun i h => absurd h (by simp)⟩
  · simp only [Value.cells, List.cons.injEq, and_true] at h4
    have each : ∀ i, i < len → ∃ x : EA, (∀ j (_ : j < 7), w.cell? ((a.add (i * 7)).add j) = (cells7E x)[j]?) ∧ LiesE w x := by
      intro i hi
      have := hall i hi
      rw [List.getElem?_eq_getElem (by omega), Try.cells40] at this
      obtain ⟨cs', g1, g2⟩ := Option.bind_eq_some_iff.1 this
      obtain ⟨x, rfl, hx⟩ := entry_of_trod g2
      exact ⟨x, fun j hj => (World.cells?_some g1).2.2 j hj, hx⟩
    haveI : Inhabited EA := ⟨zeroE⟩
    obtain ⟨X, hX⟩ := choose_lt each
    have hlen : ((List.range len).map X).length = len := by simp
    refine ⟨(List.range len).map X, some a, cap, by rw [hlen]; exact h4, by rw [hlen]; omega, ?_, fun i hi => ?_⟩
    · by_cases h0 : 0 < len
      · obtain ⟨b, o, e⟩ := spot_of_cell (hX 0 h0 |>.1 0 (by omega))
        have e' : a = ⟨b, o, none⟩ := by simpa [Addr.add] using e
        subst e'
        refine ⟨b, o, fun _ => rfl, fun i hi => ?_⟩
        rw [hlen] at hi
        have hc := (hX i hi).1
        simp only [add_off] at hc
        simp only [List.getElem_map, List.getElem_range]
        exact ⟨hc 0 (by omega), hc 1 (by omega), hc 2 (by omega), hc 3 (by omega), hc 4 (by omega), hc 5 (by omega), hc 6 (by omega)⟩
      · obtain rfl : len = 0 := by omega
        exact ⟨0, 0, by simp, by simp⟩
    · rw [hlen] at hi
      simp only [List.getElem_map, List.getElem_range]
      exact (hX i hi).2
/-- An argument that is an entry. -/
theorem open_entry {H : Type} {enc : TypeId × Value → H} {w : World} {base : Nat} {sp : Nat → Bool} {held : Bool} {r : Reach} {b0 : Nat} {v : Value} {d : DataW H} {p : List MemPlace}
    (hv : Value.okWide Try.prog w r b0 40 v) (h : DataW.Trod enc Try.prog w base sp held 40 v d p) :
    ∃ x : EA, v = ev x ∧ LiesE w x := by
  obtain ⟨cs, rfl, hsz⟩ := okWide_struct Try.underlying40 hv
  obtain ⟨fuel, hf⟩ := h
  obtain ⟨x, h1, h2⟩ := entry_of_trod hf
  refine ⟨x, ?_, h2⟩
  have : cs.toList = _ := h1
  show Value.agg cs = Value.agg _
  congr 1
  exact Array.toList_inj.1 this
end Go.Proofs.Ytmeeombadkgneaa
namespace Go.Proofs.Ytmeeombadkgneaa
set_option maxRecDepth 100000
open Go.ChangeShapes Go.WideShapes Go.ChangeAt Go.RowKit Go.Deep

theorem intsC_of_trod {H : Type} {enc : TypeId × Value → H} {w : World} {base : Nat} {sp : Nat → Bool} {held : Bool} {fuel : Nat} {cs : List Value} {y : DataW H × List MemPlace}
    (h : DataW.trod enc Try.prog w base sp held fuel 30 cs = some y) : ∃ (sl : List Int) (A : Option Addr) (cap : Nat), cs = [.slice A sl.length cap] ∧ Ints w A sl ∧ sl.length ≤ maxLen ∧ sl.length ≤ cap := by
  rcases DataW.trod_slice Try.underlying30 h with ⟨h4, _⟩ | ⟨a, len, cap, elems, rest, m, hm0, h4, _, hb, hl, hm, hel, hall, _⟩
  · exact ⟨[], none, 0, h4, ints_nil w, by simp, by simp⟩
  · have each : ∀ i, i < len → ∃ x : Int, w.cell? (a.add i) = some (.int .i64 x) := by
      intro i hi
      have := hall i hi
      rw [List.getElem?_eq_getElem (by omega), Try.cells2] at this
      obtain ⟨cs', g1, g2⟩ := Option.bind_eq_some_iff.1 this
      obtain ⟨x, rfl, _, _⟩ := DataW.trod_int Try.underlying2 g2
      have := (World.cells?_some g1).2.2 0 (by omega)
      rw [Nat.mul_one] at this
      refine ⟨x, ?_⟩
      simpa [Addr.add] using this
    obtain ⟨X, hX⟩ := choose_lt each
    have hlen : ((List.range len).map X).length = len := by simp
    refine ⟨(List.range len).map X, some a, cap, by rw [hlen]; exact h4, ?_, by rw [hlen]; omega, by rw [hlen]; omega⟩
    by_cases h0 : 0 < len
    · obtain ⟨b, o, e⟩ := spot_of_cell (hX 0 h0)
      have e' : a = ⟨b, o, none⟩ := by simpa [Addr.add] using e
      subst e'
      refine ⟨b, o, fun _ => rfl, fun i hi => ?_⟩
      rw [hlen] at hi
      have := hX i hi
      rw [add_off] at this
      rw [this]
      simp
    · obtain rfl : len = 0 := by omega
      exact ⟨0, 0, by simp, by simp⟩
theorem valC_of_trod {H : Type} {enc : TypeId × Value → H} {w : World} {base : Nat} {sp : Nat → Bool} {held : Bool} {fuel : Nat} {cs : List Value} {y : DataW H × List MemPlace}
    (h : DataW.trod enc Try.prog w base sp held fuel 32 cs = some y) : ∃ x : VA, cs = cells5V x ∧ LiesV w x ∧ CapV x := by
  obtain ⟨xs, n, rfl, _, hlen, hxl, hf⟩ := DataW.trod_struct Try.underlying32 h
  rw [Try.cells32] at hlen
  match cs, hlen with
  | [c0, c1, c2, c3, c4], _ =>
    have hxl' : xs.length = 5 := hxl
    have e0 : DataW.trod enc Try.prog w base sp held n 3 [c0] = xs[0]? := by
      have := hf 0 _ rfl
      simpa [Try.cells3] using this
    have e1 : DataW.trod enc Try.prog w base sp held n 2 [c1] = xs[1]? := by
      have := hf 1 _ rfl
      simpa [Try.cells2] using this
    have e2 : DataW.trod enc Try.prog w base sp held n 30 [c2] = xs[2]? := by
      have := hf 2 _ rfl
      simpa [Try.cells30] using this
    have e3 : DataW.trod enc Try.prog w base sp held n 30 [c3] = xs[3]? := by
      have := hf 3 _ rfl
      simpa [Try.cells30] using this
    have e4 : DataW.trod enc Try.prog w base sp held n 30 [c4] = xs[4]? := by
      have := hf 4 _ rfl
      simpa [Try.cells30] using this
    rw [List.getElem?_eq_getElem (by omega)] at e0 e1 e2 e3 e4
    obtain ⟨so, h0, _, _⟩ := DataW.trod_int Try.underlying3 e0
    obtain ⟨nu, h1, _, _⟩ := DataW.trod_int Try.underlying2 e1
    obtain ⟨s2, A2, k2, h2, i2, l2, p2⟩ := intsC_of_trod e2
    obtain ⟨s3, A3, k3, h3, i3, l3, p3⟩ := intsC_of_trod e3
    obtain ⟨s4, A4, k4, h4, i4, l4, p4⟩ := intsC_of_trod e4
    simp only [List.cons.injEq, and_true] at h0 h1 h2 h3 h4
    subst h0 h1 h2 h3 h4
    exact ⟨⟨⟨so, nu, s2, s3, s4⟩, A2, k2, A3, k3, A4, k4⟩, rfl, ⟨i2, i3, i4, l2, l3, l4⟩, p2, p3, p4⟩
theorem entryC_of_trod {H : Type} {enc : TypeId × Value → H} {w : World} {base : Nat} {sp : Nat → Bool} {held : Bool} {fuel : Nat} {cs : List Value} {y : DataW H × List MemPlace}
    (h : DataW.trod enc Try.prog w base sp held fuel 40 cs = some y) : ∃ x : EA, cs = cells7E x ∧ LiesE w x ∧ CapV x.val := by
  obtain ⟨xs, n, rfl, _, hlen, hxl, hf⟩ := DataW.trod_struct Try.underlying40 h
  rw [Try.cells40] at hlen
  match cs, hlen with
  | [c0, c1, c2, c3, c4, c5, c6], _ =>
    have hxl' : xs.length = 3 := hxl
    have e0 : DataW.trod enc Try.prog w base sp held n 9 [c0] = xs[0]? := by
      have := hf 0 _ rfl
      simpa [Try.cells9] using this
    have e1 : DataW.trod enc Try.prog w base sp held n 38 [c1] = xs[1]? := by
      have := hf 1 _ rfl
      simpa [Try.cells9, Try.cells38] using this
    have e2 : DataW.trod enc Try.prog w base sp held n 32 [c2, c3, c4, c5, c6] = xs[2]? := by
      have := hf 2 _ rfl
      simpa [Try.cells9, Try.cells38, Try.cells32] using this
    rw [List.getElem?_eq_getElem (by omega)] at e0 e1 e2
    obtain ⟨nm, h0, _, w0⟩ := DataW.trod_string Try.underlying9 e0
    obtain ⟨l, A, cap, h1, hl⟩ := vals_of_trod e1
    obtain ⟨x, h2, hx, hp⟩ := valC_of_trod e2
    simp only [List.cons.injEq, and_true] at h0 h1
    subst h0 h1
    refine ⟨⟨nm, l, A, cap, x⟩, ?_, ⟨w0, hl, hx⟩, hp⟩
    simp only [cells5V, List.cons.injEq, and_true] at h2
    obtain ⟨rfl, rfl, rfl, rfl, rfl⟩ := h2
    rfl
/-- An argument that is a model. -/
theorem openC_model {H : Type} {enc : TypeId × Value → H} {w : World} {base : Nat} {sp : Nat → Bool} {held : Bool} {r : Reach} {b0 : Nat} {v : Value} {d : DataW H} {p : List MemPlace}
    (hv : Value.okWide Try.prog w r b0 26 v) (h : DataW.Trod enc Try.prog w base sp held 26 v d p) :
    ∃ (l : List EA) (A : Option Addr) (cap : Nat), v = .slice A l.length cap ∧ LiesM w A l ∧ ∀ x ∈ l, CapV x.val := by
  obtain ⟨a', len', cap', rfl⟩ := okWide_slice Try.underlying26 hv
  obtain ⟨fuel, hf⟩ := h
  rcases DataW.trod_slice Try.underlying26 hf with ⟨h4, _⟩ | ⟨a, len, cap, elems, rest, m, hm0, h4, _, hb, hl, hm, hel, hall, _⟩
  · simp only [Value.cells, List.cons.injEq, and_true] at h4
    exact ⟨[], none, 0, h4, ⟨by simp, ⟨0, 0, fun h => absurd h (by simp), fun i h => absurd h (by simp)⟩, fun i h => absurd h (by simp)⟩, fun x h => absurd h (by simp)⟩
  · simp only [Value.cells, List.cons.injEq, and_true] at h4
    have each : ∀ i, i < len → ∃ x : EA, (∀ j (_ : j < 7), w.cell? ((a.add (i * 7)).add j) = (cells7E x)[j]?) ∧ LiesE w x ∧ CapV x.val := by
      intro i hi
      have := hall i hi
      rw [List.getElem?_eq_getElem (by omega), Try.cells40] at this
      obtain ⟨cs', g1, g2⟩ := Option.bind_eq_some_iff.1 this
      obtain ⟨x, rfl, hx, hp⟩ := entryC_of_trod g2
      exact ⟨x, fun j hj => (World.cells?_some g1).2.2 j hj, hx, hp⟩
    haveI : Inhabited EA := ⟨zeroE⟩
    obtain ⟨X, hX⟩ := choose_lt each
    have hlen : ((List.range len).map X).length = len := by simp
    refine ⟨(List.range len).map X, some a, cap, by rw [hlen]; exact h4, ⟨by rw [hlen]; omega, ?_, fun i hi => ?_⟩, fun x hx => ?_⟩
    · by_cases h0 : 0 < len
      · obtain ⟨b, o, e⟩ := spot_of_cell (hX 0 h0 |>.1 0 (by omega))
        have e' : a = ⟨b, o, none⟩ := by simpa [Addr.add] using e
        subst e'
        refine ⟨b, o, fun _ => rfl, fun i hi => ?_⟩
        rw [hlen] at hi
        have hc := (hX i hi).1
        simp only [add_off] at hc
        simp only [List.getElem_map, List.getElem_range]
        exact ⟨hc 0 (by omega), hc 1 (by omega), hc 2 (by omega), hc 3 (by omega), hc 4 (by omega), hc 5 (by omega), hc 6 (by omega)⟩
      · obtain rfl : len = 0 := by omega
        exact ⟨0, 0, by simp, by simp⟩
    · rw [hlen] at hi
      simp only [List.getElem_map, List.getElem_range]
      exact (hX i hi).2.1
    · obtain ⟨i, hi, rfl⟩ := List.mem_map.1 hx
      exact (hX i (List.mem_range.1 hi)).2.2
end Go.Proofs.Ytmeeombadkgneaa
