/-
  A node that can be read as data lies in memory as a tree of no more nodes than the data has parts; conditions: none.
  Values, entries and models that can be read as data lie in memory; conditions: none.
  The model that a law is called with, opened, with the capacities of its lists; conditions: the row's own.
-/
import Derived.Test.YtmeeombadkgneaaGreatZOpen
import Derived.Test.YtmeeombadkgneaaGreatZRefPut
import Derived.Test.YtmeeombadkgneaaGreatZVa40
import Derived.Test.YtmeeombadkgneaaGreatZEv19
namespace Go.Proofs.YtmeeombadkgneaaGreat
set_option maxRecDepth 100000
open Go.ChangeShapes Go.WideShapes Go.ChangeAt Go.RowKit Go.Deep

theorem bulk_part {H : Type} {d : DataW H} {l : List (DataW H)} (h : d ∈ l) : Rows.uptoBulk d ≤ Rows.uptoBulkAll l := by
  induction l with
  | nil => cases h
  | cons x r ih =>
    simp only [Rows.uptoBulkAll]
    rcases List.mem_cons.1 h with rfl | e
    · omega
    · have := ih e; omega
theorem sum_bulk {H : Type} : ∀ {l : List Nat} {ds : List (DataW H)} (h : l.length = ds.length), (∀ i (hi : i < l.length), l[i] ≤ Rows.uptoBulk ds[i]) → l.sum ≤ Rows.uptoBulkAll ds
  | [], _, _, _ => by simp
  | x :: xs, [], h, _ => by simp at h
  | x :: xs, d :: ds, h, hh => by
    have h0 : x ≤ Rows.uptoBulk d := hh 0 (by simp)
    have := sum_bulk (l := xs) (ds := ds) (by simpa using h) (fun i hi => hh (i + 1) (by simp; omega))
    simp only [List.sum_cons, Rows.uptoBulkAll]
    omega


theorem nd_of_trod_bulk {H : Type} {enc : TypeId × Value → H} {w : World} {base : Nat} {sp : Nat → Bool} {held : Bool} : ∀ (fuel : Nat) (cs : List Value) (y : DataW H × List MemPlace), DataW.trod enc Tryz.prog w base sp held fuel 44 cs = some y →
    ∃ (t : Nd) (A : Option Addr) (cap : Nat), cs = [.int .i64 t.op, .int .i64 t.so, .string t.nm, .int .i64 t.nu, .slice A t.ks.length cap] ∧ Lies w A cap t.ks ∧ Fine t ∧ cnt t ≤ Rows.uptoBulk y.1 := by
  intro fuel
  induction fuel using Nat.strongRecOn with
  | ind fuel ih =>
  intro cs y h
  obtain ⟨xs, n, rfl, hy, hlen, hxl, hf⟩ := DataW.trod_struct Tryz.underlying44 h
  rw [Tryz.cells44] at hlen
  match cs, hlen with
  | [c0, c1, c2, c3, c4], _ =>
    have hxl' : xs.length = 5 := hxl
    have e0 : DataW.trod enc Tryz.prog w base sp held n 3 [c0] = xs[0]? := by
      have := hf 0 _ rfl
      simpa [Tryz.cells3] using this
    have e1 : DataW.trod enc Tryz.prog w base sp held n 3 [c1] = xs[1]? := by
      have := hf 1 _ rfl
      simpa [Tryz.cells3] using this
    have e2 : DataW.trod enc Tryz.prog w base sp held n 9 [c2] = xs[2]? := by
      have := hf 2 _ rfl
      simpa [Tryz.cells9] using this
    have e3 : DataW.trod enc Tryz.prog w base sp held n 2 [c3] = xs[3]? := by
      have := hf 3 _ rfl
      simpa [Tryz.cells2] using this
    have e4 : DataW.trod enc Tryz.prog w base sp held n 42 [c4] = xs[4]? := by
      have := hf 4 _ rfl
      simpa [Tryz.cells42] using this
    rw [List.getElem?_eq_getElem (by omega)] at e0 e1 e2 e3 e4
    obtain ⟨op, h0, _, w0⟩ := DataW.trod_int Tryz.underlying3 e0
    obtain ⟨so, h1, _, w1⟩ := DataW.trod_int Tryz.underlying3 e1
    obtain ⟨nm, h2, _, w2⟩ := DataW.trod_string Tryz.underlying9 e2
    obtain ⟨nu, h3, _, w3⟩ := DataW.trod_int Tryz.underlying2 e3
    simp only [List.cons.injEq, and_true] at h0 h1 h2 h3
    subst h0 h1 h2 h3
    rcases DataW.trod_slice Tryz.underlying42 e4 with ⟨h4, _⟩ | ⟨a, len, cap, elems, rest, m, rfl, h4, hse, hb, hl, hm, hel, hall, _⟩
    · simp only [List.cons.injEq, and_true] at h4
      subst h4
      exact ⟨.mk op so nm nu [], none, 0, rfl, .mk none 0 [] (by simp) 0 0 (fun _ => none) (fun _ => 0) (fun h => by simp at h) (fun i h => by simp at h) (fun i h => by simp at h) (fun i h => by simp at h), ⟨w2, w0, w1, w3⟩, by rw [hy, cnt_eq]; simp only [Nd.ks, List.map_nil, List.sum_nil, Rows.uptoBulk]; omega⟩
    · simp only [List.cons.injEq, and_true] at h4
      subst h4
      have kid : ∀ i, i < len → ∃ X : Nd × Option Addr × Nat, (∀ j (hj : j < 5), w.cell? ((a.add (i * 5)).add j) = ([.int .i64 X.1.op, .int .i64 X.1.so, .string X.1.nm, .int .i64 X.1.nu, .slice X.2.1 X.1.ks.length X.2.2] : List Value)[j]?) ∧ Lies w X.2.1 X.2.2 X.1.ks ∧ Fine X.1 ∧ ∀ e, elems[i]? = some e → cnt X.1 ≤ Rows.uptoBulk e.1 := by
        intro i hi
        have := hall i hi
        rw [List.getElem?_eq_getElem (by omega), Tryz.cells44] at this
        obtain ⟨cs', g1, g2⟩ := Option.bind_eq_some_iff.1 this
        obtain ⟨t, A, c, rfl, hL, hF, hC⟩ := ih m (by omega) cs' _ g2
        exact ⟨(t, A, c), fun j hj => (World.cells?_some g1).2.2 j hj, hL, hF, fun e he => by rw [List.getElem?_eq_getElem (by omega)] at he; cases he; exact hC⟩
      haveI : Inhabited Nd := ⟨.mk 0 0 ⟨#[]⟩ 0 []⟩
      obtain ⟨X, hX⟩ := choose_lt kid
      have hsp : 0 < len → ∃ b o, a = ⟨b, o, none⟩ := by
        intro h0
        have := (hX 0 h0).1 0 (by omega)
        rw [Nat.zero_mul] at this
        have hs := World.cell?_spot this
        obtain ⟨b, o, s⟩ := a
        simp [Addr.add] at hs
        exact ⟨b, o, by rw [hs]⟩
      have hlenr : ((List.range len).map fun i => (X i).1).length = len := by simp
      refine ⟨.mk op so nm nu ((List.range len).map fun i => (X i).1), some a, cap, by simp [Nd.op, Nd.so, Nd.nm, Nd.nu, Nd.ks], ?_, ⟨w2, w0, w1, w3⟩, ?_⟩
      rotate_left
      · rw [cnt_eq]
        have hx4 : Rows.uptoBulk xs[4].1 ≤ Rows.uptoBulkAll (xs.map (·.1)) := bulk_part (List.mem_map.2 ⟨xs[4], List.getElem_mem _, rfl⟩)
        rw [hse] at hx4
        have hsum : (((List.range len).map fun i => (X i).1).map cnt).sum ≤ Rows.uptoBulkAll (elems.map (·.1)) := by
          refine sum_bulk (by simp [hel]) fun i hi => ?_
          have hi' : i < len := by simpa using hi
          have he := (hX i hi').2.2.2 elems[i] (List.getElem?_eq_getElem (by omega))
          simpa using he
        rw [hy]
        simp only [Rows.uptoBulk] at hx4
        simp only [Nd.ks, Rows.uptoBulk]
        omega
      by_cases h0 : 0 < len
      · obtain ⟨b, o, rfl⟩ := hsp h0
        refine .mk _ _ _ (by simp only [Nd.ks, hlenr]; omega) b o (fun i => (X i).2.1) (fun i => (X i).2.2) (fun _ => rfl) ?_ ?_ ?_
        · intro i hi
          have hi' : i < len := by simpa [Nd.ks] using hi
          have hc := (hX i hi').1
          simp only [add_off] at hc
          simp only [Nd.ks, List.getElem_map, List.getElem_range]
          exact ⟨hc 0 (by omega), hc 1 (by omega), hc 2 (by omega), hc 3 (by omega), hc 4 (by omega)⟩
        · intro i hi
          have hi' : i < len := by simpa [Nd.ks] using hi
          simp only [Nd.ks, List.getElem_map, List.getElem_range]
          exact (hX i hi').2.1
        · intro i hi
          have hi' : i < len := by simpa [Nd.ks] using hi
          simp only [Nd.ks, List.getElem_map, List.getElem_range]
          exact (hX i hi').2.2.1
      · obtain rfl : len = 0 := by omega
        exact .mk _ _ _ (by simp [Nd.ks]) 0 0 (fun _ => none) (fun _ => 0) (fun h => by simp [Nd.ks] at h) (fun i h => by simp [Nd.ks] at h) (fun i h => by simp [Nd.ks] at h) (fun i h => by simp [Nd.ks] at h)


/-- An argument that is a node. -/
theorem open_nd_bulk {H : Type} {enc : TypeId × Value → H} {w : World} {base : Nat} {sp : Nat → Bool} {held : Bool} {r : Reach} {b0 : Nat} {v : Value} {d : DataW H} {p : List MemPlace}
    (hv : Value.okWide Tryz.prog w r b0 44 v) (h : DataW.Trod enc Tryz.prog w base sp held 44 v d p) :
    ∃ (t : Nd) (A : Option Addr) (cap : Nat), v = nv t.op t.so t.nm t.nu (.slice A t.ks.length cap) ∧ Lies w A cap t.ks ∧ Fine t ∧ cnt t ≤ Rows.uptoBulk d := by
  obtain ⟨cs, rfl, hsz⟩ := okWide_struct Tryz.underlying44 hv
  obtain ⟨fuel, hf⟩ := h
  obtain ⟨t, A, cap, h1, h2, h3, h4⟩ := nd_of_trod_bulk fuel _ _ hf
  refine ⟨t, A, cap, ?_, h2, h3, h4⟩
  have : cs.toList = _ := h1
  show Value.agg cs = Value.agg _
  congr 1
  exact Array.toList_inj.1 this
end Go.Proofs.YtmeeombadkgneaaGreat
namespace Go.Proofs.YtmeeombadkgneaaGreat
set_option maxRecDepth 100000
open Go.ChangeShapes Go.WideShapes Go.ChangeAt Go.RowKit Go.Deep

theorem Tryz.cells25 : Tryz.prog.cellsOf 25 = 1 := by kernel_rfl
theorem Tryz.cells24 : Tryz.prog.cellsOf 24 = 1 := by kernel_rfl
theorem Tryz.cells27 : Tryz.prog.cellsOf 27 = 5 := by kernel_rfl
theorem Tryz.cells29 : Tryz.prog.cellsOf 29 = 7 := by kernel_rfl
theorem spot_of_cell {w : World} {a : Addr} {v : Value} (h : w.cell? a = some v) : ∃ b o, a = ⟨b, o, none⟩ := by
  have hs := World.cell?_spot h
  obtain ⟨b, o, s⟩ := a
  simp at hs
  exact ⟨b, o, by rw [hs]⟩
theorem ints_of_trod {H : Type} {enc : TypeId × Value → H} {w : World} {base : Nat} {sp : Nat → Bool} {held : Bool} {fuel : Nat} {cs : List Value} {y : DataW H × List MemPlace}
    (h : DataW.trod enc Tryz.prog w base sp held fuel 25 cs = some y) : ∃ (sl : List Int) (A : Option Addr) (cap : Nat), cs = [.slice A sl.length cap] ∧ Ints w A sl ∧ sl.length ≤ maxLen := by
  rcases DataW.trod_slice Tryz.underlying25 h with ⟨h4, _⟩ | ⟨a, len, cap, elems, rest, m, hm0, h4, _, hb, hl, hm, hel, hall, _⟩
  · exact ⟨[], none, 0, h4, ints_nil w, by simp⟩
  · have each : ∀ i, i < len → ∃ x : Int, w.cell? (a.add i) = some (.int .i64 x) := by
      intro i hi
      have := hall i hi
      rw [List.getElem?_eq_getElem (by omega), Tryz.cells2] at this
      obtain ⟨cs', g1, g2⟩ := Option.bind_eq_some_iff.1 this
      obtain ⟨x, rfl, _, _⟩ := DataW.trod_int Tryz.underlying2 g2
      have := (World.cells?_some g1).2.2 0 (by omega)
      rw [Nat.mul_one] at this
      refine ⟨x, ?_⟩
      simpa [Addr.add] using this
    obtain ⟨X, hX⟩ := choose_lt each
    have hlen : ((List.range len).map X).length = len := by simp
    refine ⟨(List.range len).map X, some a, cap, by rw [hlen]; exact h4, ?_, by rw [hlen]; omega⟩
    by_cases h0 : 0 < len
    · obtain ⟨b, o, e⟩ := spot_of_cell (hX 0 h0)
      have e' : a = ⟨b, o, none⟩ := by simpa [Addr.add] using e
      subst e'
      refine ⟨b, o, fun _ => rfl, fun i hi => ?_⟩
      rw [hlen] at hi
      have := hX i hi
      rw [add_off] at this
      rw [this]
      simp
    · obtain rfl : len = 0 := by omega
      exact ⟨0, 0, by simp, by simp⟩
theorem val_of_trod {H : Type} {enc : TypeId × Value → H} {w : World} {base : Nat} {sp : Nat → Bool} {held : Bool} {fuel : Nat} {cs : List Value} {y : DataW H × List MemPlace}
    (h : DataW.trod enc Tryz.prog w base sp held fuel 27 cs = some y) : ∃ x : VA, cs = cells5V x ∧ LiesV w x := by
  obtain ⟨xs, n, rfl, _, hlen, hxl, hf⟩ := DataW.trod_struct Tryz.underlying27 h
  rw [Tryz.cells27] at hlen
  match cs, hlen with
  | [c0, c1, c2, c3, c4], _ =>
    have hxl' : xs.length = 5 := hxl
    have e0 : DataW.trod enc Tryz.prog w base sp held n 3 [c0] = xs[0]? := by
      have := hf 0 _ rfl
      simpa [Tryz.cells3] using this
    have e1 : DataW.trod enc Tryz.prog w base sp held n 2 [c1] = xs[1]? := by
      have := hf 1 _ rfl
      simpa [Tryz.cells2] using this
    have e2 : DataW.trod enc Tryz.prog w base sp held n 25 [c2] = xs[2]? := by
      have := hf 2 _ rfl
      simpa [Tryz.cells25] using this
    have e3 : DataW.trod enc Tryz.prog w base sp held n 25 [c3] = xs[3]? := by
      have := hf 3 _ rfl
      simpa [Tryz.cells25] using this
    have e4 : DataW.trod enc Tryz.prog w base sp held n 25 [c4] = xs[4]? := by
      have := hf 4 _ rfl
      simpa [Tryz.cells25] using this
    rw [List.getElem?_eq_getElem (by omega)] at e0 e1 e2 e3 e4
    obtain ⟨so, h0, _, _⟩ := DataW.trod_int Tryz.underlying3 e0
    obtain ⟨nu, h1, _, _⟩ := DataW.trod_int Tryz.underlying2 e1
    obtain ⟨s2, A2, k2, h2, i2, l2⟩ := ints_of_trod e2
    obtain ⟨s3, A3, k3, h3, i3, l3⟩ := ints_of_trod e3
    obtain ⟨s4, A4, k4, h4, i4, l4⟩ := ints_of_trod e4
    simp only [List.cons.injEq, and_true] at h0 h1 h2 h3 h4
    subst h0 h1 h2 h3 h4
    exact ⟨⟨⟨so, nu, s2, s3, s4⟩, A2, k2, A3, k3, A4, k4⟩, rfl, i2, i3, i4, l2, l3, l4⟩
theorem vals_of_trod {H : Type} {enc : TypeId × Value → H} {w : World} {base : Nat} {sp : Nat → Bool} {held : Bool} {fuel : Nat} {cs : List Value} {y : DataW H × List MemPlace}
    (h : DataW.trod enc Tryz.prog w base sp held fuel 24 cs = some y) : ∃ (l : List VA) (A : Option Addr) (cap : Nat), cs = [.slice A l.length cap] ∧ LiesVs w A l := by
  rcases DataW.trod_slice Tryz.underlying24 h with ⟨h4, _⟩ | ⟨a, len, cap, elems, rest, m, hm0, h4, _, hb, hl, hm, hel, hall, _⟩
  · exact ⟨[], none, 0, h4, by simp, ⟨0, 0, fun h => absurd h (by simp), fun i h => absurd h (by simp)⟩, fun i h => absurd h (by simp)⟩
  · have each : ∀ i, i < len → ∃ x : VA, (∀ j (_ : j < 5), w.cell? ((a.add (i * 5)).add j) = (cells5V x)[j]?) ∧ LiesV w x := by
      intro i hi
      have := hall i hi
      rw [List.getElem?_eq_getElem (by omega), Tryz.cells27] at this
      obtain ⟨cs', g1, g2⟩ := Option.bind_eq_some_iff.1 this
      obtain ⟨x, rfl, hx⟩ := val_of_trod g2
      exact ⟨x, fun j hj => (World.cells?_some g1).2.2 j hj, hx⟩
    haveI : Inhabited VA := ⟨zeroV⟩
    obtain ⟨X, hX⟩ := choose_lt each
    have hlen : ((List.range len).map X).length = len := by simp
    refine ⟨(List.range len).map X, some a, cap, by rw [hlen]; exact h4, by rw [hlen]; omega, ?_, fun i hi => ?_⟩
    · by_cases h0 : 0 < len
      · obtain ⟨b, o, e⟩ := spot_of_cell (hX 0 h0 |>.1 0 (by omega))
        have e' : a = ⟨b, o, none⟩ := by simpa [Addr.add] using e
        subst e'
        refine ⟨b, o, fun _ => rfl, fun i hi => ?_⟩
        rw [hlen] at hi
        have hc := (hX i hi).1
        simp only [add_off] at hc
        simp only [List.getElem_map, List.getElem_range]
        exact ⟨hc 0 (by omega), hc 1 (by omega), hc 2 (by omega), hc 3 (by omega), hc 4 (by omega)⟩
      · obtain rfl : len = 0 := by omega
        exact ⟨0, 0, by simp, by simp⟩
    · rw [hlen] at hi
      simp only [List.getElem_map, List.getElem_range]
      exact (hX i hi).2
theorem entry_of_trod {H : Type} {enc : TypeId × Value → H} {w : World} {base : Nat} {sp : Nat → Bool} {held : Bool} {fuel : Nat} {cs : List Value} {y : DataW H × List MemPlace}
    (h : DataW.trod enc Tryz.prog w base sp held fuel 29 cs = some y) : ∃ x : EA, cs = cells7E x ∧ LiesE w x := by
  obtain ⟨xs, n, rfl, _, hlen, hxl, hf⟩ := DataW.trod_struct Tryz.underlying29 h
  rw [Tryz.cells29] at hlen
  match cs, hlen with
  | [c0, c1, c2, c3, c4, c5, c6], _ =>
    have hxl' : xs.length = 3 := hxl
    have e0 : DataW.trod enc Tryz.prog w base sp held n 9 [c0] = xs[0]? := by
      have := hf 0 _ rfl
      simpa [Tryz.cells9] using this
    have e1 : DataW.trod enc Tryz.prog w base sp held n 24 [c1] = xs[1]? := by
      have := hf 1 _ rfl
      simpa [Tryz.cells9, Tryz.cells24] using this
    have e2 : DataW.trod enc Tryz.prog w base sp held n 27 [c2, c3, c4, c5, c6] = xs[2]? := by
      have := hf 2 _ rfl
      simpa [Tryz.cells9, Tryz.cells24, Tryz.cells27] using this
    rw [List.getElem?_eq_getElem (by omega)] at e0 e1 e2
    obtain ⟨nm, h0, _, w0⟩ := DataW.trod_string Tryz.underlying9 e0
    obtain ⟨l, A, cap, h1, hl⟩ := vals_of_trod e1
    obtain ⟨x, h2, hx⟩ := val_of_trod e2
    simp only [List.cons.injEq, and_true] at h0 h1
    subst h0 h1
    refine ⟨⟨nm, l, A, cap, x⟩, ?_, w0, hl, hx⟩
    simp only [cells5V, List.cons.injEq, and_true] at h2
    obtain ⟨rfl, rfl, rfl, rfl, rfl⟩ := h2
    rfl
/-- An argument that is a model. -/
theorem open_model {H : Type} {enc : TypeId × Value → H} {w : World} {base : Nat} {sp : Nat → Bool} {held : Bool} {r : Reach} {b0 : Nat} {v : Value} {d : DataW H} {p : List MemPlace}
    (hv : Value.okWide Tryz.prog w r b0 23 v) (h : DataW.Trod enc Tryz.prog w base sp held 23 v d p) :
    ∃ (l : List EA) (A : Option Addr) (cap : Nat), v = .slice A l.length cap ∧ LiesM w A l := by
  obtain ⟨a', len', cap', rfl⟩ := okWide_slice Tryz.underlying23 hv
  obtain ⟨fuel, hf⟩ := h
  rcases DataW.trod_slice Tryz.underlying23 hf with ⟨h4, _⟩ | ⟨a, len, cap, elems, rest, m, hm0, h4, _, hb, hl, hm, hel, hall, _⟩
  · simp only [Value.cells, List.cons.injEq, and_true] at h4
    exact ⟨[], none, 0, h4, by simp, ⟨0, 0, fun h => absurd h (by simp), fun i h => absurd h (by simp)⟩, fun i h => absurd h (by simp)⟩
  · simp only [Value.cells, List.cons.injEq, and_true] at h4
    have each : ∀ i, i < len → ∃ x : EA, (∀ j (_ : j < 7), w.cell? ((a.add (i * 7)).add j) = (cells7E x)[j]?) ∧ LiesE w x := by
      intro i hi
      have := hall i hi
      rw [List.getElem?_eq_getElem (by omega), Tryz.cells29] at this
      obtain ⟨cs', g1, g2⟩ := Option.bind_eq_some_iff.1 this
      obtain ⟨x, rfl, hx⟩ := entry_of_trod g2
      exact ⟨x, fun j hj => (World.cells?_some g1).2.2 j hj, hx⟩
    haveI : Inhabited EA := ⟨zeroE⟩
    obtain ⟨X, hX⟩ := choose_lt each
    have hlen : ((List.range len).map X).length = len := by simp
    refine ⟨(List.range len).map X, some a, cap, by rw [hlen]; exact h4, by rw [hlen]; omega, ?_, fun i hi => ?_⟩
    · by_cases h0 : 0 < len
      · obtain ⟨b, o, e⟩ := spot_of_cell (hX 0 h0 |>.1 0 (by omega))
        have e' : a = ⟨b, o, none⟩ := by simpa [Addr.add] using e
        subst e'
        refine ⟨b, o, fun _ => rfl, fun i hi => ?_⟩
        rw [hlen] at hi
        have hc := (hX i hi).1
        simp only [add_off] at hc
        simp only [List.getElem_map, List.getElem_range]
        exact ⟨hc 0 (by omega), hc 1 (by omega), hc 2 (by omega), hc 3 (by omega), hc 4 (by omega), hc 5 (by omega), hc 6 (by omega)⟩
      · obtain rfl : len = 0 := by omega
        exact ⟨0, 0, by simp, by simp⟩
    · rw [hlen] at hi
      simp only [List.getElem_map, List.getElem_range]
      exact (hX i hi).2
/-- An argument that is an entry. -/
theorem open_entry {H : Type} {enc : TypeId × Value → H} {w : World} {base : Nat} {sp : Nat → Bool} {held : Bool} {r : Reach} {b0 : Nat} {v : Value} {d : DataW H} {p : List MemPlace}
    (hv : Value.okWide Tryz.prog w r b0 29 v) (h : DataW.Trod enc Tryz.prog w base sp held 29 v d p) :
    ∃ x : EA, v = ev x ∧ LiesE w x := by
  obtain ⟨cs, rfl, hsz⟩ := okWide_struct Tryz.underlying29 hv
  obtain ⟨fuel, hf⟩ := h
  obtain ⟨x, h1, h2⟩ := entry_of_trod hf
  refine ⟨x, ?_, h2⟩
  have : cs.toList = _ := h1
  show Value.agg cs = Value.agg _
  congr 1
  exact Array.toList_inj.1 this
end Go.Proofs.YtmeeombadkgneaaGreat
namespace Go.Proofs.YtmeeombadkgneaaGreat
set_option maxRecDepth 100000
open Go.ChangeShapes Go.WideShapes Go.ChangeAt Go.RowKit Go.Deep

theorem intsC_of_trod {H : Type} {enc : TypeId × Value → H} {w : World} {base : Nat} {sp : Nat → Bool} {held : Bool} {fuel : Nat} {cs : List Value} {y : DataW H × List MemPlace}
    (h : DataW.trod enc Tryz.prog w base sp held fuel 25 cs = some y) : ∃ (sl : List Int) (A : Option Addr) (cap : Nat), cs = [.slice A sl.length cap] ∧ Ints w A sl ∧ sl.length ≤ maxLen ∧ sl.length ≤ cap := by
  rcases DataW.trod_slice Tryz.underlying25 h with ⟨h4, _⟩ | ⟨a, len, cap, elems, rest, m, hm0, h4, _, hb, hl, hm, hel, hall, _⟩
  · exact ⟨[], none, 0, h4, ints_nil w, by simp, by simp⟩
  · have each : ∀ i, i < len → ∃ x : Int, w.cell? (a.add i) = some (.int .i64 x) := by
      intro i hi
      have := hall i hi
      rw [List.getElem?_eq_getElem (by omega), Tryz.cells2] at this
      obtain ⟨cs', g1, g2⟩ := Option.bind_eq_some_iff.1 this
      obtain ⟨x, rfl, _, _⟩ := DataW.trod_int Tryz.underlying2 g2
      have := (World.cells?_some g1).2.2 0 (by omega)
      rw [Nat.mul_one] at this
      refine ⟨x, ?_⟩
      simpa [Addr.add] using this
    obtain ⟨X, hX⟩ := choose_lt each
    have hlen : ((List.range len).map X).length = len := by simp
    refine ⟨(List.range len).map X, some a, cap, by rw [hlen]; exact h4, ?_, by rw [hlen]; omega, by rw [hlen]; omega⟩
    by_cases h0 : 0 < len
    · obtain ⟨b, o, e⟩ := spot_of_cell (hX 0 h0)
      have e' : a = ⟨b, o, none⟩ := by simpa [Addr.add] using e
      subst e'
      refine ⟨b, o, fun _ => rfl, fun i hi => ?_⟩
      rw [hlen] at hi
      have := hX i hi
      rw [add_off] at this
      rw [this]
      simp
    · obtain rfl : len = 0 := by omega
      exact ⟨0, 0, by simp, by simp⟩
theorem valC_of_trod {H : Type} {enc : TypeId × Value → H} {w : World} {base : Nat} {sp : Nat → Bool} {held : Bool} {fuel : Nat} {cs : List Value} {y : DataW H × List MemPlace}
    (h : DataW.trod enc Tryz.prog w base sp held fuel 27 cs = some y) : ∃ x : VA, cs = cells5V x ∧ LiesV w x ∧ CapV x := by
  obtain ⟨xs, n, rfl, _, hlen, hxl, hf⟩ := DataW.trod_struct Tryz.underlying27 h
  rw [Tryz.cells27] at hlen
  match cs, hlen with
  | [c0, c1, c2, c3, c4], _ =>
    have hxl' : xs.length = 5 := hxl
    have e0 : DataW.trod enc Tryz.prog w base sp held n 3 [c0] = xs[0]? := by
      have := hf 0 _ rfl
      simpa [Tryz.cells3] using this
    have e1 : DataW.trod enc Tryz.prog w base sp held n 2 [c1] = xs[1]? := by
      have := hf 1 _ rfl
      simpa [Tryz.cells2] using this
    have e2 : DataW.trod enc Tryz.prog w base sp held n 25 [c2] = xs[2]? := by
      have := hf 2 _ rfl
      simpa [Tryz.cells25] using this
    have e3 : DataW.trod enc Tryz.prog w base sp held n 25 [c3] = xs[3]? := by
      have := hf 3 _ rfl
      simpa [Tryz.cells25] using this
    have e4 : DataW.trod enc Tryz.prog w base sp held n 25 [c4] = xs[4]? := by
      have := hf 4 _ rfl
      simpa [Tryz.cells25] using this
    rw [List.getElem?_eq_getElem (by omega)] at e0 e1 e2 e3 e4
    obtain ⟨so, h0, _, _⟩ := DataW.trod_int Tryz.underlying3 e0
    obtain ⟨nu, h1, _, _⟩ := DataW.trod_int Tryz.underlying2 e1
    obtain ⟨s2, A2, k2, h2, i2, l2, p2⟩ := intsC_of_trod e2
    obtain ⟨s3, A3, k3, h3, i3, l3, p3⟩ := intsC_of_trod e3
    obtain ⟨s4, A4, k4, h4, i4, l4, p4⟩ := intsC_of_trod e4
    simp only [List.cons.injEq, and_true] at h0 h1 h2 h3 h4
    subst h0 h1 h2 h3 h4
    exact ⟨⟨⟨so, nu, s2, s3, s4⟩, A2, k2, A3, k3, A4, k4⟩, rfl, ⟨i2, i3, i4, l2, l3, l4⟩, p2, p3, p4⟩
theorem entryC_of_trod {H : Type} {enc : TypeId × Value → H} {w : World} {base : Nat} {sp : Nat → Bool} {held : Bool} {fuel : Nat} {cs : List Value} {y : DataW H × List MemPlace}
    (h : DataW.trod enc Tryz.prog w base sp held fuel 29 cs = some y) : ∃ x : EA, cs = cells7E x ∧ LiesE w x ∧ CapV x.val := by
  obtain ⟨xs, n, rfl, _, hlen, hxl, hf⟩ := DataW.trod_struct Tryz.underlying29 h
  rw [Tryz.cells29] at hlen
  match cs, hlen with
  | [c0, c1, c2, c3, c4, c5, c6], _ =>
    have hxl' : xs.length = 3 := hxl
    have e0 : DataW.trod enc Tryz.prog w base sp held n 9 [c0] = xs[0]? := by
      have := hf 0 _ rfl
      simpa [Tryz.cells9] using this
    have e1 : DataW.trod enc Tryz.prog w base sp held n 24 [c1] = xs[1]? := by
      have := hf 1 _ rfl
      simpa [Tryz.cells9, Tryz.cells24] using this
    have e2 : DataW.trod enc Tryz.prog w base sp held n 27 [c2, c3, c4, c5, c6] = xs[2]? := by
      have := hf 2 _ rfl
      simpa [Tryz.cells9, Tryz.cells24, Tryz.cells27] using this
    rw [List.getElem?_eq_getElem (by omega)] at e0 e1 e2
    obtain ⟨nm, h0, _, w0⟩ := DataW.trod_string Tryz.underlying9 e0
    obtain ⟨l, A, cap, h1, hl⟩ := vals_of_trod e1
    obtain ⟨x, h2, hx, hp⟩ := valC_of_trod e2
    simp only [List.cons.injEq, and_true] at h0 h1
    subst h0 h1
    refine ⟨⟨nm, l, A, cap, x⟩, ?_, ⟨w0, hl, hx⟩, hp⟩
    simp only [cells5V, List.cons.injEq, and_true] at h2
    obtain ⟨rfl, rfl, rfl, rfl, rfl⟩ := h2
    rfl
/-- An argument that is a model. -/
theorem openC_model {H : Type} {enc : TypeId × Value → H} {w : World} {base : Nat} {sp : Nat → Bool} {held : Bool} {r : Reach} {b0 : Nat} {v : Value} {d : DataW H} {p : List MemPlace}
    (hv : Value.okWide Tryz.prog w r b0 23 v) (h : DataW.Trod enc Tryz.prog w base sp held 23 v d p) :
    ∃ (l : List EA) (A : Option Addr) (cap : Nat), v = .slice A l.length cap ∧ LiesM w A l ∧ ∀ x ∈ l, CapV x.val := by
  obtain ⟨a', len', cap', rfl⟩ := okWide_slice Tryz.underlying23 hv
  obtain ⟨fuel, hf⟩ := h
  rcases DataW.trod_slice Tryz.underlying23 hf with ⟨h4, _⟩ | ⟨a, len, cap, elems, rest, m, hm0, h4, _, hb, hl, hm, hel, hall, _⟩
  · simp only [Value.cells, List.cons.injEq, and_true] at h4
    exact ⟨[], none, 0, h4, ⟨by simp, ⟨0, 0, fun h => absurd h (by simp), fun i h => absurd h (by simp)⟩, fun i h => absurd h (by simp)⟩, fun x h => absurd h (by simp)⟩
  · simp only [Value.cells, List.cons.injEq, and_true] at h4
    have each : ∀ i, i < len → ∃ x : EA, (∀ j (_ : j < 7), w.cell? ((a.add (i * 7)).add j) = (cells7E x)[j]?) ∧ LiesE w x ∧ CapV x.val := by
      intro i hi
      have := hall i hi
      rw [List.getElem?_eq_getElem (by omega), Tryz.cells29] at this
      obtain ⟨cs', g1, g2⟩ := Option.bind_eq_some_iff.1 this
      obtain ⟨x, rfl, hx, hp⟩ := entryC_of_trod g2
      exact ⟨x, fun j hj => (World.cells?_some g1).2.2 j hj, hx, hp⟩
    haveI : Inhabited EA := ⟨zeroE⟩
    obtain ⟨X, hX⟩ := choose_lt each
    have hlen : ((List.range len).map X).length = len := by simp
    refine ⟨(List.range len).map X, some a, cap, by rw [hlen]; exact h4, ⟨by rw [hlen]; omega, ?_, fun i hi => ?_⟩, fun x hx => ?_⟩
    · by_cases h0 : 0 < len
      · obtain ⟨b, o, e⟩ := spot_of_cell (hX 0 h0 |>.1 0 (by omega))
        have e' : a = ⟨b, o, none⟩ := by simpa [Addr.add] using e
        subst e'
        refine ⟨b, o, fun _ => rfl, fun i hi => ?_⟩
        rw [hlen] at hi
        have hc := (hX i hi).1
        simp only [add_off] at hc
        simp only [List.getElem_map, List.getElem_range]
        exact ⟨hc 0 (by omega), hc 1 (by omega), hc 2 (by omega), hc 3 (by omega), hc 4 (by omega), hc 5 (by omega), hc 6 (by omega)⟩
      · obtain rfl : len = 0 := by omega
        exact ⟨0, 0, by simp, by simp⟩
    · rw [hlen] at hi
      simp only [List.getElem_map, List.getElem_range]
      exact (hX i hi).2.1
    · obtain ⟨i, hi, rfl⟩ := List.mem_map.1 hx
      exact (hX i (List.mem_range.1 hi)).2.2
end Go.Proofs.YtmeeombadkgneaaGreat
