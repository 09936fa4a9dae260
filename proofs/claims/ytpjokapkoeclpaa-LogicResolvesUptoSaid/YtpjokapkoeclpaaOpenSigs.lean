/-
  Lists of declarations and of sigs that can be read as data lie in memory; conditions: none.
-/
import Derived.Test.YtpjokapkoeclpaaUpto
import Derived.Test.YtpjokapkoeclpaaResLaw
namespace Go.Proofs.Ytpjokapkoeclpaa
set_option maxRecDepth 100000
open Go.ChangeShapes Go.WideShapes Go.ChangeAt Go.RowKit Go.Deep

theorem Try.cells58 : Try.prog.cellsOf 58 = 2 := by kernel_rfl
theorem Try.cells83 : Try.prog.cellsOf 83 = 3 := by kernel_rfl
theorem Try.cells81 : Try.prog.cellsOf 81 = 1 := by kernel_rfl

theorem spot_of_cell {w : World} {a : Addr} {v : Value} (h : w.cell? a = some v) : ∃ b o, a = ⟨b, o, none⟩ := by
  have hs := World.cell?_spot h
  obtain ⟨b, o, s⟩ := a
  simp at hs
  exact ⟨b, o, by rw [hs]⟩

theorem ints_of_trod {H : Type} {enc : TypeId × Value → H} {w : World} {base : Nat} {sp : Nat → Bool} {held : Bool} {fuel : Nat} {cs : List Value} {y : DataW H × List MemPlace}
    (h : DataW.trod enc Try.prog w base sp held fuel 81 cs = some y) : ∃ (sl : List Int) (A : Option Addr) (cap : Nat), cs = [.slice A sl.length cap] ∧ Ints w A sl ∧ sl.length ≤ maxLen := by
  rcases DataW.trod_slice Try.underlying81 h with ⟨h4, _⟩ | ⟨a, len, cap, elems, rest, m, hm0, h4, _, hb, hl, hm, hel, hall, _⟩
  · exact ⟨[], none, 0, h4, ints_nil w, by simp⟩
  · have each : ∀ i, i < len → ∃ x : Int, w.cell? (a.add i) = some (.int .i64 x) := by
      intro i hi
      have := hall i hi
      rw [List.getElem?_eq_getElem (by omega), Try.cells3] at this
      obtain ⟨cs', g1, g2⟩ := Option.bind_eq_some_iff.1 this
      obtain ⟨x, rfl, _, _⟩ := DataW.trod_int Try.underlying3 g2
      have := (World.cells?_some g1).2.2 0 (by omega)
      rw [Nat.mul_one] at this
      refine ⟨x, ?_⟩
      simpa [Addr.add] using this
    obtain ⟨X, hX⟩ := choose_lt each
    have hlen : ((List.range len).map X).length = len := by simp
    refine ⟨(List.range len).map X, some a, cap, by rw [hlen]; exact h4, ?_, by rw [hlen]; omega⟩
    by_cases h0 : 0 < len
    · obtain ⟨b, o, e⟩ := spot_of_cell (hX 0 h0)
      have e' : a = ⟨b, o, none⟩ := by simpa [Addr.add] using e
      subst e'
      refine ⟨b, o, fun _ => rfl, fun i hi => ?_⟩
      rw [hlen] at hi
      have := hX i hi
      rw [add_off] at this
      rw [this]
      simp
    · obtain rfl : len = 0 := by omega
      exact ⟨0, 0, by simp, by simp⟩

theorem decl_of_trod {H : Type} {enc : TypeId × Value → H} {w : World} {base : Nat} {sp : Nat → Bool} {held : Bool} {fuel : Nat} {cs : List Value} {y : DataW H × List MemPlace}
    (h : DataW.trod enc Try.prog w base sp held fuel 58 cs = some y) : ∃ d : ByteArray × Int, cs = [.string d.1, .int .i64 d.2] ∧ (Lit.int .i64 d.2).wf = true := by
  obtain ⟨xs, n, rfl, _, hlen, hxl, hf⟩ := DataW.trod_struct Try.underlying58 h
  rw [Try.cells58] at hlen
  match cs, hlen with
  | [c0, c1], _ =>
    have hxl' : xs.length = 2 := hxl
    have e0 : DataW.trod enc Try.prog w base sp held n 9 [c0] = xs[0]? := by
      have := hf 0 _ rfl
      simpa [Try.cells9] using this
    have e1 : DataW.trod enc Try.prog w base sp held n 3 [c1] = xs[1]? := by
      have := hf 1 _ rfl
      simpa [Try.cells3] using this
    rw [List.getElem?_eq_getElem (by omega)] at e0 e1
    obtain ⟨nm, h0, _, w0⟩ := DataW.trod_string Try.underlying9 e0
    obtain ⟨so, h1, _, w1⟩ := DataW.trod_int Try.underlying3 e1
    simp only [List.cons.injEq, and_true] at h0 h1
    subst h0 h1
    exact ⟨(nm, so), rfl, w1⟩

/-- An argument that is a list of declarations. -/
theorem open_dcls {H : Type} {enc : TypeId × Value → H} {w : World} {base : Nat} {sp : Nat → Bool} {held : Bool} {r : Reach} {b0 : Nat} {v : Value} {d : DataW H} {p : List MemPlace}
    (hv : Value.okWide Try.prog w r b0 35 v) (h : DataW.Trod enc Try.prog w base sp held 35 v d p) :
    ∃ (dl : List (ByteArray × Int)) (A : Option Addr) (cap : Nat), v = .slice A dl.length cap ∧ Dcls w A dl ∧ dl.length ≤ maxLen ∧ ∀ d ∈ dl, (Lit.int .i64 d.2).wf = true := by
  obtain ⟨a', len', cap', rfl⟩ := okWide_slice Try.underlying35 hv
  obtain ⟨fuel, hf⟩ := h
  rcases DataW.trod_slice Try.underlying35 hf with ⟨h4, _⟩ | ⟨a, len, cap, elems, rest, m, hm0, h4, _, hb, hl, hm, hel, hall, _⟩
  · simp only [Value.cells, List.cons.injEq, and_true] at h4
    exact ⟨[], none, 0, h4, ⟨0, 0, by simp, by simp⟩, by simp, by simp⟩
  · simp only [Value.cells, List.cons.injEq, and_true] at h4
    have each : ∀ i, i < len → ∃ x : ByteArray × Int, (w.cell? ((a.add (i * 2)).add 0) = some (.string x.1) ∧ w.cell? ((a.add (i * 2)).add 1) = some (.int .i64 x.2)) ∧ (Lit.int .i64 x.2).wf = true := by
      intro i hi
      have := hall i hi
      rw [List.getElem?_eq_getElem (by omega), Try.cells58] at this
      obtain ⟨cs', g1, g2⟩ := Option.bind_eq_some_iff.1 this
      obtain ⟨x, rfl, hx⟩ := decl_of_trod g2
      have g := (World.cells?_some g1).2.2
      exact ⟨x, ⟨g 0 (by omega), g 1 (by omega)⟩, hx⟩
    haveI : Inhabited (ByteArray × Int) := ⟨(⟨#[]⟩, 0)⟩
    obtain ⟨X, hX⟩ := choose_lt each
    have hlen : ((List.range len).map X).length = len := by simp
    refine ⟨(List.range len).map X, some a, cap, by rw [hlen]; exact h4, ?_, by rw [hlen]; omega, fun d hd => ?_⟩
    · by_cases h0 : 0 < len
      · obtain ⟨b, o, e⟩ := spot_of_cell (hX 0 h0).1.1
        have e' : a = ⟨b, o, none⟩ := by simpa [Addr.add] using e
        subst e'
        refine ⟨b, o, fun _ => rfl, fun i hi => ?_⟩
        rw [hlen] at hi
        have := (hX i hi).1
        simp only [add_off, Nat.add_zero] at this
        simpa using this
      · obtain rfl : len = 0 := by omega
        exact ⟨0, 0, by simp, by simp⟩
    · obtain ⟨i, hi, rfl⟩ := List.mem_map.1 hd
      exact (hX i (List.mem_range.1 hi)).2

theorem sig_of_trod {H : Type} {enc : TypeId × Value → H} {w : World} {base : Nat} {sp : Nat → Bool} {held : Bool} {fuel : Nat} {cs : List Value} {y : DataW H × List MemPlace}
    (h : DataW.trod enc Try.prog w base sp held fuel 83 cs = some y) : ∃ x : SgA, cs = [.string x.1.nm, .slice x.2.1 x.1.args.length x.2.2, .int .i64 x.1.so] ∧ Ints w x.2.1 x.1.args ∧ x.1.args.length ≤ maxLen ∧ (Lit.int .i64 x.1.so).wf = true := by
  obtain ⟨xs, n, rfl, _, hlen, hxl, hf⟩ := DataW.trod_struct Try.underlying83 h
  rw [Try.cells83] at hlen
  match cs, hlen with
  | [c0, c1, c2], _ =>
    have hxl' : xs.length = 3 := hxl
    have e0 : DataW.trod enc Try.prog w base sp held n 9 [c0] = xs[0]? := by
      have := hf 0 _ rfl
      simpa [Try.cells9] using this
    have e1 : DataW.trod enc Try.prog w base sp held n 81 [c1] = xs[1]? := by
      have := hf 1 _ rfl
      simpa [Try.cells81] using this
    have e2 : DataW.trod enc Try.prog w base sp held n 3 [c2] = xs[2]? := by
      have := hf 2 _ rfl
      simpa [Try.cells3] using this
    rw [List.getElem?_eq_getElem (by omega)] at e0 e1 e2
    obtain ⟨nm, h0, _, w0⟩ := DataW.trod_string Try.underlying9 e0
    obtain ⟨sl, A, cap, h1, h1', h1''⟩ := ints_of_trod e1
    obtain ⟨so, h2, _, w2⟩ := DataW.trod_int Try.underlying3 e2
    simp only [List.cons.injEq, and_true] at h0 h1 h2
    subst h0 h1 h2
    exact ⟨(⟨nm, sl, so⟩, A, cap), rfl, h1', h1'', w2⟩

/-- An argument that is a list of sigs. -/
theorem open_sgs {H : Type} {enc : TypeId × Value → H} {w : World} {base : Nat} {sp : Nat → Bool} {held : Bool} {r : Reach} {b0 : Nat} {v : Value} {d : DataW H} {p : List MemPlace}
    (hv : Value.okWide Try.prog w r b0 46 v) (h : DataW.Trod enc Try.prog w base sp held 46 v d p) :
    ∃ (sl : List SgA) (A : Option Addr) (cap : Nat), v = .slice A sl.length cap ∧ Sgs w A sl ∧ sl.length ≤ maxLen ∧ ArgsIn w sl := by
  obtain ⟨a', len', cap', rfl⟩ := okWide_slice Try.underlying46 hv
  obtain ⟨fuel, hf⟩ := h
  rcases DataW.trod_slice Try.underlying46 hf with ⟨h4, _⟩ | ⟨a, len, cap, elems, rest, m, hm0, h4, _, hb, hl, hm, hel, hall, _⟩
  · simp only [Value.cells, List.cons.injEq, and_true] at h4
    exact ⟨[], none, 0, h4, ⟨0, 0, by simp, by simp⟩, by simp, fun x hx => by simp at hx⟩
  · simp only [Value.cells, List.cons.injEq, and_true] at h4
    have each : ∀ i, i < len → ∃ x : SgA, (w.cell? ((a.add (i * 3)).add 0) = some (.string x.1.nm) ∧ w.cell? ((a.add (i * 3)).add 1) = some (.slice x.2.1 x.1.args.length x.2.2) ∧ w.cell? ((a.add (i * 3)).add 2) = some (.int .i64 x.1.so)) ∧ Ints w x.2.1 x.1.args ∧ x.1.args.length ≤ maxLen ∧ (Lit.int .i64 x.1.so).wf = true := by
      intro i hi
      have := hall i hi
      rw [List.getElem?_eq_getElem (by omega), Try.cells83] at this
      obtain ⟨cs', g1, g2⟩ := Option.bind_eq_some_iff.1 this
      obtain ⟨x, rfl, hx⟩ := sig_of_trod g2
      have g := (World.cells?_some g1).2.2
      exact ⟨x, ⟨g 0 (by omega), g 1 (by omega), g 2 (by omega)⟩, hx⟩
    haveI : Inhabited SgA := ⟨zeroSg⟩
    obtain ⟨X, hX⟩ := choose_lt each
    have hlen : ((List.range len).map X).length = len := by simp
    refine ⟨(List.range len).map X, some a, cap, by rw [hlen]; exact h4, ?_, by rw [hlen]; omega, fun d hd => ?_⟩
    · by_cases h0 : 0 < len
      · obtain ⟨b, o, e⟩ := spot_of_cell (hX 0 h0).1.1
        have e' : a = ⟨b, o, none⟩ := by simpa [Addr.add] using e
        subst e'
        refine ⟨b, o, fun _ => rfl, fun i hi => ?_⟩
        rw [hlen] at hi
        have := (hX i hi).1
        simp only [add_off, Nat.add_zero] at this
        simpa using this
      · obtain rfl : len = 0 := by omega
        exact ⟨0, 0, by simp, by simp⟩
    · obtain ⟨i, hi, rfl⟩ := List.mem_map.1 hd
      exact (hX i (List.mem_range.1 hi)).2
end Go.Proofs.Ytpjokapkoeclpaa
