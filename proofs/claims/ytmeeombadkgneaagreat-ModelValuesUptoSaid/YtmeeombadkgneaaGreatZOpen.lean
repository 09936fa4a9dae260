/-
  A node that can be read as data lies in memory as a tree; conditions: none.
-/
import Derived.ProofKit
import Derived.OpenShut
import Derived.Deep.Fields
import Derived.Deep.Slices
import Derived.Lib.SmallJoins
import Derived.Test.YtmeeombadkgneaaGreatZBase
namespace Go.Proofs.YtmeeombadkgneaaGreat
set_option maxRecDepth 100000
open Go.ChangeShapes Go.WideShapes Go.ChangeAt Go.RowKit Go.Deep

theorem Tryz.cells44 : Tryz.prog.cellsOf 44 = 5 := by kernel_rfl
theorem Tryz.cells42 : Tryz.prog.cellsOf 42 = 1 := by kernel_rfl
theorem Tryz.cells3 : Tryz.prog.cellsOf 3 = 1 := by kernel_rfl
theorem Tryz.cells9 : Tryz.prog.cellsOf 9 = 1 := by kernel_rfl
theorem Tryz.cells2 : Tryz.prog.cellsOf 2 = 1 := by kernel_rfl

theorem add_off (b o n : Nat) : (⟨b, o, none⟩ : Addr).add n = ⟨b, o + n, none⟩ := by
  unfold Addr.add
  by_cases h : n = 0
  · subst h; rfl
  · rw [if_neg h]


theorem nd_of_trod {H : Type} {enc : TypeId × Value → H} {w : World} {base : Nat} {sp : Nat → Bool} {held : Bool} : ∀ (fuel : Nat) (cs : List Value) (y : DataW H × List MemPlace), DataW.trod enc Tryz.prog w base sp held fuel 44 cs = some y →
    ∃ (t : Nd) (A : Option Addr) (cap : Nat), cs = [.int .i64 t.op, .int .i64 t.so, .string t.nm, .int .i64 t.nu, .slice A t.ks.length cap] ∧ Lies w A cap t.ks ∧ Fine t := by
  intro fuel
  induction fuel using Nat.strongRecOn with
  | ind fuel ih =>
  intro cs y h
  obtain ⟨xs, n, rfl, _, hlen, hxl, hf⟩ := DataW.trod_struct Tryz.underlying44 h
  rw [Tryz.cells44] at hlen
  match cs, hlen with
  | [c0, c1, c2, c3, c4], _ =>
    have hxl' : xs.length = 5 := hxl
    have e0 : DataW.trod enc Tryz.prog w base sp held n 3 [c0] = xs[0]? := by
      have := hf 0 _ rfl
      simpa [Tryz.cells3] using this
    have e1 : DataW.trod enc Tryz.prog w base sp held n 3 [c1] = xs[1]? := by
      have := hf 1 _ rfl
      simpa [Tryz.cells3] using this
    have e2 : DataW.trod enc Tryz.prog w base sp held n 9 [c2] = xs[2]? := by
      have := hf 2 _ rfl
      simpa [Tryz.cells9] using this
    have e3 : DataW.trod enc Tryz.prog w base sp held n 2 [c3] = xs[3]? := by
      have := hf 3 _ rfl
      simpa [Tryz.cells2] using this
    have e4 : DataW.trod enc Tryz.prog w base sp held n 42 [c4] = xs[4]? := by
      have := hf 4 _ rfl
      simpa [Tryz.cells42] using this
    rw [List.getElem?_eq_getElem (by omega)] at e0 e1 e2 e3 e4
    obtain ⟨op, h0, _, w0⟩ := DataW.trod_int Tryz.underlying3 e0
    obtain ⟨so, h1, _, w1⟩ := DataW.trod_int Tryz.underlying3 e1
    obtain ⟨nm, h2, _, w2⟩ := DataW.trod_string Tryz.underlying9 e2
    obtain ⟨nu, h3, _, w3⟩ := DataW.trod_int Tryz.underlying2 e3
    simp only [List.cons.injEq, and_true] at h0 h1 h2 h3
    subst h0 h1 h2 h3
    rcases DataW.trod_slice Tryz.underlying42 e4 with ⟨h4, _⟩ | ⟨a, len, cap, elems, rest, m, rfl, h4, _, hb, hl, hm, hel, hall, _⟩
    · simp only [List.cons.injEq, and_true] at h4
      subst h4
      exact ⟨.mk op so nm nu [], none, 0, rfl, .mk none 0 [] (by simp) 0 0 (fun _ => none) (fun _ => 0) (fun h => by simp at h) (fun i h => by simp at h) (fun i h => by simp at h) (fun i h => by simp at h), ⟨w2, w0, w1, w3⟩⟩
    · simp only [List.cons.injEq, and_true] at h4
      subst h4
      have kid : ∀ i, i < len → ∃ X : Nd × Option Addr × Nat, (∀ j (hj : j < 5), w.cell? ((a.add (i * 5)).add j) = ([.int .i64 X.1.op, .int .i64 X.1.so, .string X.1.nm, .int .i64 X.1.nu, .slice X.2.1 X.1.ks.length X.2.2] : List Value)[j]?) ∧ Lies w X.2.1 X.2.2 X.1.ks ∧ Fine X.1 := by
        intro i hi
        have := hall i hi
        rw [List.getElem?_eq_getElem (by omega), Tryz.cells44] at this
        obtain ⟨cs', g1, g2⟩ := Option.bind_eq_some_iff.1 this
        obtain ⟨t, A, c, rfl, hL, hF⟩ := ih m (by omega) cs' _ g2
        exact ⟨(t, A, c), fun j hj => (World.cells?_some g1).2.2 j hj, hL, hF⟩
      haveI : Inhabited Nd := ⟨.mk 0 0 ⟨#[]⟩ 0 []⟩
      obtain ⟨X, hX⟩ := choose_lt kid
      have hsp : 0 < len → ∃ b o, a = ⟨b, o, none⟩ := by
        intro h0
        have := (hX 0 h0).1 0 (by omega)
        rw [Nat.zero_mul] at this
        have hs := World.cell?_spot this
        obtain ⟨b, o, s⟩ := a
        simp [Addr.add] at hs
        exact ⟨b, o, by rw [hs]⟩
      have hlenr : ((List.range len).map fun i => (X i).1).length = len := by simp
      refine ⟨.mk op so nm nu ((List.range len).map fun i => (X i).1), some a, cap, by simp [Nd.op, Nd.so, Nd.nm, Nd.nu, Nd.ks], ?_, ⟨w2, w0, w1, w3⟩⟩
      by_cases h0 : 0 < len
      · obtain ⟨b, o, rfl⟩ := hsp h0
        refine .mk _ _ _ (by simp only [Nd.ks, hlenr]; omega) b o (fun i => (X i).2.1) (fun i => (X i).2.2) (fun _ => rfl) ?_ ?_ ?_
        · intro i hi
          have hi' : i < len := by simpa [Nd.ks] using hi
          have hc := (hX i hi').1
          simp only [add_off] at hc
          simp only [Nd.ks, List.getElem_map, List.getElem_range]
          exact ⟨hc 0 (by omega), hc 1 (by omega), hc 2 (by omega), hc 3 (by omega), hc 4 (by omega)⟩
        · intro i hi
          have hi' : i < len := by simpa [Nd.ks] using hi
          simp only [Nd.ks, List.getElem_map, List.getElem_range]
          exact (hX i hi').2.1
        · intro i hi
          have hi' : i < len := by simpa [Nd.ks] using hi
          simp only [Nd.ks, List.getElem_map, List.getElem_range]
          exact (hX i hi').2.2
      · obtain rfl : len = 0 := by omega
        exact .mk _ _ _ (by simp [Nd.ks]) 0 0 (fun _ => none) (fun _ => 0) (fun h => by simp [Nd.ks] at h) (fun i h => by simp [Nd.ks] at h) (fun i h => by simp [Nd.ks] at h) (fun i h => by simp [Nd.ks] at h)

/-- An argument that is a node. -/
theorem open_nd {H : Type} {enc : TypeId × Value → H} {w : World} {base : Nat} {sp : Nat → Bool} {held : Bool} {r : Reach} {b0 : Nat} {v : Value} {d : DataW H} {p : List MemPlace}
    (hv : Value.okWide Tryz.prog w r b0 44 v) (h : DataW.Trod enc Tryz.prog w base sp held 44 v d p) :
    ∃ (t : Nd) (A : Option Addr) (cap : Nat), v = nv t.op t.so t.nm t.nu (.slice A t.ks.length cap) ∧ Lies w A cap t.ks ∧ Fine t := by
  obtain ⟨cs, rfl, hsz⟩ := okWide_struct Tryz.underlying44 hv
  obtain ⟨fuel, hf⟩ := h
  obtain ⟨t, A, cap, h1, h2, h3⟩ := nd_of_trod fuel _ _ hf
  refine ⟨t, A, cap, ?_, h2, h3⟩
  have : cs.toList = _ := h1
  show Value.agg cs = Value.agg _
  congr 1
  exact Array.toList_inj.1 this
end Go.Proofs.YtmeeombadkgneaaGreat
