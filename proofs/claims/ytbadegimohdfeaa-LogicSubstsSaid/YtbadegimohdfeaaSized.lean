/-
  A node, or a list of nodes, that can be read as data within the claim's own reach lies in memory as a tree none of whose lists is too long to be made; conditions: none.
-/
import Derived.SizedLaws
import Derived.SliceStrings
import Derived.Test.YtbadegimohdfeaaOpen
import Derived.Test.YtbadegimohdfeaaRefSub
namespace Go.Proofs.Ytbadegimohdfeaa
open Go.ChangeShapes Go.WideShapes Go.ChangeAt Go.RowKit Go.Deep

theorem Try.bytes24 : Try.prog.bytesOf 24 = 64 := by kernel_rfl
theorem Try.cells42 : Try.prog.cellsOf 42 = 1 := by kernel_rfl
theorem weightsAll_mem {H : Type} {P : Program} {e : TypeId} : ∀ {l : List (DataW H)} {d : DataW H}, d ∈ l → ∀ n ∈ d.weights P e, n ∈ DataW.weightsAll P e l
  | x :: r, d, h, n, hn => by
    simp only [DataW.weightsAll, List.mem_append]
    rcases List.mem_cons.1 h with rfl | h
    · exact Or.inl hn
    · exact Or.inr (weightsAll_mem h n hn)
theorem short_mk {t : Nd} (h1 : t.ks.length ≤ 2199023255488) (h2 : ∀ k ∈ t.ks, Short k) : Short t := by
  intro y hy
  rw [nodesOf_eq] at hy
  rcases List.mem_cons.1 hy with rfl | hy
  · exact h1
  · obtain ⟨k, hk, hy⟩ := List.mem_flatMap.1 hy
    exact h2 k hk y hy

/-- What a node read as data is. -/
def ReadNd {H : Type} (w : World) (cs : List Value) (d : DataW H) : Prop :=
  ∃ (t : Nd) (A : Option Addr) (cap : Nat), cs = [.int .i64 t.op, .int .i64 t.so, .string t.nm, .int .i64 t.nu, .slice A t.ks.length cap] ∧ Lies w A cap t.ks ∧ Fine t ∧ ((∀ n ∈ d.weights Try.prog 24, n ≤ reachBytes) → Short t)
def ReadNds {H : Type} (w : World) (cs : List Value) (d : DataW H) : Prop :=
  ∃ (ks : List Nd) (A : Option Addr) (cap : Nat), cs = [.slice A ks.length cap] ∧ Lies w A cap ks ∧ ((∀ n ∈ d.weights Try.prog 22, n ≤ reachBytes) → ks.length ≤ 2199023255488 ∧ ∀ k ∈ ks, Short k)

theorem lies_empty (w : World) (A : Option Addr) (cap : Nat) : Lies w A cap [] := .mk A cap [] (by simp) 0 0 (fun _ => none) (fun _ => 0) (fun h => by simp at h) (fun i h => by simp at h) (fun i h => by simp at h) (fun i h => by simp at h)

theorem nds_step {H : Type} {enc : TypeId × Value → H} {w : World} {base : Nat} {sp : Nat → Bool} {held : Bool} (fuel : Nat) (ih : ∀ m, m < fuel → ∀ (cs : List Value) (y : DataW H × List MemPlace), DataW.trod enc Try.prog w base sp held m 24 cs = some y → ReadNd w cs y.1)
    (cs : List Value) (y : DataW H × List MemPlace) (h : DataW.trod enc Try.prog w base sp held fuel 22 cs = some y) : ReadNds w cs y.1 := by
  rcases DataW.trod_slice Try.underlying22 h with ⟨rfl, _⟩ | ⟨a, len, cap, elems, rest, m, rfl, rfl, hse, hb, hl, hm, hel, hall, _⟩
  · exact ⟨[], none, 0, rfl, lies_empty _ _ _, fun _ => ⟨by simp, fun k hk => by simp at hk⟩⟩
  · have kid : ∀ i, i < len → ∃ X : Nd × Option Addr × Nat, (∀ j (hj : j < 5), w.cell? ((a.add (i * 5)).add j) = ([.int .i64 X.1.op, .int .i64 X.1.so, .string X.1.nm, .int .i64 X.1.nu, .slice X.2.1 X.1.ks.length X.2.2] : List Value)[j]?) ∧ Lies w X.2.1 X.2.2 X.1.ks ∧ Fine X.1 ∧ ∀ e, elems[i]? = some e → (∀ n ∈ e.1.weights Try.prog 24, n ≤ reachBytes) → Short X.1 := by
      intro i hi
      have := hall i hi
      rw [List.getElem?_eq_getElem (by omega), Try.cells24] at this
      obtain ⟨cs', g1, g2⟩ := Option.bind_eq_some_iff.1 this
      obtain ⟨t, A, c, rfl, hL, hF, hS⟩ := ih m (by omega) cs' _ g2
      exact ⟨(t, A, c), fun j hj => (World.cells?_some g1).2.2 j hj, hL, hF, fun e he => by rw [List.getElem?_eq_getElem (by omega)] at he; cases he; exact hS⟩
    haveI : Inhabited Nd := ⟨.mk 0 0 ⟨#[]⟩ 0 []⟩
    obtain ⟨X, hX⟩ := choose_lt kid
    have hsp : 0 < len → ∃ b o, a = ⟨b, o, none⟩ := by
      intro h0
      have := (hX 0 h0).1 0 (by omega)
      rw [Nat.zero_mul] at this
      have hs := World.cell?_spot this
      obtain ⟨b, o, s⟩ := a
      simp [Addr.add] at hs
      exact ⟨b, o, by rw [hs]⟩
    have hlenr : ((List.range len).map fun i => (X i).1).length = len := by simp
    refine ⟨(List.range len).map fun i => (X i).1, some a, cap, by rw [hlenr], ?_, fun hw => ?_⟩
    rotate_left
    · rw [hse] at hw
      simp only [DataW.weights, Try.underlying22, List.mem_cons, List.mem_append] at hw
      have h0 := hw _ (Or.inl rfl)
      rw [Try.bytes24, List.length_map, List.length_map, hel] at h0
      refine ⟨by rw [hlenr]; unfold reachBytes at h0; omega, fun k hk => ?_⟩
      obtain ⟨i, hi, rfl⟩ := List.mem_map.1 hk
      have hi' : i < len := List.mem_range.1 hi
      refine (hX i hi').2.2.2 elems[i] (List.getElem?_eq_getElem (by omega)) fun n hn => hw n (Or.inr (Or.inl (weightsAll_mem (List.mem_map.2 ⟨elems[i], List.getElem_mem _, rfl⟩) n hn)))
    by_cases h0 : 0 < len
    · obtain ⟨b, o, rfl⟩ := hsp h0
      refine .mk _ _ _ (by rw [hlenr]; omega) b o (fun i => (X i).2.1) (fun i => (X i).2.2) (fun _ => rfl) ?_ ?_ ?_
      · intro i hi
        have hi' : i < len := by simpa using hi
        have hc := (hX i hi').1
        simp only [add_off] at hc
        simp only [List.getElem_map, List.getElem_range]
        exact ⟨hc 0 (by omega), hc 1 (by omega), hc 2 (by omega), hc 3 (by omega), hc 4 (by omega)⟩
      · intro i hi
        have hi' : i < len := by simpa using hi
        simp only [List.getElem_map, List.getElem_range]
        exact (hX i hi').2.1
      · intro i hi
        have hi' : i < len := by simpa using hi
        simp only [List.getElem_map, List.getElem_range]
        exact (hX i hi').2.2.1
    · obtain rfl : len = 0 := by omega
      exact lies_empty _ _ _

theorem nd_read {H : Type} {enc : TypeId × Value → H} {w : World} {base : Nat} {sp : Nat → Bool} {held : Bool} : ∀ (fuel : Nat) (cs : List Value) (y : DataW H × List MemPlace), DataW.trod enc Try.prog w base sp held fuel 24 cs = some y → ReadNd w cs y.1 := by
  intro fuel
  induction fuel using Nat.strongRecOn with
  | ind fuel ih =>
  intro cs y h
  obtain ⟨xs, n, rfl, hy, hlen, hxl, hf⟩ := DataW.trod_struct Try.underlying24 h
  rw [Try.cells24] at hlen
  match cs, hlen with
  | [c0, c1, c2, c3, c4], _ =>
    have hxl' : xs.length = 5 := hxl
    have e0 : DataW.trod enc Try.prog w base sp held n 3 [c0] = xs[0]? := by
      have := hf 0 _ rfl
      simpa [Try.cells3] using this
    have e1 : DataW.trod enc Try.prog w base sp held n 3 [c1] = xs[1]? := by
      have := hf 1 _ rfl
      simpa [Try.cells3] using this
    have e2 : DataW.trod enc Try.prog w base sp held n 9 [c2] = xs[2]? := by
      have := hf 2 _ rfl
      simpa [Try.cells9] using this
    have e3 : DataW.trod enc Try.prog w base sp held n 2 [c3] = xs[3]? := by
      have := hf 3 _ rfl
      simpa [Try.cells2] using this
    have e4 : DataW.trod enc Try.prog w base sp held n 22 [c4] = xs[4]? := by
      have := hf 4 _ rfl
      simpa [Try.cells22] using this
    rw [List.getElem?_eq_getElem (by omega)] at e0 e1 e2 e3 e4
    obtain ⟨op, h0, _, w0⟩ := DataW.trod_int Try.underlying3 e0
    obtain ⟨so, h1, _, w1⟩ := DataW.trod_int Try.underlying3 e1
    obtain ⟨nm, h2, _, w2⟩ := DataW.trod_string Try.underlying9 e2
    obtain ⟨nu, h3, _, w3⟩ := DataW.trod_int Try.underlying2 e3
    simp only [List.cons.injEq, and_true] at h0 h1 h2 h3
    subst h0 h1 h2 h3
    obtain ⟨ks, A, cap, h4, hL, hS⟩ := nds_step n (fun m hm => ih m (by omega)) _ _ e4
    simp only [List.cons.injEq, and_true] at h4
    subst h4
    refine ⟨.mk op so nm nu ks, A, cap, rfl, hL, ⟨w2, w0, w1, w3⟩, fun hw => ?_⟩
    have := hS fun m hm => hw m (by
      rw [hy]
      simp only [DataW.weights, Try.underlying24]
      exact DataW.weights_mem_each (j := 4) (t := 22) (d := xs[4].1) rfl (by rw [List.getElem?_map, List.getElem?_eq_getElem (by omega)]; rfl) m hm)
    exact short_mk this.1 this.2

/-- An argument that is a node. -/
theorem open_nd_sized {H : Type} {enc : TypeId × Value → H} {w : World} {base : Nat} {sp : Nat → Bool} {held : Bool} {r : Reach} {b0 : Nat} {v : Value} {d : DataW H} {p : List MemPlace}
    (hv : Value.okWide Try.prog w r b0 24 v) (h : DataW.Trod enc Try.prog w base sp held 24 v d p) :
    ∃ (t : Nd) (A : Option Addr) (cap : Nat), v = nv t.op t.so t.nm t.nu (.slice A t.ks.length cap) ∧ Lies w A cap t.ks ∧ Fine t ∧ ((∀ n ∈ d.weights Try.prog 24, n ≤ reachBytes) → Short t) := by
  obtain ⟨cs, rfl, hsz⟩ := okWide_struct Try.underlying24 hv
  obtain ⟨fuel, hf⟩ := h
  obtain ⟨t, A, cap, h1, h2, h3, h4⟩ := nd_read fuel _ _ hf
  refine ⟨t, A, cap, ?_, h2, h3, h4⟩
  have : cs.toList = _ := h1
  show Value.agg cs = Value.agg _
  congr 1
  exact Array.toList_inj.1 this
/-- An argument that is a list of nodes. -/
theorem open_nds_sized {H : Type} {enc : TypeId × Value → H} {w : World} {base : Nat} {sp : Nat → Bool} {held : Bool} {r : Reach} {b0 : Nat} {v : Value} {d : DataW H} {p : List MemPlace}
    (hv : Value.okWide Try.prog w r b0 22 v) (h : DataW.Trod enc Try.prog w base sp held 22 v d p) :
    ∃ (ks : List Nd) (A : Option Addr) (cap : Nat), v = .slice A ks.length cap ∧ Lies w A cap ks ∧ ((∀ n ∈ d.weights Try.prog 22, n ≤ reachBytes) → ks.length ≤ 2199023255488 ∧ ∀ k ∈ ks, Short k) := by
  obtain ⟨a, len, cap, rfl⟩ := okWide_slice Try.underlying22 hv
  obtain ⟨fuel, hf⟩ := h
  obtain ⟨ks, A, cap', h1, h2, h3⟩ := nds_step fuel (fun m _ => nd_read m) _ _ hf
  simp only [Value.cells, List.cons.injEq, and_true] at h1
  exact ⟨ks, A, cap', h1, h2, h3⟩
/-- An argument that is a list of strings. -/
theorem open_strs_any {H : Type} {enc : TypeId × Value → H} {w : World} {base : Nat} {sp : Nat → Bool} {held : Bool} {r : Reach} {b0 : Nat} {v : Value} {d : DataW H} {p : List MemPlace}
    (hv : Value.okWide Try.prog w r b0 42 v) (h : DataW.Trod enc Try.prog w base sp held 42 v d p) :
    ∃ (nl : List ByteArray) (A : Option Addr) (cap : Nat), v = .slice A nl.length cap ∧ Strs w A nl ∧ nl.length ≤ maxLen := by
  obtain ⟨a, len, cap, rfl⟩ := okWide_slice Try.underlying42 hv
  obtain ⟨fuel, hf⟩ := h
  rcases open_strings Try.underlying42 Try.underlying9 Try.cells9 hf with ⟨hcs, _⟩ | ⟨a0, len', cap', ss, hcs, _, hl, hm, hz, _, hcell, _⟩
  · simp only [Value.cells, List.cons.injEq, and_true] at hcs
    exact ⟨[], none, 0, hcs, ⟨0, 0, by simp, by simp⟩, by simp⟩
  · simp only [Value.cells, List.cons.injEq, and_true] at hcs
    have hls : len' ≤ ss.length := by rw [hz]; split <;> omega
    have htl : (ss.take len').length = len' := by rw [List.length_take]; omega
    refine ⟨ss.take len', some a0, cap', by rw [hcs, htl], ?_, by rw [htl]; omega⟩
    by_cases h0 : 0 < len'
    · have hs := World.cell?_spot (by simpa using hcell 0 (by omega))
      obtain ⟨b, o, s⟩ := a0
      simp [Addr.add] at hs
      subst hs
      refine ⟨b, o, fun _ => rfl, fun i hi => ?_⟩
      rw [htl] at hi
      have := hcell i (by omega)
      rw [add_off] at this
      rw [this, List.getElem_take, List.getD_eq_getElem?_getD, List.getElem?_eq_getElem (by omega)]
      rfl
    · obtain rfl : len' = 0 := by omega
      exact ⟨0, 0, by simp, by simp⟩
end Go.Proofs.Ytbadegimohdfeaa
