/-
  A node that can be read as data lies in memory as a tree of no more nodes than the data has parts; conditions: none.
-/
import Derived.Test.YtpjokapkoeclpaaOpen
import Derived.Test.YtpjokapkoeclpaaRefCheck
namespace Go.Proofs.Ytpjokapkoeclpaa
set_option maxRecDepth 100000
open Go.ChangeShapes Go.WideShapes Go.ChangeAt Go.RowKit Go.Deep

theorem bulk_part {H : Type} {d : DataW H} {l : List (DataW H)} (h : d ∈ l) : Rows.uptoBulk d ≤ Rows.uptoBulkAll l := by
  induction l with
  | nil => cases h
  | cons x r ih =>
    simp only [Rows.uptoBulkAll]
    rcases List.mem_cons.1 h with rfl | e
    · omega
    · have := ih e; omega
theorem sum_bulk {H : Type} : ∀ {l : List Nat} {ds : List (DataW H)} (h : l.length = ds.length), (∀ i (hi : i < l.length), l[i] ≤ Rows.uptoBulk ds[i]) → l.sum ≤ Rows.uptoBulkAll ds
  | [], _, _, _ => by simp
  | x :: xs, [], h, _ => by simp at h
  | x :: xs, d :: ds, h, hh => by
    have h0 : x ≤ Rows.uptoBulk d := hh 0 (by simp)
    have := sum_bulk (l := xs) (ds := ds) (by simpa using h) (fun i hi => hh (i + 1) (by simp; omega))
    simp only [List.sum_cons, Rows.uptoBulkAll]
    omega


theorem nd_of_trod_bulk {H : Type} {enc : TypeId × Value → H} {w : World} {base : Nat} {sp : Nat → Bool} {held : Bool} : ∀ (fuel : Nat) (cs : List Value) (y : DataW H × List MemPlace), DataW.trod enc Try.prog w base sp held fuel 24 cs = some y →
    ∃ (t : Nd) (A : Option Addr) (cap : Nat), cs = [.int .i64 t.op, .int .i64 t.so, .string t.nm, .int .i64 t.nu, .slice A t.ks.length cap] ∧ Lies w A cap t.ks ∧ Fine t ∧ cnt t ≤ Rows.uptoBulk y.1 := by
  intro fuel
  induction fuel using Nat.strongRecOn with
  | ind fuel ih =>
  intro cs y h
  obtain ⟨xs, n, rfl, hy, hlen, hxl, hf⟩ := DataW.trod_struct Try.underlying24 h
  rw [Try.cells24] at hlen
  match cs, hlen with
  | [c0, c1, c2, c3, c4], _ =>
    have hxl' : xs.length = 5 := hxl
    have e0 : DataW.trod enc Try.prog w base sp held n 3 [c0] = xs[0]? := by
      have := hf 0 _ rfl
      simpa [Try.cells3] using this
    have e1 : DataW.trod enc Try.prog w base sp held n 3 [c1] = xs[1]? := by
      have := hf 1 _ rfl
      simpa [Try.cells3] using this
    have e2 : DataW.trod enc Try.prog w base sp held n 9 [c2] = xs[2]? := by
      have := hf 2 _ rfl
      simpa [Try.cells9] using this
    have e3 : DataW.trod enc Try.prog w base sp held n 2 [c3] = xs[3]? := by
      have := hf 3 _ rfl
      simpa [Try.cells2] using this
    have e4 : DataW.trod enc Try.prog w base sp held n 22 [c4] = xs[4]? := by
      have := hf 4 _ rfl
      simpa [Try.cells22] using this
    rw [List.getElem?_eq_getElem (by omega)] at e0 e1 e2 e3 e4
    obtain ⟨op, h0, _, w0⟩ := DataW.trod_int Try.underlying3 e0
    obtain ⟨so, h1, _, w1⟩ := DataW.trod_int Try.underlying3 e1
    obtain ⟨nm, h2, _, w2⟩ := DataW.trod_string Try.underlying9 e2
    obtain ⟨nu, h3, _, w3⟩ := DataW.trod_int Try.underlying2 e3
    simp only [List.cons.injEq, and_true] at h0 h1 h2 h3
    subst h0 h1 h2 h3
    rcases DataW.trod_slice Try.underlying22 e4 with ⟨h4, _⟩ | ⟨a, len, cap, elems, rest, m, rfl, h4, hse, hb, hl, hm, hel, hall, _⟩
    · simp only [List.cons.injEq, and_true] at h4
      subst h4
      exact ⟨.mk op so nm nu [], none, 0, rfl, .mk none 0 [] (by simp) 0 0 (fun _ => none) (fun _ => 0) (fun h => by simp at h) (fun i h => by simp at h) (fun i h => by simp at h) (fun i h => by simp at h), ⟨w2, w0, w1, w3⟩, by rw [hy, cnt_eq]; simp only [Nd.ks, List.map_nil, List.sum_nil, Rows.uptoBulk]; omega⟩
    · simp only [List.cons.injEq, and_true] at h4
      subst h4
      have kid : ∀ i, i < len → ∃ X : Nd × Option Addr × Nat, (∀ j (hj : j < 5), w.cell? ((a.add (i * 5)).add j) = ([.int .i64 X.1.op, .int .i64 X.1.so, .string X.1.nm, .int .i64 X.1.nu, .slice X.2.1 X.1.ks.length X.2.2] : List Value)[j]?) ∧ Lies w X.2.1 X.2.2 X.1.ks ∧ Fine X.1 ∧ ∀ e, elems[i]? = some e → cnt X.1 ≤ Rows.uptoBulk e.1 := by
        intro i hi
        have := hall i hi
        rw [List.getElem?_eq_getElem (by omega), Try.cells24] at this
        obtain ⟨cs', g1, g2⟩ := Option.bind_eq_some_iff.1 this
        obtain ⟨t, A, c, rfl, hL, hF, hC⟩ := ih m (by omega) cs' _ g2
        exact ⟨(t, A, c), fun j hj => (World.cells?_some g1).2.2 j hj, hL, hF, fun e he => by rw [List.getElem?_eq_getElem (by omega)] at he; cases he; exact hC⟩
      haveI : Inhabited Nd := ⟨.mk 0 0 ⟨#[]⟩ 0 []⟩
      obtain ⟨X, hX⟩ := choose_lt kid
      have hsp : 0 < len → ∃ b o, a = ⟨b, o, none⟩ := by
        intro h0
        have := (hX 0 h0).1 0 (by omega)
        rw [Nat.zero_mul] at this
        have hs := World.cell?_spot this
        obtain ⟨b, o, s⟩ := a
        simp [Addr.add] at hs
        exact ⟨b, o, by rw [hs]⟩
      have hlenr : ((List.range len).map fun i => (X i).1).length = len := by simp
      refine ⟨.mk op so nm nu ((List.range len).map fun i => (X i).1), some a, cap, by simp [Nd.op, Nd.so, Nd.nm, Nd.nu, Nd.ks], ?_, ⟨w2, w0, w1, w3⟩, ?_⟩
      rotate_left
      · rw [cnt_eq]
        have hx4 : Rows.uptoBulk xs[4].1 ≤ Rows.uptoBulkAll (xs.map (·.1)) := bulk_part (List.mem_map.2 ⟨xs[4], List.getElem_mem _, rfl⟩)
        rw [hse] at hx4
        have hsum : (((List.range len).map fun i => (X i).1).map cnt).sum ≤ Rows.uptoBulkAll (elems.map (·.1)) := by
          refine sum_bulk (by simp [hel]) fun i hi => ?_
          have hi' : i < len := by simpa using hi
          have he := (hX i hi').2.2.2 elems[i] (List.getElem?_eq_getElem (by omega))
          simpa using he
        rw [hy]
        simp only [Rows.uptoBulk] at hx4
        simp only [Nd.ks, Rows.uptoBulk]
        omega
      by_cases h0 : 0 < len
      · obtain ⟨b, o, rfl⟩ := hsp h0
        refine .mk _ _ _ (by simp only [Nd.ks, hlenr]; omega) b o (fun i => (X i).2.1) (fun i => (X i).2.2) (fun _ => rfl) ?_ ?_ ?_
        · intro i hi
          have hi' : i < len := by simpa [Nd.ks] using hi
          have hc := (hX i hi').1
          simp only [add_off] at hc
          simp only [Nd.ks, List.getElem_map, List.getElem_range]
          exact ⟨hc 0 (by omega), hc 1 (by omega), hc 2 (by omega), hc 3 (by omega), hc 4 (by omega)⟩
        · intro i hi
          have hi' : i < len := by simpa [Nd.ks] using hi
          simp only [Nd.ks, List.getElem_map, List.getElem_range]
          exact (hX i hi').2.1
        · intro i hi
          have hi' : i < len := by simpa [Nd.ks] using hi
          simp only [Nd.ks, List.getElem_map, List.getElem_range]
          exact (hX i hi').2.2.1
      · obtain rfl : len = 0 := by omega
        exact .mk _ _ _ (by simp [Nd.ks]) 0 0 (fun _ => none) (fun _ => 0) (fun h => by simp [Nd.ks] at h) (fun i h => by simp [Nd.ks] at h) (fun i h => by simp [Nd.ks] at h) (fun i h => by simp [Nd.ks] at h)


/-- An argument that is a node. -/
theorem open_nd_bulk {H : Type} {enc : TypeId × Value → H} {w : World} {base : Nat} {sp : Nat → Bool} {held : Bool} {r : Reach} {b0 : Nat} {v : Value} {d : DataW H} {p : List MemPlace}
    (hv : Value.okWide Try.prog w r b0 24 v) (h : DataW.Trod enc Try.prog w base sp held 24 v d p) :
    ∃ (t : Nd) (A : Option Addr) (cap : Nat), v = nv t.op t.so t.nm t.nu (.slice A t.ks.length cap) ∧ Lies w A cap t.ks ∧ Fine t ∧ cnt t ≤ Rows.uptoBulk d := by
  obtain ⟨cs, rfl, hsz⟩ := okWide_struct Try.underlying24 hv
  obtain ⟨fuel, hf⟩ := h
  obtain ⟨t, A, cap, h1, h2, h3, h4⟩ := nd_of_trod_bulk fuel _ _ hf
  refine ⟨t, A, cap, ?_, h2, h3, h4⟩
  have : cs.toList = _ := h1
  show Value.agg cs = Value.agg _
  congr 1
  exact Array.toList_inj.1 this
end Go.Proofs.Ytpjokapkoeclpaa
