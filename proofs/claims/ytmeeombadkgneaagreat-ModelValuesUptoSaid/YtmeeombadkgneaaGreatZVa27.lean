/-
  What copyEntry returns of an entry: the same entry in memory of its own; conditions: the entry lies in memory, its lists are not too long.
  What copyEntry returns of an entry: the same entry in memory of its own; conditions: the entry lies in memory, its lists are not too long.
-/
import Derived.OwnWalk
import Derived.Lib.LazyBuf
import Derived.Test.YtmeeombadkgneaaGreatZVa23
namespace Go.Proofs.YtmeeombadkgneaaGreat
open Go.Proofs Go.RowKit Go.Shelf Go.Sort Go.Lib

attribute [local go_sem] Oper.semAt_some
theorem take_put5 (l : List Value) (k : Nat) (h : k + 5 ≤ l.length) (c0 c1 c2 c3 c4 : Value) :
    (((((l.set k c0).set (k + 1) c1).set (k + 2) c2).set (k + 3) c3).set (k + 4) c4).take (k + 5) = l.take k ++ [c0, c1, c2, c3, c4] := by
  apply List.ext_getElem?
  intro i
  by_cases h1 : i < k
  · rw [List.getElem?_append_left (by simp; omega), List.getElem?_take_of_lt (by omega), List.getElem?_take_of_lt h1]
    rw [List.getElem?_set_ne (by omega), List.getElem?_set_ne (by omega), List.getElem?_set_ne (by omega), List.getElem?_set_ne (by omega), List.getElem?_set_ne (by omega)]
  · rw [List.getElem?_append_right (by simp; omega)]
    have hl : (l.take k).length = k := by simp; omega
    rw [hl]
    obtain ⟨j, rfl⟩ : ∃ j, i = k + j := ⟨i - k, by omega⟩
    rw [show k + j - k = j by omega]
    match j with
    | 0 => rw [List.getElem?_take_of_lt (by omega)]; simp [List.getElem?_set]; omega
    | 1 => rw [List.getElem?_take_of_lt (by omega)]; simp [List.getElem?_set]; omega
    | 2 => rw [List.getElem?_take_of_lt (by omega)]; simp [List.getElem?_set]; omega
    | 3 => rw [List.getElem?_take_of_lt (by omega)]; simp [List.getElem?_set]; omega
    | 4 => rw [List.getElem?_take_of_lt (by omega)]; simp [List.getElem?_set]; omega
    | j + 5 => rw [List.getElem?_eq_none (by simp; omega)]; simp
abbrev cells5V (x : VA) : List Value := [.int .i64 x.v.so, .int .i64 x.v.nu, .slice x.a1 x.v.st.length x.c1, .slice x.a2 x.v.ix.length x.c2, .slice x.a3 x.v.xs.length x.c3]
def flatV (l : List VA) : List Value := (l.map cells5V).flatten
theorem flatV_snoc (l : List VA) (x : VA) : flatV (l ++ [x]) = flatV l ++ cells5V x := by simp [flatV]
theorem flatV_at : ∀ (l : List VA) (i : Nat) (h : i < l.length) (j : Nat), j < 5 → (flatV l)[i * 5 + j]? = (cells5V l[i])[j]?
  | [], _, h, _, _ => absurd h (by simp)
  | x :: l, 0, _, j, hj => by
    show (cells5V x ++ flatV l)[0 * 5 + j]? = _
    rw [List.getElem?_append_left (by show 0 * 5 + j < 5; omega), Nat.zero_mul, Nat.zero_add]; rfl
  | x :: l, i + 1, h, j, hj => by
    show (cells5V x ++ flatV l)[(i + 1) * 5 + j]? = _
    rw [List.getElem?_append_right (by show 5 ≤ _; omega)]
    rw [show (i + 1) * 5 + j - (cells5V x).length = i * 5 + j by show (i + 1) * 5 + j - 5 = _; omega]
    exact flatV_at l i (by simpa using h) j hj
/-- In the midst of a list's making: a row of n values in block w.heap.size, of which the first ones are written. -/
structure MV (w : World) (n : Nat) (vs : List Vl) (wr : World) (cur : Array Value) (xs : List VA) : Prop where
  outs : xs.map (·.v) = vs
  row : wr.heap[w.heap.size]? = some (.cells cur 27 (0, 0))
  size : cur.size = n * 5
  head : cur.toList.take (xs.length * 5) = flatV xs
  each : ∀ x ∈ xs, RobV (w.heap.size + 1) wr x
  below : RowKit.Below w.heap.size w wr
def MVI (w : World) (n : Nat) (vs : List Vl) (wr : World) : Prop := ∃ cur xs, MV w n vs wr cur xs
theorem MV.later {w : World} {n : Nat} {vs : List Vl} {wr w' : World} {cur : Array Value} {xs : List VA} (h : MV w n vs wr cur xs) (hb : RowKit.Below wr.heap.size wr w') : MV w n vs w' cur xs :=
  ⟨h.outs, (hb.block _ (Array.getElem?_eq_some_iff.1 h.row).1).trans h.row, h.size, h.head, fun x hx => (h.each x hx).later hb, h.below.trans (hb.mono h.below.size)⟩
/-- The five cells of a value's place are written. -/
abbrev putV (w : World) (b o : Nat) (c0 c1 c2 c3 c4 : Value) : World := ((((w.setCell ⟨b, o, none⟩ c0).setCell ⟨b, o + 1, none⟩ c1).setCell ⟨b, o + 2, none⟩ c2).setCell ⟨b, o + 3, none⟩ c3).setCell ⟨b, o + 4, none⟩ c4
theorem putV_same {w : World} {b o : Nat} {t : TypeId} {cur : Array Value} (c0 c1 c2 c3 c4 : Value) (h : w.heap[b]? = some (.cells cur t (0, 0))) :
    (putV w b o c0 c1 c2 c3 c4).heap[b]? = some (.cells (((((cur.setIfInBounds o c0).setIfInBounds (o + 1) c1).setIfInBounds (o + 2) c2).setIfInBounds (o + 3) c3).setIfInBounds (o + 4) c4) t (0, 0)) := by
  have h0 := heap_setCell_same w b o _ _ c0 h
  have h1 := heap_setCell_same _ b (o + 1) _ _ c1 h0
  have h2 := heap_setCell_same _ b (o + 2) _ _ c2 h1
  have h3 := heap_setCell_same _ b (o + 3) _ _ c3 h2
  exact heap_setCell_same _ b (o + 4) _ _ c4 h3
theorem putV_other {w : World} {b o : Nat} (c0 c1 c2 c3 c4 : Value) {k : Nat} (h : k ≠ b) : (putV w b o c0 c1 c2 c3 c4).heap[k]? = w.heap[k]? := by
  rw [putV, heap_setCell_other _ _ _ _ h, heap_setCell_other _ _ _ _ h, heap_setCell_other _ _ _ _ h, heap_setCell_other _ _ _ _ h, heap_setCell_other _ _ _ _ h]
theorem putV_size (w : World) (b o : Nat) (c0 c1 c2 c3 c4 : Value) : (putV w b o c0 c1 c2 c3 c4).heap.size = w.heap.size := by simp [putV, World.setCell]
theorem below_putV {B : Nat} {a w : World} (h : RowKit.Below B a w) {b : Nat} (hb : B ≤ b) (o : Nat) (c0 c1 c2 c3 c4 : Value) : RowKit.Below B a (putV w b o c0 c1 c2 c3 c4) :=
  ((((h.setCell (p := ⟨b, o, none⟩) hb c0).setCell (p := ⟨b, o + 1, none⟩) hb c1).setCell (p := ⟨b, o + 2, none⟩) hb c2).setCell (p := ⟨b, o + 3, none⟩) hb c3).setCell (p := ⟨b, o + 4, none⟩) hb c4
theorem MV.step {w : World} {n : Nat} {vs : List Vl} {wr : World} {cur : Array Value} {xs : List VA} (h : MV w n vs wr cur xs) (hk : xs.length < n) {x : VA} (hx : RobV (w.heap.size + 1) wr x) :
    MVI w n (vs ++ [x.v]) (putV wr w.heap.size (xs.length * 5) (.int .i64 x.v.so) (.int .i64 x.v.nu) (.slice x.a1 x.v.st.length x.c1) (.slice x.a2 x.v.ix.length x.c2) (.slice x.a3 x.v.xs.length x.c3)) := by
  have rob : ∀ {y : VA}, RobV (w.heap.size + 1) wr y → RobV (w.heap.size + 1) (putV wr w.heap.size (xs.length * 5) (.int .i64 x.v.so) (.int .i64 x.v.nu) (.slice x.a1 x.v.st.length x.c1) (.slice x.a2 x.v.ix.length x.c2) (.slice x.a3 x.v.xs.length x.c3)) y :=
    fun hr W hW => hr W fun k h1 h2 => (hW k h1 (by rw [putV_size]; exact h2)).trans (putV_other _ _ _ _ _ (by omega))
  refine ⟨_, xs ++ [x], by rw [List.map_append, h.outs]; rfl, putV_same _ _ _ _ _ h.row, by simp [h.size], ?_, ?_, below_putV h.below (Nat.le_refl _) _ _ _ _ _ _⟩
  · have hs' : cur.toList.length = n * 5 := by rw [Array.length_toList]; exact h.size
    rw [flatV_snoc, ← h.head, List.length_append]
    simp only [Array.toList_setIfInBounds, List.length_singleton]
    rw [Nat.add_mul, Nat.one_mul, take_put5 _ _ (by rw [hs']; omega)]
  · intro y hy
    rcases List.mem_append.1 hy with hy | hy
    · exact rob (h.each y hy)
    · simp at hy; subst hy; exact rob hx
/-- A list of values that lies in blocks from n0 on. -/
def RobVs (n0 : Nat) (w : World) (A : Option Addr) (l : List VA) : Prop := ∀ W : World, (∀ k, n0 ≤ k → k < w.heap.size → W.heap[k]? = w.heap[k]?) → LiesVs W A l
theorem RobVs.later {n0 : Nat} {w w' : World} {A : Option Addr} {l : List VA} (h : RobVs n0 w A l) (hb : RowKit.Below w.heap.size w w') : RobVs n0 w' A l :=
  fun W hW => h W fun k h1 h2 => (hW k h1 (Nat.lt_of_lt_of_le h2 hb.size)).trans (hb.block k h2)
theorem RobVs.less {n0 n1 : Nat} {w : World} {A : Option Addr} {l : List VA} (h : RobVs n0 w A l) (hn : n1 ≤ n0) : RobVs n1 w A l :=
  fun W hW => h W fun k h1 h2 => hW k (Nat.le_trans hn h1) h2
theorem RobVs.set {n0 : Nat} {w : World} {A : Option Addr} {l : List VA} (h : RobVs n0 w A l) {p : Addr} (hp : p.block < n0) (u : Value) : RobVs n0 (w.setCell p u) A l :=
  fun W hW => h W fun k h1 h2 => (hW k h1 (by rw [set_size]; exact h2)).trans (heap_setCell_other _ _ _ _ (by omega))
theorem RobV.set {n0 : Nat} {w : World} {x : VA} (h : RobV n0 w x) {p : Addr} (hp : p.block < n0) (u : Value) : RobV n0 (w.setCell p u) x :=
  fun W hW => h W fun k h1 h2 => (hW k h1 (by rw [set_size]; exact h2)).trans (heap_setCell_other _ _ _ _ (by omega))
/-- In the end the list lies in new memory. -/
theorem MV.rob {w : World} {n : Nat} {vs : List Vl} {wr : World} {cur : Array Value} {xs : List VA} (h : MV w n vs wr cur xs) (hn : xs.length = n) (hm : n ≤ maxLen) : RobVs w.heap.size wr (some ⟨w.heap.size, 0, none⟩) xs := by
  intro W hW
  have hgW : W.heap[w.heap.size]? = some (.cells cur 27 (0, 0)) := (hW _ (Nat.le_refl _) (Array.getElem?_eq_some_iff.1 h.row).1).trans h.row
  refine ⟨by rw [hn]; exact hm, ⟨w.heap.size, 0, fun _ => rfl, fun i hi => ?_⟩, fun i hi => h.each xs[i] (List.getElem_mem hi) W fun k a b => hW k (by omega) b⟩
  have hc : ∀ j, j < 5 → W.cell? ⟨w.heap.size, 0 + i * 5 + j, none⟩ = (cells5V xs[i])[j]? := fun j hj => by
    have := flatV_at xs i hi j hj
    rw [← h.head, List.getElem?_take_of_lt (by omega)] at this
    rw [← this]
    simp [World.cell?, hgW]
  exact ⟨hc 0 (by omega), hc 1 (by omega), hc 2 (by omega), hc 3 (by omega), hc 4 (by omega)⟩
theorem info27 : (Tryz.prog.info? 27).map (fun i => (i.zero, i.size, i.bytes)) = some (some (.agg #[.int .i64 0, .int .i64 0, .slice none 0 0, .slice none 0 0, .slice none 0 0]), 5, 88) := by kernel_rfl
/-- What is the same of an entry and its copy. -/
def keyE (e : EA) : ByteArray × List Vl × Vl := (e.nm, vls e.args, e.val.v)
/-- An entry whose lists lie in blocks from n0 on. -/
def RobE (n0 : Nat) (w : World) (e : EA) : Prop := ∀ W : World, (∀ k, n0 ≤ k → k < w.heap.size → W.heap[k]? = w.heap[k]?) → LiesE W e
theorem RobE.here {n0 : Nat} {w : World} {e : EA} (h : RobE n0 w e) : LiesE w e := h w fun _ _ _ => rfl
theorem RobE.later {n0 : Nat} {w w' : World} {e : EA} (h : RobE n0 w e) (hb : RowKit.Below w.heap.size w w') : RobE n0 w' e :=
  fun W hW => h W fun k h1 h2 => (hW k h1 (Nat.lt_of_lt_of_le h2 hb.size)).trans (hb.block k h2)
theorem RobE.less {n0 n1 : Nat} {w : World} {e : EA} (h : RobE n0 w e) (hn : n1 ≤ n0) : RobE n1 w e :=
  fun W hW => h W fun k h1 h2 => hW k (Nat.le_trans hn h1) h2
structure TameV (v : Vl) : Prop where
  st : v.st.length ≤ 10000
  ix : v.ix.length ≤ 10000
  xs : v.xs.length ≤ 10000
structure TameE (e : EA) : Prop where
  n : e.args.length ≤ 10000
  args : ∀ x ∈ e.args, TameV x.v
  val : TameV e.val.v
structure BoxE (w : World) (g : Nat) (v0 v1 v2 v3 v4 v5 v6 : Value) : Prop where
  z0 : w.cell? ⟨g, 0, none⟩ = some v0
  z1 : w.cell? ⟨g, 1, none⟩ = some v1
  z2 : w.cell? ⟨g, 2, none⟩ = some v2
  z3 : w.cell? ⟨g, 3, none⟩ = some v3
  z4 : w.cell? ⟨g, 4, none⟩ = some v4
  z5 : w.cell? ⟨g, 5, none⟩ = some v5
  z6 : w.cell? ⟨g, 6, none⟩ = some v6
  f0 : w.frozen? ⟨g, 0, none⟩ = false
  f1 : w.frozen? ⟨g, 1, none⟩ = false
  f2 : w.frozen? ⟨g, 2, none⟩ = false
  f3 : w.frozen? ⟨g, 3, none⟩ = false
  f4 : w.frozen? ⟨g, 4, none⟩ = false
  f5 : w.frozen? ⟨g, 5, none⟩ = false
  f6 : w.frozen? ⟨g, 6, none⟩ = false
theorem boxE_facts {w : World} {g : Nat} {t : TypeId} {v0 v1 v2 v3 v4 v5 v6 : Value} (h : w.heap[g]? = some (.cells #[v0, v1, v2, v3, v4, v5, v6] t (0, 0))) : BoxE w g v0 v1 v2 v3 v4 v5 v6 :=
  ⟨cell_row h rfl, cell_row h rfl, cell_row h rfl, cell_row h rfl, cell_row h rfl, cell_row h rfl, cell_row h rfl, frozen_of_row _ _ _ _ _ h, frozen_of_row _ _ _ _ _ h, frozen_of_row _ _ _ _ _ h, frozen_of_row _ _ _ _ _ h, frozen_of_row _ _ _ _ _ h, frozen_of_row _ _ _ _ _ h, frozen_of_row _ _ _ _ _ h⟩
/-- The seven cells of a block are written. -/
abbrev set7 (w : World) (b : Nat) (c0 c1 c2 c3 c4 c5 c6 : Value) : World := ((((((w.setCell ⟨b, 0, none⟩ c0).setCell ⟨b, 1, none⟩ c1).setCell ⟨b, 2, none⟩ c2).setCell ⟨b, 3, none⟩ c3).setCell ⟨b, 4, none⟩ c4).setCell ⟨b, 5, none⟩ c5).setCell ⟨b, 6, none⟩ c6
theorem set7_same {w : World} {b : Nat} {t : TypeId} {d0 d1 d2 d3 d4 d5 d6 : Value} (c0 c1 c2 c3 c4 c5 c6 : Value) (h : w.heap[b]? = some (.cells #[d0, d1, d2, d3, d4, d5, d6] t (0, 0))) : (set7 w b c0 c1 c2 c3 c4 c5 c6).heap[b]? = some (.cells #[c0, c1, c2, c3, c4, c5, c6] t (0, 0)) := by
  have h0 : (w.setCell ⟨b, 0, none⟩ c0).heap[b]? = some (.cells #[c0, d1, d2, d3, d4, d5, d6] t (0, 0)) := heap_setCell_same _ b 0 _ _ c0 h
  have h1 : ((w.setCell ⟨b, 0, none⟩ c0).setCell ⟨b, 1, none⟩ c1).heap[b]? = some (.cells #[c0, c1, d2, d3, d4, d5, d6] t (0, 0)) := heap_setCell_same _ b 1 _ _ c1 h0
  have h2 : (((w.setCell ⟨b, 0, none⟩ c0).setCell ⟨b, 1, none⟩ c1).setCell ⟨b, 2, none⟩ c2).heap[b]? = some (.cells #[c0, c1, c2, d3, d4, d5, d6] t (0, 0)) := heap_setCell_same _ b 2 _ _ c2 h1
  have h3 : ((((w.setCell ⟨b, 0, none⟩ c0).setCell ⟨b, 1, none⟩ c1).setCell ⟨b, 2, none⟩ c2).setCell ⟨b, 3, none⟩ c3).heap[b]? = some (.cells #[c0, c1, c2, c3, d4, d5, d6] t (0, 0)) := heap_setCell_same _ b 3 _ _ c3 h2
  have h4 : (((((w.setCell ⟨b, 0, none⟩ c0).setCell ⟨b, 1, none⟩ c1).setCell ⟨b, 2, none⟩ c2).setCell ⟨b, 3, none⟩ c3).setCell ⟨b, 4, none⟩ c4).heap[b]? = some (.cells #[c0, c1, c2, c3, c4, d5, d6] t (0, 0)) := heap_setCell_same _ b 4 _ _ c4 h3
  have h5 : ((((((w.setCell ⟨b, 0, none⟩ c0).setCell ⟨b, 1, none⟩ c1).setCell ⟨b, 2, none⟩ c2).setCell ⟨b, 3, none⟩ c3).setCell ⟨b, 4, none⟩ c4).setCell ⟨b, 5, none⟩ c5).heap[b]? = some (.cells #[c0, c1, c2, c3, c4, c5, d6] t (0, 0)) := heap_setCell_same _ b 5 _ _ c5 h4
  have h6 : (((((((w.setCell ⟨b, 0, none⟩ c0).setCell ⟨b, 1, none⟩ c1).setCell ⟨b, 2, none⟩ c2).setCell ⟨b, 3, none⟩ c3).setCell ⟨b, 4, none⟩ c4).setCell ⟨b, 5, none⟩ c5).setCell ⟨b, 6, none⟩ c6).heap[b]? = some (.cells #[c0, c1, c2, c3, c4, c5, c6] t (0, 0)) := heap_setCell_same _ b 6 _ _ c6 h5
  exact h6
theorem set7_other {w : World} {b : Nat} (c0 c1 c2 c3 c4 c5 c6 : Value) {k : Nat} (h : k ≠ b) : (set7 w b c0 c1 c2 c3 c4 c5 c6).heap[k]? = w.heap[k]? := by
  rw [set7, heap_setCell_other _ _ _ _ h, heap_setCell_other _ _ _ _ h, heap_setCell_other _ _ _ _ h, heap_setCell_other _ _ _ _ h, heap_setCell_other _ _ _ _ h, heap_setCell_other _ _ _ _ h, heap_setCell_other _ _ _ _ h]
theorem set7_size (w : World) (b : Nat) (c0 c1 c2 c3 c4 c5 c6 : Value) : (set7 w b c0 c1 c2 c3 c4 c5 c6).heap.size = w.heap.size := by simp [set7, World.setCell]
theorem below_set7 {B : Nat} {a w : World} (h : RowKit.Below B a w) {b : Nat} (hb : B ≤ b) (c0 c1 c2 c3 c4 c5 c6 : Value) : RowKit.Below B a (set7 w b c0 c1 c2 c3 c4 c5 c6) :=
  ((((((h.setCell (p := ⟨b, 0, none⟩) hb c0).setCell (p := ⟨b, 1, none⟩) hb c1).setCell (p := ⟨b, 2, none⟩) hb c2).setCell (p := ⟨b, 3, none⟩) hb c3).setCell (p := ⟨b, 4, none⟩) hb c4).setCell (p := ⟨b, 5, none⟩) hb c5).setCell (p := ⟨b, 6, none⟩) hb c6
end Go.Proofs.YtmeeombadkgneaaGreat
namespace Go.Proofs.YtmeeombadkgneaaGreat
open Go.Proofs Go.RowKit Go.Shelf Go.Sort Go.Lib

attribute [local go_sem] Oper.semAt_some
theorem RobVs.same {n0 : Nat} {w w' : World} {A : Option Addr} {l : List VA} (h : RobVs n0 w A l) (hs : w'.heap.size = w.heap.size) (ho : ∀ k, n0 ≤ k → w'.heap[k]? = w.heap[k]?) : RobVs n0 w' A l :=
  fun W hW => h W fun k h1 h2 => (hW k h1 (by rw [hs]; exact h2)).trans (ho k h1)
theorem RobV.same {n0 : Nat} {w w' : World} {x : VA} (h : RobV n0 w x) (hs : w'.heap.size = w.heap.size) (ho : ∀ k, n0 ≤ k → w'.heap[k]? = w.heap[k]?) : RobV n0 w' x :=
  fun W hW => h W fun k h1 h2 => (hW k h1 (by rw [hs]; exact h2)).trans (ho k h1)
theorem robVs_nil (n0 : Nat) (w : World) (A : Option Addr) : RobVs n0 w A [] := fun _ _ => ⟨by simp, ⟨0, 0, fun h => absurd h (by simp), fun i h => absurd h (by simp)⟩, fun i h => absurd h (by simp)⟩
abbrev zero7 : Obj := .cells #[.string ⟨#[]⟩, .slice none 0 0, .int .i64 0, .int .i64 0, .slice none 0 0, .slice none 0 0, .slice none 0 0] 29
set_option maxRecDepth 100000 in
set_option maxHeartbeats 2000000 in
theorem copyE_any (x : EA) (w : World) (h : LiesE w x) (hT : TameE x) :
    Calls Tryz.prog 36 #[ev x] w fun e w' => ∃ y : EA, e = .returned (ev y) ∧ keyE y = keyE x ∧ RobE w.heap.size w' y ∧ RowKit.Below w.heap.size w w' := by
  obtain ⟨i0, hi, hz0, hz1, hz2⟩ := info_parts info27
  have I0 := Lib.hid hi
  have Z0 := Lib.hid hz0
  have Z1 := Lib.hid hz1
  have Z2 := Lib.hid hz2
  clear hi hz0 hz1 hz2
  obtain ⟨W0, hW⟩ : ∃ W0, (w.alloc (boxE x 29)).alloc zero7 = W0 := ⟨_, rfl⟩
  have HB := Lib.hid (show RowKit.Below w.heap.size w W0 by rw [← hW]; exact ((RowKit.Below.refl _ _).alloc (Nat.le_refl _) _).alloc (by rw [one_size]; omega) _)
  have HP := Lib.hid (show W0.heap[w.heap.size]? = some (boxE x 29) by rw [← hW]; exact two_fst _ _ _)
  have HQ := Lib.hid (show W0.heap[w.heap.size + 1]? = some zero7 by rw [← hW]; exact two_snd _ _ _)
  have HS := Lib.hid (show W0.heap.size = w.heap.size + 2 by rw [← hW]; exact two_size _ _ _)
  have HL := Lib.hid (h.later HB.out)
  have HL0 := Lib.hid h
  have HT := Lib.hid hT
  have HNM := Lib.hid h.nm
  have hn := hT.n
  have HW := Lib.hid hW
  clear h hT hW
  obtain ⟨z0, z1, z2, z3, z4, z5, z6, f0, f1, f2, f3, f4, f5, f6⟩ := boxE_facts HP.out
  cases hA : x.A with
  | none =>
    have hargs : x.args = [] := by
      obtain ⟨b, o, h1, _⟩ := HL.out.args.at_
      apply List.eq_nil_of_length_eq_zero
      by_cases h0 : 0 < x.args.length
      · have := h1 h0; rw [hA] at this; cases this
      · omega
    have hneq : ∀ W, (binOp .neq 24 (.slice x.A x.args.length x.c) (.slice none 0 0)).run Tryz.prog W = .ok (.bool false) W := fun W => by rw [hA]; exact Go.run_neq_slice_nil (h := Tryz.underlying24) ..
    have HARGS := Lib.hid hargs
    clear hargs hA
    go_enter Tryz.func36, Tryz.ntmps36
    go_upto_region 1 with fail
    rw [HW.out]
    go_wp2_with fail
    have KA := Lib.hid (show RobVs (w.heap.size + 2) W0 x.A x.args by rw [HARGS.out]; exact robVs_nil _ _ _)
    have KB := Lib.hid HB.out
    have KP := Lib.hid HP.out
    have KQ := Lib.hid HQ.out
    have KS := Lib.hid (Nat.le_of_eq HS.out.symm)
    clear HP HQ HARGS
    refine (copyV_any x.val _ (HL0.out.val.later KB.out) HT.out.val.st HT.out.val.ix HT.out.val.xs).mono ?_
    rintro e w4 ⟨y, rfl, hyv, hrob, hb4⟩
    have KP4 := (hb4.block _ (Array.getElem?_eq_some_iff.1 KP.out).1).trans KP.out
    have KQ4 := (hb4.block _ (Array.getElem?_eq_some_iff.1 KQ.out).1).trans KQ.out
    have KA4 := Lib.hid (KA.out.later hb4)
    have hks := KS.out
    have KR4 := Lib.hid (hrob.less hks)
    have KB4 := Lib.hid (KB.out.trans (hb4.mono KB.out.size))
    have HYV := Lib.hid hyv
    clear hrob hb4 hks hyv KA KB
    clear z0 z1 z2 z3 z4 z5 z6 f0 f1 f2 f3 f4 f5 f6
    obtain ⟨z0, z1, z2, z3, z4, z5, z6, f0, f1, f2, f3, f4, f5, f6⟩ := boxE_facts KP4
    obtain ⟨y0, y1, y2, y3, y4, y5, y6, g0, g1, g2, g3, g4, g5, g6⟩ := boxE_facts KQ4
    have hq := (putV_other (w := w4) (b := w.heap.size) (o := 2) (.int .i64 y.v.so) (.int .i64 y.v.nu) (.slice y.a1 y.v.st.length y.c1) (.slice y.a2 y.v.ix.length y.c2) (.slice y.a3 y.v.xs.length y.c3) (by omega : w.heap.size + 1 ≠ w.heap.size)).trans KQ4
    have HF := Lib.hid (set7_same (.string x.nm) (.slice x.A x.args.length x.c) (.int .i64 y.v.so) (.int .i64 y.v.nu) (.slice y.a1 y.v.st.length y.c1) (.slice y.a2 y.v.ix.length y.c2) (.slice y.a3 y.v.xs.length y.c3) hq)
    have hsame : ∀ k, w.heap.size + 2 ≤ k → (set7 (putV w4 w.heap.size 2 (.int .i64 y.v.so) (.int .i64 y.v.nu) (.slice y.a1 y.v.st.length y.c1) (.slice y.a2 y.v.ix.length y.c2) (.slice y.a3 y.v.xs.length y.c3)) (w.heap.size + 1) (.string x.nm) (.slice x.A x.args.length x.c) (.int .i64 y.v.so) (.int .i64 y.v.nu) (.slice y.a1 y.v.st.length y.c1) (.slice y.a2 y.v.ix.length y.c2) (.slice y.a3 y.v.xs.length y.c3)).heap[k]? = w4.heap[k]? := fun k hk => (set7_other _ _ _ _ _ _ _ (by omega)).trans (putV_other _ _ _ _ _ (by omega))
    have hsiz : (set7 (putV w4 w.heap.size 2 (.int .i64 y.v.so) (.int .i64 y.v.nu) (.slice y.a1 y.v.st.length y.c1) (.slice y.a2 y.v.ix.length y.c2) (.slice y.a3 y.v.xs.length y.c3)) (w.heap.size + 1) (.string x.nm) (.slice x.A x.args.length x.c) (.int .i64 y.v.so) (.int .i64 y.v.nu) (.slice y.a1 y.v.st.length y.c1) (.slice y.a2 y.v.ix.length y.c2) (.slice y.a3 y.v.xs.length y.c3)).heap.size = w4.heap.size := by rw [set7_size, putV_size]
    have HKA := Lib.hid ((KA4.out.same hsiz hsame).less (show w.heap.size ≤ w.heap.size + 2 by omega))
    have HKR := Lib.hid ((KR4.out.same hsiz hsame).less (show w.heap.size ≤ w.heap.size + 2 by omega))
    have LF := Lib.hid (below_set7 (below_putV KB4.out (Nat.le_refl _) 2 (.int .i64 y.v.so) (.int .i64 y.v.nu) (.slice y.a1 y.v.st.length y.c1) (.slice y.a2 y.v.ix.length y.c2) (.slice y.a3 y.v.xs.length y.c3)) (show w.heap.size ≤ w.heap.size + 1 by omega) (.string x.nm) (.slice x.A x.args.length x.c) (.int .i64 y.v.so) (.int .i64 y.v.nu) (.slice y.a1 y.v.st.length y.c1) (.slice y.a2 y.v.ix.length y.c2) (.slice y.a3 y.v.xs.length y.c3))
    clear hq hsame hsiz KP4 KQ4 KP KQ
    go_wp2_with fail
    clear z0 z1 z2 z3 z4 z5 z6 f0 f1 f2 f3 f4 f5 f6 y0 y1 y2 y3 y4 y5 y6 g0 g1 g2 g3 g4 g5 g6
    obtain ⟨y0, y1, y2, y3, y4, y5, y6, _, _, _, _, _, _, _⟩ := boxE_facts HF.out
    refine bodyPost_ret (v := .agg #[.string x.nm, .slice x.A x.args.length x.c, .int .i64 y.v.so, .int .i64 y.v.nu, .slice y.a1 y.v.st.length y.c1, .slice y.a2 y.v.ix.length y.c2, .slice y.a3 y.v.xs.length y.c3]) (by simp [results, Tryz.results36, go_sem, y0, y1, y2, y3, y4, y5, y6]) rfl ⟨⟨x.nm, x.args, x.A, x.c, y⟩, rfl, by unfold keyE; rw [HYV.out], fun W hW => ⟨HNM.out, HKA.out W hW, HKR.out W hW⟩, LF.out⟩
  | some a =>
    have hneq : ∀ W, (binOp .neq 24 (.slice x.A x.args.length x.c) (.slice none 0 0)).run Tryz.prog W = .ok (.bool true) W := fun W => by rw [hA]; exact Go.run_neq_slice_nil (h := Tryz.underlying24) ..
    have HARG := Lib.hid HL.out.args
    clear hA
    go_enter Tryz.func36, Tryz.ntmps36
    go_upto_region 1 with fail
    rw [HW.out]
    have BY : Hid (i0.bytes * x.args.length ≤ 281474976710656) := by show _ ≤ _; rw [Z2.out]; omega
    have ML : Hid (x.args.length ≤ maxLen) := by show _ ≤ _; unfold maxLen; omega
    go_wp2_with (at_make; refine wpList_make_full _ rfl _ _ 24 rfl W0.heap.size 27 i0 _ 5 Tryz.underlying24 I0.out Z0.out Z1.out .i64 .i64 _ _ x.args.length rfl rfl rfl rfl BY.out ML.out (Nat.le_refl _) ?_; intro w1 hown1 hgrow1; clear z0 z1 z2 z3 z4 z5 z6 f0 f1 f2 f3 f4 f5 f6; have B1 : RowKit.Below W0.heap.size W0 w1 := (RowKit.Below.refl _ _).grown hgrow1 (Nat.le_refl _) (fun k e => by cases e); obtain ⟨z0, z1, z2, z3, z4, z5, z6, f0, f1, f2, f3, f4, f5, f6⟩ := boxE_facts ((B1.block _ (Array.getElem?_eq_some_iff.1 HP.out).1).trans HP.out); clear B1)
    have M0 : MVI W0 x.args.length [] w1 := by
      rcases hown1.2 with ⟨h, _⟩ | ⟨g, cap', cur, hv, h1, h2, h3, h4, h5, h6⟩
      · cases h
      · cases hv
        exact ⟨cur, [], rfl, h2, h5, by simp [flatV], fun _ h => by simp at h, (RowKit.Below.refl _ _).grown hgrow1 (Nat.le_refl _) (fun k e => by cases e)⟩
    clear hown1 hgrow1
    clear z0 z1 z2 z3 z4 z5 z6 f0 f1 f2 f3 f4 f5 f6
    go_loopw [16] (fun i wr => ∃ k : Nat, k ≤ x.args.length ∧ i = .int .i64 k ∧ Hid (MVI W0 x.args.length ((vls x.args).take k) wr)) (fun i _ => x.args.length - (intOf i).toNat)
    case atStart => exact ⟨0, Nat.zero_le _, rfl, M0⟩
    case round =>
      obtain ⟨k, hk, rfl, cur, xs, hM⟩ := hrel
      have HM := Lib.hid hM
      have hBr := hM.below
      have hlen : xs.length = k := by
        have := congrArg List.length hM.outs
        simp only [List.length_map, List.length_take, vls_len] at this
        omega
      by_cases hlt : k < x.args.length
      · obtain ⟨b, o, ha, hc⟩ := (HARG.out.later hBr).at_
        have ha := ha (by omega)
        rw [ha] at *
        obtain ⟨c0, c1, c2, c3, c4⟩ := hc k hlt
        have L1 := Lib.hid ((HARG.out.each k hlt).later hBr)
        have T1 := HT.out.args x.args[k] (List.getElem_mem hlt)
        have HT1 := Lib.hid T1
        have htk := Lib.hid (show (vls x.args).take (k + 1) = (vls x.args).take k ++ [x.args[k].v] by rw [List.take_succ_eq_append_getElem (by rw [vls_len]; exact hlt)]; simp [vls])
        have hsz := hBr.size
        clear hM hc T1
        have HLT := Lib.hid hlt
        generalize x.args[k] = q at *
        clear HARG HL
        go_wp2_with fail
        refine (copyV_any q _ (L1.out.later ((RowKit.Below.refl _ _).alloc (Nat.le_refl _) _)) HT1.out.st HT1.out.ix HT1.out.xs).mono ?_
        rintro e w2 ⟨y, rfl, hyv, hrob, hb2⟩
        have hb3 : RowKit.Below wr.heap.size wr w2 := ((RowKit.Below.refl _ _).alloc (Nat.le_refl _) _).trans (hb2.mono (by simp))
        have HM2 := Lib.hid (HM.out.later hb3)
        have hcs := HM2.out.size
        have hrow := HM2.out.row
        have hrz := (Array.getElem?_eq_some_iff.1 HM.out.row).1
        have HR := Lib.hid (show RobV (W0.heap.size + 1) w2 y from hrob.less (by simp; omega))
        have HST := Lib.hid (show MVI W0 x.args.length ((vls x.args).take k ++ [q.v]) (putV w2 W0.heap.size (k * 5) (.int .i64 y.v.so) (.int .i64 y.v.nu) (.slice y.a1 y.v.st.length y.c1) (.slice y.a2 y.v.ix.length y.c2) (.slice y.a3 y.v.xs.length y.c3)) by have := HM2.out.step (by have := HLT.out; omega) HR.out; rwa [hlen, show [y.v] = [q.v] by rw [hyv]] at this)
        obtain ⟨y0, hy0⟩ : ∃ y, cur[k * 5]? = some y := ⟨_, Array.getElem?_eq_getElem (by have := HLT.out; omega)⟩
        obtain ⟨y1, hy1⟩ : ∃ y, cur[k * 5 + 1]? = some y := ⟨_, Array.getElem?_eq_getElem (by have := HLT.out; omega)⟩
        obtain ⟨y2, hy2⟩ : ∃ y, cur[k * 5 + 2]? = some y := ⟨_, Array.getElem?_eq_getElem (by have := HLT.out; omega)⟩
        obtain ⟨y3, hy3⟩ : ∃ y, cur[k * 5 + 3]? = some y := ⟨_, Array.getElem?_eq_getElem (by have := HLT.out; omega)⟩
        obtain ⟨y4, hy4⟩ : ∃ y, cur[k * 5 + 4]? = some y := ⟨_, Array.getElem?_eq_getElem (by have := HLT.out; omega)⟩
        have z0 := cell_row hrow hy0
        have z1 := cell_row hrow hy1
        have z2 := cell_row hrow hy2
        have z3 := cell_row hrow hy3
        have z4 := cell_row hrow hy4
        have f0 := frozen_of_row w2 W0.heap.size (k * 5) _ _ hrow
        have f1 := frozen_of_row w2 W0.heap.size (k * 5 + 1) _ _ hrow
        have f2 := frozen_of_row w2 W0.heap.size (k * 5 + 2) _ _ hrow
        have f3 := frozen_of_row w2 W0.heap.size (k * 5 + 3) _ _ hrow
        have f4 := frozen_of_row w2 W0.heap.size (k * 5 + 4) _ _ hrow
        have HYV := Lib.hid hyv
        clear hrow hy0 hy1 hy2 hy3 hy4 hb2 hb3 hrob hcs c0 c1 c2 c3 c4 hyv hrz
        go_wp2_with fail
        go_roundw
        case rel => exact ⟨k + 1, by omega, by go_num, by rw [htk.out]; exact HST.out⟩
        case measure => simp [intOf]; omega
      · have hrob := hM.rob (by omega) ML.out
        have houts := hM.outs
        rw [List.take_of_length_le (by rw [vls_len]; omega)] at houts
        obtain ⟨z0, z1, z2, z3, z4, z5, z6, f0, f1, f2, f3, f4, f5, f6⟩ := boxE_facts ((hBr.block _ (Array.getElem?_eq_some_iff.1 HP.out).1).trans HP.out)
        have hP1 := (hBr.block _ (Array.getElem?_eq_some_iff.1 HP.out).1).trans HP.out
        have hQ1 := (hBr.block _ (Array.getElem?_eq_some_iff.1 HQ.out).1).trans HQ.out
        have hs0 := HS.out
        have hbs := hBr.size
        generalize wr = w3 at *
        have KA := Lib.hid (show RobVs (w.heap.size + 2) (w3.setCell ⟨w.heap.size, 1, none⟩ (.slice (some ⟨W0.heap.size, 0, none⟩) x.args.length x.args.length)) (some ⟨W0.heap.size, 0, none⟩) xs from (hrob.less (show w.heap.size + 2 ≤ W0.heap.size by omega)).set (by show w.heap.size < w.heap.size + 2; omega) _)
        have KL := Lib.hid (show vls xs = vls x.args from houts)
        have KN := Lib.hid (show xs.length = x.args.length by omega)
        have KB := Lib.hid (show RowKit.Below w.heap.size w (w3.setCell ⟨w.heap.size, 1, none⟩ (.slice (some ⟨W0.heap.size, 0, none⟩) x.args.length x.args.length)) from (HB.out.trans (hBr.mono HB.out.size)).setCell (Nat.le_refl _) _)
        have KP := Lib.hid (heap_setCell_same w3 w.heap.size 1 _ _ (.slice (some ⟨W0.heap.size, 0, none⟩) x.args.length x.args.length) hP1)
        have KQ := Lib.hid ((set_other w3 w.heap.size 1 (.slice (some ⟨W0.heap.size, 0, none⟩) x.args.length x.args.length) (by omega : w.heap.size + 1 ≠ w.heap.size)).trans hQ1)
        have KS := Lib.hid (show w.heap.size + 2 ≤ (w3.setCell ⟨w.heap.size, 1, none⟩ (.slice (some ⟨W0.heap.size, 0, none⟩) x.args.length x.args.length)).heap.size by rw [set_size]; omega)
        clear hrob houts hP1 hQ1 hs0 hbs hM HM hBr HARG HP HQ hlen
        go_wp2_with fail
        refine (copyV_any x.val _ (HL0.out.val.later KB.out) HT.out.val.st HT.out.val.ix HT.out.val.xs).mono ?_
        rintro e w4 ⟨y, rfl, hyv, hrob, hb4⟩
        have KP4 := (hb4.block _ (Array.getElem?_eq_some_iff.1 KP.out).1).trans KP.out
        have KQ4 := (hb4.block _ (Array.getElem?_eq_some_iff.1 KQ.out).1).trans KQ.out
        have KA4 := Lib.hid (KA.out.later hb4)
        have hks := KS.out
        have KR4 := Lib.hid (hrob.less hks)
        have KB4 := Lib.hid (KB.out.trans (hb4.mono KB.out.size))
        have HYV := Lib.hid hyv
        clear hrob hb4 hks hyv KA KB
        clear z0 z1 z2 z3 z4 z5 z6 f0 f1 f2 f3 f4 f5 f6
        obtain ⟨z0, z1, z2, z3, z4, z5, z6, f0, f1, f2, f3, f4, f5, f6⟩ := boxE_facts KP4
        obtain ⟨y0, y1, y2, y3, y4, y5, y6, g0, g1, g2, g3, g4, g5, g6⟩ := boxE_facts KQ4
        have hq := (putV_other (w := w4) (b := w.heap.size) (o := 2) (.int .i64 y.v.so) (.int .i64 y.v.nu) (.slice y.a1 y.v.st.length y.c1) (.slice y.a2 y.v.ix.length y.c2) (.slice y.a3 y.v.xs.length y.c3) (by omega : w.heap.size + 1 ≠ w.heap.size)).trans KQ4
        have HF := Lib.hid (set7_same (.string x.nm) (.slice (some ⟨W0.heap.size, 0, none⟩) x.args.length x.args.length) (.int .i64 y.v.so) (.int .i64 y.v.nu) (.slice y.a1 y.v.st.length y.c1) (.slice y.a2 y.v.ix.length y.c2) (.slice y.a3 y.v.xs.length y.c3) hq)
        have hsame : ∀ k, w.heap.size + 2 ≤ k → (set7 (putV w4 w.heap.size 2 (.int .i64 y.v.so) (.int .i64 y.v.nu) (.slice y.a1 y.v.st.length y.c1) (.slice y.a2 y.v.ix.length y.c2) (.slice y.a3 y.v.xs.length y.c3)) (w.heap.size + 1) (.string x.nm) (.slice (some ⟨W0.heap.size, 0, none⟩) x.args.length x.args.length) (.int .i64 y.v.so) (.int .i64 y.v.nu) (.slice y.a1 y.v.st.length y.c1) (.slice y.a2 y.v.ix.length y.c2) (.slice y.a3 y.v.xs.length y.c3)).heap[k]? = w4.heap[k]? := fun k hk => (set7_other _ _ _ _ _ _ _ (by omega)).trans (putV_other _ _ _ _ _ (by omega))
        have hsiz : (set7 (putV w4 w.heap.size 2 (.int .i64 y.v.so) (.int .i64 y.v.nu) (.slice y.a1 y.v.st.length y.c1) (.slice y.a2 y.v.ix.length y.c2) (.slice y.a3 y.v.xs.length y.c3)) (w.heap.size + 1) (.string x.nm) (.slice (some ⟨W0.heap.size, 0, none⟩) x.args.length x.args.length) (.int .i64 y.v.so) (.int .i64 y.v.nu) (.slice y.a1 y.v.st.length y.c1) (.slice y.a2 y.v.ix.length y.c2) (.slice y.a3 y.v.xs.length y.c3)).heap.size = w4.heap.size := by rw [set7_size, putV_size]
        have HKA := Lib.hid ((KA4.out.same hsiz hsame).less (show w.heap.size ≤ w.heap.size + 2 by omega))
        have HKR := Lib.hid ((KR4.out.same hsiz hsame).less (show w.heap.size ≤ w.heap.size + 2 by omega))
        have LF := Lib.hid (below_set7 (below_putV KB4.out (Nat.le_refl _) 2 (.int .i64 y.v.so) (.int .i64 y.v.nu) (.slice y.a1 y.v.st.length y.c1) (.slice y.a2 y.v.ix.length y.c2) (.slice y.a3 y.v.xs.length y.c3)) (show w.heap.size ≤ w.heap.size + 1 by omega) (.string x.nm) (.slice (some ⟨W0.heap.size, 0, none⟩) x.args.length x.args.length) (.int .i64 y.v.so) (.int .i64 y.v.nu) (.slice y.a1 y.v.st.length y.c1) (.slice y.a2 y.v.ix.length y.c2) (.slice y.a3 y.v.xs.length y.c3))
        clear hq hsame hsiz KP4 KQ4 KP KQ
        go_wp2_with fail
        clear z0 z1 z2 z3 z4 z5 z6 f0 f1 f2 f3 f4 f5 f6 y0 y1 y2 y3 y4 y5 y6 g0 g1 g2 g3 g4 g5 g6
        obtain ⟨y0, y1, y2, y3, y4, y5, y6, _, _, _, _, _, _, _⟩ := boxE_facts HF.out
        refine bodyPost_ret (v := .agg #[.string x.nm, .slice (some ⟨W0.heap.size, 0, none⟩) x.args.length x.args.length, .int .i64 y.v.so, .int .i64 y.v.nu, .slice y.a1 y.v.st.length y.c1, .slice y.a2 y.v.ix.length y.c2, .slice y.a3 y.v.xs.length y.c3]) (by simp [results, Tryz.results36, go_sem, y0, y1, y2, y3, y4, y5, y6]) rfl ⟨⟨x.nm, xs, (some ⟨W0.heap.size, 0, none⟩), x.args.length, y⟩, by rw [← KN.out], by unfold keyE; rw [KL.out, HYV.out], fun W hW => ⟨HNM.out, HKA.out W hW, HKR.out W hW⟩, LF.out⟩
end Go.Proofs.YtmeeombadkgneaaGreat
