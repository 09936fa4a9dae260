/-
  What Valid returns of a model, and what IndexFunc returns where Set calls it; conditions: the model and the entry lie in memory.
  What copyModel returns of a model: the same entries in memory of their own; conditions: the model lies in memory, its lists are not too long.
  What the document's Set returns: the model with the entry in its place or at the end; conditions: the model and the entry lie in memory, the model is not long.
-/
import Derived.Test.YtmeeombadkgneaaZVa26
import Derived.Test.YtmeeombadkgneaaZVa27
namespace Go.Proofs.Ytmeeombadkgneaa
open Go.Proofs Go.RowKit Go.Shelf Go.Sort Go.Lib

attribute [local go_sem] Oper.semAt_some
/-- The first entry of a model that is of an entry's place, or -1. -/
def IdxM (l : List EA) (y : EA) (r : Int) : Prop :=
  (∃ (k : Nat) (h : k < l.length), r = (k : Int) ∧ placeB l[k] y = true ∧ ∀ j (hj : j < k), placeB (l[j]'(by omega)) y = false) ∨ (r = -1 ∧ ∀ j (h : j < l.length), placeB l[j] y = false)
theorem seek_place (x y : EA) : decide (cmpE x y = 0) = placeB x y := by
  rw [← place_eq]
  exact rfl
end Go.Proofs.Ytmeeombadkgneaa
namespace Go.Proofs.Ytmeeombadkgneaa
open Go.Proofs Go.RowKit Go.Shelf Go.Sort Go.Lib

attribute [local go_sem] Oper.semAt_some
theorem take_put7 (l : List Value) (k : Nat) (h : k + 7 ≤ l.length) (c0 c1 c2 c3 c4 c5 c6 : Value) :
    (((((((l.set k c0).set (k + 1) c1).set (k + 2) c2).set (k + 3) c3).set (k + 4) c4).set (k + 5) c5).set (k + 6) c6).take (k + 7) = l.take k ++ [c0, c1, c2, c3, c4, c5, c6] := by
  apply List.ext_getElem?
  intro i
  by_cases h1 : i < k
  · rw [List.getElem?_append_left (by simp; omega), List.getElem?_take_of_lt (by omega), List.getElem?_take_of_lt h1]
    rw [List.getElem?_set_ne (by omega), List.getElem?_set_ne (by omega), List.getElem?_set_ne (by omega), List.getElem?_set_ne (by omega), List.getElem?_set_ne (by omega), List.getElem?_set_ne (by omega), List.getElem?_set_ne (by omega)]
  · rw [List.getElem?_append_right (by simp; omega)]
    have hl : (l.take k).length = k := by simp; omega
    rw [hl]
    obtain ⟨j, rfl⟩ : ∃ j, i = k + j := ⟨i - k, by omega⟩
    rw [show k + j - k = j by omega]
    match j with
    | 0 => rw [List.getElem?_take_of_lt (by omega)]; simp [List.getElem?_set]; omega
    | 1 => rw [List.getElem?_take_of_lt (by omega)]; simp [List.getElem?_set]; omega
    | 2 => rw [List.getElem?_take_of_lt (by omega)]; simp [List.getElem?_set]; omega
    | 3 => rw [List.getElem?_take_of_lt (by omega)]; simp [List.getElem?_set]; omega
    | 4 => rw [List.getElem?_take_of_lt (by omega)]; simp [List.getElem?_set]; omega
    | 5 => rw [List.getElem?_take_of_lt (by omega)]; simp [List.getElem?_set]; omega
    | 6 => rw [List.getElem?_take_of_lt (by omega)]; simp [List.getElem?_set]; omega
    | j + 7 => rw [List.getElem?_eq_none (by simp; omega)]; simp
abbrev cells7E (x : EA) : List Value := [.string x.nm, .slice x.A x.args.length x.c, .int .i64 x.val.v.so, .int .i64 x.val.v.nu, .slice x.val.a1 x.val.v.st.length x.val.c1, .slice x.val.a2 x.val.v.ix.length x.val.c2, .slice x.val.a3 x.val.v.xs.length x.val.c3]
def flatE (l : List EA) : List Value := (l.map cells7E).flatten
theorem flatE_snoc (l : List EA) (x : EA) : flatE (l ++ [x]) = flatE l ++ cells7E x := by simp [flatE]
theorem flatE_at : ∀ (l : List EA) (i : Nat) (h : i < l.length) (j : Nat), j < 7 → (flatE l)[i * 7 + j]? = (cells7E l[i])[j]?
  | [], _, h, _, _ => absurd h (by simp)
  | x :: l, 0, _, j, hj => by
    show (cells7E x ++ flatE l)[0 * 7 + j]? = _
    rw [List.getElem?_append_left (by show 0 * 7 + j < 7; omega), Nat.zero_mul, Nat.zero_add]; rfl
  | x :: l, i + 1, h, j, hj => by
    show (cells7E x ++ flatE l)[(i + 1) * 7 + j]? = _
    rw [List.getElem?_append_right (by show 7 ≤ _; omega)]
    rw [show (i + 1) * 7 + j - (cells7E x).length = i * 7 + j by show (i + 1) * 7 + j - 7 = _; omega]
    exact flatE_at l i (by simpa using h) j hj
/-- In the midst of a model's making: a row of n entries in block w.heap.size, of which the first ones are written. -/
structure ME (w : World) (n : Nat) (ks : List (ByteArray × List Vl × Vl)) (wr : World) (cur : Array Value) (xs : List EA) : Prop where
  outs : xs.map keyE = ks
  row : wr.heap[w.heap.size]? = some (.cells cur 40 (0, 0))
  size : cur.size = n * 7
  head : cur.toList.take (xs.length * 7) = flatE xs
  each : ∀ x ∈ xs, RobE (w.heap.size + 1) wr x
  below : RowKit.Below w.heap.size w wr
def MEI (w : World) (n : Nat) (ks : List (ByteArray × List Vl × Vl)) (wr : World) : Prop := ∃ cur xs, ME w n ks wr cur xs
theorem ME.later {w : World} {n : Nat} {ks : List (ByteArray × List Vl × Vl)} {wr w' : World} {cur : Array Value} {xs : List EA} (h : ME w n ks wr cur xs) (hb : RowKit.Below wr.heap.size wr w') : ME w n ks w' cur xs :=
  ⟨h.outs, (hb.block _ (Array.getElem?_eq_some_iff.1 h.row).1).trans h.row, h.size, h.head, fun x hx => (h.each x hx).later hb, h.below.trans (hb.mono h.below.size)⟩
/-- The seven cells of an entry's place are written. -/
abbrev putE (w : World) (b o : Nat) (c0 c1 c2 c3 c4 c5 c6 : Value) : World := (((((((w.setCell ⟨b, o, none⟩ c0).setCell ⟨b, o + 1, none⟩ c1).setCell ⟨b, o + 2, none⟩ c2).setCell ⟨b, o + 3, none⟩ c3).setCell ⟨b, o + 4, none⟩ c4).setCell ⟨b, o + 5, none⟩ c5).setCell ⟨b, o + 6, none⟩ c6)
theorem putE_same {w : World} {b o : Nat} {t : TypeId} {cur : Array Value} (c0 c1 c2 c3 c4 c5 c6 : Value) (h : w.heap[b]? = some (.cells cur t (0, 0))) :
    (putE w b o c0 c1 c2 c3 c4 c5 c6).heap[b]? = some (.cells (((((((cur.setIfInBounds o c0).setIfInBounds (o + 1) c1).setIfInBounds (o + 2) c2).setIfInBounds (o + 3) c3).setIfInBounds (o + 4) c4).setIfInBounds (o + 5) c5).setIfInBounds (o + 6) c6) t (0, 0)) := by
  have h0 : (w.setCell ⟨b, o, none⟩ c0).heap[b]? = some (.cells (cur.setIfInBounds o c0) t (0, 0)) := heap_setCell_same _ b o _ _ c0 h
  have h1 : ((w.setCell ⟨b, o, none⟩ c0).setCell ⟨b, o + 1, none⟩ c1).heap[b]? = some (.cells ((cur.setIfInBounds o c0).setIfInBounds (o + 1) c1) t (0, 0)) := heap_setCell_same _ b (o + 1) _ _ c1 h0
  have h2 : (((w.setCell ⟨b, o, none⟩ c0).setCell ⟨b, o + 1, none⟩ c1).setCell ⟨b, o + 2, none⟩ c2).heap[b]? = some (.cells (((cur.setIfInBounds o c0).setIfInBounds (o + 1) c1).setIfInBounds (o + 2) c2) t (0, 0)) := heap_setCell_same _ b (o + 2) _ _ c2 h1
  have h3 : ((((w.setCell ⟨b, o, none⟩ c0).setCell ⟨b, o + 1, none⟩ c1).setCell ⟨b, o + 2, none⟩ c2).setCell ⟨b, o + 3, none⟩ c3).heap[b]? = some (.cells ((((cur.setIfInBounds o c0).setIfInBounds (o + 1) c1).setIfInBounds (o + 2) c2).setIfInBounds (o + 3) c3) t (0, 0)) := heap_setCell_same _ b (o + 3) _ _ c3 h2
  have h4 : (((((w.setCell ⟨b, o, none⟩ c0).setCell ⟨b, o + 1, none⟩ c1).setCell ⟨b, o + 2, none⟩ c2).setCell ⟨b, o + 3, none⟩ c3).setCell ⟨b, o + 4, none⟩ c4).heap[b]? = some (.cells (((((cur.setIfInBounds o c0).setIfInBounds (o + 1) c1).setIfInBounds (o + 2) c2).setIfInBounds (o + 3) c3).setIfInBounds (o + 4) c4) t (0, 0)) := heap_setCell_same _ b (o + 4) _ _ c4 h3
  have h5 : ((((((w.setCell ⟨b, o, none⟩ c0).setCell ⟨b, o + 1, none⟩ c1).setCell ⟨b, o + 2, none⟩ c2).setCell ⟨b, o + 3, none⟩ c3).setCell ⟨b, o + 4, none⟩ c4).setCell ⟨b, o + 5, none⟩ c5).heap[b]? = some (.cells ((((((cur.setIfInBounds o c0).setIfInBounds (o + 1) c1).setIfInBounds (o + 2) c2).setIfInBounds (o + 3) c3).setIfInBounds (o + 4) c4).setIfInBounds (o + 5) c5) t (0, 0)) := heap_setCell_same _ b (o + 5) _ _ c5 h4
  have h6 : (((((((w.setCell ⟨b, o, none⟩ c0).setCell ⟨b, o + 1, none⟩ c1).setCell ⟨b, o + 2, none⟩ c2).setCell ⟨b, o + 3, none⟩ c3).setCell ⟨b, o + 4, none⟩ c4).setCell ⟨b, o + 5, none⟩ c5).setCell ⟨b, o + 6, none⟩ c6).heap[b]? = some (.cells (((((((cur.setIfInBounds o c0).setIfInBounds (o + 1) c1).setIfInBounds (o + 2) c2).setIfInBounds (o + 3) c3).setIfInBounds (o + 4) c4).setIfInBounds (o + 5) c5).setIfInBounds (o + 6) c6) t (0, 0)) := heap_setCell_same _ b (o + 6) _ _ c6 h5
  exact h6
theorem putE_other {w : World} {b o : Nat} (c0 c1 c2 c3 c4 c5 c6 : Value) {k : Nat} (h : k ≠ b) : (putE w b o c0 c1 c2 c3 c4 c5 c6).heap[k]? = w.heap[k]? := by
  rw [putE, heap_setCell_other _ _ _ _ h, heap_setCell_other _ _ _ _ h, heap_setCell_other _ _ _ _ h, heap_setCell_other _ _ _ _ h, heap_setCell_other _ _ _ _ h, heap_setCell_other _ _ _ _ h, heap_setCell_other _ _ _ _ h]
theorem putE_size (w : World) (b o : Nat) (c0 c1 c2 c3 c4 c5 c6 : Value) : (putE w b o c0 c1 c2 c3 c4 c5 c6).heap.size = w.heap.size := by simp [putE, World.setCell]
theorem below_putE {B : Nat} {a w : World} (h : RowKit.Below B a w) {b : Nat} (hb : B ≤ b) (o : Nat) (c0 c1 c2 c3 c4 c5 c6 : Value) : RowKit.Below B a (putE w b o c0 c1 c2 c3 c4 c5 c6) :=
  (((((((h.setCell (p := ⟨b, o, none⟩) hb c0).setCell (p := ⟨b, o + 1, none⟩) hb c1).setCell (p := ⟨b, o + 2, none⟩) hb c2).setCell (p := ⟨b, o + 3, none⟩) hb c3).setCell (p := ⟨b, o + 4, none⟩) hb c4).setCell (p := ⟨b, o + 5, none⟩) hb c5).setCell (p := ⟨b, o + 6, none⟩) hb c6)
theorem RobE.same {n0 : Nat} {w w' : World} {x : EA} (h : RobE n0 w x) (hs : w'.heap.size = w.heap.size) (ho : ∀ k, n0 ≤ k → w'.heap[k]? = w.heap[k]?) : RobE n0 w' x :=
  fun W hW => h W fun k h1 h2 => (hW k h1 (by rw [hs]; exact h2)).trans (ho k h1)
theorem ME.step {w : World} {n : Nat} {ks : List (ByteArray × List Vl × Vl)} {wr : World} {cur : Array Value} {xs : List EA} (h : ME w n ks wr cur xs) (hk : xs.length < n) {x : EA} (hx : RobE (w.heap.size + 1) wr x) :
    MEI w n (ks ++ [keyE x]) (putE wr w.heap.size (xs.length * 7) (.string x.nm) (.slice x.A x.args.length x.c) (.int .i64 x.val.v.so) (.int .i64 x.val.v.nu) (.slice x.val.a1 x.val.v.st.length x.val.c1) (.slice x.val.a2 x.val.v.ix.length x.val.c2) (.slice x.val.a3 x.val.v.xs.length x.val.c3)) := by
  have rob : ∀ {y : EA}, RobE (w.heap.size + 1) wr y → RobE (w.heap.size + 1) (putE wr w.heap.size (xs.length * 7) (.string x.nm) (.slice x.A x.args.length x.c) (.int .i64 x.val.v.so) (.int .i64 x.val.v.nu) (.slice x.val.a1 x.val.v.st.length x.val.c1) (.slice x.val.a2 x.val.v.ix.length x.val.c2) (.slice x.val.a3 x.val.v.xs.length x.val.c3)) y :=
    fun hr => hr.same (putE_size _ _ _ _ _ _ _ _ _ _) fun k hk => putE_other _ _ _ _ _ _ _ (by omega)
  refine ⟨_, xs ++ [x], by rw [List.map_append, h.outs]; rfl, putE_same _ _ _ _ _ _ _ h.row, by simp [h.size], ?_, ?_, below_putE h.below (Nat.le_refl _) _ _ _ _ _ _ _ _⟩
  · have hs' : cur.toList.length = n * 7 := by rw [Array.length_toList]; exact h.size
    rw [flatE_snoc, ← h.head, List.length_append]
    simp only [Array.toList_setIfInBounds, List.length_singleton]
    rw [Nat.add_mul, Nat.one_mul, take_put7 _ _ (by rw [hs']; omega)]
  · intro y hy
    rcases List.mem_append.1 hy with hy | hy
    · exact rob (h.each y hy)
    · simp at hy; subst hy; exact rob hx
/-- A model that lies in blocks from n0 on. -/
def RobM (n0 : Nat) (w : World) (A : Option Addr) (l : List EA) : Prop := ∀ W : World, (∀ k, n0 ≤ k → k < w.heap.size → W.heap[k]? = w.heap[k]?) → LiesM W A l
theorem RobM.here {n0 : Nat} {w : World} {A : Option Addr} {l : List EA} (h : RobM n0 w A l) : LiesM w A l := h w fun _ _ _ => rfl
theorem RobM.later {n0 : Nat} {w w' : World} {A : Option Addr} {l : List EA} (h : RobM n0 w A l) (hb : RowKit.Below w.heap.size w w') : RobM n0 w' A l :=
  fun W hW => h W fun k h1 h2 => (hW k h1 (Nat.lt_of_lt_of_le h2 hb.size)).trans (hb.block k h2)
/-- In the end the model lies in new memory. -/
theorem ME.rob {w : World} {n : Nat} {ks : List (ByteArray × List Vl × Vl)} {wr : World} {cur : Array Value} {xs : List EA} (h : ME w n ks wr cur xs) (hn : xs.length = n) (hm : n ≤ maxLen) : RobM w.heap.size wr (some ⟨w.heap.size, 0, none⟩) xs := by
  intro W hW
  have hgW : W.heap[w.heap.size]? = some (.cells cur 40 (0, 0)) := (hW _ (Nat.le_refl _) (Array.getElem?_eq_some_iff.1 h.row).1).trans h.row
  refine ⟨by rw [hn]; exact hm, ⟨w.heap.size, 0, fun _ => rfl, fun i hi => ?_⟩, fun i hi => h.each xs[i] (List.getElem_mem hi) W fun k a b => hW k (by omega) b⟩
  have hc : ∀ j, j < 7 → W.cell? ⟨w.heap.size, 0 + i * 7 + j, none⟩ = (cells7E xs[i])[j]? := fun j hj => by
    have := flatE_at xs i hi j hj
    rw [← h.head, List.getElem?_take_of_lt (by omega)] at this
    rw [← this]
    simp [World.cell?, hgW]
  exact ⟨hc 0 (by omega), hc 1 (by omega), hc 2 (by omega), hc 3 (by omega), hc 4 (by omega), hc 5 (by omega), hc 6 (by omega)⟩
theorem info29c : (Try.prog.info? 40).map (fun i => (i.zero, i.size, i.bytes)) = some (some (.agg #[.string ⟨#[]⟩, .slice none 0 0, .int .i64 0, .int .i64 0, .slice none 0 0, .slice none 0 0, .slice none 0 0]), 7, 128) := by kernel_rfl
end Go.Proofs.Ytmeeombadkgneaa
namespace Go.Proofs.Ytmeeombadkgneaa
open Go.Proofs Go.RowKit Go.Shelf Go.Sort Go.Lib

attribute [local go_sem] Oper.semAt_some
/-- A row of entries that a growing list owns holds a model. -/
theorem owns_lies {w : World} {base : Nat} {v : Value} {l : List EA} (h : w.ownsRow base 40 7 v l.length (flatE l)) (he : ∀ x ∈ l, LiesE w x) (hm : l.length ≤ maxLen) : ∃ A c, v = .slice A l.length c ∧ LiesM w A l := by
  rcases h.2 with ⟨hv, hn⟩ | ⟨g, cap, cur, hv, h1, h2, h3, h4, h5, h6⟩
  · exact ⟨none, 0, by rw [hv, hn], hm, ⟨0, 0, fun h => by omega, fun i hi => by omega⟩, fun i hi => by omega⟩
  · refine ⟨_, cap, hv, hm, ⟨g, 0, fun _ => rfl, fun i hi => ?_⟩, fun i hi => he _ (List.getElem_mem hi)⟩
    have hc : ∀ j, j < 7 → w.cell? ⟨g, 0 + i * 7 + j, none⟩ = (cells7E l[i])[j]? := fun j hj => by
      have := flatE_at l i hi j hj
      rw [← h6, List.getElem?_take_of_lt (by omega)] at this
      rw [← this]
      simp [World.cell?, h2]
    exact ⟨hc 0 (by omega), hc 1 (by omega), hc 2 (by omega), hc 3 (by omega), hc 4 (by omega), hc 5 (by omega), hc 6 (by omega)⟩
theorem ownsE_below {w w' : World} {base : Nat} {v : Value} {n : Nat} {xs : List Value} (h : w.ownsRow base 40 7 v n xs) (hb : RowKit.Below w.heap.size w w') : w'.ownsRow base 40 7 v n xs := by
  refine ⟨h.1, ?_⟩
  rcases h.2 with h | ⟨g, cap, cur, hv, h1, h2, h3⟩
  · exact .inl h
  · exact .inr ⟨g, cap, cur, hv, h1, (hb.block g (Array.getElem?_eq_some_iff.1 h2).1).trans h2, h3⟩
theorem news7 (W : World) (x : EA) (bk : Nat) (hb : bk = W.heap.size) :
    ∀ (j : Nat) (u : Value), (cells7E x)[j]? = some u → (W.alloc (boxE x 40)).cell? ((⟨bk, 0, none⟩ : Addr).add j) = some u := by
  subst hb
  intro j u hj
  have S := sevenE_new W x 40
  match j, hj with
  | 0, hj => simp at hj; subst hj; exact S.c0
  | 1, hj => simp at hj; subst hj; exact S.c1
  | 2, hj => simp at hj; subst hj; exact S.c2
  | 3, hj => simp at hj; subst hj; exact S.c3
  | 4, hj => simp at hj; subst hj; exact S.c4
  | 5, hj => simp at hj; subst hj; exact S.c5
  | 6, hj => simp at hj; subst hj; exact S.c6
theorem one7 (x : EA) : ∀ u ∈ cells7E x, u.oneCell' = true := by simp [Value.oneCell']
/-- An entry, or the one in whose place it is. -/
def repE (y x : EA) : EA := if placeB x y = true then y else x
def setR (l : List EA) (y : EA) : List EA := l.map (repE y) ++ (if l.any (fun x => placeB x y) = true then [] else [y])
theorem setR_each {l : List EA} {y : EA} {P : EA → Prop} (h1 : ∀ x ∈ l, P x) (h2 : P y) : ∀ x ∈ setR l y, P x := by
  intro x hx
  unfold setR at hx
  rcases List.mem_append.1 hx with hx | hx
  · obtain ⟨z, hz, rfl⟩ := List.mem_map.1 hx
    unfold repE
    split
    · exact h2
    · exact h1 z hz
  · split at hx
    · cases hx
    · simp at hx; subst hx; exact h2
theorem setR_len (l : List EA) (y : EA) : (setR l y).length ≤ l.length + 1 := by
  unfold setR
  split <;> simp
theorem repE_yes {x y : EA} (h : placeB x y = true) : repE y x = y := if_pos h
theorem repE_no {x y : EA} (h : placeB x y = false) : repE y x = x := if_neg (by rw [h]; simp)
end Go.Proofs.Ytmeeombadkgneaa
