/-
  What Valid returns of a model, and what IndexFunc returns where Set calls it; conditions: the model and the entry lie in memory.
  What copyModel returns of a model: the same entries in memory of their own; conditions: the model lies in memory, its lists are not too long.
  What the document's Set returns: the model with the entry in its place or at the end; conditions: the model and the entry lie in memory, the model is not long.
-/
import Derived.Test.YtmeeombadkgneaaGreatZVa26
import Derived.Test.YtmeeombadkgneaaGreatZVa27
namespace Go.Proofs.YtmeeombadkgneaaGreat
open Go.Proofs Go.RowKit Go.Shelf Go.Sort Go.Lib

attribute [local go_sem] Oper.semAt_some
set_option maxRecDepth 100000 in
set_option maxHeartbeats 4000000 in
theorem validM_any (l : List EA) (A : Option Addr) (cap : Nat) (w : World) (hL : LiesM w A l) : Calls Tryz.prog 15 #[.slice A l.length cap] w fun e w' => e = .returned (.bool (validM l)) ∧ RowKit.Below w.heap.size w w' := by
  have HL := Lib.hid hL
  clear hL
  go_enter Tryz.func15, Tryz.ntmps15
  go_wp2_with fail
  refine (tableOf_any l A cap _ HL.out).mono ?_
  rintro e w1 ⟨⟨v, rfl, hv⟩, b1⟩
  have B1 := Lib.hid b1
  clear b1
  rcases hv with ⟨hv, rfl⟩ | ⟨hv, t, A', c, rfl, _, _, _⟩
  · have HV := Lib.hid hv
    clear hv
    go_wp2_with fail
    go_ret
    exact ⟨by rw [HV.out]; rfl, B1.out⟩
  · have HV := Lib.hid hv
    clear hv
    go_wp2_with fail
    go_ret
    exact ⟨by rw [HV.out]; rfl, B1.out⟩
/-- The first entry of a model that is of an entry's place, or -1. -/
def IdxM (l : List EA) (y : EA) (r : Int) : Prop :=
  (∃ (k : Nat) (h : k < l.length), r = (k : Int) ∧ placeB l[k] y = true ∧ ∀ j (hj : j < k), placeB (l[j]'(by omega)) y = false) ∨ (r = -1 ∧ ∀ j (h : j < l.length), placeB l[j] y = false)
theorem seek_place (x y : EA) : decide (cmpE x y = 0) = placeB x y := by
  rw [← place_eq]
  exact rfl
set_option maxRecDepth 100000 in
set_option maxHeartbeats 8000000 in
theorem index_any (l : List EA) (y : EA) (b0 : Nat) (A : Option Addr) (cap : Nat) (w : World) (hL : LiesM w A l) (hy : LiesE w y) (hs : SevenE w b0 0 y) (hl : l.length ≤ 2000) :
    Calls Tryz.prog 32 #[.slice A l.length cap, .func (.func 33) #[] #[.pointer (some ⟨b0, 0, none⟩)]] w fun e w' => (∃ r : Int, e = .returned (.int .i64 r) ∧ IdxM l y r) ∧ RowKit.Below w.heap.size w w' := by
  have HL := Lib.hid hL
  have HY := Lib.hid hy
  have HS := Lib.hid hs
  clear hL hy hs
  go_enter Tryz.func32, Tryz.ntmps32
  go_wp2_with fail
  go_loopw [8] (fun i wr => ∃ k : Nat, k ≤ l.length ∧ i = .int .i64 k ∧ Hid (∀ j (h : j < l.length), j < k → placeB l[j] y = false) ∧ Hid (RowKit.Below w.heap.size w wr)) (fun i _ => l.length - (intOf i).toNat)
  case atStart => exact ⟨0, Nat.zero_le _, rfl, fun j hj hjk => absurd hjk (by omega), RowKit.Below.refl _ _⟩
  case round =>
    obtain ⟨k, hk, rfl, hj, hB⟩ := hrel
    by_cases hlt : k < l.length
    · obtain ⟨b, o, ha, hc⟩ := (HL.out.later hB.out).at_
      have ha := ha (by omega)
      obtain ⟨c0, c1, c2, c3, c4, c5, c6⟩ := hc k hlt
      have L1 := Lib.hid ((HL.out.each k hlt).later hB.out)
      have L2 := Lib.hid (HY.out.later hB.out)
      have S1 := Lib.hid (HS.out.later hB.out)
      have hno := Lib.hid (fun (e' : placeB l[k] y = false) => (show Hid (∀ j (h : j < l.length), j < k + 1 → placeB l[j] y = false) from fun j h h2 => by
        by_cases e2 : j = k
        · subst e2; exact e'
        · exact hj.out j h (by omega)))
      have hyes := Lib.hid (fun (e' : placeB l[k] y = true) => (show IdxM l y (k : Int) from .inl ⟨k, hlt, rfl, e', fun j hj' => hj.out j (by omega) hj'⟩))
      have hsp := seek_place l[k] y
      generalize hx : l[k] = x at *
      clear hj hc hx
      rw [ha] at *
      cases hb : placeB x y
      case false =>
        have Hn := hno.out hb
        have Hb := Lib.hid (hsp.trans hb)
        clear hb hno hyes hsp
        go_wp2_with fail
        refine (seek_any x y b0 _ L1.out L2.out S1.out).mono ?_
        rintro en w2 ⟨rfl, b2⟩
        rw [Hb.out]
        have B2 := Lib.hid (hB.out.trans (b2.mono hB.out.size))
        clear b2 c0 c1 c2 c3 c4 c5 c6
        go_wp2_with fail
        go_roundw
        case rel => exact ⟨k + 1, by omega, by go_num, Hn, B2.out⟩
        case measure => simp [intOf]; omega
      case true =>
        have Hr := Lib.hid (hyes.out hb)
        have Hb := Lib.hid (hsp.trans hb)
        clear hb hno hyes hsp
        go_wp2_with fail
        refine (seek_any x y b0 _ L1.out L2.out S1.out).mono ?_
        rintro en w2 ⟨rfl, b2⟩
        rw [Hb.out]
        have B2 := Lib.hid (hB.out.trans (b2.mono hB.out.size))
        clear b2 c0 c1 c2 c3 c4 c5 c6
        go_wp2_with fail
        go_ret
        exact ⟨⟨_, rfl, Hr.out⟩, B2.out⟩
    · have Hr := Lib.hid (show IdxM l y (-1) from .inr ⟨rfl, fun j h => hj.out j h (by omega)⟩)
      clear hj HL
      go_wp2_with fail
      go_ret
      exact ⟨⟨_, rfl, Hr.out⟩, hB.out⟩
end Go.Proofs.YtmeeombadkgneaaGreat
namespace Go.Proofs.YtmeeombadkgneaaGreat
open Go.Proofs Go.RowKit Go.Shelf Go.Sort Go.Lib

attribute [local go_sem] Oper.semAt_some
theorem take_put7 (l : List Value) (k : Nat) (h : k + 7 ≤ l.length) (c0 c1 c2 c3 c4 c5 c6 : Value) :
    (((((((l.set k c0).set (k + 1) c1).set (k + 2) c2).set (k + 3) c3).set (k + 4) c4).set (k + 5) c5).set (k + 6) c6).take (k + 7) = l.take k ++ [c0, c1, c2, c3, c4, c5, c6] := by
  apply List.ext_getElem?
  intro i
  by_cases h1 : i < k
  · rw [List.getElem?_append_left (by simp; omega), List.getElem?_take_of_lt (by omega), List.getElem?_take_of_lt h1]
    rw [List.getElem?_set_ne (by omega), List.getElem?_set_ne (by omega), List.getElem?_set_ne (by omega), List.getElem?_set_ne (by omega), List.getElem?_set_ne (by omega), List.getElem?_set_ne (by omega), List.getElem?_set_ne (by omega)]
  · rw [List.getElem?_append_right (by simp; omega)]
    have hl : (l.take k).length = k := by simp; omega
    rw [hl]
    obtain ⟨j, rfl⟩ : ∃ j, i = k + j := ⟨i - k, by omega⟩
    rw [show k + j - k = j by omega]
    match j with
    | 0 => rw [List.getElem?_take_of_lt (by omega)]; simp [List.getElem?_set]; omega
    | 1 => rw [List.getElem?_take_of_lt (by omega)]; simp [List.getElem?_set]; omega
    | 2 => rw [List.getElem?_take_of_lt (by omega)]; simp [List.getElem?_set]; omega
    | 3 => rw [List.getElem?_take_of_lt (by omega)]; simp [List.getElem?_set]; omega
    | 4 => rw [List.getElem?_take_of_lt (by omega)]; simp [List.getElem?_set]; omega
    | 5 => rw [List.getElem?_take_of_lt (by omega)]; simp [List.getElem?_set]; omega
    | 6 => rw [List.getElem?_take_of_lt (by omega)]; simp [List.getElem?_set]; omega
    | j + 7 => rw [List.getElem?_eq_none (by simp; omega)]; simp
abbrev cells7E (x : EA) : List Value := [.string x.nm, .slice x.A x.args.length x.c, .int .i64 x.val.v.so, .int .i64 x.val.v.nu, .slice x.val.a1 x.val.v.st.length x.val.c1, .slice x.val.a2 x.val.v.ix.length x.val.c2, .slice x.val.a3 x.val.v.xs.length x.val.c3]
def flatE (l : List EA) : List Value := (l.map cells7E).flatten
theorem flatE_snoc (l : List EA) (x : EA) : flatE (l ++ [x]) = flatE l ++ cells7E x := by simp [flatE]
theorem flatE_at : ∀ (l : List EA) (i : Nat) (h : i < l.length) (j : Nat), j < 7 → (flatE l)[i * 7 + j]? = (cells7E l[i])[j]?
  | [], _, h, _, _ => absurd h (by simp)
  | x :: l, 0, _, j, hj => by
    show (cells7E x ++ flatE l)[0 * 7 + j]? = _
    rw [List.getElem?_append_left (by show 0 * 7 + j < 7; omega), Nat.zero_mul, Nat.zero_add]; rfl
  | x :: l, i + 1, h, j, hj => by
    show (cells7E x ++ flatE l)[(i + 1) * 7 + j]? = _
    rw [List.getElem?_append_right (by show 7 ≤ _; omega)]
    rw [show (i + 1) * 7 + j - (cells7E x).length = i * 7 + j by show (i + 1) * 7 + j - 7 = _; omega]
    exact flatE_at l i (by simpa using h) j hj
/-- In the midst of a model's making: a row of n entries in block w.heap.size, of which the first ones are written. -/
structure ME (w : World) (n : Nat) (ks : List (ByteArray × List Vl × Vl)) (wr : World) (cur : Array Value) (xs : List EA) : Prop where
  outs : xs.map keyE = ks
  row : wr.heap[w.heap.size]? = some (.cells cur 29 (0, 0))
  size : cur.size = n * 7
  head : cur.toList.take (xs.length * 7) = flatE xs
  each : ∀ x ∈ xs, RobE (w.heap.size + 1) wr x
  below : RowKit.Below w.heap.size w wr
def MEI (w : World) (n : Nat) (ks : List (ByteArray × List Vl × Vl)) (wr : World) : Prop := ∃ cur xs, ME w n ks wr cur xs
theorem ME.later {w : World} {n : Nat} {ks : List (ByteArray × List Vl × Vl)} {wr w' : World} {cur : Array Value} {xs : List EA} (h : ME w n ks wr cur xs) (hb : RowKit.Below wr.heap.size wr w') : ME w n ks w' cur xs :=
  ⟨h.outs, (hb.block _ (Array.getElem?_eq_some_iff.1 h.row).1).trans h.row, h.size, h.head, fun x hx => (h.each x hx).later hb, h.below.trans (hb.mono h.below.size)⟩
/-- The seven cells of an entry's place are written. -/
abbrev putE (w : World) (b o : Nat) (c0 c1 c2 c3 c4 c5 c6 : Value) : World := (((((((w.setCell ⟨b, o, none⟩ c0).setCell ⟨b, o + 1, none⟩ c1).setCell ⟨b, o + 2, none⟩ c2).setCell ⟨b, o + 3, none⟩ c3).setCell ⟨b, o + 4, none⟩ c4).setCell ⟨b, o + 5, none⟩ c5).setCell ⟨b, o + 6, none⟩ c6)
theorem putE_same {w : World} {b o : Nat} {t : TypeId} {cur : Array Value} (c0 c1 c2 c3 c4 c5 c6 : Value) (h : w.heap[b]? = some (.cells cur t (0, 0))) :
    (putE w b o c0 c1 c2 c3 c4 c5 c6).heap[b]? = some (.cells (((((((cur.setIfInBounds o c0).setIfInBounds (o + 1) c1).setIfInBounds (o + 2) c2).setIfInBounds (o + 3) c3).setIfInBounds (o + 4) c4).setIfInBounds (o + 5) c5).setIfInBounds (o + 6) c6) t (0, 0)) := by
  have h0 : (w.setCell ⟨b, o, none⟩ c0).heap[b]? = some (.cells (cur.setIfInBounds o c0) t (0, 0)) := heap_setCell_same _ b o _ _ c0 h
  have h1 : ((w.setCell ⟨b, o, none⟩ c0).setCell ⟨b, o + 1, none⟩ c1).heap[b]? = some (.cells ((cur.setIfInBounds o c0).setIfInBounds (o + 1) c1) t (0, 0)) := heap_setCell_same _ b (o + 1) _ _ c1 h0
  have h2 : (((w.setCell ⟨b, o, none⟩ c0).setCell ⟨b, o + 1, none⟩ c1).setCell ⟨b, o + 2, none⟩ c2).heap[b]? = some (.cells (((cur.setIfInBounds o c0).setIfInBounds (o + 1) c1).setIfInBounds (o + 2) c2) t (0, 0)) := heap_setCell_same _ b (o + 2) _ _ c2 h1
  have h3 : ((((w.setCell ⟨b, o, none⟩ c0).setCell ⟨b, o + 1, none⟩ c1).setCell ⟨b, o + 2, none⟩ c2).setCell ⟨b, o + 3, none⟩ c3).heap[b]? = some (.cells ((((cur.setIfInBounds o c0).setIfInBounds (o + 1) c1).setIfInBounds (o + 2) c2).setIfInBounds (o + 3) c3) t (0, 0)) := heap_setCell_same _ b (o + 3) _ _ c3 h2
  have h4 : (((((w.setCell ⟨b, o, none⟩ c0).setCell ⟨b, o + 1, none⟩ c1).setCell ⟨b, o + 2, none⟩ c2).setCell ⟨b, o + 3, none⟩ c3).setCell ⟨b, o + 4, none⟩ c4).heap[b]? = some (.cells (((((cur.setIfInBounds o c0).setIfInBounds (o + 1) c1).setIfInBounds (o + 2) c2).setIfInBounds (o + 3) c3).setIfInBounds (o + 4) c4) t (0, 0)) := heap_setCell_same _ b (o + 4) _ _ c4 h3
  have h5 : ((((((w.setCell ⟨b, o, none⟩ c0).setCell ⟨b, o + 1, none⟩ c1).setCell ⟨b, o + 2, none⟩ c2).setCell ⟨b, o + 3, none⟩ c3).setCell ⟨b, o + 4, none⟩ c4).setCell ⟨b, o + 5, none⟩ c5).heap[b]? = some (.cells ((((((cur.setIfInBounds o c0).setIfInBounds (o + 1) c1).setIfInBounds (o + 2) c2).setIfInBounds (o + 3) c3).setIfInBounds (o + 4) c4).setIfInBounds (o + 5) c5) t (0, 0)) := heap_setCell_same _ b (o + 5) _ _ c5 h4
  have h6 : (((((((w.setCell ⟨b, o, none⟩ c0).setCell ⟨b, o + 1, none⟩ c1).setCell ⟨b, o + 2, none⟩ c2).setCell ⟨b, o + 3, none⟩ c3).setCell ⟨b, o + 4, none⟩ c4).setCell ⟨b, o + 5, none⟩ c5).setCell ⟨b, o + 6, none⟩ c6).heap[b]? = some (.cells (((((((cur.setIfInBounds o c0).setIfInBounds (o + 1) c1).setIfInBounds (o + 2) c2).setIfInBounds (o + 3) c3).setIfInBounds (o + 4) c4).setIfInBounds (o + 5) c5).setIfInBounds (o + 6) c6) t (0, 0)) := heap_setCell_same _ b (o + 6) _ _ c6 h5
  exact h6
theorem putE_other {w : World} {b o : Nat} (c0 c1 c2 c3 c4 c5 c6 : Value) {k : Nat} (h : k ≠ b) : (putE w b o c0 c1 c2 c3 c4 c5 c6).heap[k]? = w.heap[k]? := by
  rw [putE, heap_setCell_other _ _ _ _ h, heap_setCell_other _ _ _ _ h, heap_setCell_other _ _ _ _ h, heap_setCell_other _ _ _ _ h, heap_setCell_other _ _ _ _ h, heap_setCell_other _ _ _ _ h, heap_setCell_other _ _ _ _ h]
theorem putE_size (w : World) (b o : Nat) (c0 c1 c2 c3 c4 c5 c6 : Value) : (putE w b o c0 c1 c2 c3 c4 c5 c6).heap.size = w.heap.size := by simp [putE, World.setCell]
theorem below_putE {B : Nat} {a w : World} (h : RowKit.Below B a w) {b : Nat} (hb : B ≤ b) (o : Nat) (c0 c1 c2 c3 c4 c5 c6 : Value) : RowKit.Below B a (putE w b o c0 c1 c2 c3 c4 c5 c6) :=
  (((((((h.setCell (p := ⟨b, o, none⟩) hb c0).setCell (p := ⟨b, o + 1, none⟩) hb c1).setCell (p := ⟨b, o + 2, none⟩) hb c2).setCell (p := ⟨b, o + 3, none⟩) hb c3).setCell (p := ⟨b, o + 4, none⟩) hb c4).setCell (p := ⟨b, o + 5, none⟩) hb c5).setCell (p := ⟨b, o + 6, none⟩) hb c6)
theorem RobE.same {n0 : Nat} {w w' : World} {x : EA} (h : RobE n0 w x) (hs : w'.heap.size = w.heap.size) (ho : ∀ k, n0 ≤ k → w'.heap[k]? = w.heap[k]?) : RobE n0 w' x :=
  fun W hW => h W fun k h1 h2 => (hW k h1 (by rw [hs]; exact h2)).trans (ho k h1)
theorem ME.step {w : World} {n : Nat} {ks : List (ByteArray × List Vl × Vl)} {wr : World} {cur : Array Value} {xs : List EA} (h : ME w n ks wr cur xs) (hk : xs.length < n) {x : EA} (hx : RobE (w.heap.size + 1) wr x) :
    MEI w n (ks ++ [keyE x]) (putE wr w.heap.size (xs.length * 7) (.string x.nm) (.slice x.A x.args.length x.c) (.int .i64 x.val.v.so) (.int .i64 x.val.v.nu) (.slice x.val.a1 x.val.v.st.length x.val.c1) (.slice x.val.a2 x.val.v.ix.length x.val.c2) (.slice x.val.a3 x.val.v.xs.length x.val.c3)) := by
  have rob : ∀ {y : EA}, RobE (w.heap.size + 1) wr y → RobE (w.heap.size + 1) (putE wr w.heap.size (xs.length * 7) (.string x.nm) (.slice x.A x.args.length x.c) (.int .i64 x.val.v.so) (.int .i64 x.val.v.nu) (.slice x.val.a1 x.val.v.st.length x.val.c1) (.slice x.val.a2 x.val.v.ix.length x.val.c2) (.slice x.val.a3 x.val.v.xs.length x.val.c3)) y :=
    fun hr => hr.same (putE_size _ _ _ _ _ _ _ _ _ _) fun k hk => putE_other _ _ _ _ _ _ _ (by omega)
  refine ⟨_, xs ++ [x], by rw [List.map_append, h.outs]; rfl, putE_same _ _ _ _ _ _ _ h.row, by simp [h.size], ?_, ?_, below_putE h.below (Nat.le_refl _) _ _ _ _ _ _ _ _⟩
  · have hs' : cur.toList.length = n * 7 := by rw [Array.length_toList]; exact h.size
    rw [flatE_snoc, ← h.head, List.length_append]
    simp only [Array.toList_setIfInBounds, List.length_singleton]
    rw [Nat.add_mul, Nat.one_mul, take_put7 _ _ (by rw [hs']; omega)]
  · intro y hy
    rcases List.mem_append.1 hy with hy | hy
    · exact rob (h.each y hy)
    · simp at hy; subst hy; exact rob hx
/-- A model that lies in blocks from n0 on. -/
def RobM (n0 : Nat) (w : World) (A : Option Addr) (l : List EA) : Prop := ∀ W : World, (∀ k, n0 ≤ k → k < w.heap.size → W.heap[k]? = w.heap[k]?) → LiesM W A l
theorem RobM.here {n0 : Nat} {w : World} {A : Option Addr} {l : List EA} (h : RobM n0 w A l) : LiesM w A l := h w fun _ _ _ => rfl
theorem RobM.later {n0 : Nat} {w w' : World} {A : Option Addr} {l : List EA} (h : RobM n0 w A l) (hb : RowKit.Below w.heap.size w w') : RobM n0 w' A l :=
  fun W hW => h W fun k h1 h2 => (hW k h1 (Nat.lt_of_lt_of_le h2 hb.size)).trans (hb.block k h2)
/-- In the end the model lies in new memory. -/
theorem ME.rob {w : World} {n : Nat} {ks : List (ByteArray × List Vl × Vl)} {wr : World} {cur : Array Value} {xs : List EA} (h : ME w n ks wr cur xs) (hn : xs.length = n) (hm : n ≤ maxLen) : RobM w.heap.size wr (some ⟨w.heap.size, 0, none⟩) xs := by
  intro W hW
  have hgW : W.heap[w.heap.size]? = some (.cells cur 29 (0, 0)) := (hW _ (Nat.le_refl _) (Array.getElem?_eq_some_iff.1 h.row).1).trans h.row
  refine ⟨by rw [hn]; exact hm, ⟨w.heap.size, 0, fun _ => rfl, fun i hi => ?_⟩, fun i hi => h.each xs[i] (List.getElem_mem hi) W fun k a b => hW k (by omega) b⟩
  have hc : ∀ j, j < 7 → W.cell? ⟨w.heap.size, 0 + i * 7 + j, none⟩ = (cells7E xs[i])[j]? := fun j hj => by
    have := flatE_at xs i hi j hj
    rw [← h.head, List.getElem?_take_of_lt (by omega)] at this
    rw [← this]
    simp [World.cell?, hgW]
  exact ⟨hc 0 (by omega), hc 1 (by omega), hc 2 (by omega), hc 3 (by omega), hc 4 (by omega), hc 5 (by omega), hc 6 (by omega)⟩
theorem info29c : (Tryz.prog.info? 29).map (fun i => (i.zero, i.size, i.bytes)) = some (some (.agg #[.string ⟨#[]⟩, .slice none 0 0, .int .i64 0, .int .i64 0, .slice none 0 0, .slice none 0 0, .slice none 0 0]), 7, 128) := by kernel_rfl
set_option maxRecDepth 100000 in
set_option maxHeartbeats 4000000 in
theorem copyM_any (l : List EA) (A : Option Addr) (cap : Nat) (w : World) (hL : LiesM w A l) (hl : l.length ≤ 2000) (hT : ∀ x ∈ l, TameE x) :
    Calls Tryz.prog 35 #[.slice A l.length cap] w fun e w' => ∃ xs : List EA, e = .returned (.slice (some ⟨w.heap.size, 0, none⟩) l.length l.length) ∧ xs.length = l.length ∧ xs.map keyE = l.map keyE ∧ (∃ cur, ME w l.length (l.map keyE) w' cur xs) := by
  obtain ⟨i0, hi, hz0, hz1, hz2⟩ := info_parts info29c
  have I0 := Lib.hid hi
  have Z0 := Lib.hid hz0
  have Z1 := Lib.hid hz1
  have Z2 := Lib.hid hz2
  clear hi hz0 hz1 hz2
  have HL := Lib.hid hL
  have HT := Lib.hid hT
  clear hL hT
  go_enter Tryz.func35, Tryz.ntmps35
  have BY : Hid (i0.bytes * l.length ≤ 281474976710656) := by show _ ≤ _; rw [Z2.out]; omega
  have ML : Hid (l.length ≤ maxLen) := by show _ ≤ _; unfold maxLen; omega
  go_wp2_with (at_make; refine wpList_make_full _ rfl _ _ 23 rfl w.heap.size 29 i0 _ 7 Tryz.underlying23 I0.out Z0.out Z1.out .i64 .i64 _ _ l.length rfl rfl rfl rfl BY.out ML.out (Nat.le_refl _) ?_; intro w1 hown1 hgrow1)
  have M0 : MEI w l.length [] w1 := by
    rcases hown1.2 with ⟨h, _⟩ | ⟨g, cap', cur, hv, h1, h2, h3, h4, h5, h6⟩
    · cases h
    · cases hv
      exact ⟨cur, [], rfl, h2, h5, by simp [flatE], fun _ h => by simp at h, (RowKit.Below.refl _ _).grown hgrow1 (Nat.le_refl _) (fun k e => by cases e)⟩
  clear hown1 hgrow1
  go_loopw [11] (fun i wr => ∃ k : Nat, k ≤ l.length ∧ i = .int .i64 k ∧ Hid (MEI w l.length ((l.map keyE).take k) wr)) (fun i _ => l.length - (intOf i).toNat)
  case atStart => exact ⟨0, Nat.zero_le _, rfl, M0⟩
  case round =>
    obtain ⟨k, hk, rfl, cur, xs, hM⟩ := hrel
    have HM := Lib.hid hM
    have hBr := hM.below
    have hlen : xs.length = k := by
      have := congrArg List.length hM.outs
      simp only [List.length_map, List.length_take] at this
      omega
    by_cases hlt : k < l.length
    · obtain ⟨b, o, ha, hc⟩ := (HL.out.later hBr).at_
      have ha := ha (by omega)
      obtain ⟨c0, c1, c2, c3, c4, c5, c6⟩ := hc k hlt
      have L1 := Lib.hid ((HL.out.each k hlt).later hBr)
      have T1 := HT.out l[k] (List.getElem_mem hlt)
      have HT1 := Lib.hid T1
      have htk := Lib.hid (show (l.map keyE).take (k + 1) = (l.map keyE).take k ++ [keyE l[k]] by rw [List.take_succ_eq_append_getElem (by rw [List.length_map]; exact hlt)]; simp)
      have hsz := hBr.size
      clear hM hc T1
      have HLT := Lib.hid hlt
      generalize l[k] = q at *
      clear HL
      rw [ha] at *
      go_wp2_with fail
      refine (copyE_any q _ (L1.out.later ((RowKit.Below.refl _ _).alloc (Nat.le_refl _) _)) HT1.out).mono ?_
      rintro e w2 ⟨y, rfl, hyv, hrob, hb2⟩
      have hb3 : RowKit.Below wr.heap.size wr w2 := ((RowKit.Below.refl _ _).alloc (Nat.le_refl _) _).trans (hb2.mono (by simp))
      have HM2 := Lib.hid (HM.out.later hb3)
      have hcs := HM2.out.size
      have hrow := HM2.out.row
      have hrz := (Array.getElem?_eq_some_iff.1 HM.out.row).1
      have HR := Lib.hid (show RobE (w.heap.size + 1) w2 y from hrob.less (by simp; omega))
      have HST := Lib.hid (show MEI w l.length ((l.map keyE).take k ++ [keyE q]) (putE w2 w.heap.size (k * 7) (.string y.nm) (.slice y.A y.args.length y.c) (.int .i64 y.val.v.so) (.int .i64 y.val.v.nu) (.slice y.val.a1 y.val.v.st.length y.val.c1) (.slice y.val.a2 y.val.v.ix.length y.val.c2) (.slice y.val.a3 y.val.v.xs.length y.val.c3)) by have := HM2.out.step (by have := HLT.out; omega) HR.out; rwa [hlen, hyv] at this)
      obtain ⟨y0, hy0⟩ : ∃ y, cur[k * 7]? = some y := ⟨_, Array.getElem?_eq_getElem (by have := HLT.out; omega)⟩
      obtain ⟨y1, hy1⟩ : ∃ y, cur[k * 7 + 1]? = some y := ⟨_, Array.getElem?_eq_getElem (by have := HLT.out; omega)⟩
      obtain ⟨y2, hy2⟩ : ∃ y, cur[k * 7 + 2]? = some y := ⟨_, Array.getElem?_eq_getElem (by have := HLT.out; omega)⟩
      obtain ⟨y3, hy3⟩ : ∃ y, cur[k * 7 + 3]? = some y := ⟨_, Array.getElem?_eq_getElem (by have := HLT.out; omega)⟩
      obtain ⟨y4, hy4⟩ : ∃ y, cur[k * 7 + 4]? = some y := ⟨_, Array.getElem?_eq_getElem (by have := HLT.out; omega)⟩
      obtain ⟨y5, hy5⟩ : ∃ y, cur[k * 7 + 5]? = some y := ⟨_, Array.getElem?_eq_getElem (by have := HLT.out; omega)⟩
      obtain ⟨y6, hy6⟩ : ∃ y, cur[k * 7 + 6]? = some y := ⟨_, Array.getElem?_eq_getElem (by have := HLT.out; omega)⟩
      have z0 := cell_row hrow hy0
      have f0 := frozen_of_row w2 w.heap.size (k * 7) _ _ hrow
      have z1 := cell_row hrow hy1
      have f1 := frozen_of_row w2 w.heap.size (k * 7 + 1) _ _ hrow
      have z2 := cell_row hrow hy2
      have f2 := frozen_of_row w2 w.heap.size (k * 7 + 2) _ _ hrow
      have z3 := cell_row hrow hy3
      have f3 := frozen_of_row w2 w.heap.size (k * 7 + 3) _ _ hrow
      have z4 := cell_row hrow hy4
      have f4 := frozen_of_row w2 w.heap.size (k * 7 + 4) _ _ hrow
      have z5 := cell_row hrow hy5
      have f5 := frozen_of_row w2 w.heap.size (k * 7 + 5) _ _ hrow
      have z6 := cell_row hrow hy6
      have f6 := frozen_of_row w2 w.heap.size (k * 7 + 6) _ _ hrow
      clear hrow hy0 hy1 hy2 hy3 hy4 hy5 hy6 hb2 hb3 hrob hcs c0 c1 c2 c3 c4 c5 c6 hyv hrz
      go_wp2_with fail
      go_roundw
      case rel => exact ⟨k + 1, by omega, by go_num, by rw [htk.out]; exact HST.out⟩
      case measure => simp [intOf]; omega
    · have houts := hM.outs
      rw [List.take_of_length_le (by rw [List.length_map]; omega)] at houts
      have HF := Lib.hid (show ME w l.length (l.map keyE) wr cur xs from ⟨houts, hM.row, hM.size, hM.head, hM.each, hM.below⟩)
      have HO := Lib.hid houts
      have HN := Lib.hid (show xs.length = l.length by omega)
      clear hM HM houts hBr
      go_wp2_with fail
      go_ret
      exact ⟨xs, rfl, HN.out, HO.out, cur, HF.out⟩
end Go.Proofs.YtmeeombadkgneaaGreat
namespace Go.Proofs.YtmeeombadkgneaaGreat
open Go.Proofs Go.RowKit Go.Shelf Go.Sort Go.Lib

attribute [local go_sem] Oper.semAt_some
/-- A row of entries that a growing list owns holds a model. -/
theorem owns_lies {w : World} {base : Nat} {v : Value} {l : List EA} (h : w.ownsRow base 29 7 v l.length (flatE l)) (he : ∀ x ∈ l, LiesE w x) (hm : l.length ≤ maxLen) : ∃ A c, v = .slice A l.length c ∧ LiesM w A l := by
  rcases h.2 with ⟨hv, hn⟩ | ⟨g, cap, cur, hv, h1, h2, h3, h4, h5, h6⟩
  · exact ⟨none, 0, by rw [hv, hn], hm, ⟨0, 0, fun h => by omega, fun i hi => by omega⟩, fun i hi => by omega⟩
  · refine ⟨_, cap, hv, hm, ⟨g, 0, fun _ => rfl, fun i hi => ?_⟩, fun i hi => he _ (List.getElem_mem hi)⟩
    have hc : ∀ j, j < 7 → w.cell? ⟨g, 0 + i * 7 + j, none⟩ = (cells7E l[i])[j]? := fun j hj => by
      have := flatE_at l i hi j hj
      rw [← h6, List.getElem?_take_of_lt (by omega)] at this
      rw [← this]
      simp [World.cell?, h2]
    exact ⟨hc 0 (by omega), hc 1 (by omega), hc 2 (by omega), hc 3 (by omega), hc 4 (by omega), hc 5 (by omega), hc 6 (by omega)⟩
theorem ownsE_below {w w' : World} {base : Nat} {v : Value} {n : Nat} {xs : List Value} (h : w.ownsRow base 29 7 v n xs) (hb : RowKit.Below w.heap.size w w') : w'.ownsRow base 29 7 v n xs := by
  refine ⟨h.1, ?_⟩
  rcases h.2 with h | ⟨g, cap, cur, hv, h1, h2, h3⟩
  · exact .inl h
  · exact .inr ⟨g, cap, cur, hv, h1, (hb.block g (Array.getElem?_eq_some_iff.1 h2).1).trans h2, h3⟩
theorem news7 (W : World) (x : EA) (bk : Nat) (hb : bk = W.heap.size) :
    ∀ (j : Nat) (u : Value), (cells7E x)[j]? = some u → (W.alloc (boxE x 29)).cell? ((⟨bk, 0, none⟩ : Addr).add j) = some u := by
  subst hb
  intro j u hj
  have S := sevenE_new W x 29
  match j, hj with
  | 0, hj => simp at hj; subst hj; exact S.c0
  | 1, hj => simp at hj; subst hj; exact S.c1
  | 2, hj => simp at hj; subst hj; exact S.c2
  | 3, hj => simp at hj; subst hj; exact S.c3
  | 4, hj => simp at hj; subst hj; exact S.c4
  | 5, hj => simp at hj; subst hj; exact S.c5
  | 6, hj => simp at hj; subst hj; exact S.c6
theorem one7 (x : EA) : ∀ u ∈ cells7E x, u.oneCell' = true := by simp [Value.oneCell']
/-- An entry, or the one in whose place it is. -/
def repE (y x : EA) : EA := if placeB x y = true then y else x
def setR (l : List EA) (y : EA) : List EA := l.map (repE y) ++ (if l.any (fun x => placeB x y) = true then [] else [y])
theorem setR_each {l : List EA} {y : EA} {P : EA → Prop} (h1 : ∀ x ∈ l, P x) (h2 : P y) : ∀ x ∈ setR l y, P x := by
  intro x hx
  unfold setR at hx
  rcases List.mem_append.1 hx with hx | hx
  · obtain ⟨z, hz, rfl⟩ := List.mem_map.1 hx
    unfold repE
    split
    · exact h2
    · exact h1 z hz
  · split at hx
    · cases hx
    · simp at hx; subst hx; exact h2
theorem setR_len (l : List EA) (y : EA) : (setR l y).length ≤ l.length + 1 := by
  unfold setR
  split <;> simp
theorem repE_yes {x y : EA} (h : placeB x y = true) : repE y x = y := if_pos h
theorem repE_no {x y : EA} (h : placeB x y = false) : repE y x = x := if_neg (by rw [h]; simp)
set_option maxRecDepth 100000 in
set_option maxHeartbeats 1000000 in
theorem refSet_any (l : List EA) (y : EA) (A : Option Addr) (cap : Nat) (w : World) (hL : LiesM w A l) (hy : LiesE w y) (hl : l.length ≤ 60) :
    Calls Tryz.prog 10 #[.slice A l.length cap, ev y] w fun e w' => (((validM l && validE y) = false ∧ e = .returned (.tuple #[.slice none 0 0, .int .i64 3])) ∨ ((validM l && validE y) = true ∧ ∃ A' c, e = .returned (.tuple #[.slice A' (setR l y).length c, .int .i64 0]) ∧ LiesM w' A' (setR l y))) ∧ RowKit.Below w.heap.size w w' := by
  obtain ⟨i0, hi, hz0, hz1, hz2⟩ := info_parts info29c
  have I0 := Lib.hid hi
  have Z0 := Lib.hid hz0
  have Z1 := Lib.hid hz1
  have Z2 := Lib.hid hz2
  clear hi hz0 hz1 hz2
  obtain ⟨W0, hW⟩ : ∃ W0, w.alloc (boxE y 29) = W0 := ⟨_, rfl⟩
  have hB0 : RowKit.Below w.heap.size w W0 := by rw [← hW]; exact (RowKit.Below.refl _ _).alloc (Nat.le_refl _) _
  have HS0 := Lib.hid (show SevenE W0 w.heap.size 0 y by rw [← hW]; exact sevenE_new w y 29)
  have HSZ := Lib.hid (show W0.heap.size = w.heap.size + 1 by rw [← hW]; simp)
  have HL := Lib.hid (hL.later hB0)
  have HY := Lib.hid (hy.later hB0)
  have HB0 := Lib.hid hB0
  have HW := Lib.hid hW
  have hveq := Lib.hid (validE_eq y)
  clear hL hy hB0 hW
  cases hv1 : validM l
  case false =>
    have Hv := Lib.hid hv1
    clear hv1
    go_enter Tryz.func10, Tryz.ntmps10
    go_upto_region 1 with fail
    rw [HW.out]
    go_wp2_with fail
    refine (refValidM_any l A cap _ HL.out).mono ?_
    rintro e w1 ⟨rfl, b1⟩
    rw [Hv.out]
    have B1 := Lib.hid (HB0.out.trans (b1.mono HB0.out.size))
    clear b1
    go_wp2_with fail
    go_ret2
    exact ⟨.inl ⟨rfl, rfl⟩, B1.out⟩
  case true =>
  have Hv := Lib.hid hv1
  clear hv1
  cases hv2 : validE y
  case false =>
    have Hv2 := Lib.hid (hveq.out.trans hv2)
    clear hv2
    go_enter Tryz.func10, Tryz.ntmps10
    go_upto_region 1 with fail
    rw [HW.out]
    go_wp2_with fail
    refine (refValidM_any l A cap _ HL.out).mono ?_
    rintro e w1 ⟨rfl, b1⟩
    rw [Hv.out]
    obtain ⟨s0, s1, s2, s3, s4, s5, s6⟩ := HS0.out.later b1
    simp only [Nat.zero_add] at s0 s1 s2 s3 s4 s5 s6
    have B1 := Lib.hid b1
    clear b1
    go_wp2_with fail
    refine (refValidE_any y _ (HY.out.later B1.out)).mono ?_
    rintro e w2 ⟨rfl, b2⟩
    rw [Hv2.out]
    have B2 := Lib.hid (HB0.out.trans ((B1.out.trans (b2.mono B1.out.size)).mono HB0.out.size))
    clear b2
    go_wp2_with fail
    go_ret2
    exact ⟨.inl ⟨rfl, rfl⟩, B2.out⟩
  case true =>
  have Hv2 := Lib.hid (hveq.out.trans hv2)
  clear hv2
  go_enter Tryz.func10, Tryz.ntmps10
  go_upto_region 1 with fail
  rw [HW.out]
  go_wp2_with fail
  refine (refValidM_any l A cap _ HL.out).mono ?_
  rintro e w1 ⟨rfl, b1⟩
  rw [Hv.out]
  obtain ⟨s0, s1, s2, s3, s4, s5, s6⟩ := HS0.out.later b1
  simp only [Nat.zero_add] at s0 s1 s2 s3 s4 s5 s6
  have B1 := Lib.hid b1
  clear b1
  go_wp2_with fail
  refine (refValidE_any y _ (HY.out.later B1.out)).mono ?_
  rintro e w2 ⟨rfl, b2⟩
  rw [Hv2.out]
  have B2 := Lib.hid (B1.out.trans (b2.mono B1.out.size))
  clear b2 s0 s1 s2 s3 s4 s5 s6 B1
  go_wp2_with fail
  go_loopw [6, 7, 20] (fun o dn i wr => ∃ k : Nat, k ≤ l.length ∧ i = .int .i64 k ∧ dn = .bool ((l.take k).any fun x => placeB x y) ∧ Hid (wr.ownsRow W0.heap.size 29 7 o k (flatE ((l.take k).map (repE y)))) ∧ Hid (RowKit.Below W0.heap.size W0 wr)) (fun _ _ i _ => l.length - (intOf i).toNat)
  case atStart => exact ⟨0, Nat.zero_le _, rfl, rfl, World.ownsRow_nil _ _ _ _, B2.out⟩
  case round =>
    obtain ⟨k, hk, rfl, rfl, hown, hB⟩ := hrel
    have hsz0 := hB.out.size
    have hS := HSZ.out
    obtain ⟨s0, s1, s2, s3, s4, s5, s6⟩ := HS0.out.later hB.out
    simp only [Nat.zero_add] at s0 s1 s2 s3 s4 s5 s6
    by_cases hlt : k < l.length
    · obtain ⟨b, o, ha, hc⟩ := (HL.out.later hB.out).at_
      have ha := ha (by omega)
      obtain ⟨c0, c1, c2, c3, c4, c5, c6⟩ := hc k hlt
      have G1 := Lib.hid ((RowKit.Below.refl wr.heap.size wr).alloc (Nat.le_refl _) (boxE l[k] 29))
      have L1 := Lib.hid (((HL.out.each k hlt).later hB.out).later G1.out)
      have L2 := Lib.hid ((HY.out.later hB.out).later G1.out)
      have htk : (l.take (k + 1)) = l.take k ++ [l[k]] := List.take_succ_eq_append_getElem hlt
      have Hmap := Lib.hid (show (l.take (k + 1)).map (repE y) = (l.take k).map (repE y) ++ [repE y l[k]] by rw [htk]; simp only [List.map_append, List.map_cons, List.map_nil])
      have Hany := Lib.hid (show ((l.take (k + 1)).any fun x => placeB x y) = (((l.take k).any fun x => placeB x y) || placeB l[k] y) by rw [htk]; simp only [List.any_append, List.any_cons, List.any_nil, Bool.or_false])
      have hbox := Lib.hid (heap_alloc_new wr (boxE l[k] 29))
      obtain ⟨t0, t1, t2, t3, t4, t5, t6⟩ := sevenE_new wr l[k] 29
      simp only [Nat.zero_add] at t0 t1 t2 t3 t4 t5 t6
      have SY := Lib.hid ((HS0.out.later hB.out).later G1.out)
      generalize l[k] = x at *
      generalize (l.take k).map (repE y) = pre at *
      generalize ((l.take k).any fun x => placeB x y) = dn at *
      have hblk := Lib.hid (show w.heap.size ≠ wr.heap.size by omega)
      have HO0 := Lib.hid hown.out
      have Hg := Lib.hid hown.out.lt
      have HBr := Lib.hid hB.out
      have L3 := Lib.hid (show k + 1 ≤ maxLen by unfold maxLen; omega)
      have L4 := Lib.hid (show (k + 1) * 128 ≤ 140737488355328 by omega)
      have Hs0 := Lib.hid hsz0
      clear hc htk hown hB hsz0 hS
      rw [ha] at *
      cases hp : placeB x y
      case false =>
        have Hp := Lib.hid hp
        have Hr := Lib.hid (repE_no hp)
        clear hp t0 t1 t2 t3 t4 t5 t6
        obtain ⟨p0, p1, p2, p3, p4, p5, p6⟩ := SY.out
        simp only [Nat.zero_add] at p0 p1 p2 p3 p4 p5 p6
        go_wp2_with fail
        refine (place_any x y _ L1.out L2.out).mono ?_
        rintro e w3 ⟨rfl, b3⟩
        rw [Hp.out]
        have hbox3 := (b3.block _ (Array.getElem?_eq_some_iff.1 hbox.out).1).trans hbox.out
        clear c0 c1 c2 c3 c4 c5 c6 s0 s1 s2 s3 s4 s5 s6
        obtain ⟨z0, z1, z2, z3, z4, z5, z6, f0, f1, f2, f3, f4, f5, f6⟩ := boxE_facts hbox3
        have HB3 := Lib.hid (show RowKit.Below wr.heap.size wr w3 from G1.out.trans (b3.mono G1.out.size))
        clear b3 hbox3 p0 p1 p2 p3 p4 p5 p6
        have HO := Lib.hid (fun O => ownsE_below HO0.out (show RowKit.Below wr.heap.size wr (w3.alloc O) from HB3.out.alloc HB3.out.size _))
        have HLB := Lib.hid (fun O => show W0.heap.size ≤ (w3.alloc O).heap.size by have := HB3.out.size; have := Hs0.out; rw [one_size]; omega)
        go_wp2_with (at_builtin; refine wpList_append_own _ rfl _ _ 23 rfl W0.heap.size 29 i0 _ 7 128 Tryz.underlying23 I0.out Z0.out Z1.out Z2.out rfl (by decide) u6 k (flatE pre) rfl (HO.out _) ⟨w3.heap.size, 0, none⟩ 1 1 (cells7E x) rfl rfl (news7 _ _ _ rfl) (one7 x) L3.out L4.out (HLB.out _) ?_; intro v1 w4 hown1 hgrow1 _)
        have hBn : RowKit.Below W0.heap.size W0 w4 := ((HBr.out.trans (HB3.out.mono Hs0.out)).alloc (by have := HB3.out.size; have := Hs0.out; omega) _).grown hgrow1 (by have := HB3.out.size; have := Hs0.out; rw [one_size]; omega) (fun k e => (Hg.out k e).1)
        go_roundw
        case rel => exact ⟨k + 1, by omega, by go_num, by rw [Hany.out, Hp.out]; simp, by rw [Hmap.out, Hr.out, flatE_snoc]; exact hown1, hBn⟩
        case measure => simp [intOf]; omega
      case true =>
        have Hp := Lib.hid hp
        have Hr := Lib.hid (repE_yes hp)
        clear hp t0 t1 t2 t3 t4 t5 t6
        obtain ⟨p0, p1, p2, p3, p4, p5, p6⟩ := SY.out
        simp only [Nat.zero_add] at p0 p1 p2 p3 p4 p5 p6
        go_wp2_with fail
        refine (place_any x y _ L1.out L2.out).mono ?_
        rintro e w3 ⟨rfl, b3⟩
        rw [Hp.out]
        have hbox3 := (b3.block _ (Array.getElem?_eq_some_iff.1 hbox.out).1).trans hbox.out
        clear c0 c1 c2 c3 c4 c5 c6 s0 s1 s2 s3 s4 s5 s6
        obtain ⟨z0, z1, z2, z3, z4, z5, z6, f0, f1, f2, f3, f4, f5, f6⟩ := boxE_facts hbox3
        have SY3 := SY.out.later b3
        clear p0 p1 p2 p3 p4 p5 p6
        obtain ⟨p0, p1, p2, p3, p4, p5, p6⟩ := SY3
        simp only [Nat.zero_add] at p0 p1 p2 p3 p4 p5 p6
        have hs7 : (((((((w3.setCell ⟨wr.heap.size, 0, none⟩ (.string y.nm)).setCell ⟨wr.heap.size, 1, none⟩ (.slice y.A y.args.length y.c)).setCell ⟨wr.heap.size, 2, none⟩ (.int .i64 y.val.v.so)).setCell ⟨wr.heap.size, 3, none⟩ (.int .i64 y.val.v.nu)).setCell ⟨wr.heap.size, 4, none⟩ (.slice y.val.a1 y.val.v.st.length y.val.c1)).setCell ⟨wr.heap.size, 5, none⟩ (.slice y.val.a2 y.val.v.ix.length y.val.c2)).setCell ⟨wr.heap.size, 6, none⟩ (.slice y.val.a3 y.val.v.xs.length y.val.c3)).heap[wr.heap.size]? = some (boxE y 29) := set7_same (.string y.nm) (.slice y.A y.args.length y.c) (.int .i64 y.val.v.so) (.int .i64 y.val.v.nu) (.slice y.val.a1 y.val.v.st.length y.val.c1) (.slice y.val.a2 y.val.v.ix.length y.val.c2) (.slice y.val.a3 y.val.v.xs.length y.val.c3) hbox3
        have hb7 : RowKit.Below wr.heap.size wr (((((((w3.setCell ⟨wr.heap.size, 0, none⟩ (.string y.nm)).setCell ⟨wr.heap.size, 1, none⟩ (.slice y.A y.args.length y.c)).setCell ⟨wr.heap.size, 2, none⟩ (.int .i64 y.val.v.so)).setCell ⟨wr.heap.size, 3, none⟩ (.int .i64 y.val.v.nu)).setCell ⟨wr.heap.size, 4, none⟩ (.slice y.val.a1 y.val.v.st.length y.val.c1)).setCell ⟨wr.heap.size, 5, none⟩ (.slice y.val.a2 y.val.v.ix.length y.val.c2)).setCell ⟨wr.heap.size, 6, none⟩ (.slice y.val.a3 y.val.v.xs.length y.val.c3)) := below_set7 (G1.out.trans (b3.mono G1.out.size)) (Nat.le_refl _) (.string y.nm) (.slice y.A y.args.length y.c) (.int .i64 y.val.v.so) (.int .i64 y.val.v.nu) (.slice y.val.a1 y.val.v.st.length y.val.c1) (.slice y.val.a2 y.val.v.ix.length y.val.c2) (.slice y.val.a3 y.val.v.xs.length y.val.c3)
        have HS7 := Lib.hid hs7
        have HB7 := Lib.hid hb7
        clear b3 hbox3 hs7 hb7
        go_upto_region 11 with fail
        obtain ⟨w5, hw5⟩ : ∃ w5, (((((((w3.setCell ⟨wr.heap.size, 0, none⟩ (.string y.nm)).setCell ⟨wr.heap.size, 1, none⟩ (.slice y.A y.args.length y.c)).setCell ⟨wr.heap.size, 2, none⟩ (.int .i64 y.val.v.so)).setCell ⟨wr.heap.size, 3, none⟩ (.int .i64 y.val.v.nu)).setCell ⟨wr.heap.size, 4, none⟩ (.slice y.val.a1 y.val.v.st.length y.val.c1)).setCell ⟨wr.heap.size, 5, none⟩ (.slice y.val.a2 y.val.v.ix.length y.val.c2)).setCell ⟨wr.heap.size, 6, none⟩ (.slice y.val.a3 y.val.v.xs.length y.val.c3)) = w5 := ⟨_, rfl⟩
        have hs7 := HS7.out
        have hb7 := HB7.out
        rw [hw5] at hs7 hb7
        rw [hw5]
        clear HS7 HB7
        have HS7 := Lib.hid hs7
        have HB7 := Lib.hid hb7
        clear hs7 hb7 hw5 z0 z1 z2 z3 z4 z5 z6 f0 f1 f2 f3 f4 f5 f6 p0 p1 p2 p3 p4 p5 p6
        obtain ⟨z0, z1, z2, z3, z4, z5, z6, f0, f1, f2, f3, f4, f5, f6⟩ := boxE_facts HS7.out
        have HB3 := Lib.hid HB7.out
        have HO := Lib.hid (fun O => ownsE_below HO0.out (show RowKit.Below wr.heap.size wr (w5.alloc O) from HB3.out.alloc HB3.out.size _))
        have HLB := Lib.hid (fun O => show W0.heap.size ≤ (w5.alloc O).heap.size by have := HB3.out.size; have := Hs0.out; rw [one_size]; omega)
        go_wp2_with (at_builtin; refine wpList_append_own _ rfl _ _ 23 rfl W0.heap.size 29 i0 _ 7 128 Tryz.underlying23 I0.out Z0.out Z1.out Z2.out rfl (by decide) u6 k (flatE pre) rfl (HO.out _) ⟨w5.heap.size, 0, none⟩ 1 1 (cells7E y) rfl rfl (news7 _ _ _ rfl) (one7 y) L3.out L4.out (HLB.out _) ?_; intro v1 w4 hown1 hgrow1 _)
        have hBn : RowKit.Below W0.heap.size W0 w4 := ((HBr.out.trans (HB3.out.mono Hs0.out)).alloc (by have := HB3.out.size; have := Hs0.out; omega) _).grown hgrow1 (by have := HB3.out.size; have := Hs0.out; rw [one_size]; omega) (fun k e => (Hg.out k e).1)
        go_roundw
        case rel => exact ⟨k + 1, by omega, by go_num, by rw [Hany.out, Hp.out]; simp, by rw [Hmap.out, Hr.out, flatE_snoc]; exact hown1, hBn⟩
        case measure => simp [intOf]; omega
    · have htake : l.take k = l := List.take_of_length_le (by omega)
      have hown' := hown.out
      rw [htake] at hown'
      rw [htake]
      obtain rfl : k = l.length := by omega
      have hge : decide (2000 ≤ (l.length : Int)) = false := decide_eq_false (by omega)
      have HE := Lib.hid (fun (W : World) (hb : RowKit.Below W0.heap.size W0 W) => (show ∀ x ∈ setR l y, LiesE W x from setR_each (fun x hx => by obtain ⟨i, hi, rfl⟩ := List.getElem_of_mem hx; exact (HL.out.each i hi).later hb) (HY.out.later hb)))
      have HR := Lib.hid (show setR l y = l.map (repE y) ++ (if l.any (fun x => placeB x y) = true then [] else [y]) from rfl)
      have HLEN := Lib.hid (show (setR l y).length ≤ maxLen by have := setR_len l y; unfold maxLen; omega)
      have HO0 := Lib.hid hown'
      have Hg := Lib.hid hown.out.lt
      have HBr := Lib.hid hB.out
      have L3 := Lib.hid (show l.length + 1 ≤ maxLen by unfold maxLen; omega)
      have L4 := Lib.hid (show (l.length + 1) * 128 ≤ 140737488355328 by omega)
      have HLB := Lib.hid (fun O => show W0.heap.size ≤ (wr.alloc O).heap.size by rw [one_size]; omega)
      have HO := Lib.hid (fun O => ownsE_below HO0.out (show RowKit.Below wr.heap.size wr (wr.alloc O) from (RowKit.Below.refl _ _).alloc (Nat.le_refl _) _))
      have Hs0 := Lib.hid hsz0
      clear htake hown hown' hB HL hsz0 hS
      cases hany : l.any (fun x => placeB x y)
      case false =>
        have HR2 := Lib.hid (show setR l y = l.map (repE y) ++ [y] by rw [HR.out, hany]; rfl)
        clear hany HR
        go_wp2_with (at_builtin; refine wpList_append_own _ rfl _ _ 23 rfl W0.heap.size 29 i0 _ 7 128 Tryz.underlying23 I0.out Z0.out Z1.out Z2.out rfl (by decide) u6 l.length (flatE (l.map (repE y))) rfl (HO.out _) ⟨wr.heap.size, 0, none⟩ 1 1 (cells7E y) rfl rfl (news7 _ _ _ rfl) (one7 y) L3.out L4.out (HLB.out _) ?_; intro v1 w4 hown1 hgrow1 _)
        have hBn : RowKit.Below W0.heap.size W0 w4 := (HBr.out.alloc Hs0.out _).grown hgrow1 (HLB.out _) (fun k e => (Hg.out k e).1)
        have hl2 : (setR l y).length = l.length + 1 := by rw [HR2.out]; simp
        have hown2 : w4.ownsRow W0.heap.size 29 7 v1 (setR l y).length (flatE (setR l y)) := by rw [hl2, HR2.out, flatE_snoc]; exact hown1
        obtain ⟨A', c', hv', hlie⟩ := owns_lies hown2 (HE.out _ hBn) HLEN.out
        subst hv'
        clear hown1 hgrow1 hown2 hl2
        go_wp2_with fail
        go_ret2
        exact ⟨.inr ⟨rfl, A', c', rfl, hlie⟩, HB0.out.trans (hBn.mono HB0.out.size)⟩
      case true =>
        have HR2 := Lib.hid (show setR l y = l.map (repE y) by rw [HR.out, hany]; simp)
        clear hany HR
        have hl2 : (setR l y).length = l.length := by rw [HR2.out]; simp
        have hown2 : wr.ownsRow W0.heap.size 29 7 u6 (setR l y).length (flatE (setR l y)) := by rw [hl2, HR2.out]; exact HO0.out
        obtain ⟨A', c', hv', hlie⟩ := owns_lies hown2 (HE.out _ HBr.out) HLEN.out
        subst hv'
        clear hown2 hl2 HO HO0 Hg
        go_wp2_with fail
        go_ret2
        exact ⟨.inr ⟨rfl, A', c', rfl, hlie⟩, HB0.out.trans (HBr.out.mono HB0.out.size)⟩
end Go.Proofs.YtmeeombadkgneaaGreat
