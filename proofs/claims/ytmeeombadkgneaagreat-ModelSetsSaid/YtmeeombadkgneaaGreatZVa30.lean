/-
  What copyModel returns of a model: the same entries in memory of their own; conditions: the model lies in memory, its lists are not too long.
-/
import Derived.Test.YtmeeombadkgneaaGreatZVa27
namespace Go.Proofs.YtmeeombadkgneaaGreat
open Go.Proofs Go.RowKit Go.Shelf Go.Sort Go.Lib

attribute [local go_sem] Oper.semAt_some
theorem take_put7 (l : List Value) (k : Nat) (h : k + 7 ≤ l.length) (c0 c1 c2 c3 c4 c5 c6 : Value) :
    (((((((l.set k c0).set (k + 1) c1).set (k + 2) c2).set (k + 3) c3).set (k + 4) c4).set (k + 5) c5).set (k + 6) c6).take (k + 7) = l.take k ++ [c0, c1, c2, c3, c4, c5, c6] := by
  apply List.ext_getElem?
  intro i
  by_cases h1 : i < k
  · rw [List.getElem?_append_left (by simp; omega), List.getElem?_take_of_lt (by omega), List.getElem?_take_of_lt h1]
    rw [List.getElem?_set_ne (by omega), List.getElem?_set_ne (by omega), List.getElem?_set_ne (by omega), List.getElem?_set_ne (by omega), List.getElem?_set_ne (by omega), List.getElem?_set_ne (by omega), List.getElem?_set_ne (by omega)]
  · rw [List.getElem?_append_right (by simp; omega)]
    have hl : (l.take k).length = k := by simp; omega
    rw [hl]
    obtain ⟨j, rfl⟩ : ∃ j, i = k + j := ⟨i - k, by omega⟩
    rw [show k + j - k = j by omega]
    match j with
    | 0 => rw [List.getElem?_take_of_lt (by omega)]; simp [List.getElem?_set]; omega
    | 1 => rw [List.getElem?_take_of_lt (by omega)]; simp [List.getElem?_set]; omega
    | 2 => rw [List.getElem?_take_of_lt (by omega)]; simp [List.getElem?_set]; omega
    | 3 => rw [List.getElem?_take_of_lt (by omega)]; simp [List.getElem?_set]; omega
    | 4 => rw [List.getElem?_take_of_lt (by omega)]; simp [List.getElem?_set]; omega
    | 5 => rw [List.getElem?_take_of_lt (by omega)]; simp [List.getElem?_set]; omega
    | 6 => rw [List.getElem?_take_of_lt (by omega)]; simp [List.getElem?_set]; omega
    | j + 7 => rw [List.getElem?_eq_none (by simp; omega)]; simp
abbrev cells7E (x : EA) : List Value := [.string x.nm, .slice x.A x.args.length x.c, .int .i64 x.val.v.so, .int .i64 x.val.v.nu, .slice x.val.a1 x.val.v.st.length x.val.c1, .slice x.val.a2 x.val.v.ix.length x.val.c2, .slice x.val.a3 x.val.v.xs.length x.val.c3]
def flatE (l : List EA) : List Value := (l.map cells7E).flatten
theorem flatE_snoc (l : List EA) (x : EA) : flatE (l ++ [x]) = flatE l ++ cells7E x := by simp [flatE]
theorem flatE_at : ∀ (l : List EA) (i : Nat) (h : i < l.length) (j : Nat), j < 7 → (flatE l)[i * 7 + j]? = (cells7E l[i])[j]?
  | [], _, h, _, _ => absurd h (by simp)
  | x :: l, 0, _, j, hj => by
    show (cells7E x ++ flatE l)[0 * 7 + j]? = _
    rw [List.getElem?_append_left (by show 0 * 7 + j < 7; omega), Nat.zero_mul, Nat.zero_add]; rfl
  | x :: l, i + 1, h, j, hj => by
    show (cells7E x ++ flatE l)[(i + 1) * 7 + j]? = _
    rw [List.getElem?_append_right (by show 7 ≤ _; omega)]
    rw [show (i + 1) * 7 + j - (cells7E x).length = i * 7 + j by show (i + 1) * 7 + j - 7 = _; omega]
    exact flatE_at l i (by simpa using h) j hj
/-- In the midst of a model's making: a row of n entries in block w.heap.size, of which the first ones are written. -/
structure ME (w : World) (n : Nat) (ks : List (ByteArray × List Vl × Vl)) (wr : World) (cur : Array Value) (xs : List EA) : Prop where
  outs : xs.map keyE = ks
  row : wr.heap[w.heap.size]? = some (.cells cur 29 (0, 0))
  size : cur.size = n * 7
  head : cur.toList.take (xs.length * 7) = flatE xs
  each : ∀ x ∈ xs, RobE (w.heap.size + 1) wr x
  below : RowKit.Below w.heap.size w wr
def MEI (w : World) (n : Nat) (ks : List (ByteArray × List Vl × Vl)) (wr : World) : Prop := ∃ cur xs, ME w n ks wr cur xs
theorem ME.later {w : World} {n : Nat} {ks : List (ByteArray × List Vl × Vl)} {wr w' : World} {cur : Array Value} {xs : List EA} (h : ME w n ks wr cur xs) (hb : RowKit.Below wr.heap.size wr w') : ME w n ks w' cur xs :=
  ⟨h.outs, (hb.block _ (Array.getElem?_eq_some_iff.1 h.row).1).trans h.row, h.size, h.head, fun x hx => (h.each x hx).later hb, h.below.trans (hb.mono h.below.size)⟩
/-- The seven cells of an entry's place are written. -/
abbrev putE (w : World) (b o : Nat) (c0 c1 c2 c3 c4 c5 c6 : Value) : World := (((((((w.setCell ⟨b, o, none⟩ c0).setCell ⟨b, o + 1, none⟩ c1).setCell ⟨b, o + 2, none⟩ c2).setCell ⟨b, o + 3, none⟩ c3).setCell ⟨b, o + 4, none⟩ c4).setCell ⟨b, o + 5, none⟩ c5).setCell ⟨b, o + 6, none⟩ c6)
theorem putE_same {w : World} {b o : Nat} {t : TypeId} {cur : Array Value} (c0 c1 c2 c3 c4 c5 c6 : Value) (h : w.heap[b]? = some (.cells cur t (0, 0))) :
    (putE w b o c0 c1 c2 c3 c4 c5 c6).heap[b]? = some (.cells (((((((cur.setIfInBounds o c0).setIfInBounds (o + 1) c1).setIfInBounds (o + 2) c2).setIfInBounds (o + 3) c3).setIfInBounds (o + 4) c4).setIfInBounds (o + 5) c5).setIfInBounds (o + 6) c6) t (0, 0)) := by
  have h0 : (w.setCell ⟨b, o, none⟩ c0).heap[b]? = some (.cells (cur.setIfInBounds o c0) t (0, 0)) := heap_setCell_same _ b o _ _ c0 h
  have h1 : ((w.setCell ⟨b, o, none⟩ c0).setCell ⟨b, o + 1, none⟩ c1).heap[b]? = some (.cells ((cur.setIfInBounds o c0).setIfInBounds (o + 1) c1) t (0, 0)) := heap_setCell_same _ b (o + 1) _ _ c1 h0
  have h2 : (((w.setCell ⟨b, o, none⟩ c0).setCell ⟨b, o + 1, none⟩ c1).setCell ⟨b, o + 2, none⟩ c2).heap[b]? = some (.cells (((cur.setIfInBounds o c0).setIfInBounds (o + 1) c1).setIfInBounds (o + 2) c2) t (0, 0)) := heap_setCell_same _ b (o + 2) _ _ c2 h1
  have h3 : ((((w.setCell ⟨b, o, none⟩ c0).setCell ⟨b, o + 1, none⟩ c1).setCell ⟨b, o + 2, none⟩ c2).setCell ⟨b, o + 3, none⟩ c3).heap[b]? = some (.cells ((((cur.setIfInBounds o c0).setIfInBounds (o + 1) c1).setIfInBounds (o + 2) c2).setIfInBounds (o + 3) c3) t (0, 0)) := heap_setCell_same _ b (o + 3) _ _ c3 h2
  have h4 : (((((w.setCell ⟨b, o, none⟩ c0).setCell ⟨b, o + 1, none⟩ c1).setCell ⟨b, o + 2, none⟩ c2).setCell ⟨b, o + 3, none⟩ c3).setCell ⟨b, o + 4, none⟩ c4).heap[b]? = some (.cells (((((cur.setIfInBounds o c0).setIfInBounds (o + 1) c1).setIfInBounds (o + 2) c2).setIfInBounds (o + 3) c3).setIfInBounds (o + 4) c4) t (0, 0)) := heap_setCell_same _ b (o + 4) _ _ c4 h3
  have h5 : ((((((w.setCell ⟨b, o, none⟩ c0).setCell ⟨b, o + 1, none⟩ c1).setCell ⟨b, o + 2, none⟩ c2).setCell ⟨b, o + 3, none⟩ c3).setCell ⟨b, o + 4, none⟩ c4).setCell ⟨b, o + 5, none⟩ c5).heap[b]? = some (.cells ((((((cur.setIfInBounds o c0).setIfInBounds (o + 1) c1).setIfInBounds (o + 2) c2).setIfInBounds (o + 3) c3).setIfInBounds (o + 4) c4).setIfInBounds (o + 5) c5) t (0, 0)) := heap_setCell_same _ b (o + 5) _ _ c5 h4
  have h6 : (((((((w.setCell ⟨b, o, none⟩ c0).setCell ⟨b, o + 1, none⟩ c1).setCell ⟨b, o + 2, none⟩ c2).setCell ⟨b, o + 3, none⟩ c3).setCell ⟨b, o + 4, none⟩ c4).setCell ⟨b, o + 5, none⟩ c5).setCell ⟨b, o + 6, none⟩ c6).heap[b]? = some (.cells (((((((cur.setIfInBounds o c0).setIfInBounds (o + 1) c1).setIfInBounds (o + 2) c2).setIfInBounds (o + 3) c3).setIfInBounds (o + 4) c4).setIfInBounds (o + 5) c5).setIfInBounds (o + 6) c6) t (0, 0)) := heap_setCell_same _ b (o + 6) _ _ c6 h5
  exact h6
theorem putE_other {w : World} {b o : Nat} (c0 c1 c2 c3 c4 c5 c6 : Value) {k : Nat} (h : k ≠ b) : (putE w b o c0 c1 c2 c3 c4 c5 c6).heap[k]? = w.heap[k]? := by
  rw [putE, heap_setCell_other _ _ _ _ h, heap_setCell_other _ _ _ _ h, heap_setCell_other _ _ _ _ h, heap_setCell_other _ _ _ _ h, heap_setCell_other _ _ _ _ h, heap_setCell_other _ _ _ _ h, heap_setCell_other _ _ _ _ h]
theorem putE_size (w : World) (b o : Nat) (c0 c1 c2 c3 c4 c5 c6 : Value) : (putE w b o c0 c1 c2 c3 c4 c5 c6).heap.size = w.heap.size := by simp [putE, World.setCell]
theorem below_putE {B : Nat} {a w : World} (h : RowKit.Below B a w) {b : Nat} (hb : B ≤ b) (o : Nat) (c0 c1 c2 c3 c4 c5 c6 : Value) : RowKit.Below B a (putE w b o c0 c1 c2 c3 c4 c5 c6) :=
  (((((((h.setCell (p := ⟨b, o, none⟩) hb c0).setCell (p := ⟨b, o + 1, none⟩) hb c1).setCell (p := ⟨b, o + 2, none⟩) hb c2).setCell (p := ⟨b, o + 3, none⟩) hb c3).setCell (p := ⟨b, o + 4, none⟩) hb c4).setCell (p := ⟨b, o + 5, none⟩) hb c5).setCell (p := ⟨b, o + 6, none⟩) hb c6)
theorem RobE.same {n0 : Nat} {w w' : World} {x : EA} (h : RobE n0 w x) (hs : w'.heap.size = w.heap.size) (ho : ∀ k, n0 ≤ k → w'.heap[k]? = w.heap[k]?) : RobE n0 w' x :=
  fun W hW => h W fun k h1 h2 => (hW k h1 (by rw [hs]; exact h2)).trans (ho k h1)
theorem ME.step {w : World} {n : Nat} {ks : List (ByteArray × List Vl × Vl)} {wr : World} {cur : Array Value} {xs : List EA} (h : ME w n ks wr cur xs) (hk : xs.length < n) {x : EA} (hx : RobE (w.heap.size + 1) wr x) :
    MEI w n (ks ++ [keyE x]) (putE wr w.heap.size (xs.length * 7) (.string x.nm) (.slice x.A x.args.length x.c) (.int .i64 x.val.v.so) (.int .i64 x.val.v.nu) (.slice x.val.a1 x.val.v.st.length x.val.c1) (.slice x.val.a2 x.val.v.ix.length x.val.c2) (.slice x.val.a3 x.val.v.xs.length x.val.c3)) := by
  have rob : ∀ {y : EA}, RobE (w.heap.size + 1) wr y → RobE (w.heap.size + 1) (putE wr w.heap.size (xs.length * 7) (.string x.nm) (.slice x.A x.args.length x.c) (.int .i64 x.val.v.so) (.int .i64 x.val.v.nu) (.slice x.val.a1 x.val.v.st.length x.val.c1) (.slice x.val.a2 x.val.v.ix.length x.val.c2) (.slice x.val.a3 x.val.v.xs.length x.val.c3)) y :=
    fun hr => hr.same (putE_size _ _ _ _ _ _ _ _ _ _) fun k hk => putE_other _ _ _ _ _ _ _ (by omega)
  refine ⟨_, xs ++ [x], by rw [List.map_append, h.outs]; rfl, putE_same _ _ _ _ _ _ _ h.row, by simp [h.size], ?_, ?_, below_putE h.below (Nat.le_refl _) _ _ _ _ _ _ _ _⟩
  · have hs' : cur.toList.length = n * 7 := by rw [Array.length_toList]; exact h.size
    rw [flatE_snoc, ← h.head, List.length_append]
    simp only [Array.toList_setIfInBounds, List.length_singleton]
    rw [Nat.add_mul, Nat.one_mul, take_put7 _ _ (by rw [hs']; omega)]
  · intro y hy
    rcases List.mem_append.1 hy with hy | hy
    · exact rob (h.each y hy)
    · simp at hy; subst hy; exact rob hx
/-- A model that lies in blocks from n0 on. -/
def RobM (n0 : Nat) (w : World) (A : Option Addr) (l : List EA) : Prop := ∀ W : World, (∀ k, n0 ≤ k → k < w.heap.size → W.heap[k]? = w.heap[k]?) → LiesM W A l
theorem RobM.here {n0 : Nat} {w : World} {A : Option Addr} {l : List EA} (h : RobM n0 w A l) : LiesM w A l := h w fun _ _ _ => rfl
theorem RobM.later {n0 : Nat} {w w' : World} {A : Option Addr} {l : List EA} (h : RobM n0 w A l) (hb : RowKit.Below w.heap.size w w') : RobM n0 w' A l :=
  fun W hW => h W fun k h1 h2 => (hW k h1 (Nat.lt_of_lt_of_le h2 hb.size)).trans (hb.block k h2)
/-- In the end the model lies in new memory. -/
theorem ME.rob {w : World} {n : Nat} {ks : List (ByteArray × List Vl × Vl)} {wr : World} {cur : Array Value} {xs : List EA} (h : ME w n ks wr cur xs) (hn : xs.length = n) (hm : n ≤ maxLen) : RobM w.heap.size wr (some ⟨w.heap.size, 0, none⟩) xs := by
  intro W hW
  have hgW : W.heap[w.heap.size]? = some (.cells cur 29 (0, 0)) := (hW _ (Nat.le_refl _) (Array.getElem?_eq_some_iff.1 h.row).1).trans h.row
  refine ⟨by rw [hn]; exact hm, ⟨w.heap.size, 0, fun _ => rfl, fun i hi => ?_⟩, fun i hi => h.each xs[i] (List.getElem_mem hi) W fun k a b => hW k (by omega) b⟩
  have hc : ∀ j, j < 7 → W.cell? ⟨w.heap.size, 0 + i * 7 + j, none⟩ = (cells7E xs[i])[j]? := fun j hj => by
    have := flatE_at xs i hi j hj
    rw [← h.head, List.getElem?_take_of_lt (by omega)] at this
    rw [← this]
    simp [World.cell?, hgW]
  exact ⟨hc 0 (by omega), hc 1 (by omega), hc 2 (by omega), hc 3 (by omega), hc 4 (by omega), hc 5 (by omega), hc 6 (by omega)⟩
theorem info29c : (Tryz.prog.info? 29).map (fun i => (i.zero, i.size, i.bytes)) = some (some (.agg #[.string ⟨#[]⟩, .slice none 0 0, .int .i64 0, .int .i64 0, .slice none 0 0, .slice none 0 0, .slice none 0 0]), 7, 128) := by kernel_rfl
set_option maxRecDepth 100000 in
set_option maxHeartbeats 4000000 in
theorem copyM_any (l : List EA) (A : Option Addr) (cap : Nat) (w : World) (hL : LiesM w A l) (hl : l.length ≤ 2000) (hT : ∀ x ∈ l, TameE x) :
    Calls Tryz.prog 35 #[.slice A l.length cap] w fun e w' => ∃ xs : List EA, e = .returned (.slice (some ⟨w.heap.size, 0, none⟩) l.length l.length) ∧ xs.length = l.length ∧ xs.map keyE = l.map keyE ∧ (∃ cur, ME w l.length (l.map keyE) w' cur xs) := by
  obtain ⟨i0, hi, hz0, hz1, hz2⟩ := info_parts info29c
  have I0 := Lib.hid hi
  have Z0 := Lib.hid hz0
  have Z1 := Lib.hid hz1
  have Z2 := Lib.hid hz2
  clear hi hz0 hz1 hz2
  have HL := Lib.hid hL
  have HT := Lib.hid hT
  clear hL hT
  go_enter Tryz.func35, Tryz.ntmps35
  have BY : Hid (i0.bytes * l.length ≤ 281474976710656) := by show _ ≤ _; rw [Z2.out]; omega
  have ML : Hid (l.length ≤ maxLen) := by show _ ≤ _; unfold maxLen; omega
  go_wp2_with (at_make; refine wpList_make_full _ rfl _ _ 23 rfl w.heap.size 29 i0 _ 7 Tryz.underlying23 I0.out Z0.out Z1.out .i64 .i64 _ _ l.length rfl rfl rfl rfl BY.out ML.out (Nat.le_refl _) ?_; intro w1 hown1 hgrow1)
  have M0 : MEI w l.length [] w1 := by
    rcases hown1.2 with ⟨h, _⟩ | ⟨g, cap', cur, hv, h1, h2, h3, h4, h5, h6⟩
    · cases h
    · cases hv
      exact ⟨cur, [], rfl, h2, h5, by simp [flatE], fun _ h => by simp at h, (RowKit.Below.refl _ _).grown hgrow1 (Nat.le_refl _) (fun k e => by cases e)⟩
  clear hown1 hgrow1
  go_loopw [11] (fun i wr => ∃ k : Nat, k ≤ l.length ∧ i = .int .i64 k ∧ Hid (MEI w l.length ((l.map keyE).take k) wr)) (fun i _ => l.length - (intOf i).toNat)
  case atStart => exact ⟨0, Nat.zero_le _, rfl, M0⟩
  case round =>
    obtain ⟨k, hk, rfl, cur, xs, hM⟩ := hrel
    have HM := Lib.hid hM
    have hBr := hM.below
    have hlen : xs.length = k := by
      have := congrArg List.length hM.outs
      simp only [List.length_map, List.length_take] at this
      omega
    by_cases hlt : k < l.length
    · obtain ⟨b, o, ha, hc⟩ := (HL.out.later hBr).at_
      have ha := ha (by omega)
      obtain ⟨c0, c1, c2, c3, c4, c5, c6⟩ := hc k hlt
      have L1 := Lib.hid ((HL.out.each k hlt).later hBr)
      have T1 := HT.out l[k] (List.getElem_mem hlt)
      have HT1 := Lib.hid T1
      have htk := Lib.hid (show (l.map keyE).take (k + 1) = (l.map keyE).take k ++ [keyE l[k]] by rw [List.take_succ_eq_append_getElem (by rw [List.length_map]; exact hlt)]; simp)
      have hsz := hBr.size
      clear hM hc T1
      have HLT := Lib.hid hlt
      generalize l[k] = q at *
      clear HL
      rw [ha] at *
      go_wp2_with fail
      refine (copyE_any q _ (L1.out.later ((RowKit.Below.refl _ _).alloc (Nat.le_refl _) _)) HT1.out).mono ?_
      rintro e w2 ⟨y, rfl, hyv, hrob, hb2⟩
      have hb3 : RowKit.Below wr.heap.size wr w2 := ((RowKit.Below.refl _ _).alloc (Nat.le_refl _) _).trans (hb2.mono (by simp))
      have HM2 := Lib.hid (HM.out.later hb3)
      have hcs := HM2.out.size
      have hrow := HM2.out.row
      have hrz := (Array.getElem?_eq_some_iff.1 HM.out.row).1
      have HR := Lib.hid (show RobE (w.heap.size + 1) w2 y from hrob.less (by simp; omega))
      have HST := Lib.hid (show MEI w l.length ((l.map keyE).take k ++ [keyE q]) (putE w2 w.heap.size (k * 7) (.string y.nm) (.slice y.A y.args.length y.c) (.int .i64 y.val.v.so) (.int .i64 y.val.v.nu) (.slice y.val.a1 y.val.v.st.length y.val.c1) (.slice y.val.a2 y.val.v.ix.length y.val.c2) (.slice y.val.a3 y.val.v.xs.length y.val.c3)) by have := HM2.out.step (by have := HLT.out; omega) HR.out; rwa [hlen, hyv] at this)
      obtain ⟨y0, hy0⟩ : ∃ y, cur[k * 7]? = some y := ⟨_, Array.getElem?_eq_getElem (by have := HLT.out; omega)⟩
      obtain ⟨y1, hy1⟩ : ∃ y, cur[k * 7 + 1]? = some y := ⟨_, Array.getElem?_eq_getElem (by have := HLT.out; omega)⟩
      obtain ⟨y2, hy2⟩ : ∃ y, cur[k * 7 + 2]? = some y := ⟨_, Array.getElem?_eq_getElem (by have := HLT.out; omega)⟩
      obtain ⟨y3, hy3⟩ : ∃ y, cur[k * 7 + 3]? = some y := ⟨_, Array.getElem?_eq_getElem (by have := HLT.out; omega)⟩
      obtain ⟨y4, hy4⟩ : ∃ y, cur[k * 7 + 4]? = some y := ⟨_, Array.getElem?_eq_getElem (by have := HLT.out; omega)⟩
      obtain ⟨y5, hy5⟩ : ∃ y, cur[k * 7 + 5]? = some y := ⟨_, Array.getElem?_eq_getElem (by have := HLT.out; omega)⟩
      obtain ⟨y6, hy6⟩ : ∃ y, cur[k * 7 + 6]? = some y := ⟨_, Array.getElem?_eq_getElem (by have := HLT.out; omega)⟩
      have z0 := cell_row hrow hy0
      have f0 := frozen_of_row w2 w.heap.size (k * 7) _ _ hrow
      have z1 := cell_row hrow hy1
      have f1 := frozen_of_row w2 w.heap.size (k * 7 + 1) _ _ hrow
      have z2 := cell_row hrow hy2
      have f2 := frozen_of_row w2 w.heap.size (k * 7 + 2) _ _ hrow
      have z3 := cell_row hrow hy3
      have f3 := frozen_of_row w2 w.heap.size (k * 7 + 3) _ _ hrow
      have z4 := cell_row hrow hy4
      have f4 := frozen_of_row w2 w.heap.size (k * 7 + 4) _ _ hrow
      have z5 := cell_row hrow hy5
      have f5 := frozen_of_row w2 w.heap.size (k * 7 + 5) _ _ hrow
      have z6 := cell_row hrow hy6
      have f6 := frozen_of_row w2 w.heap.size (k * 7 + 6) _ _ hrow
      clear hrow hy0 hy1 hy2 hy3 hy4 hy5 hy6 hb2 hb3 hrob hcs c0 c1 c2 c3 c4 c5 c6 hyv hrz
      go_wp2_with fail
      go_roundw
      case rel => exact ⟨k + 1, by omega, by go_num, by rw [htk.out]; exact HST.out⟩
      case measure => simp [intOf]; omega
    · have houts := hM.outs
      rw [List.take_of_length_le (by rw [List.length_map]; omega)] at houts
      have HF := Lib.hid (show ME w l.length (l.map keyE) wr cur xs from ⟨houts, hM.row, hM.size, hM.head, hM.each, hM.below⟩)
      have HO := Lib.hid houts
      have HN := Lib.hid (show xs.length = l.length by omega)
      clear hM HM houts hBr
      go_wp2_with fail
      go_ret
      exact ⟨xs, rfl, HN.out, HO.out, cur, HF.out⟩
end Go.Proofs.YtmeeombadkgneaaGreat
