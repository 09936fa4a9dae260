/-
  How the number of a tree's nodes bounds its lists; no program is spoken of; conditions: none.
-/
import Derived.OwnWalk
import Derived.Lib.LazyBuf
import Derived.Test.YtgkjcimgghflmaaGreatDoorZFresh
import Derived.Test.YtgkjcimgghflmaaGreatDoorZRefCheck
namespace Go.Proofs.YtgkjcimgghflmaaGreatDoor
set_option maxRecDepth 100000
set_option maxHeartbeats 8000000
open Go.RowKit Go.Shelf
attribute [local go_sem] Oper.semAt_some
theorem take_set5 (l : List Value) (k : Nat) (h : k + 5 ≤ l.length) (c0 c1 c2 c3 c4 : Value) :
  (((((l.set k c0).set (k + 1) c1).set (k + 2) c2).set (k + 3) c3).set (k + 4) c4).take (k + 5) = l.take k ++ [c0, c1, c2, c3, c4] := by
 apply List.ext_getElem?
 intro i
 by_cases h1 : i < k
 ·rw [List.getElem?_append_left (by simp; omega), List.getElem?_take_of_lt (by omega), List.getElem?_take_of_lt h1]
  rw [List.getElem?_set_ne (by omega), List.getElem?_set_ne (by omega), List.getElem?_set_ne (by omega), List.getElem?_set_ne (by omega), List.getElem?_set_ne (by omega)]
 ·rw [List.getElem?_append_right (by simp; omega)]
  have hl : (l.take k).length = k := by simp; omega
  rw [hl]
  obtain ⟨j, rfl⟩ : ∃ j, i = k + j := ⟨i - k, by omega⟩
  rw [show k + j - k = j by omega]
  match j with
  | 0 => rw [List.getElem?_take_of_lt (by omega)]; simp [List.getElem?_set]; omega
  | 1 => rw [List.getElem?_take_of_lt (by omega)]; simp [List.getElem?_set]; omega
  | 2 => rw [List.getElem?_take_of_lt (by omega)]; simp [List.getElem?_set]; omega
  | 3 => rw [List.getElem?_take_of_lt (by omega)]; simp [List.getElem?_set]; omega
  | 4 => rw [List.getElem?_take_of_lt (by omega)]; simp [List.getElem?_set]; omega
  | j + 5 => rw [List.getElem?_eq_none (by simp; omega)]; simp
structure MAt (w : World) (g n : Nat) (outs : List Nd) (wr : World) (cur : Array Value) (xs : List NdA) : Prop where
 outs : xs.map (·.1) = outs
 row : wr.heap[g]? = some (.cells cur 27 (0, 0))
 size : cur.size = n * 5
 head : cur.toList.take (xs.length * 5) = flatN xs
 kids : ∀ x ∈ xs, Rob w.heap.size wr (some g) x.2.1 x.2.2 x.1.ks
 fine : ∀ x ∈ xs, Fine x.1
 below : Below w.heap.size w wr
def MInv (w : World) (g n : Nat) (outs : List Nd) (wr : World) : Prop := ∃ cur xs, MAt w g n outs wr cur xs
theorem MAt.later {w : World} {g n : Nat} {outs : List Nd} {wr w' : World} {cur : Array Value} {xs : List NdA} (h : MAt w g n outs wr cur xs) (hb : Below wr.heap.size wr w') : MAt w g n outs w' cur xs :=
 ⟨h.outs, (hb.block _ (Array.getElem?_eq_some_iff.1 h.row).1).trans h.row, h.size, h.head, fun x hx => (h.kids x hx).later hb, h.fine, h.below.trans (hb.mono h.below.size)⟩
abbrev setAt (w : World) (b o : Nat) (c0 c1 c2 c3 c4 : Value) : World := ((((w.setCell ⟨b, o, none⟩ c0).setCell ⟨b, o + 1, none⟩ c1).setCell ⟨b, o + 2, none⟩ c2).setCell ⟨b, o + 3, none⟩ c3).setCell ⟨b, o + 4, none⟩ c4
theorem setAt_same {w : World} {b o : Nat} {cur : Array Value} (c0 c1 c2 c3 c4 : Value) (h : w.heap[b]? = some (.cells cur 27 (0, 0))) :
  (setAt w b o c0 c1 c2 c3 c4).heap[b]? = some (.cells (((((cur.setIfInBounds o c0).setIfInBounds (o + 1) c1).setIfInBounds (o + 2) c2).setIfInBounds (o + 3) c3).setIfInBounds (o + 4) c4) 27 (0, 0)) := by
 have h0 := heap_setCell_same w b o _ _ c0 h
 have h1 := heap_setCell_same _ b (o + 1) _ _ c1 h0
 have h2 := heap_setCell_same _ b (o + 2) _ _ c2 h1
 have h3 := heap_setCell_same _ b (o + 3) _ _ c3 h2
 exact heap_setCell_same _ b (o + 4) _ _ c4 h3
theorem setAt_other {w : World} {b o : Nat} (c0 c1 c2 c3 c4 : Value) {k : Nat} (h : k ≠ b) : (setAt w b o c0 c1 c2 c3 c4).heap[k]? = w.heap[k]? := by
 rw [setAt, heap_setCell_other _ _ _ _ h, heap_setCell_other _ _ _ _ h, heap_setCell_other _ _ _ _ h, heap_setCell_other _ _ _ _ h, heap_setCell_other _ _ _ _ h]
theorem setAt_size (w : World) (b o : Nat) (c0 c1 c2 c3 c4 : Value) : (setAt w b o c0 c1 c2 c3 c4).heap.size = w.heap.size := by simp [setAt, World.setCell]
theorem Below.setAt {B : Nat} {a w : World} (h : Below B a w) {b : Nat} (hb : B ≤ b) (o : Nat) (c0 c1 c2 c3 c4 : Value) : Below B a (setAt w b o c0 c1 c2 c3 c4) :=
 ((((h.setCell (p := ⟨b, o, none⟩) hb c0).setCell (p := ⟨b, o + 1, none⟩) hb c1).setCell (p := ⟨b, o + 2, none⟩) hb c2).setCell (p := ⟨b, o + 3, none⟩) hb c3).setCell (p := ⟨b, o + 4, none⟩) hb c4
theorem MAt.step {w : World} {g n : Nat} {outs : List Nd} {wr : World} {cur : Array Value} {xs : List NdA} (h : MAt w g n outs wr cur xs) (hg : w.heap.size ≤ g) (hk : xs.length < n) {x : NdA}
  (hx : Rob w.heap.size wr (some g) x.2.1 x.2.2 x.1.ks) (hf : Fine x.1) :
  MInv w g n (outs ++ [x.1]) (setAt wr g (xs.length * 5) (.int .i64 x.1.op) (.int .i64 x.1.so) (.string x.1.nm) (.int .i64 x.1.nu) (.slice x.2.1 x.1.ks.length x.2.2)) := by
 have rob : ∀ {A : Option Addr} {cap : Nat} {ks : List Nd}, Rob w.heap.size wr (some g) A cap ks → Rob w.heap.size (setAt wr g (xs.length * 5) (.int .i64 x.1.op) (.int .i64 x.1.so) (.string x.1.nm) (.int .i64 x.1.nu) (.slice x.2.1 x.1.ks.length x.2.2)) (some g) A cap ks :=
  fun hr W hW => hr W fun k h1 h2 h3 => (hW k h1 (by rw [setAt_size]; exact h2) h3).trans (setAt_other _ _ _ _ _ (fun e => h3 (by rw [e])))
 refine ⟨_, xs ++ [x], by rw [List.map_append, h.outs]; rfl, setAt_same _ _ _ _ _ h.row, by simp [h.size], ?_, ?_, ?_, Below.setAt h.below hg _ _ _ _ _ _⟩
 ·have hs' : cur.toList.length = n * 5 := by rw [Array.length_toList]; exact h.size
  rw [flatN_snoc, ← h.head, List.length_append]
  simp only [Array.toList_setIfInBounds, List.length_singleton]
  rw [Nat.add_mul, Nat.one_mul, take_set5 _ _ (by rw [hs']; omega)]
  rfl
 ·intro y hy
  rcases List.mem_append.1 hy with hy | hy
  ·exact rob (h.kids y hy)
  ·simp at hy; subst hy; exact rob hx
 ·intro y hy
  rcases List.mem_append.1 hy with hy | hy
  ·exact h.fine y hy
  ·simp at hy; subst hy; exact hf
theorem MAt.rob {w : World} {g n : Nat} {outs : List Nd} {wr : World} {cur : Array Value} {xs : List NdA} (h : MAt w g n outs wr cur xs) (hg : w.heap.size ≤ g) (hn : xs.length = n) (hm : n ≤ maxLen) : Rob w.heap.size wr none (some ⟨g, 0, none⟩) n outs := by
 intro W hW
 have hgW : W.heap[g]? = some (.cells cur 27 (0, 0)) := (hW g hg (Array.getElem?_eq_some_iff.1 h.row).1 (by simp)).trans h.row
 rw [← h.outs]
 refine .mk _ _ _ (by simpa [hn] using hm) g 0 (fun i => ((xs[i]?).map (·.2.1)).getD none) (fun i => ((xs[i]?).map (·.2.2)).getD 0) (fun _ => rfl) (fun i hi => ?_) (fun i hi => ?_) (fun i hi => ?_)
 all_goals have hi' : i < xs.length := by simpa using hi
 ·have hc : ∀ j, j < 5 → W.cell? ⟨g, 0 + i * 5 + j, none⟩ = (cells5 xs[i])[j]? := fun j hj => by
   have := flatN_at xs i hi' j hj
   rw [← h.head, List.getElem?_take_of_lt (by omega)] at this
   rw [← this]
   simp [World.cell?, hgW]
  simp only [List.getElem_map, List.getElem?_eq_getElem hi', Option.map_some, Option.getD_some]
  exact ⟨hc 0 (by omega), hc 1 (by omega), hc 2 (by omega), hc 3 (by omega), hc 4 (by omega)⟩
 ·simp only [List.getElem_map, List.getElem?_eq_getElem hi', Option.map_some, Option.getD_some]
  exact h.kids xs[i] (List.getElem_mem hi') W fun k a b c => hW k a b (by simp)
 ·simp only [List.getElem_map]
  exact h.fine xs[i] (List.getElem_mem hi')
def RetL (w : World) (us : List Nd) (e : Ending) (w' : World) : Prop := ∃ A cap, e = .returned (.slice A us.length cap) ∧ Rob w.heap.size w' none A cap us ∧ Below w.heap.size w w'
theorem mapped_nil (f : Value) (cap : Nat) (w : World) : Calls Tryz.prog 78 #[.slice none 0 cap, f] w (RetL w []) := by
 have hnil : ∀ W, (binOp .eql 25 (.slice none 0 cap) (.slice none 0 0)).run Tryz.prog W = .ok (.bool true) W := fun W => Lib.run_eql_slice_nil (h := Tryz.underlying25) ..
 go_enter Tryz.func78, Tryz.ntmps78
 go_wp2_with fail
 go_ret
 exact ⟨none, 0, rfl, fun W _ => .mk none 0 [] (by simp) 0 0 (fun _ => none) (fun _ => 0) (fun h => by simp at h) (fun i h => by simp at h) (fun i h => by simp at h) (fun i h => by simp at h), Below.refl _ _⟩
theorem lies_none {w : World} {cap : Nat} {ks : List Nd} (h : Lies w none cap ks) : ks = [] := by
 obtain ⟨b, o, A', C', hA, _⟩ := h.fns
 by_cases h0 : 0 < ks.length
 ·cases hA h0
 ·exact List.length_eq_zero_iff.1 (by omega)
end Go.Proofs.YtgkjcimgghflmaaGreatDoor
namespace Go.Proofs.YtgkjcimgghflmaaGreatDoor
set_option maxRecDepth 100000
set_option maxHeartbeats 8000000
open Go.RowKit Go.Shelf
attribute [local go_sem] Oper.semAt_some
theorem Rob.set1 {n0 : Nat} {w : World} {A : Option Addr} {cap : Nat} {ks : List Nd} (h : Rob n0 w none A cap ks) {p : Addr} (hp : p.block < n0) (u : Value) : Rob n0 (w.setCell p u) none A cap ks :=
 fun W hW => h W fun k h1 h2 h3 => (hW k h1 (by simpa [World.setCell] using h2) h3).trans (heap_setCell_other w p k u (by omega))
end Go.Proofs.YtgkjcimgghflmaaGreatDoor
namespace Go.Proofs.YtgkjcimgghflmaaGreatDoor
set_option maxRecDepth 100000
set_option maxHeartbeats 8000000
open Go.RowKit Go.Shelf
theorem cnt_mem (t : Nd) : ∀ y ∈ nodesOf t, cnt y ≤ cnt t := by
 induction t using Nd.ind with
 | h t ih =>
 intro y hy
 rw [nodesOf_eq] at hy
 rcases List.mem_cons.1 hy with rfl | hy
 ·exact Nat.le_refl _
 ·obtain ⟨k, hk, hy⟩ := List.mem_flatMap.1 hy
  obtain ⟨i, hi, rfl⟩ := List.getElem_of_mem hk
  have := ih i hi y hy
  have := cnt_kid hk
  omega
theorem len_cnt (t : Nd) : t.ks.length + 1 ≤ cnt t := by
 rw [cnt_eq]
 have : ∀ l : List Nd, l.length ≤ (l.map cnt).sum := by
  intro l
  induction l with
  | nil => simp
  | cons x xs ih =>
   have := cnt_eq x
   simp only [List.length_cons, List.map_cons, List.sum_cons]
   omega
 have := this t.ks
 omega
theorem short_cnt {t : Nd} (h : cnt t ≤ 1048576) : Short t := fun y hy => by
 have := cnt_mem t y hy
 have := len_cnt y
 omega
end Go.Proofs.YtgkjcimgghflmaaGreatDoor
