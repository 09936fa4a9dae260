/-
  How the number of a tree's nodes bounds its lists; no program is spoken of; conditions: none.
-/
import Derived.Maps.AppendAt
import Derived.Test.YtgkjcimgghflmaaGreatDoorYRefVars
import Derived.Test.YtgkjcimgghflmaaGreatDoorYRefCheck
namespace Go.Proofs.YtgkjcimgghflmaaGreatDoor
open Go.RowKit Go.Shelf
attribute [local go_sem] Oper.semAt_some
/-- The blocks from n0 on, but one, are as they were. -/
def Agr (n0 : Nat) (w W : World) (row : Option Nat) : Prop := ∀ k, n0 ≤ k → k < w.heap.size → some k ≠ row → W.heap[k]? = w.heap[k]?
/-- A list of nodes lies in the blocks from n0 on, but one. -/
def Rob (n0 : Nat) (w : World) (row : Option Nat) (A : Option Addr) (cap : Nat) (ks : List Nd) : Prop := ∀ W, Agr n0 w W row → Lies W A cap ks
/-- A function returns a tree of new memory. -/
def RetN (w : World) (u : Nd) (e : Ending) (w' : World) : Prop := ∃ A cap, e = .returned (nv u.op u.so u.nm u.nu (.slice A u.ks.length cap)) ∧ Rob w.heap.size w' none A cap u.ks ∧ Fine u ∧ Below w.heap.size w w'
theorem Rob.lies {n0 : Nat} {w : World} {row : Option Nat} {A : Option Addr} {cap : Nat} {ks : List Nd} (h : Rob n0 w row A cap ks) : Lies w A cap ks := h w (fun _ _ _ _ => rfl)
theorem Rob.lower {n0 n1 : Nat} {w : World} {row : Option Nat} {A : Option Addr} {cap : Nat} {ks : List Nd} (h : Rob n1 w row A cap ks) (hn : n0 ≤ n1) : Rob n0 w row A cap ks :=
  fun W hW => h W fun k h1 h2 h3 => hW k (Nat.le_trans hn h1) h2 h3
/-- Other memory is made. -/
theorem Rob.later {n0 : Nat} {w w' : World} {row : Option Nat} {A : Option Addr} {cap : Nat} {ks : List Nd} (h : Rob n0 w row A cap ks) (hb : Below w.heap.size w w') : Rob n0 w' row A cap ks :=
  fun W hW => h W fun k h1 h2 h3 => (hW k h1 (Nat.lt_of_lt_of_le h2 hb.size) h3).trans (hb.block k h2)
/-- What is new is not in a block that was there. -/
theorem Rob.new {n0 : Nat} {w w' : World} {g : Nat} {A : Option Addr} {cap : Nat} {ks : List Nd} (h : Rob w.heap.size w' none A cap ks) (hg : g < w.heap.size) (hn : n0 ≤ w.heap.size) : Rob n0 w' (some g) A cap ks :=
  fun W hW => h W fun k h1 h2 _ => hW k (Nat.le_trans hn h1) h2 (fun e => by cases e; omega)
theorem Rob.newNone {n0 : Nat} {w w' : World} {row : Option Nat} {A : Option Addr} {cap : Nat} {ks : List Nd} (h : Rob w.heap.size w' none A cap ks) (hg : ∀ g, row = some g → g < w.heap.size) (hn : n0 ≤ w.heap.size) : Rob n0 w' row A cap ks :=
  fun W hW => h W fun k h1 h2 _ => hW k (Nat.le_trans hn h1) h2 (fun e => by have := hg k e.symm; omega)
/-- The own block grows, or gives place to a new one. -/
theorem Rob.grown {n0 : Nat} {w w' : World} {row row' : Option Nat} {A : Option Addr} {cap : Nat} {ks : List Nd} (h : Rob n0 w row A cap ks) (hg : w.grownBy w' row) (hr : row' = row ∨ row' = some w.heap.size) : Rob n0 w' row' A cap ks :=
  fun W hW => h W fun k h1 h2 h3 => (hW k h1 (Nat.lt_of_lt_of_le h2 hg.size) (fun e => by
    rcases hr with hr | hr
    · exact h3 (e.trans hr)
    · rw [hr] at e; cases e; omega)).trans (hg.block k h2 h3)
/-- A node with where its kids lie. -/
abbrev NdA := Nd × Option Addr × Nat
def cells5 (x : NdA) : List Value := [.int .i64 x.1.op, .int .i64 x.1.so, .string x.1.nm, .int .i64 x.1.nu, .slice x.2.1 x.1.ks.length x.2.2]
def flatN (l : List NdA) : List Value := l.flatMap cells5
theorem flatN_snoc (l : List NdA) (d : NdA) : flatN (l ++ [d]) = flatN l ++ cells5 d := by
  rw [flatN, List.flatMap_append]; simp [flatN]
theorem flatN_at (l : List NdA) : ∀ i (h : i < l.length) j, j < 5 → (flatN l)[i * 5 + j]? = (cells5 l[i])[j]? := by
  induction l with
  | nil => intro i h; simp at h
  | cons x xs ih =>
    intro i h j hj
    have e : flatN (x :: xs) = cells5 x ++ flatN xs := rfl
    have l5 : (cells5 x).length = 5 := rfl
    match i, h with
    | 0, _ => rw [e, List.getElem?_append_left (by omega)]; simp
    | i + 1, h =>
      have h' : i < xs.length := by simpa using h
      rw [e, List.getElem?_append_right (by omega), l5, show (i + 1) * 5 + j - 5 = i * 5 + j by omega]
      simpa using ih i h' j hj
/-- A growing list of nodes: its own row, and its kids' kids beside it. -/
structure Grows (n0 : Nat) (w : World) (v : Value) (xs : List NdA) : Prop where
  row : w.ownsRow n0 27 5 v xs.length (flatN xs)
  kids : ∀ x ∈ xs, Rob n0 w v.ownBlock x.2.1 x.2.2 x.1.ks
  fine : ∀ x ∈ xs, Fine x.1
theorem Grows.nil (n0 : Nat) (w : World) : Grows n0 w (.slice none 0 0) [] := ⟨World.ownsRow_nil _ _ _ _, fun _ h => by simp at h, fun _ h => by simp at h⟩
theorem Grows.later {n0 : Nat} {w w' : World} {v : Value} {xs : List NdA} (h : Grows n0 w v xs) (hb : Below w.heap.size w w') : Grows n0 w' v xs :=
  ⟨ownsRow_below h.row hb, fun x hx => (h.kids x hx).later hb, h.fine⟩
theorem Grows.add {n0 : Nat} {w w' : World} {v v' : Value} {xs : List NdA} {x : NdA} (h : Grows n0 w v xs) (hx : Rob n0 w v.ownBlock x.2.1 x.2.2 x.1.ks) (hf : Fine x.1)
    (hown : w'.ownsRow n0 27 5 v' (xs.length + 1) (flatN xs ++ cells5 x)) (hg : w.grownBy w' v.ownBlock) (hr : v'.ownBlock = v.ownBlock ∨ v'.ownBlock = some w.heap.size) : Grows n0 w' v' (xs ++ [x]) :=
  ⟨by rw [flatN_snoc, List.length_append]; exact hown,
   fun y hy => by
    rcases List.mem_append.1 hy with hy | hy
    · exact (h.kids y hy).grown hg hr
    · simp at hy; subst hy; exact hx.grown hg hr,
   fun y hy => by
    rcases List.mem_append.1 hy with hy | hy
    · exact h.fine y hy
    · simp at hy; subst hy; exact hf⟩
/-- In the end the list lies in new memory. -/
theorem Grows.rob {n0 : Nat} {w : World} {v : Value} {xs : List NdA} (h : Grows n0 w v xs) (hm : xs.length ≤ maxLen) : ∃ A cap, v = .slice A xs.length cap ∧ Rob n0 w none A cap (xs.map (·.1)) := by
  rcases h.row.2 with ⟨hv, hn⟩ | ⟨g, cap, cur, hv, h1, h2, h3, h4, h5, h6⟩
  · have hx : xs = [] := List.length_eq_zero_iff.1 hn
    subst hx
    exact ⟨none, 0, hv, fun W _ => .mk none 0 [] (by simp) 0 0 (fun _ => none) (fun _ => 0) (fun h => by simp at h) (fun i h => by simp at h) (fun i h => by simp at h) (fun i h => by simp at h)⟩
  · refine ⟨_, cap, hv, fun W hW => ?_⟩
    have hgW : W.heap[g]? = some (.cells cur 27 (0, 0)) := (hW g h1 (Array.getElem?_eq_some_iff.1 h2).1 (by simp)).trans h2
    refine .mk _ _ _ (by simpa using hm) g 0 (fun i => ((xs[i]?).map (·.2.1)).getD none) (fun i => ((xs[i]?).map (·.2.2)).getD 0) (fun _ => rfl) (fun i hi => ?_) (fun i hi => ?_) (fun i hi => ?_)
    all_goals have hi' : i < xs.length := by simpa using hi
    · have hc : ∀ j, j < 5 → W.cell? ⟨g, 0 + i * 5 + j, none⟩ = (cells5 xs[i])[j]? := fun j hj => by
        have := flatN_at xs i hi' j hj
        rw [← h6, List.getElem?_take_of_lt (by omega)] at this
        rw [← this]
        simp [World.cell?, hgW]
      simp only [List.getElem_map, List.getElem?_eq_getElem hi', Option.map_some, Option.getD_some]
      exact ⟨hc 0 (by omega), hc 1 (by omega), hc 2 (by omega), hc 3 (by omega), hc 4 (by omega)⟩
    · simp only [List.getElem_map, List.getElem?_eq_getElem hi', Option.map_some, Option.getD_some]
      refine h.kids xs[i] (List.getElem_mem hi') W fun k a b c => hW k a b (by simp)
    · simp only [List.getElem_map]
      exact h.fine xs[i] (List.getElem_mem hi')
end Go.Proofs.YtgkjcimgghflmaaGreatDoor
namespace Go.Proofs.YtgkjcimgghflmaaGreatDoor
open Go.RowKit Go.Shelf
attribute [local go_sem] Oper.semAt_some
/-- No list of kids is too long to be grown. -/
def Short (t : Nd) : Prop := ∀ y ∈ nodesOf t, y.ks.length ≤ 2199023255488
theorem Short.self {t : Nd} (h : Short t) : t.ks.length ≤ 2199023255488 := h t (by rw [nodesOf_eq]; simp)
theorem Short.kid {t : Nd} (h : Short t) {i : Nat} (hi : i < t.ks.length) : Short t.ks[i] := fun y hy => h y (by
  rw [nodesOf_eq]
  exact List.mem_cons_of_mem _ (List.mem_flatMap.2 ⟨_, List.getElem_mem hi, hy⟩))
theorem info27 : (Tryz.prog.info? 27).map (fun i => (i.zero, i.size, i.bytes)) = some (some (.agg #[.int .i64 0, .int .i64 0, .string ⟨#[]⟩, .int .i64 0, .slice none 0 0]), 5, 64) := by kernel_rfl
theorem Grows.set {n0 : Nat} {w : World} {v : Value} {xs : List NdA} (h : Grows n0 w v xs) {p : Addr} (hp : p.block < n0) (u : Value) : Grows n0 (w.setCell p u) v xs :=
  ⟨ownsRow_setCell_below h.row hp u, fun x hx W hW => h.kids x hx W fun k h1 h2 h3 => (hW k h1 (by simpa [World.setCell] using h2) h3).trans (heap_setCell_other w p k u (by omega)), h.fine⟩
abbrev zero5 : Array Value := #[.int .i64 0, .int .i64 0, .string ⟨#[]⟩, .int .i64 0, .slice none 0 0]
/-- In the midst of a tree's making: the node's own cells in block rb, with the list of kids that grows; the result's cells in block zb. -/
structure GAt (w : World) (n0 rb zb : Nat) (t : Nd) (outs : List Nd) (wr : World) (v : Value) (xs : List NdA) : Prop where
  outs : xs.map (·.1) = outs
  grows : Grows n0 wr v xs
  rbox : wr.heap[rb]? = some (.cells #[.int .i64 t.op, .int .i64 t.so, .string t.nm, .int .i64 t.nu, v] 27 (0, 0))
  zbox : wr.heap[zb]? = some (.cells zero5 27 (0, 0))
  below : Below w.heap.size w wr
def GInv (w : World) (n0 rb zb : Nat) (t : Nd) (outs : List Nd) (wr : World) : Prop := ∃ v xs, GAt w n0 rb zb t outs wr v xs
theorem cell_row {w : World} {g i : Nat} {cs : Array Value} {t : TypeId} {v : Value} (h : w.heap[g]? = some (.cells cs t (0, 0))) (hv : cs[i]? = some v) : w.cell? ⟨g, i, none⟩ = some v := by
  simpa [World.cell?, h] using hv
/-- The five cells of a block are written anew. -/
abbrev set5 (w : World) (b : Nat) (c0 c1 c2 c3 c4 : Value) : World := ((((w.setCell ⟨b, 0, none⟩ c0).setCell ⟨b, 1, none⟩ c1).setCell ⟨b, 2, none⟩ c2).setCell ⟨b, 3, none⟩ c3).setCell ⟨b, 4, none⟩ c4
theorem set5_same {w : World} {b : Nat} {d0 d1 d2 d3 d4 : Value} (c0 c1 c2 c3 c4 : Value) (h : w.heap[b]? = some (.cells #[d0, d1, d2, d3, d4] 27 (0, 0))) : (set5 w b c0 c1 c2 c3 c4).heap[b]? = some (.cells #[c0, c1, c2, c3, c4] 27 (0, 0)) := by
  have h0 := heap_setCell_same w b 0 _ _ c0 h
  have h1 := heap_setCell_same _ b 1 _ _ c1 h0
  have h2 := heap_setCell_same _ b 2 _ _ c2 h1
  have h3 := heap_setCell_same _ b 3 _ _ c3 h2
  have h4 := heap_setCell_same _ b 4 _ _ c4 h3
  exact h4
theorem set5_other {w : World} {b : Nat} (c0 c1 c2 c3 c4 : Value) {k : Nat} (h : k ≠ b) : (set5 w b c0 c1 c2 c3 c4).heap[k]? = w.heap[k]? := by
  rw [set5, heap_setCell_other _ _ _ _ h, heap_setCell_other _ _ _ _ h, heap_setCell_other _ _ _ _ h, heap_setCell_other _ _ _ _ h, heap_setCell_other _ _ _ _ h]
theorem set5_size (w : World) (b : Nat) (c0 c1 c2 c3 c4 : Value) : (set5 w b c0 c1 c2 c3 c4).heap.size = w.heap.size := by simp [set5, World.setCell]
theorem Below.set5 {B : Nat} {a w : World} (h : Below B a w) {b : Nat} (hb : B ≤ b) (c0 c1 c2 c3 c4 : Value) : Below B a (set5 w b c0 c1 c2 c3 c4) :=
  ((((h.setCell (p := ⟨b, 0, none⟩) hb c0).setCell (p := ⟨b, 1, none⟩) hb c1).setCell (p := ⟨b, 2, none⟩) hb c2).setCell (p := ⟨b, 3, none⟩) hb c3).setCell (p := ⟨b, 4, none⟩) hb c4
theorem Rob.set5 {n0 n1 : Nat} {w : World} {A : Option Addr} {cap : Nat} {ks : List Nd} (h : Rob n0 w none A cap ks) {b : Nat} (hb : b < n0) (hn : n1 ≤ n0) (c0 c1 c2 c3 c4 : Value) : Rob n1 (set5 w b c0 c1 c2 c3 c4) none A cap ks :=
  fun W hW => h W fun k h1 h2 h3 => (hW k (by omega) (by rw [set5_size]; exact h2) h3).trans (set5_other c0 c1 c2 c3 c4 (by omega))
theorem GAt.later {w : World} {n0 rb zb : Nat} {t : Nd} {outs : List Nd} {wr w' : World} {v : Value} {xs : List NdA} (h : GAt w n0 rb zb t outs wr v xs) (hb : Below wr.heap.size wr w') : GAt w n0 rb zb t outs w' v xs :=
  ⟨h.outs, h.grows.later hb, (hb.block _ (Array.getElem?_eq_some_iff.1 h.rbox).1).trans h.rbox, (hb.block _ (Array.getElem?_eq_some_iff.1 h.zbox).1).trans h.zbox, h.below.trans (hb.mono h.below.size)⟩
theorem GAt.step {w : World} {n0 rb zb : Nat} {t : Nd} {outs : List Nd} {wr w3 : World} {v v' : Value} {xs : List NdA} {x : NdA} (h : GAt w n0 rb zb t outs wr v xs) (h1 : zb < rb) (h2 : rb < n0) (hw : w.heap.size ≤ zb)
    (hx : Rob n0 wr v.ownBlock x.2.1 x.2.2 x.1.ks) (hf : Fine x.1)
    (hown : w3.ownsRow n0 27 5 v' (xs.length + 1) (flatN xs ++ cells5 x)) (hg : wr.grownBy w3 v.ownBlock) (hr : v'.ownBlock = v.ownBlock ∨ v'.ownBlock = some wr.heap.size) :
    GAt w n0 rb zb t (outs ++ [x.1]) (w3.setCell ⟨rb, 4, none⟩ v') v' (xs ++ [x]) := by
  have ho := h.grows.row.lt
  have hrb : w3.heap[rb]? = _ := (hg.block rb (Array.getElem?_eq_some_iff.1 h.rbox).1 (fun e => by have := (ho _ e.symm).1; omega)).trans h.rbox
  have hzb : w3.heap[zb]? = _ := (hg.block zb (Array.getElem?_eq_some_iff.1 h.zbox).1 (fun e => by have := (ho _ e.symm).1; omega)).trans h.zbox
  refine ⟨by rw [List.map_append, h.outs]; rfl, (h.grows.add hx hf hown hg hr).set (p := ⟨rb, 4, none⟩) h2 _, ?_, ?_, ?_⟩
  · rw [heap_setCell_same _ _ _ _ _ _ hrb]; rfl
  · rw [heap_setCell_other _ _ _ _ (by simp; omega)]; exact hzb
  · exact (h.below.grown hg h.below.size (fun k e => by have := (ho k e).1; omega)).setCell (p := ⟨rb, 4, none⟩) (by simp; omega) _
theorem news5 (W : World) (x : NdA) (bk : Nat) (hb : bk = W.heap.size) :
    ∀ (j : Nat) (u : Value), (cells5 x)[j]? = some u → (W.alloc (.cells #[.int .i64 x.1.op, .int .i64 x.1.so, .string x.1.nm, .int .i64 x.1.nu, .slice x.2.1 x.1.ks.length x.2.2] 27)).cell? ((⟨bk, 0, none⟩ : Addr).add j) = some u := by
  subst hb
  intro j u hj
  match j, hj with
  | 0, hj => simp [cells5] at hj; subst hj; simp [go_sem]
  | 1, hj => simp [cells5] at hj; subst hj; simp [go_sem]
  | 2, hj => simp [cells5] at hj; subst hj; simp [go_sem]
  | 3, hj => simp [cells5] at hj; subst hj; simp [go_sem]
  | 4, hj => simp [cells5] at hj; subst hj; simp [go_sem]
end Go.Proofs.YtgkjcimgghflmaaGreatDoor
namespace Go.Proofs.YtgkjcimgghflmaaGreatDoor
open Go.RowKit Go.Shelf
theorem cnt_mem (t : Nd) : ∀ y ∈ nodesOf t, cnt y ≤ cnt t := by
  induction t using Nd.ind with
  | h t ih =>
  intro y hy
  rw [nodesOf_eq] at hy
  rcases List.mem_cons.1 hy with rfl | hy
  · exact Nat.le_refl _
  · obtain ⟨k, hk, hy⟩ := List.mem_flatMap.1 hy
    obtain ⟨i, hi, rfl⟩ := List.getElem_of_mem hk
    have := ih i hi y hy
    have := cnt_kid hk
    omega
theorem len_cnt (t : Nd) : t.ks.length + 1 ≤ cnt t := by
  rw [cnt_eq]
  have : ∀ l : List Nd, l.length ≤ (l.map cnt).sum := by
    intro l
    induction l with
    | nil => simp
    | cons x xs ih =>
      have := cnt_eq x
      simp only [List.length_cons, List.map_cons, List.sum_cons]
      omega
  have := this t.ks
  omega
theorem short_cnt {t : Nd} (h : cnt t ≤ 1048576) : Short t := fun y hy => by
  have := cnt_mem t y hy
  have := len_cnt y
  omega
end Go.Proofs.YtgkjcimgghflmaaGreatDoor
