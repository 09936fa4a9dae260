/-
  What the document's own Same returns: the same tree in new memory; conditions: the tree lies in memory and none of its lists is too long to be grown.
-/
import Derived.Test.YtmeeombadkgneaaZFresh
import Derived.Test.YtmeeombadkgneaaZRefPut
namespace Go.Proofs.Ytmeeombadkgneaa
open Go.RowKit Go.Shelf

attribute [local go_sem] Oper.semAt_some
/-- No list of kids is too long to be grown. -/
def Short (t : Nd) : Prop := ∀ y ∈ nodesOf t, y.ks.length ≤ 2199023255488
theorem Short.self {t : Nd} (h : Short t) : t.ks.length ≤ 2199023255488 := h t (by rw [nodesOf_eq]; simp)
theorem Short.kid {t : Nd} (h : Short t) {i : Nat} (hi : i < t.ks.length) : Short t.ks[i] := fun y hy => h y (by
  rw [nodesOf_eq]
  exact List.mem_cons_of_mem _ (List.mem_flatMap.2 ⟨_, List.getElem_mem hi, hy⟩))

theorem info24 : (Try.prog.info? 24).map (fun i => (i.zero, i.size, i.bytes)) = some (some (.agg #[.int .i64 0, .int .i64 0, .string ⟨#[]⟩, .int .i64 0, .slice none 0 0]), 5, 64) := by kernel_rfl

theorem Grows.set {n0 : Nat} {w : World} {v : Value} {xs : List NdA} (h : Grows n0 w v xs) {p : Addr} (hp : p.block < n0) (u : Value) : Grows n0 (w.setCell p u) v xs :=
  ⟨ownsRow_setCell_below h.row hp u, fun x hx W hW => h.kids x hx W fun k h1 h2 h3 => (hW k h1 (by simpa [World.setCell] using h2) h3).trans (heap_setCell_other w p k u (by omega)), h.fine⟩

abbrev zero5 : Array Value := #[.int .i64 0, .int .i64 0, .string ⟨#[]⟩, .int .i64 0, .slice none 0 0]
/-- In the midst of a tree's making: the node's own cells in block rb, with the list of kids that grows; the result's cells in block zb. -/
structure GAt (w : World) (n0 rb zb : Nat) (t : Nd) (outs : List Nd) (wr : World) (v : Value) (xs : List NdA) : Prop where
  outs : xs.map (·.1) = outs
  grows : Grows n0 wr v xs
  rbox : wr.heap[rb]? = some (.cells #[.int .i64 t.op, .int .i64 t.so, .string t.nm, .int .i64 t.nu, v] 24 (0, 0))
  zbox : wr.heap[zb]? = some (.cells zero5 24 (0, 0))
  below : Below w.heap.size w wr
def GInv (w : World) (n0 rb zb : Nat) (t : Nd) (outs : List Nd) (wr : World) : Prop := ∃ v xs, GAt w n0 rb zb t outs wr v xs

theorem cell_row {w : World} {g i : Nat} {cs : Array Value} {t : TypeId} {v : Value} (h : w.heap[g]? = some (.cells cs t (0, 0))) (hv : cs[i]? = some v) : w.cell? ⟨g, i, none⟩ = some v := by
  simpa [World.cell?, h] using hv

/-- The five cells of a block are written anew. -/
abbrev set5 (w : World) (b : Nat) (c0 c1 c2 c3 c4 : Value) : World := ((((w.setCell ⟨b, 0, none⟩ c0).setCell ⟨b, 1, none⟩ c1).setCell ⟨b, 2, none⟩ c2).setCell ⟨b, 3, none⟩ c3).setCell ⟨b, 4, none⟩ c4
theorem set5_same {w : World} {b : Nat} {d0 d1 d2 d3 d4 : Value} (c0 c1 c2 c3 c4 : Value) (h : w.heap[b]? = some (.cells #[d0, d1, d2, d3, d4] 24 (0, 0))) : (set5 w b c0 c1 c2 c3 c4).heap[b]? = some (.cells #[c0, c1, c2, c3, c4] 24 (0, 0)) := by
  have h0 := heap_setCell_same w b 0 _ _ c0 h
  have h1 := heap_setCell_same _ b 1 _ _ c1 h0
  have h2 := heap_setCell_same _ b 2 _ _ c2 h1
  have h3 := heap_setCell_same _ b 3 _ _ c3 h2
  have h4 := heap_setCell_same _ b 4 _ _ c4 h3
  exact h4
theorem set5_other {w : World} {b : Nat} (c0 c1 c2 c3 c4 : Value) {k : Nat} (h : k ≠ b) : (set5 w b c0 c1 c2 c3 c4).heap[k]? = w.heap[k]? := by
  rw [set5, heap_setCell_other _ _ _ _ h, heap_setCell_other _ _ _ _ h, heap_setCell_other _ _ _ _ h, heap_setCell_other _ _ _ _ h, heap_setCell_other _ _ _ _ h]
theorem set5_size (w : World) (b : Nat) (c0 c1 c2 c3 c4 : Value) : (set5 w b c0 c1 c2 c3 c4).heap.size = w.heap.size := by simp [set5, World.setCell]
theorem Below.set5 {B : Nat} {a w : World} (h : Below B a w) {b : Nat} (hb : B ≤ b) (c0 c1 c2 c3 c4 : Value) : Below B a (set5 w b c0 c1 c2 c3 c4) :=
  ((((h.setCell (p := ⟨b, 0, none⟩) hb c0).setCell (p := ⟨b, 1, none⟩) hb c1).setCell (p := ⟨b, 2, none⟩) hb c2).setCell (p := ⟨b, 3, none⟩) hb c3).setCell (p := ⟨b, 4, none⟩) hb c4
theorem Rob.set5 {n0 n1 : Nat} {w : World} {A : Option Addr} {cap : Nat} {ks : List Nd} (h : Rob n0 w none A cap ks) {b : Nat} (hb : b < n0) (hn : n1 ≤ n0) (c0 c1 c2 c3 c4 : Value) : Rob n1 (set5 w b c0 c1 c2 c3 c4) none A cap ks :=
  fun W hW => h W fun k h1 h2 h3 => (hW k (by omega) (by rw [set5_size]; exact h2) h3).trans (set5_other c0 c1 c2 c3 c4 (by omega))

theorem GAt.later {w : World} {n0 rb zb : Nat} {t : Nd} {outs : List Nd} {wr w' : World} {v : Value} {xs : List NdA} (h : GAt w n0 rb zb t outs wr v xs) (hb : Below wr.heap.size wr w') : GAt w n0 rb zb t outs w' v xs :=
  ⟨h.outs, h.grows.later hb, (hb.block _ (Array.getElem?_eq_some_iff.1 h.rbox).1).trans h.rbox, (hb.block _ (Array.getElem?_eq_some_iff.1 h.zbox).1).trans h.zbox, h.below.trans (hb.mono h.below.size)⟩

theorem GAt.step {w : World} {n0 rb zb : Nat} {t : Nd} {outs : List Nd} {wr w3 : World} {v v' : Value} {xs : List NdA} {x : NdA} (h : GAt w n0 rb zb t outs wr v xs) (h1 : zb < rb) (h2 : rb < n0) (hw : w.heap.size ≤ zb)
    (hx : Rob n0 wr v.ownBlock x.2.1 x.2.2 x.1.ks) (hf : Fine x.1)
    (hown : w3.ownsRow n0 24 5 v' (xs.length + 1) (flatN xs ++ cells5 x)) (hg : wr.grownBy w3 v.ownBlock) (hr : v'.ownBlock = v.ownBlock ∨ v'.ownBlock = some wr.heap.size) :
    GAt w n0 rb zb t (outs ++ [x.1]) (w3.setCell ⟨rb, 4, none⟩ v') v' (xs ++ [x]) := by
  have ho := h.grows.row.lt
  have hrb : w3.heap[rb]? = _ := (hg.block rb (Array.getElem?_eq_some_iff.1 h.rbox).1 (fun e => by have := (ho _ e.symm).1; omega)).trans h.rbox
  have hzb : w3.heap[zb]? = _ := (hg.block zb (Array.getElem?_eq_some_iff.1 h.zbox).1 (fun e => by have := (ho _ e.symm).1; omega)).trans h.zbox
  refine ⟨by rw [List.map_append, h.outs]; rfl, (h.grows.add hx hf hown hg hr).set (p := ⟨rb, 4, none⟩) h2 _, ?_, ?_, ?_⟩
  · rw [heap_setCell_same _ _ _ _ _ _ hrb]; rfl
  · rw [heap_setCell_other _ _ _ _ (by simp; omega)]; exact hzb
  · exact (h.below.grown hg h.below.size (fun k e => by have := (ho k e).1; omega)).setCell (p := ⟨rb, 4, none⟩) (by simp; omega) _

theorem news5 (W : World) (x : NdA) (bk : Nat) (hb : bk = W.heap.size) :
    ∀ (j : Nat) (u : Value), (cells5 x)[j]? = some u → (W.alloc (.cells #[.int .i64 x.1.op, .int .i64 x.1.so, .string x.1.nm, .int .i64 x.1.nu, .slice x.2.1 x.1.ks.length x.2.2] 24)).cell? ((⟨bk, 0, none⟩ : Addr).add j) = some u := by
  subst hb
  intro j u hj
  match j, hj with
  | 0, hj => simp [cells5] at hj; subst hj; simp [go_sem]
  | 1, hj => simp [cells5] at hj; subst hj; simp [go_sem]
  | 2, hj => simp [cells5] at hj; subst hj; simp [go_sem]
  | 3, hj => simp [cells5] at hj; subst hj; simp [go_sem]
  | 4, hj => simp [cells5] at hj; subst hj; simp [go_sem]

end Go.Proofs.Ytmeeombadkgneaa
