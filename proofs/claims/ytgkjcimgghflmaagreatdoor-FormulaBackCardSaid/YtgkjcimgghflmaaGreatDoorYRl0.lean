/-
  A phrase of the document's own parser that is joined from the right: formula and imp; conditions: the text is no longer than a string can be, and the phrases within answer as the grammar says.
-/
import Derived.Test.YtgkjcimgghflmaaGreatDoorYRd
namespace Go.Proofs.YtgkjcimgghflmaaGreatDoor
open Go.RowKit Go.Shelf
attribute [local go_sem] Oper.semAt_some
theorem Fr.setCell {p : Nat} {A B : World} (h : Fr p A B) (x : Addr) (hx : A.heap.size ≤ x.block) (c : Value) : Fr p A (B.setCell x c) :=
  ⟨by simpa [World.setCell] using h.os, by simpa [World.setCell] using h.tape, by simpa [World.setCell] using h.output, by simpa [World.setCell] using h.size, fun k hk hp => (Below.heap_setCell B x c k (by omega)).trans (h.block k hk hp)⟩
theorem Fr.set5 {p x : Nat} {A B : World} (h : Fr p A B) (hx : A.heap.size ≤ x) (c0 c1 c2 c3 c4 : Value) : Fr p A (set5 B x c0 c1 c2 c3 c4) :=
  ((((h.setCell _ hx c0).setCell _ hx c1).setCell _ hx c2).setCell _ hx c3).setCell _ hx c4
theorem heap_alloc {W : World} {x : Nat} {o : Obj} (h : W.heap[x]? = some o) (ob : Obj) : (W.alloc ob).heap[x]? = some o := (Lib.alloc_old W ob x (Array.getElem?_eq_some_iff.1 h).1).trans h
abbrev boxN (t : Nd) (A : Option Addr) (cap : Nat) : Obj := .cells #[.int .i64 t.op, .int .i64 t.so, .string t.nm, .int .i64 t.nu, .slice A t.ks.length cap] 27
end Go.Proofs.YtgkjcimgghflmaaGreatDoor
