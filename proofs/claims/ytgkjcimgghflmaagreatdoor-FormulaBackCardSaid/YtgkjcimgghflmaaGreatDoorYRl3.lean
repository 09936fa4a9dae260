/-
  The phrases or and and of the document's own parser: what their loops hand back; conditions: the text is no longer than a string can be, and the phrases within answer as the grammar says.
-/
import Derived.Deep.Cut
import Derived.Test.YtgkjcimgghflmaaGreatDoorYRl0
namespace Go.Proofs.YtgkjcimgghflmaaGreatDoor
open Go.RowKit Go.Shelf
attribute [local go_sem] Oper.semAt_some
theorem Rob.weak {n0 : Nat} {w : World} {row : Option Nat} {A : Option Addr} {cap : Nat} {ks : List Nd} (h : Rob n0 w row A cap ks) : Rob n0 w none A cap ks :=
  fun W hW => h W fun k h1 h2 _ => hW k h1 h2 (by simp)
theorem Rob.except {n0 n1 l : Nat} {w : World} {A : Option Addr} {cap : Nat} {ks : List Nd} (h : Rob n0 w none A cap ks) (hl : l < n0) (hn : n1 ≤ n0) : Rob n1 w (some l) A cap ks :=
  fun W hW => h W fun k h1 h2 _ => hW k (by omega) h2 (by simp; omega)
theorem Rob.born {n0 : Nat} {w : World} {A : Option Addr} {cap : Nat} {ks : List Nd} (h : Rob n0 w none A cap ks) (ob : Obj) : Rob n0 (w.alloc ob) (some w.heap.size) A cap ks :=
  fun W hW => h W fun k h1 h2 _ => (hW k h1 (by simp; omega) (by simp; omega)).trans (Lib.alloc_old w ob k h2)
theorem Rob.setrow {n0 b : Nat} {w : World} {A : Option Addr} {cap : Nat} {ks : List Nd} (h : Rob n0 w (some b) A cap ks) (c0 c1 c2 c3 c4 : Value) : Rob n0 (Go.Proofs.YtgkjcimgghflmaaGreatDoor.set5 w b c0 c1 c2 c3 c4) (some b) A cap ks :=
  fun W hW => h W fun k h1 h2 h3 => (hW k h1 (by rw [set5_size]; exact h2) h3).trans (set5_other c0 c1 c2 c3 c4 (fun e => h3 (by rw [e])))
/-- A list of two nodes in a block g. -/
theorem rob_twoR {n0 g : Nat} {row : Option Nat} {w : World} {t u : Nd} {A B : Option Addr} {ca cb : Nat} (hg : n0 ≤ g) (hgr : some g ≠ row)
    (h : w.heap[g]? = some (.cells #[.int .i64 t.op, .int .i64 t.so, .string t.nm, .int .i64 t.nu, .slice A t.ks.length ca, .int .i64 u.op, .int .i64 u.so, .string u.nm, .int .i64 u.nu, .slice B u.ks.length cb] 27 (0, 0)))
    (hr : Rob n0 w row A ca t.ks) (hs : Rob n0 w row B cb u.ks) (hf : Fine t) (hf' : Fine u) : Rob n0 w row (some ⟨g, 0, none⟩) 2 [t, u] := fun W hW => by
  have hgW : W.heap[g]? = some _ := (hW g hg (Array.getElem?_eq_some_iff.1 h).1 hgr).trans h
  have c := fun (i : Nat) (v : Value) (hv : (#[Value.int .i64 t.op, .int .i64 t.so, .string t.nm, .int .i64 t.nu, .slice A t.ks.length ca, .int .i64 u.op, .int .i64 u.so, .string u.nm, .int .i64 u.nu, .slice B u.ks.length cb] : Array Value)[i]? = some v) => cell_row hgW (i := i) hv
  refine .mk _ _ _ (by unfold maxLen; simp) g 0 (fun i => if i = 0 then A else B) (fun i => if i = 0 then ca else cb) (fun _ => rfl) (fun i hi => ?_) (fun i hi => ?_) (fun i hi => ?_)
  all_goals
    obtain rfl | rfl : i = 0 ∨ i = 1 := by simp at hi; omega
  · exact ⟨c 0 _ rfl, c 1 _ rfl, c 2 _ rfl, c 3 _ rfl, c 4 _ rfl⟩
  · exact ⟨c 5 _ rfl, c 6 _ rfl, c 7 _ rfl, c 8 _ rfl, c 9 _ rfl⟩
  · exact hr W hW
  · exact hs W hW
  · exact hf
  · exact hf'
theorem Rob.laterR {n0 : Nat} {row : Option Nat} {w w' : World} {A : Option Addr} {cap : Nat} {ks : List Nd} (h : Rob n0 w row A cap ks) (hb : Below w.heap.size w w') : Rob n0 w' row A cap ks :=
  fun W hW => h W fun k h1 h2 h3 => (hW k h1 (Nat.lt_of_lt_of_le h2 hb.size) h3).trans (hb.block k h2)
/-- The parser in a loop that joins phrases: what is carried on. -/
structure CarryL (p : Nat) (s : ByteArray) (W : World) (x l : Nat) (t : Nd) (A : Option Addr) (cap : Nat) (w : World) : Prop where
  fr : Fr p W w
  px : p < x
  xl : x < l
  xs : x = W.heap.size
  box : w.heap[x]? = some (.cells zero5 27 (0, 0))
  lbox : w.heap[l]? = some (.cells #[.int .i64 t.op, .int .i64 t.so, .string t.nm, .int .i64 t.nu, .slice A t.ks.length cap] 27 (0, 0))
  rob : Rob (x + 1) w (some l) A cap t.ks
  fine : Fine t
theorem CarryL.step {p : Nat} {s : ByteArray} {W w w' : World} {x l : Nat} {t : Nd} {A : Option Addr} {cap : Nat} (h : CarryL p s W x l t A cap w) (hf : Fr p w w') : CarryL p s W x l t A cap w' :=
  ⟨h.fr.trans hf, h.px, h.xl, h.xs, hf.at h.box (by have := h.px; omega), hf.at h.lbox (by have := h.px; have := h.xl; omega), h.rob.fr hf (by have := h.px; omega), h.fine⟩
theorem CarryL.join {p : Nat} {s : ByteArray} {W w : World} {x l : Nat} {t : Nd} {A : Option Addr} {cap : Nat} (h : CarryL p s W x l t A cap w) {op : Int} {ks : List Nd} {D : Option Addr} {cd : Nat} (hr : Rob (x + 1) w (some l) D cd ks) (hf : Fine (.mk op 0 noNm 0 ks)) :
    CarryL p s W x l (.mk op 0 noNm 0 ks) D cd (set5 w l (.int .i64 op) (.int .i64 0) (.string noNm) (.int .i64 0) (.slice D ks.length cd)) :=
  ⟨h.fr.set5 (by have := h.xs; have := h.xl; omega) _ _ _ _ _, h.px, h.xl, h.xs, (set5_other _ _ _ _ _ (by have := h.xl; omega)).trans h.box, set5_same _ _ _ _ _ h.lbox, hr.setrow _ _ _ _ _, hf⟩
end Go.Proofs.YtgkjcimgghflmaaGreatDoor
