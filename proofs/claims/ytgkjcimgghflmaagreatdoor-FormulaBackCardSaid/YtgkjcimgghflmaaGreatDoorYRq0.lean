/-
  What a phrase of the document's own parser hands back, and what its constructors One and Two of nodes return; conditions: the kids lie in memory.
-/
import Derived.Deep.RegionWith
import Derived.Test.YtgkjcimgghflmaaGreatDoorYFresh
import Derived.Test.YtgkjcimgghflmaaGreatDoorYRp0
import Derived.Test.YtgkjcimgghflmaaGreatDoorYPsp
namespace Go.Proofs.YtgkjcimgghflmaaGreatDoor
open Go.RowKit Go.Shelf
attribute [local go_sem] Oper.semAt_some
theorem Rob.fr {n0 p : Nat} {w w' : World} {row : Option Nat} {A : Option Addr} {cap : Nat} {ks : List Nd} (h : Rob n0 w row A cap ks) (hf : Fr p w w') (hp : p < n0) : Rob n0 w' row A cap ks :=
  fun W hW => h W fun k h1 h2 h3 => (hW k h1 (Nat.lt_of_lt_of_le h2 hf.size) h3).trans (hf.block k h2 (by omega))
theorem fine_op {op : Int} {ks : List Nd} (h : (Lit.int .i64 op).wf = true) : Fine (.mk op 0 noNm 0 ks) := ⟨by show (ByteArray.mk #[]).size ≤ maxLen; decide, h, by show (Lit.int .i64 0).wf = true; decide, by show (Lit.int .i64 0).wf = true; decide⟩
/-- A node of one kid, its list in a block g. -/
theorem rob_one {n0 g : Nat} {w : World} {t : Nd} {A : Option Addr} {cap : Nat} (hg : n0 ≤ g) (h : w.heap[g]? = some (.cells #[.int .i64 t.op, .int .i64 t.so, .string t.nm, .int .i64 t.nu, .slice A t.ks.length cap] 27 (0, 0))) (hr : Rob n0 w none A cap t.ks) (hf : Fine t) :
    Rob n0 w none (some ⟨g, 0, none⟩) 1 [t] := fun W hW => by
  have hgW : W.heap[g]? = some _ := (hW g hg (Array.getElem?_eq_some_iff.1 h).1 (by simp)).trans h
  have c := fun (i : Nat) (v : Value) (hv : (#[Value.int .i64 t.op, .int .i64 t.so, .string t.nm, .int .i64 t.nu, .slice A t.ks.length cap] : Array Value)[i]? = some v) => cell_row hgW (i := i) hv
  refine .mk _ _ _ (by unfold maxLen; simp) g 0 (fun _ => A) (fun _ => cap) (fun _ => rfl) (fun i hi => ?_) (fun i hi => ?_) (fun i hi => ?_)
  all_goals
    obtain rfl : i = 0 := by simp at hi; omega
  · exact ⟨c 0 _ rfl, c 1 _ rfl, c 2 _ rfl, c 3 _ rfl, c 4 _ rfl⟩
  · exact hr W hW
  · exact hf
/-- A list of two nodes in a block g. -/
theorem rob_two {n0 g : Nat} {w : World} {t u : Nd} {A B : Option Addr} {ca cb : Nat} (hg : n0 ≤ g)
    (h : w.heap[g]? = some (.cells #[.int .i64 t.op, .int .i64 t.so, .string t.nm, .int .i64 t.nu, .slice A t.ks.length ca, .int .i64 u.op, .int .i64 u.so, .string u.nm, .int .i64 u.nu, .slice B u.ks.length cb] 27 (0, 0)))
    (hr : Rob n0 w none A ca t.ks) (hs : Rob n0 w none B cb u.ks) (hf : Fine t) (hf' : Fine u) : Rob n0 w none (some ⟨g, 0, none⟩) 2 [t, u] := fun W hW => by
  have hgW : W.heap[g]? = some _ := (hW g hg (Array.getElem?_eq_some_iff.1 h).1 (by simp)).trans h
  have c := fun (i : Nat) (v : Value) (hv : (#[Value.int .i64 t.op, .int .i64 t.so, .string t.nm, .int .i64 t.nu, .slice A t.ks.length ca, .int .i64 u.op, .int .i64 u.so, .string u.nm, .int .i64 u.nu, .slice B u.ks.length cb] : Array Value)[i]? = some v) => cell_row hgW (i := i) hv
  refine .mk _ _ _ (by unfold maxLen; simp) g 0 (fun i => if i = 0 then A else B) (fun i => if i = 0 then ca else cb) (fun _ => rfl) (fun i hi => ?_) (fun i hi => ?_) (fun i hi => ?_)
  all_goals
    obtain rfl | rfl : i = 0 ∨ i = 1 := by simp at hi; omega
  · exact ⟨c 0 _ rfl, c 1 _ rfl, c 2 _ rfl, c 3 _ rfl, c 4 _ rfl⟩
  · exact ⟨c 5 _ rfl, c 6 _ rfl, c 7 _ rfl, c 8 _ rfl, c 9 _ rfl⟩
  · exact hr W hW
  · exact hs W hW
  · exact hf
  · exact hf'
end Go.Proofs.YtgkjcimgghflmaaGreatDoor
