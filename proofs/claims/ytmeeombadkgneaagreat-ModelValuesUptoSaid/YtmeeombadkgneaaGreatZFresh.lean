/-
  Trees that a function makes anew, and that the document's own Same gives such a tree; conditions: the tree lies in memory and its lists are not too long to be grown.
-/
import Derived.Maps.AppendAt
import Derived.Test.YtmeeombadkgneaaGreatZRefPut
namespace Go.Proofs.YtmeeombadkgneaaGreat
open Go.RowKit Go.Shelf

attribute [local go_sem] Oper.semAt_some
/-- The blocks from n0 on, but one, are as they were. -/
def Agr (n0 : Nat) (w W : World) (row : Option Nat) : Prop := ∀ k, n0 ≤ k → k < w.heap.size → some k ≠ row → W.heap[k]? = w.heap[k]?
/-- A list of nodes lies in the blocks from n0 on, but one. -/
def Rob (n0 : Nat) (w : World) (row : Option Nat) (A : Option Addr) (cap : Nat) (ks : List Nd) : Prop := ∀ W, Agr n0 w W row → Lies W A cap ks
/-- A function returns a tree of new memory. -/
def RetN (w : World) (u : Nd) (e : Ending) (w' : World) : Prop := ∃ A cap, e = .returned (nv u.op u.so u.nm u.nu (.slice A u.ks.length cap)) ∧ Rob w.heap.size w' none A cap u.ks ∧ Fine u ∧ Below w.heap.size w w'

theorem Rob.lies {n0 : Nat} {w : World} {row : Option Nat} {A : Option Addr} {cap : Nat} {ks : List Nd} (h : Rob n0 w row A cap ks) : Lies w A cap ks := h w (fun _ _ _ _ => rfl)
theorem Rob.lower {n0 n1 : Nat} {w : World} {row : Option Nat} {A : Option Addr} {cap : Nat} {ks : List Nd} (h : Rob n1 w row A cap ks) (hn : n0 ≤ n1) : Rob n0 w row A cap ks :=
  fun W hW => h W fun k h1 h2 h3 => hW k (Nat.le_trans hn h1) h2 h3
/-- Other memory is made. -/
theorem Rob.later {n0 : Nat} {w w' : World} {row : Option Nat} {A : Option Addr} {cap : Nat} {ks : List Nd} (h : Rob n0 w row A cap ks) (hb : Below w.heap.size w w') : Rob n0 w' row A cap ks :=
  fun W hW => h W fun k h1 h2 h3 => (hW k h1 (Nat.lt_of_lt_of_le h2 hb.size) h3).trans (hb.block k h2)
/-- What is new is not in a block that was there. -/
theorem Rob.new {n0 : Nat} {w w' : World} {g : Nat} {A : Option Addr} {cap : Nat} {ks : List Nd} (h : Rob w.heap.size w' none A cap ks) (hg : g < w.heap.size) (hn : n0 ≤ w.heap.size) : Rob n0 w' (some g) A cap ks :=
  fun W hW => h W fun k h1 h2 _ => hW k (Nat.le_trans hn h1) h2 (fun e => by cases e; omega)
theorem Rob.newNone {n0 : Nat} {w w' : World} {row : Option Nat} {A : Option Addr} {cap : Nat} {ks : List Nd} (h : Rob w.heap.size w' none A cap ks) (hg : ∀ g, row = some g → g < w.heap.size) (hn : n0 ≤ w.heap.size) : Rob n0 w' row A cap ks :=
  fun W hW => h W fun k h1 h2 _ => hW k (Nat.le_trans hn h1) h2 (fun e => by have := hg k e.symm; omega)
/-- The own block grows, or gives place to a new one. -/
theorem Rob.grown {n0 : Nat} {w w' : World} {row row' : Option Nat} {A : Option Addr} {cap : Nat} {ks : List Nd} (h : Rob n0 w row A cap ks) (hg : w.grownBy w' row) (hr : row' = row ∨ row' = some w.heap.size) : Rob n0 w' row' A cap ks :=
  fun W hW => h W fun k h1 h2 h3 => (hW k h1 (Nat.lt_of_lt_of_le h2 hg.size) (fun e => by
    rcases hr with hr | hr
    · exact h3 (e.trans hr)
    · rw [hr] at e; cases e; omega)).trans (hg.block k h2 h3)

/-- A node with where its kids lie. -/
abbrev NdA := Nd × Option Addr × Nat
def cells5 (x : NdA) : List Value := [.int .i64 x.1.op, .int .i64 x.1.so, .string x.1.nm, .int .i64 x.1.nu, .slice x.2.1 x.1.ks.length x.2.2]
def flatN (l : List NdA) : List Value := l.flatMap cells5
theorem flatN_len (l : List NdA) : (flatN l).length = l.length * 5 := by
  induction l with
  | nil => rfl
  | cons x xs ih => rw [flatN, List.flatMap_cons, List.length_append, ← flatN, ih]; simp [cells5]; omega
theorem flatN_snoc (l : List NdA) (d : NdA) : flatN (l ++ [d]) = flatN l ++ cells5 d := by
  rw [flatN, List.flatMap_append]; simp [flatN]
theorem flatN_at (l : List NdA) : ∀ i (h : i < l.length) j, j < 5 → (flatN l)[i * 5 + j]? = (cells5 l[i])[j]? := by
  induction l with
  | nil => intro i h; simp at h
  | cons x xs ih =>
    intro i h j hj
    have e : flatN (x :: xs) = cells5 x ++ flatN xs := rfl
    have l5 : (cells5 x).length = 5 := rfl
    match i, h with
    | 0, _ => rw [e, List.getElem?_append_left (by omega)]; simp
    | i + 1, h =>
      have h' : i < xs.length := by simpa using h
      rw [e, List.getElem?_append_right (by omega), l5, show (i + 1) * 5 + j - 5 = i * 5 + j by omega]
      simpa using ih i h' j hj

/-- A growing list of nodes: its own row, and its kids' kids beside it. -/
structure Grows (n0 : Nat) (w : World) (v : Value) (xs : List NdA) : Prop where
  row : w.ownsRow n0 44 5 v xs.length (flatN xs)
  kids : ∀ x ∈ xs, Rob n0 w v.ownBlock x.2.1 x.2.2 x.1.ks
  fine : ∀ x ∈ xs, Fine x.1

theorem Grows.nil (n0 : Nat) (w : World) : Grows n0 w (.slice none 0 0) [] := ⟨World.ownsRow_nil _ _ _ _, fun _ h => by simp at h, fun _ h => by simp at h⟩
theorem Grows.later {n0 : Nat} {w w' : World} {v : Value} {xs : List NdA} (h : Grows n0 w v xs) (hb : Below w.heap.size w w') : Grows n0 w' v xs :=
  ⟨ownsRow_below h.row hb, fun x hx => (h.kids x hx).later hb, h.fine⟩
theorem Grows.add {n0 : Nat} {w w' : World} {v v' : Value} {xs : List NdA} {x : NdA} (h : Grows n0 w v xs) (hx : Rob n0 w v.ownBlock x.2.1 x.2.2 x.1.ks) (hf : Fine x.1)
    (hown : w'.ownsRow n0 44 5 v' (xs.length + 1) (flatN xs ++ cells5 x)) (hg : w.grownBy w' v.ownBlock) (hr : v'.ownBlock = v.ownBlock ∨ v'.ownBlock = some w.heap.size) : Grows n0 w' v' (xs ++ [x]) :=
  ⟨by rw [flatN_snoc, List.length_append]; exact hown,
   fun y hy => by
    rcases List.mem_append.1 hy with hy | hy
    · exact (h.kids y hy).grown hg hr
    · simp at hy; subst hy; exact hx.grown hg hr,
   fun y hy => by
    rcases List.mem_append.1 hy with hy | hy
    · exact h.fine y hy
    · simp at hy; subst hy; exact hf⟩
/-- In the end the list lies in new memory. -/
theorem Grows.rob {n0 : Nat} {w : World} {v : Value} {xs : List NdA} (h : Grows n0 w v xs) (hm : xs.length ≤ maxLen) : ∃ A cap, v = .slice A xs.length cap ∧ Rob n0 w none A cap (xs.map (·.1)) := by
  rcases h.row.2 with ⟨hv, hn⟩ | ⟨g, cap, cur, hv, h1, h2, h3, h4, h5, h6⟩
  · have hx : xs = [] := List.length_eq_zero_iff.1 hn
    subst hx
    exact ⟨none, 0, hv, fun W _ => .mk none 0 [] (by simp) 0 0 (fun _ => none) (fun _ => 0) (fun h => by simp at h) (fun i h => by simp at h) (fun i h => by simp at h) (fun i h => by simp at h)⟩
  · refine ⟨_, cap, hv, fun W hW => ?_⟩
    have hgW : W.heap[g]? = some (.cells cur 44 (0, 0)) := (hW g h1 (Array.getElem?_eq_some_iff.1 h2).1 (by simp)).trans h2
    refine .mk _ _ _ (by simpa using hm) g 0 (fun i => ((xs[i]?).map (·.2.1)).getD none) (fun i => ((xs[i]?).map (·.2.2)).getD 0) (fun _ => rfl) (fun i hi => ?_) (fun i hi => ?_) (fun i hi => ?_)
    all_goals have hi' : i < xs.length := by simpa using hi
    · have hc : ∀ j, j < 5 → W.cell? ⟨g, 0 + i * 5 + j, none⟩ = (cells5 xs[i])[j]? := fun j hj => by
        have := flatN_at xs i hi' j hj
        rw [← h6, List.getElem?_take_of_lt (by omega)] at this
        rw [← this]
        simp [World.cell?, hgW]
      simp only [List.getElem_map, List.getElem?_eq_getElem hi', Option.map_some, Option.getD_some]
      exact ⟨hc 0 (by omega), hc 1 (by omega), hc 2 (by omega), hc 3 (by omega), hc 4 (by omega)⟩
    · simp only [List.getElem_map, List.getElem?_eq_getElem hi', Option.map_some, Option.getD_some]
      refine h.kids xs[i] (List.getElem_mem hi') W fun k a b c => hW k a b (by simp)
    · simp only [List.getElem_map]
      exact h.fine xs[i] (List.getElem_mem hi')
end Go.Proofs.YtmeeombadkgneaaGreat
