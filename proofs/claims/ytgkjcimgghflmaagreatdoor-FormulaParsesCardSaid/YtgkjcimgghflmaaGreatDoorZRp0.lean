/-
  The state of the document's own parser in memory, what changes beside it, and what its small methods do: next, fail, pass, take, want, open; conditions: the text is no longer than a string can be.
-/
import Derived.IntWalk
import Derived.Test.YtgkjcimgghflmaaGreatDoorZTok
namespace Go.Proofs.YtgkjcimgghflmaaGreatDoor
set_option maxRecDepth 100000
set_option maxHeartbeats 8000000
open Go.RowKit Go.Shelf
attribute [local go_sem] Oper.semAt_some
def nxt (s : ByteArray) (a : Nat) : Nat := bl s (a + (T s a).length)
structure Fr (p : Nat) (W W' : World) : Prop where
 os : W'.os = W.os
 tape : W'.tape = W.tape
 output : W'.output = W.output
 size : W.heap.size ≤ W'.heap.size
 block : ∀ k, k < W.heap.size → k ≠ p → W'.heap[k]? = W.heap[k]?
theorem Fr.refl (p : Nat) (W : World) : Fr p W W := ⟨rfl, rfl, rfl, Nat.le_refl _, fun _ _ _ => rfl⟩
theorem Fr.trans {p : Nat} {A B C : World} (h : Fr p A B) (k : Fr p B C) : Fr p A C :=
 ⟨k.os.trans h.os, k.tape.trans h.tape, k.output.trans h.output, Nat.le_trans h.size k.size, fun i hi hp => (k.block i (Nat.lt_of_lt_of_le hi h.size) hp).trans (h.block i hi hp)⟩
theorem Fr.of {p : Nat} {W W' : World} (h : Below W.heap.size W W') : Fr p W W' := ⟨h.os, h.tape, h.output, h.size, fun k hk _ => h.block k hk⟩
theorem Fr.set {p : Nat} (W : World) (i : Nat) (v : Value) : Fr p W (W.setCell ⟨p, i, none⟩ v) :=
 ⟨rfl, rfl, rfl, by simp, fun k _ hp => Below.heap_setCell W ⟨p, i, none⟩ v k (fun e => hp (by simpa using e))⟩
theorem Fr.below {p B : Nat} {W W' : World} (h : Fr p W W') (hp : B ≤ p) (hB : B ≤ W.heap.size) : Below B W W' :=
 ⟨h.os, h.tape, h.output, h.size, fun k hk => h.block k (by omega) (by omega)⟩
theorem Fr.at {p x : Nat} {W W' : World} (h : Fr p W W') {o : Obj} (hx : W.heap[x]? = some o) (hp : x ≠ p) : W'.heap[x]? = some o :=
 (h.block x (Array.getElem?_eq_some_iff.1 hx).1 hp).trans hx
def PSt (W : World) (p : Nat) (s : ByteArray) (a : Nat) (o e : Int) (wh : Nat) : Prop := W.heap[p]? = some (.cells #[.string s, .int .i64 a, .int .i64 o, .int .i64 e, .int .i64 wh] 50 (0, 0))
theorem PSt.later {W W' : World} {p : Nat} {s : ByteArray} {a : Nat} {o e : Int} {wh : Nat} (h : PSt W p s a o e wh) (hb : Below W.heap.size W W') : PSt W' p s a o e wh :=
 (hb.block p (Array.getElem?_eq_some_iff.1 h).1).trans h
theorem PSt.lt {W : World} {p : Nat} {s : ByteArray} {a : Nat} {o e : Int} {wh : Nat} (h : PSt W p s a o e wh) : p < W.heap.size := (Array.getElem?_eq_some_iff.1 h).1
structure PCells (W : World) (p : Nat) (s : ByteArray) (a : Nat) (o e : Int) (wh : Nat) : Prop where
 c0 : W.cell? ⟨p, 0, none⟩ = some (.string s)
 c1 : W.cell? ⟨p, 1, none⟩ = some (.int .i64 a)
 c2 : W.cell? ⟨p, 2, none⟩ = some (.int .i64 o)
 c3 : W.cell? ⟨p, 3, none⟩ = some (.int .i64 e)
 c4 : W.cell? ⟨p, 4, none⟩ = some (.int .i64 wh)
 f1 : W.frozen? ⟨p, 1, none⟩ = false
 f2 : W.frozen? ⟨p, 2, none⟩ = false
 f3 : W.frozen? ⟨p, 3, none⟩ = false
 f4 : W.frozen? ⟨p, 4, none⟩ = false
theorem PSt.cells {W : World} {p : Nat} {s : ByteArray} {a : Nat} {o e : Int} {wh : Nat} (h : PSt W p s a o e wh) : PCells W p s a o e wh :=
 ⟨by rw [Lib.cell_of_heap h]; rfl, by rw [Lib.cell_of_heap h]; rfl, by rw [Lib.cell_of_heap h]; rfl, by rw [Lib.cell_of_heap h]; rfl, by rw [Lib.cell_of_heap h]; rfl,
  Lib.frozen_of_heap h 1, Lib.frozen_of_heap h 2, Lib.frozen_of_heap h 3, Lib.frozen_of_heap h 4⟩
theorem heap_set {W : World} {p i : Nat} {cs : Array Value} {t : TypeId} {v : Value} (h : W.heap[p]? = some (.cells cs t (0, 0))) : (W.setCell ⟨p, i, none⟩ v).heap[p]? = some (.cells (cs.setIfInBounds i v) t (0, 0)) := by
 obtain ⟨hlt, hk⟩ := Array.getElem?_eq_some_iff.1 h
 show (W.heap.modify p _)[p]? = _
 rw [Array.getElem?_eq_getElem (by rw [Array.size_modify]; exact hlt), Array.getElem_modify_self, hk]
 rfl
theorem PSt.set1 {W : World} {p : Nat} {s : ByteArray} {a : Nat} {o e : Int} {wh : Nat} (h : PSt W p s a o e wh) (a' : Nat) : PSt (W.setCell ⟨p, 1, none⟩ (.int .i64 a')) p s a' o e wh := heap_set h
theorem PSt.set2 {W : World} {p : Nat} {s : ByteArray} {a : Nat} {o e : Int} {wh : Nat} (h : PSt W p s a o e wh) (o' : Int) : PSt (W.setCell ⟨p, 2, none⟩ (.int .i64 o')) p s a o' e wh := heap_set h
theorem PSt.set3 {W : World} {p : Nat} {s : ByteArray} {a : Nat} {o e : Int} {wh : Nat} (h : PSt W p s a o e wh) (e' : Int) : PSt (W.setCell ⟨p, 3, none⟩ (.int .i64 e')) p s a o e' wh := heap_set h
theorem PSt.set4 {W : World} {p : Nat} {s : ByteArray} {a : Nat} {o e : Int} {wh : Nat} (h : PSt W p s a o e wh) (wh' : Nat) : PSt (W.setCell ⟨p, 4, none⟩ (.int .i64 wh')) p s a o e wh' := heap_set h
theorem below_allocs {w1 W : World} (h : Below w1.heap.size w1 W) (O : Obj) : Below w1.heap.size w1 (W.alloc O) := h.alloc h.size _
theorem below_trans2 {w1 W W' : World} (h' : Below W.heap.size W W') (h : Below w1.heap.size w1 W) : Below w1.heap.size w1 W' := h.trans (h'.mono h.size)
def nT (s : ByteArray) (a : Nat) (e : Int) : List UInt8 := if e = 0 then T s a else []
theorem next_any (p : Nat) (s : ByteArray) (a : Nat) (o e : Int) (wh : Nat) (W : World) (h : PSt W p s a o e wh) (ha : a ≤ s.size) (hs : s.size ≤ 9223372036854775000) :
  Calls Tryz.prog 74 #[.pointer (some ⟨p, 0, none⟩)] W fun r W' => r = .returned (.string (bs (nT s a e))) ∧ Below W.heap.size W W' := by
 obtain ⟨c0, c1, c2, c3, c4, f1, f2, f3, f4⟩ := h.cells
 by_cases he : e = 0
 ·have ht := Lib.hid (show bs (nT s a e) = bs (T s a) by unfold nT; rw [if_pos he])
  subst he
  have KT := Lib.hid (fun W' => refToken_any s a ha hs W')
  have KS := Lib.hid (fun (W' : World) (hb : Below W.heap.size W W') => (show Below W.heap.size W W' ∧ W'.cell? ⟨p, 0, none⟩ = some (.string s) ∧ W'.cell? ⟨p, 1, none⟩ = some (.int .i64 a) ∧ W'.cell? ⟨p, 2, none⟩ = some (.int .i64 o) ∧ W'.cell? ⟨p, 3, none⟩ = some (.int .i64 0) ∧ W'.cell? ⟨p, 4, none⟩ = some (.int .i64 wh) from by
   obtain ⟨c0, c1, c2, c3, c4, _⟩ := (h.later hb).cells
   exact ⟨hb, c0, c1, c2, c3, c4⟩))
  generalize bs (T s a) = st at *
  clear h f1 f2 f3 f4
  go_enter Tryz.func74, Tryz.ntmps74
  go_wp2_with fail
  go_region_held3 (fun W' => Below W.heap.size W W' ∧ W'.cell? ⟨p, 0, none⟩ = some (.string s) ∧ W'.cell? ⟨p, 1, none⟩ = some (.int .i64 a) ∧ W'.cell? ⟨p, 2, none⟩ = some (.int .i64 o) ∧ W'.cell? ⟨p, 3, none⟩ = some (.int .i64 0) ∧ W'.cell? ⟨p, 4, none⟩ = some (.int .i64 wh))
   ((go_split_ands; refine KS.out _ ?_; first | exact (Below.refl _ _).drew | exact (below_allocs (Below.refl _ _) _).drew | (refine below_allocs ?_ _; assumption) | (exact below_trans2 (by assumption) (by assumption))))
   ((go_at_call 112; ((with_reducible refine (KT.out _).mono ?_); rintro e w2 ⟨rfl, b2⟩)))
  all_goals
   go_split_ands
   have hfin : Below W.heap.size W w2 := by assumption
   go_wp2_with fail
   go_ret
   exact ⟨by rw [ht.out]; rfl, hfin⟩
 ·have ht := Lib.hid (show bs (nT s a e) = ⟨#[]⟩ by unfold nT; rw [if_neg he]; rfl)
  have hne : (e != 0) = true := by simpa using he
  clear h he
  go_enter Tryz.func74, Tryz.ntmps74
  go_wp2_with fail
  go_ret
  exact ⟨by rw [ht.out]; rfl, Below.refl _ _⟩
theorem fail_live (p : Nat) (s : ByteArray) (a : Nat) (o : Int) (wh : Nat) (W : World) (h : PSt W p s a o 0 wh) :
  Calls Tryz.prog 22 #[.pointer (some ⟨p, 0, none⟩)] W fun r W' => r = .returned (.tuple #[]) ∧ PSt W' p s a o 20 a ∧ Fr p W W' := by
 obtain ⟨c0, c1, c2, c3, c4, f1, f2, f3, f4⟩ := h.cells
 have H := Lib.hid h
 clear h
 go_enter Tryz.func22, Tryz.ntmps22
 go_wp2_with fail
 go_end0
 exact ⟨rfl, (H.out.set3 20).set4 a, (Fr.set _ 3 _).trans (Fr.set _ 4 _)⟩
theorem fail_dead (p : Nat) (s : ByteArray) (a : Nat) (o e : Int) (wh : Nat) (W : World) (h : PSt W p s a o e wh) (he : e ≠ 0) :
  Calls Tryz.prog 22 #[.pointer (some ⟨p, 0, none⟩)] W fun r W' => r = .returned (.tuple #[]) ∧ W = W' := by
 obtain ⟨c0, c1, c2, c3, c4, f1, f2, f3, f4⟩ := h.cells
 have hne : (e == 0) = false := by simpa using he
 clear h he
 go_enter Tryz.func22, Tryz.ntmps22
 go_wp2_with fail
 go_end0
 exact ⟨rfl, rfl⟩
theorem T_fit {s : ByteArray} {a : Nat} (ha : a ≤ s.size) : a + (T s a).length ≤ s.size := by
 have hl : ((lst s).drop a).length = s.size - a := by rw [List.length_drop, lst_len]
 have key : (T s a).length ≤ ((lst s).drop a).length := by
  unfold T
  generalize (lst s).drop a = l
  cases l with
  | nil => simp [tokL]
  | cons c l =>
   rw [tokL]
   split
   ·exact (List.takeWhile_prefix _).length_le
   ·split
    ·exact (List.takeWhile_prefix _).length_le
    ·unfold sgnAt
     cases hf : signL.find? fun t => t.isPrefixOf (c :: l) with
     | none => simp
     | some t =>
      have := List.find?_some hf
      simpa using (List.isPrefixOf_iff_prefix.1 this).length_le
 omega
theorem bl_le {s : ByteArray} : ∀ {a : Nat}, a ≤ s.size → a ≤ bl s a ∧ bl s a ≤ s.size := by
 intro a ha
 have : ∀ (b : Bool) (l : List UInt8), skipN b l ≤ l.length := by
  intro b l
  induction l generalizing b with
  | nil => cases b <;> simp [skipN]
  | cons c l ih =>
   have h1 := ih true
   have h2 := ih false
   cases b <;> simp only [skipN, List.length_cons] <;> split <;> (try split) <;> omega
 have h := this false ((lst s).drop a)
 rw [List.length_drop, lst_len] at h
 unfold bl; omega
theorem nxt_le {s : ByteArray} {a : Nat} (ha : a ≤ s.size) : a + (T s a).length ≤ nxt s a ∧ nxt s a ≤ s.size := bl_le (T_fit ha)
end Go.Proofs.YtgkjcimgghflmaaGreatDoor
