/-
  The state of the document's own parser in memory, what changes beside it, and what its small methods do: next, fail, pass, take, want, open; conditions: the text is no longer than a string can be.
-/
import Derived.IntWalk
import Derived.Test.YtgkjcimgghflmaaGreatDoorYTok
namespace Go.Proofs.YtgkjcimgghflmaaGreatDoor
open Go.RowKit Go.Shelf
attribute [local go_sem] Oper.semAt_some
/-- The position of the token behind the one at a position. -/
def nxt (s : ByteArray) (a : Nat) : Nat := bl s (a + (T s a).length)
/-- All blocks but p stand. -/
structure Fr (p : Nat) (W W' : World) : Prop where
  os : W'.os = W.os
  tape : W'.tape = W.tape
  output : W'.output = W.output
  size : W.heap.size ≤ W'.heap.size
  block : ∀ k, k < W.heap.size → k ≠ p → W'.heap[k]? = W.heap[k]?
theorem Fr.refl (p : Nat) (W : World) : Fr p W W := ⟨rfl, rfl, rfl, Nat.le_refl _, fun _ _ _ => rfl⟩
theorem Fr.trans {p : Nat} {A B C : World} (h : Fr p A B) (k : Fr p B C) : Fr p A C :=
  ⟨k.os.trans h.os, k.tape.trans h.tape, k.output.trans h.output, Nat.le_trans h.size k.size, fun i hi hp => (k.block i (Nat.lt_of_lt_of_le hi h.size) hp).trans (h.block i hi hp)⟩
theorem Fr.of {p : Nat} {W W' : World} (h : Below W.heap.size W W') : Fr p W W' := ⟨h.os, h.tape, h.output, h.size, fun k hk _ => h.block k hk⟩
theorem Fr.set {p : Nat} (W : World) (i : Nat) (v : Value) : Fr p W (W.setCell ⟨p, i, none⟩ v) :=
  ⟨rfl, rfl, rfl, by simp, fun k _ hp => Below.heap_setCell W ⟨p, i, none⟩ v k (fun e => hp (by simpa using e))⟩
theorem Fr.below {p B : Nat} {W W' : World} (h : Fr p W W') (hp : B ≤ p) (hB : B ≤ W.heap.size) : Below B W W' :=
  ⟨h.os, h.tape, h.output, h.size, fun k hk => h.block k (by omega) (by omega)⟩
/-- A block that is not p. -/
theorem Fr.at {p x : Nat} {W W' : World} (h : Fr p W W') {o : Obj} (hx : W.heap[x]? = some o) (hp : x ≠ p) : W'.heap[x]? = some o :=
  (h.block x (Array.getElem?_eq_some_iff.1 hx).1 hp).trans hx
theorem heap_set {W : World} {p i : Nat} {cs : Array Value} {t : TypeId} {v : Value} (h : W.heap[p]? = some (.cells cs t (0, 0))) : (W.setCell ⟨p, i, none⟩ v).heap[p]? = some (.cells (cs.setIfInBounds i v) t (0, 0)) := by
  obtain ⟨hlt, hk⟩ := Array.getElem?_eq_some_iff.1 h
  show (W.heap.modify p _)[p]? = _
  rw [Array.getElem?_eq_getElem (by rw [Array.size_modify]; exact hlt), Array.getElem_modify_self, hk]
  rfl
theorem T_fit {s : ByteArray} {a : Nat} (ha : a ≤ s.size) : a + (T s a).length ≤ s.size := by
  have hl : ((lst s).drop a).length = s.size - a := by rw [List.length_drop, lst_len]
  have key : (T s a).length ≤ ((lst s).drop a).length := by
    unfold T
    generalize (lst s).drop a = l
    cases l with
    | nil => simp [tokL]
    | cons c l =>
      rw [tokL]
      split
      · exact (List.takeWhile_prefix _).length_le
      · split
        · exact (List.takeWhile_prefix _).length_le
        · unfold sgnAt
          cases hf : signL.find? fun t => t.isPrefixOf (c :: l) with
          | none => simp
          | some t =>
            have := List.find?_some hf
            simpa using (List.isPrefixOf_iff_prefix.1 this).length_le
  omega
theorem bl_le {s : ByteArray} : ∀ {a : Nat}, a ≤ s.size → a ≤ bl s a ∧ bl s a ≤ s.size := by
  intro a ha
  have : ∀ (b : Bool) (l : List UInt8), skipN b l ≤ l.length := by
    intro b l
    induction l generalizing b with
    | nil => cases b <;> simp [skipN]
    | cons c l ih =>
      have h1 := ih true
      have h2 := ih false
      cases b <;> simp only [skipN, List.length_cons] <;> split <;> (try split) <;> omega
  have h := this false ((lst s).drop a)
  rw [List.length_drop, lst_len] at h
  unfold bl; omega
theorem nxt_le {s : ByteArray} {a : Nat} (ha : a ≤ s.size) : a + (T s a).length ≤ nxt s a ∧ nxt s a ≤ s.size := bl_le (T_fit ha)
end Go.Proofs.YtgkjcimgghflmaaGreatDoor
