/-
  A map from names to nodes, as package logic's SubstAll makes it: what it holds, and what a look-up in it gives; conditions: none.
-/
import Derived.Maps.OwnIn
import Derived.Maps.OwnSet
import Derived.WideMake
import Derived.Test.YtpjokapkoeclpaaCopyOf
import Derived.Test.YtpjokapkoeclpaaRefSub
import Derived.Test.YtpjokapkoeclpaaRefVars
namespace Go.Proofs.Ytpjokapkoeclpaa
open Go.RowKit Go.Shelf Go.WideMaps

/-- The entries of a map from names. -/
def keysStr (es : List MapEntry) : Prop := ∀ e ∈ es, ∃ s : ByteArray, e.key = .string s
theorem findNow_str (s : ByteArray) : ∀ (es : List MapEntry) (i : Nat), keysStr es → ∃ r, Instr.findNow .string (.string s) es i = some r ∧
    ((r = none ∧ ∀ e ∈ es, ∀ k, e.key = .string k → k ≠ s) ∨ ∃ (j : Nat) (e : MapEntry), r = some (i + j, e.val) ∧ es[j]? = some e ∧ e.key = .string s ∧ ∀ e' ∈ es.take j, ∀ k, e'.key = .string k → k ≠ s)
  | [], i, _ => ⟨none, rfl, .inl ⟨rfl, fun e h => by simp at h⟩⟩
  | e :: es, i, hk => by
    obtain ⟨k, hkk⟩ := hk e (by simp)
    rw [Instr.findNow, hkk]
    obtain ⟨q, hq, hiff⟩ := MapKept.sameNow_of_keys (d := .string) (a := .string s) (b := .string k) trivial trivial
    rw [hq]
    by_cases h : s = k
    · subst h
      obtain rfl := hiff.2 rfl
      exact ⟨some (i, e.val), rfl, .inr ⟨0, e, rfl, rfl, hkk, fun e' h => by simp at h⟩⟩
    · obtain rfl : q = false := by
        cases q
        · rfl
        · have := hiff.1 rfl
          cases this
          exact absurd rfl h
      obtain ⟨r, h1, h2⟩ := findNow_str s es (i + 1) (fun e' he' => hk e' (by simp [he']))
      refine ⟨r, h1, ?_⟩
      rcases h2 with ⟨h2, h3⟩ | ⟨j, e2, h2, h3, h4, h5⟩
      · refine .inl ⟨h2, fun e' he' k' hk' => ?_⟩
        rcases List.mem_cons.1 he' with rfl | he'
        · rw [hkk] at hk'; cases hk'; exact fun e => h e.symm
        · exact h3 e' he' k' hk'
      · refine .inr ⟨j + 1, e2, by rw [h2]; congr 2; omega, h3, h4, fun e' he' k' hk' => ?_⟩
        rw [List.take_succ_cons] at he'
        rcases List.mem_cons.1 he' with rfl | he'
        · rw [hkk] at hk'; cases hk'; exact fun e => h e.symm
        · exact h5 e' he' k' hk'

theorem run_lookup_str {W : World} {m : Nat} {es : Array MapEntry} {clock : Nat} (hb : W.heap[m]? = some (.map es clock)) {s : ByteArray} {r : Option (Nat × Value)} (hf : Instr.findNow .string (.string s) es.toList 0 = some r) :
    (Instr.lookup 74 (.map (some m)) (.string s) true).run Try.prog W = .ok (match r with | some (_, v) => .tuple #[v, .bool true] | none => .tuple #[.agg zero5, .bool false]) W := by
  have hz : (zeroValue 24).run Try.prog W = .ok (.agg zero5) W := Try.zeroValue24 W
  have hc : ∀ e, (Instr.checkKey e 10000 9 (.string s)).run Try.prog W = .ok () W := fun e => MapKept.run_checkKey (n := 9999) (k := .string s) Try.underlying9 trivial e
  have hff : (Instr.findKey 9 (.string s) es.toList).run Try.prog W = .ok r W := by
    unfold Instr.findKey
    simp [run_underlying Try.underlying9, hf, Result.andThen]
  unfold Instr.lookup
  cases r with
  | none => simp [run_underlying Try.underlying74, MapKept.run_getObj_map hb, hc, hff, hz, Result.andThen]
  | some y => simp [run_underlying Try.underlying74, MapKept.run_getObj_map hb, hc, hff, Result.andThen]

/-- A block is another object. -/
def withObj (W : World) (m : Nat) (o : Obj) : World := { W with heap := W.heap.setIfInBounds m o }
theorem withObj_same {W : World} {m : Nat} (o : Obj) (h : m < W.heap.size) : (withObj W m o).heap[m]? = some o := by simp [withObj, h]
theorem withObj_other (W : World) (m : Nat) (o : Obj) {k : Nat} (h : k ≠ m) : (withObj W m o).heap[k]? = W.heap[k]? := by
  simp only [withObj, Array.getElem?_setIfInBounds]
  rw [if_neg (fun e => h e.symm)]
theorem withObj_size (W : World) (m : Nat) (o : Obj) : (withObj W m o).heap.size = W.heap.size := by simp [withObj]
theorem Below.withObj {B : Nat} {a W : World} (h : Below B a W) {m : Nat} (hm : B ≤ m) (o : Obj) : Below B a (withObj W m o) :=
  h.trans ⟨rfl, rfl, rfl, Nat.le_of_eq (withObj_size W m o).symm, fun k hk => withObj_other W m o (by omega)⟩

theorem run_mapUpdate_str {W : World} {m : Nat} {es : Array MapEntry} {clock : Nat} (hb : W.heap[m]? = some (.map es clock)) {s : ByteArray} (hf : Instr.findNow .string (.string s) es.toList 0 = some none) (v : Value) :
    (Instr.mapUpdate 74 (.map (some m)) (.string s) v).run Try.prog W = .ok () (withObj W m (.map (es.push { key := .string s, val := v, born := clock }) (clock + 1))) := by
  have hc : ∀ e, (Instr.checkKey e 10000 9 (.string s)).run Try.prog W = .ok () W := fun e => MapKept.run_checkKey (n := 9999) (k := .string s) Try.underlying9 trivial e
  have hff : (Instr.findKey 9 (.string s) es.toList).run Try.prog W = .ok none W := by
    unfold Instr.findKey
    simp [run_underlying Try.underlying9, hf, Result.andThen]
  unfold Instr.mapUpdate
  simp [run_underlying Try.underlying74, MapKept.run_getObj_map hb, hc, hff, MapKept.run_setObj_map _ hb, Result.andThen, withObj]

abbrev nvA (x : NdA) : Value := nv x.1.op x.1.so x.1.nm x.1.nu (.slice x.2.1 x.1.ks.length x.2.2)
/-- The map in block m holds what the first i names stand for. -/
def StandAt (w0 : World) (m : Nat) (nl : List ByteArray) (ws : List Nd) (i : Nat) (W : World) : Prop :=
  ∃ (es : Array MapEntry) (clock : Nat) (ps : List (ByteArray × NdA)), W.heap[m]? = some (.map es clock) ∧ es.toList.map (fun e => (e.key, e.val)) = ps.map (fun p => (Value.string p.1, nvA p.2)) ∧
    (∀ p ∈ ps, Lies w0 p.2.2.1 p.2.2.2 p.2.1.ks ∧ Fine p.2.1 ∧ p.2.1 ∈ ws) ∧ ∀ nm : ByteArray, (ps.find? fun p => p.1.toList == nm.toList).map (fun p => p.2.1) = lookF (nl.take i) (ws.take i) nm

theorem StandAt.kept {w0 : World} {m : Nat} {nl : List ByteArray} {ws : List Nd} {i : Nat} {W W' : World} (h : StandAt w0 m nl ws i W) (hb : W'.heap[m]? = W.heap[m]?) : StandAt w0 m nl ws i W' := by
  obtain ⟨es, clock, ps, h1, h2⟩ := h
  exact ⟨es, clock, ps, hb.trans h1, h2⟩

theorem stand_find {es : List MapEntry} {ps : List (ByteArray × NdA)} (hm : es.map (fun e => (e.key, e.val)) = ps.map (fun p => (Value.string p.1, nvA p.2))) (s : ByteArray) :
    (Instr.findNow .string (.string s) es 0 = some none ∧ (ps.find? fun p => p.1.toList == s.toList) = none) ∨
    ∃ j p, Instr.findNow .string (.string s) es 0 = some (some (j, nvA p.2)) ∧ p ∈ ps ∧ (ps.find? fun p => p.1.toList == s.toList) = some p := by
  have hlen : es.length = ps.length := by simpa using congrArg List.length hm
  have hat : ∀ i (h1 : i < es.length) (h2 : i < ps.length), es[i].key = .string ps[i].1 ∧ es[i].val = nvA ps[i].2 := fun i h1 h2 => by
    have := congrArg (fun l => l[i]?) hm
    simp only [List.getElem?_map, List.getElem?_eq_getElem h1, List.getElem?_eq_getElem h2, Option.map_some, Option.some.injEq, Prod.mk.injEq] at this
    exact this
  have hk : keysStr es := fun e he => by
    obtain ⟨i, hi, rfl⟩ := List.getElem_of_mem he
    exact ⟨_, (hat i hi (by omega)).1⟩
  obtain ⟨r, h1, h2⟩ := findNow_str s es 0 hk
  rcases h2 with ⟨rfl, h3⟩ | ⟨j, e, rfl, h3, h4, h5⟩
  · refine .inl ⟨h1, ?_⟩
    rw [List.find?_eq_none]
    intro p hp
    obtain ⟨i, hi, rfl⟩ := List.getElem_of_mem hp
    have := h3 _ (List.getElem_mem (show i < es.length by omega)) _ (hat i (by omega) hi).1
    simpa using fun e => this (toList_inj e)
  · obtain ⟨hj, rfl⟩ := List.getElem?_eq_some_iff.1 h3
    have hjp : j < ps.length := by omega
    obtain ⟨a1, a2⟩ := hat j hj hjp
    rw [a2] at h1
    refine .inr ⟨0 + j, ps[j], h1, List.getElem_mem hjp, ?_⟩
    rw [List.find?_eq_some_iff_getElem]
    rw [a1] at h4
    refine ⟨by cases h4; simp, j, hjp, rfl, fun i hij => ?_⟩
    have := h5 es[i] (by rw [List.mem_take_iff_getElem]; exact ⟨i, by omega, rfl⟩) _ (hat i (by omega) (by omega)).1
    simpa using fun e => this (toList_inj e)

/-- What a look-up of a name gives. -/
theorem StandAt.look {w0 : World} {m : Nat} {nl : List ByteArray} {ws : List Nd} {i : Nat} {W : World} (h : StandAt w0 m nl ws i W) (s : ByteArray) :
    (lookF (nl.take i) (ws.take i) s = none ∧ (Instr.lookup 74 (.map (some m)) (.string s) true).run Try.prog W = .ok (.tuple #[.agg zero5, .bool false]) W) ∨
    ∃ x : NdA, lookF (nl.take i) (ws.take i) s = some x.1 ∧ (Instr.lookup 74 (.map (some m)) (.string s) true).run Try.prog W = .ok (.tuple #[nvA x, .bool true]) W ∧ Lies w0 x.2.1 x.2.2 x.1.ks ∧ Fine x.1 ∧ x.1 ∈ ws := by
  obtain ⟨es, clock, ps, h1, h2, h3, h4⟩ := h
  rcases stand_find h2 s with ⟨h5, h6⟩ | ⟨j, p, h5, h6, h7⟩
  · refine .inl ⟨by rw [← h4, h6]; rfl, run_lookup_str h1 h5⟩
  · refine .inr ⟨p.2, by rw [← h4, h7]; rfl, run_lookup_str h1 h5, h3 p h6⟩

theorem lookF_step (nl : List ByteArray) (ws : List Nd) {i : Nat} (h1 : i < nl.length) (h2 : i < ws.length) (nm : ByteArray) :
    lookF (nl.take (i + 1)) (ws.take (i + 1)) nm = (lookF (nl.take i) (ws.take i) nm).or (if nl[i].toList = nm.toList then some ws[i] else none) := by
  unfold lookF
  rw [List.take_succ_eq_append_getElem h1, List.take_succ_eq_append_getElem h2, List.zip_append (by simp; omega), List.find?_append]
  simp only [List.zip_cons_cons, List.zip_nil_right, List.find?_cons, List.find?_nil]
  cases hq : (nl.take i).zip (ws.take i) |>.find? (fun p => p.1.toList == nm.toList) with
  | some p => simp
  | none =>
    by_cases he : nl[i].toList = nm.toList
    · have : (nl[i].toList == nm.toList) = true := by simpa using he
      rw [this]; simp [he]
    · have : (nl[i].toList == nm.toList) = false := by simpa using he
      rw [this]; simp [he]
theorem lookF_congr {nl : List ByteArray} {ws : List Nd} {a b : ByteArray} (h : a.toList = b.toList) : lookF nl ws a = lookF nl ws b := by unfold lookF; rw [h]

theorem StandAt.nil {w0 : World} {m : Nat} {nl : List ByteArray} {ws : List Nd} {W : World} {clock : Nat} (h : W.heap[m]? = some (.map #[] clock)) : StandAt w0 m nl ws 0 W :=
  ⟨#[], clock, [], h, rfl, fun _ h => by simp at h, fun _ => rfl⟩
/-- The name has something already. -/
theorem StandAt.skip {w0 : World} {m : Nat} {nl : List ByteArray} {ws : List Nd} {i : Nat} {W : World} (h : StandAt w0 m nl ws i W) (h1 : i < nl.length) (h2 : i < ws.length) {u : Nd} (hl : lookF (nl.take i) (ws.take i) nl[i] = some u) : StandAt w0 m nl ws (i + 1) W := by
  obtain ⟨es, clock, ps, g1, g2, g3, g4⟩ := h
  refine ⟨es, clock, ps, g1, g2, g3, fun nm => ?_⟩
  rw [g4, lookF_step nl ws h1 h2]
  by_cases he : nl[i].toList = nm.toList
  · rw [← lookF_congr he, hl]; rfl
  · rw [if_neg he]; simp
/-- The name is entered. -/
theorem StandAt.enter {w0 : World} {m : Nat} {nl : List ByteArray} {ws : List Nd} {i : Nat} {W : World} (h : StandAt w0 m nl ws i W) (h1 : i < nl.length) (h2 : i < ws.length) (hl : lookF (nl.take i) (ws.take i) nl[i] = none)
    {A : Option Addr} {C : Nat} (hL : Lies w0 A C ws[i].ks) (hf : Fine ws[i]) (hmW : m < W.heap.size) :
    ∃ o, (Instr.mapUpdate 74 (.map (some m)) (.string nl[i]) (nvA (ws[i], A, C))).run Try.prog W = .ok () (withObj W m o) ∧ StandAt w0 m nl ws (i + 1) (withObj W m o) := by
  obtain ⟨es, clock, ps, g1, g2, g3, g4⟩ := h
  rcases stand_find g2 nl[i] with ⟨h5, h6⟩ | ⟨j, p, h5, h6, h7⟩
  · refine ⟨_, run_mapUpdate_str g1 h5 _, _, _, ps ++ [(nl[i], ws[i], A, C)], withObj_same _ hmW, by simp [g2], fun p hp => ?_, fun nm => ?_⟩
    · rcases List.mem_append.1 hp with hp | hp
      · exact g3 p hp
      · simp only [List.mem_singleton] at hp; subst hp; exact ⟨hL, hf, List.getElem_mem h2⟩
    · rw [lookF_step nl ws h1 h2, ← g4, List.find?_append]
      by_cases he : nl[i].toList = nm.toList
      · have hb : (nl[i].toList == nm.toList) = true := by simpa using he
        cases ps.find? (fun p => p.1.toList == nm.toList) <;> simp [he]
      · have hb : (nl[i].toList == nm.toList) = false := by simpa using he
        cases ps.find? (fun p => p.1.toList == nm.toList) <;> simp [he]
  · have := g4 nl[i]
    rw [h7, hl] at this
    cases this
end Go.Proofs.Ytpjokapkoeclpaa
