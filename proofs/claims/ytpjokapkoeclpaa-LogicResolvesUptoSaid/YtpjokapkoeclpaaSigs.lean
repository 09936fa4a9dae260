/-
  Declarations and sigs as they lie in memory, maps from names, and what looking a name up gives; conditions: the lists lie in memory.
-/
import Derived.Maps.OwnIn
import Derived.Maps.OwnSet
import Derived.WideMake
import Derived.Test.YtpjokapkoeclpaaRefCheck
namespace Go.Proofs.Ytpjokapkoeclpaa
open Go.RowKit Go.Shelf Go.WideMaps

attribute [local go_sem] Oper.semAt_some
/-- A slice of a list's length holds declarations. -/
def Dcls (w : World) (A : Option Addr) (dl : List (ByteArray × Int)) : Prop :=
  ∃ b o, (0 < dl.length → A = some ⟨b, o, none⟩) ∧ ∀ i (hi : i < dl.length), w.cell? ⟨b, o + i * 2, none⟩ = some (.string dl[i].1) ∧ w.cell? ⟨b, o + i * 2 + 1, none⟩ = some (.int .i64 dl[i].2)
theorem Dcls.later {w w' : World} {A : Option Addr} {dl : List (ByteArray × Int)} (h : Dcls w A dl) (hb : Below w.heap.size w w') : Dcls w' A dl := by
  obtain ⟨b, o, h1, h2⟩ := h
  exact ⟨b, o, h1, fun i hi => ⟨cellB hb (Nat.le_refl _) (h2 i hi).1, cellB hb (Nat.le_refl _) (h2 i hi).2⟩⟩

/-- A sig. -/
structure Sg where
  nm : ByteArray
  args : List Int
  so : Int
/-- A sig, and where the list of its arguments lies. -/
abbrev SgA := Sg × Option Addr × Nat
abbrev sgV (x : SgA) : Value := .agg #[.string x.1.nm, .slice x.2.1 x.1.args.length x.2.2, .int .i64 x.1.so]
/-- A slice of a list's length holds sigs. -/
def Sgs (w : World) (A : Option Addr) (sl : List SgA) : Prop :=
  ∃ b o, (0 < sl.length → A = some ⟨b, o, none⟩) ∧ ∀ i (hi : i < sl.length), w.cell? ⟨b, o + i * 3, none⟩ = some (.string sl[i].1.nm) ∧ w.cell? ⟨b, o + i * 3 + 1, none⟩ = some (.slice sl[i].2.1 sl[i].1.args.length sl[i].2.2) ∧ w.cell? ⟨b, o + i * 3 + 2, none⟩ = some (.int .i64 sl[i].1.so)
theorem Sgs.later {w w' : World} {A : Option Addr} {sl : List SgA} (h : Sgs w A sl) (hb : Below w.heap.size w w') : Sgs w' A sl := by
  obtain ⟨b, o, h1, h2⟩ := h
  exact ⟨b, o, h1, fun i hi => ⟨cellB hb (Nat.le_refl _) (h2 i hi).1, cellB hb (Nat.le_refl _) (h2 i hi).2.1, cellB hb (Nat.le_refl _) (h2 i hi).2.2⟩⟩
/-- The arguments of the sigs lie in memory. -/
def ArgsIn (w : World) (sl : List SgA) : Prop := ∀ x ∈ sl, Ints w x.2.1 x.1.args ∧ x.1.args.length ≤ maxLen ∧ (Lit.int .i64 x.1.so).wf = true
theorem ArgsIn.later {w w' : World} {sl : List SgA} (h : ArgsIn w sl) (hb : Below w.heap.size w w') : ArgsIn w' sl :=
  fun x hx => ⟨(h x hx).1.later hb, (h x hx).2⟩

/-- The first declaration of a name. -/
def lookD (dl : List (ByteArray × Int)) (s : ByteArray) : Option Int := (dl.find? fun d => d.1.toList == s.toList).map (·.2)
/-- The first sig of a name. -/
def lookS (sl : List SgA) (s : ByteArray) : Option SgA := sl.find? fun x => x.1.nm.toList == s.toList
def zeroSg : SgA := (⟨⟨#[]⟩, [], 0⟩, none, 0)

theorem find_take_some {α : Type} {l : List α} {p : α → Bool} {k : Nat} (hk : k < l.length) (h : ∀ j (hj : j < l.length), j < k → p l[j] = false) (hp : p l[k] = true) : l.find? p = some l[k] := by
  rw [List.find?_eq_some_iff_getElem]
  exact ⟨hp, k, hk, rfl, fun j hj => by rw [h j (by omega) hj]; rfl⟩
theorem find_take_none {α : Type} {l : List α} {p : α → Bool} (h : ∀ j (hj : j < l.length), p l[j] = false) : l.find? p = none := by
  rw [List.find?_eq_none]
  intro x hx
  obtain ⟨i, hi, rfl⟩ := List.getElem_of_mem hx
  rw [h i hi]; simp

/-- What the entries of a map from names say of a name. -/
def keyIs (s : ByteArray) (e : MapEntry) : Bool := match e.key with | .string k => k.toList == s.toList | _ => false
def lookE (es : List MapEntry) (s : ByteArray) : Option Value := (es.find? (keyIs s)).map (·.val)
def keysS (es : List MapEntry) : Prop := ∀ e ∈ es, ∃ s : ByteArray, e.key = .string s
theorem findNow_look (s : ByteArray) : ∀ (es : List MapEntry) (i : Nat), keysS es → ∃ r, Instr.findNow .string (.string s) es i = some r ∧ r.map (·.2) = lookE es s
  | [], i, _ => ⟨none, rfl, rfl⟩
  | e :: es, i, hk => by
    obtain ⟨k, hkk⟩ := hk e (by simp)
    rw [Instr.findNow, hkk]
    obtain ⟨q, hq, hiff⟩ := MapKept.sameNow_of_keys (d := .string) (a := .string s) (b := .string k) trivial trivial
    rw [hq]
    by_cases h : s = k
    · subst h
      obtain rfl := hiff.2 rfl
      refine ⟨some (i, e.val), rfl, ?_⟩
      have hK : keyIs s e = true := by simp [keyIs, hkk]
      rw [lookE, List.find?_cons_of_pos hK]
      rfl
    · obtain rfl : q = false := by
        cases q
        · rfl
        · have := hiff.1 rfl
          cases this
          exact absurd rfl h
      obtain ⟨r, h1, h2⟩ := findNow_look s es (i + 1) (fun e' he' => hk e' (by simp [he']))
      refine ⟨r, h1, ?_⟩
      have hK : ¬ keyIs s e = true := by
        have : k.toList ≠ s.toList := fun e => h (toList_inj e.symm)
        simp [keyIs, hkk, this]
      rw [h2, lookE, lookE, List.find?_cons_of_neg hK]

/-- The map in block m gives names these values. -/
def NameMap (W : World) (m : Nat) (f : ByteArray → Option Value) : Prop :=
  ∃ (es : Array MapEntry) (clock : Nat), W.heap[m]? = some (.map es clock) ∧ keysS es.toList ∧ ∀ s, lookE es.toList s = f s
theorem NameMap.kept {W W' : World} {m : Nat} {f : ByteArray → Option Value} (h : NameMap W m f) (hb : W'.heap[m]? = W.heap[m]?) : NameMap W' m f := by
  obtain ⟨es, clock, h1, h2⟩ := h
  exact ⟨es, clock, hb.trans h1, h2⟩
theorem NameMap.lt {W : World} {m : Nat} {f : ByteArray → Option Value} (h : NameMap W m f) : m < W.heap.size := by
  obtain ⟨es, clock, h1, h2⟩ := h
  exact (Array.getElem?_eq_some_iff.1 h1).1
theorem NameMap.nil {W : World} {m : Nat} {clock : Nat} (h : W.heap[m]? = some (.map #[] clock)) : NameMap W m (fun _ => none) :=
  ⟨#[], clock, h, fun _ h => by simp at h, fun _ => rfl⟩

theorem NameMap.find {W : World} {m : Nat} {f : ByteArray → Option Value} (h : NameMap W m f) (s : ByteArray) :
    ∃ es clock r, W.heap[m]? = some (.map es clock) ∧ Instr.findNow .string (.string s) es.toList 0 = some r ∧ r.map (·.2) = f s ∧ keysS es.toList := by
  obtain ⟨es, clock, h1, h2, h3⟩ := h
  obtain ⟨r, h4, h5⟩ := findNow_look s es.toList 0 h2
  exact ⟨es, clock, r, h1, h4, h5.trans (h3 s), h2⟩

theorem NameMap.look54 {W : World} {m : Nat} {f : ByteArray → Option Value} (h : NameMap W m f) (s : ByteArray) :
    (Instr.lookup 54 (.map (some m)) (.string s) true).run Try.prog W = .ok (match f s with | some v => .tuple #[v, .bool true] | none => .tuple #[.int .i64 0, .bool false]) W := by
  obtain ⟨es, clock, r, hb, hf, hr, _⟩ := h.find s
  have hz : (zeroValue 3).run Try.prog W = .ok (.int .i64 0) W := Try.zeroValue3 W
  have hc : ∀ e, (Instr.checkKey e 10000 9 (.string s)).run Try.prog W = .ok () W := fun e => MapKept.run_checkKey (n := 9999) (k := .string s) Try.underlying9 trivial e
  have hff : (Instr.findKey 9 (.string s) es.toList).run Try.prog W = .ok r W := by
    unfold Instr.findKey
    simp [run_underlying Try.underlying9, hf, Result.andThen]
  rw [← hr]
  unfold Instr.lookup
  cases r with
  | none => simp [run_underlying Try.underlying54, MapKept.run_getObj_map hb, hc, hff, hz, Result.andThen]
  | some y => simp [run_underlying Try.underlying54, MapKept.run_getObj_map hb, hc, hff, Result.andThen]
theorem NameMap.look77 {W : World} {m : Nat} {f : ByteArray → Option Value} (h : NameMap W m f) (s : ByteArray) :
    (Instr.lookup 77 (.map (some m)) (.string s) true).run Try.prog W = .ok (match f s with | some v => .tuple #[v, .bool true] | none => .tuple #[sgV zeroSg, .bool false]) W := by
  obtain ⟨es, clock, r, hb, hf, hr, _⟩ := h.find s
  have hz : (zeroValue 83).run Try.prog W = .ok (sgV zeroSg) W := Try.zeroValue83 W
  have hc : ∀ e, (Instr.checkKey e 10000 9 (.string s)).run Try.prog W = .ok () W := fun e => MapKept.run_checkKey (n := 9999) (k := .string s) Try.underlying9 trivial e
  have hff : (Instr.findKey 9 (.string s) es.toList).run Try.prog W = .ok r W := by
    unfold Instr.findKey
    simp [run_underlying Try.underlying9, hf, Result.andThen]
  rw [← hr]
  unfold Instr.lookup
  cases r with
  | none => simp [run_underlying Try.underlying77, MapKept.run_getObj_map hb, hc, hff, hz, Result.andThen]
  | some y => simp [run_underlying Try.underlying77, MapKept.run_getObj_map hb, hc, hff, Result.andThen]
theorem NameMap.plain77 {W : World} {m : Nat} {f : ByteArray → Option Value} (h : NameMap W m f) (s : ByteArray) :
    (Instr.lookup 77 (.map (some m)) (.string s) false).run Try.prog W = .ok ((f s).getD (sgV zeroSg)) W := by
  obtain ⟨es, clock, r, hb, hf, hr, _⟩ := h.find s
  have hz : (zeroValue 83).run Try.prog W = .ok (sgV zeroSg) W := Try.zeroValue83 W
  have hc : ∀ e, (Instr.checkKey e 10000 9 (.string s)).run Try.prog W = .ok () W := fun e => MapKept.run_checkKey (n := 9999) (k := .string s) Try.underlying9 trivial e
  have hff : (Instr.findKey 9 (.string s) es.toList).run Try.prog W = .ok r W := by
    unfold Instr.findKey
    simp [run_underlying Try.underlying9, hf, Result.andThen]
  rw [← hr]
  unfold Instr.lookup
  cases r with
  | none => simp [run_underlying Try.underlying77, MapKept.run_getObj_map hb, hc, hff, hz, Result.andThen]
  | some y => simp [run_underlying Try.underlying77, MapKept.run_getObj_map hb, hc, hff, Result.andThen]

/-- A block is another object. -/
def putBlock (W : World) (m : Nat) (o : Obj) : World := { W with heap := W.heap.setIfInBounds m o }
theorem putBlock_same {W : World} {m : Nat} (o : Obj) (h : m < W.heap.size) : (putBlock W m o).heap[m]? = some o := by simp [putBlock, h]
theorem putBlock_other (W : World) (m : Nat) (o : Obj) {k : Nat} (h : k ≠ m) : (putBlock W m o).heap[k]? = W.heap[k]? := by
  simp only [putBlock, Array.getElem?_setIfInBounds]
  rw [if_neg (fun e => h e.symm)]
theorem putBlock_size (W : World) (m : Nat) (o : Obj) : (putBlock W m o).heap.size = W.heap.size := by simp [putBlock]
theorem Below.putBlock {B : Nat} {a W : World} (h : Below B a W) {m : Nat} (hm : B ≤ m) (o : Obj) : Below B a (putBlock W m o) :=
  h.trans ⟨rfl, rfl, rfl, Nat.le_of_eq (putBlock_size W m o).symm, fun k hk => putBlock_other W m o (by omega)⟩

theorem lookE_push (es : Array MapEntry) (e : MapEntry) (k s : ByteArray) (hk : e.key = .string k) : lookE (es.push e).toList s = (lookE es.toList s).or (if k.toList = s.toList then some e.val else none) := by
  unfold lookE
  rw [Array.toList_push, List.find?_append]
  cases hq : es.toList.find? (keyIs s) with
  | some p => simp
  | none =>
    by_cases he : k.toList = s.toList
    · have hK : keyIs s e = true := by simp [keyIs, hk, he]
      rw [if_pos he, List.find?_cons_of_pos hK]
      rfl
    · have hK : ¬ keyIs s e = true := by simp [keyIs, hk, he]
      rw [if_neg he, List.find?_cons_of_neg hK]
      rfl
theorem NameMap.enter54 {W : World} {m : Nat} {f : ByteArray → Option Value} (h : NameMap W m f) {s : ByteArray} (hs : f s = none) (v : Value) :
    ∃ o, (Instr.mapUpdate 54 (.map (some m)) (.string s) v).run Try.prog W = .ok () (putBlock W m o) ∧ NameMap (putBlock W m o) m (fun k => (f k).or (if s.toList = k.toList then some v else none)) := by
  have hlt := h.lt
  obtain ⟨es, clock, hb, hk, hl⟩ := h
  obtain ⟨r, hf, hr⟩ := findNow_look s es.toList 0 hk
  rw [hl, hs] at hr
  obtain rfl : r = none := by cases r <;> simp_all
  have hc : ∀ e, (Instr.checkKey e 10000 9 (.string s)).run Try.prog W = .ok () W := fun e => MapKept.run_checkKey (n := 9999) (k := .string s) Try.underlying9 trivial e
  have hff : (Instr.findKey 9 (.string s) es.toList).run Try.prog W = .ok none W := by
    unfold Instr.findKey
    simp [run_underlying Try.underlying9, hf, Result.andThen]
  refine ⟨.map (es.push { key := .string s, val := v, born := clock }) (clock + 1), ?_, _, _, putBlock_same _ hlt, ?_, fun k => ?_⟩
  · unfold Instr.mapUpdate
    simp [run_underlying Try.underlying54, MapKept.run_getObj_map hb, hc, hff, MapKept.run_setObj_map _ hb, Result.andThen, putBlock]
  · intro e he
    rw [Array.toList_push] at he
    rcases List.mem_append.1 he with he | he
    · exact hk e he
    · simp only [List.mem_singleton] at he; subst he; exact ⟨s, rfl⟩
  · rw [lookE_push es _ s k rfl, hl]
theorem NameMap.enter77 {W : World} {m : Nat} {f : ByteArray → Option Value} (h : NameMap W m f) {s : ByteArray} (hs : f s = none) (v : Value) :
    ∃ o, (Instr.mapUpdate 77 (.map (some m)) (.string s) v).run Try.prog W = .ok () (putBlock W m o) ∧ NameMap (putBlock W m o) m (fun k => (f k).or (if s.toList = k.toList then some v else none)) := by
  have hlt := h.lt
  obtain ⟨es, clock, hb, hk, hl⟩ := h
  obtain ⟨r, hf, hr⟩ := findNow_look s es.toList 0 hk
  rw [hl, hs] at hr
  obtain rfl : r = none := by cases r <;> simp_all
  have hc : ∀ e, (Instr.checkKey e 10000 9 (.string s)).run Try.prog W = .ok () W := fun e => MapKept.run_checkKey (n := 9999) (k := .string s) Try.underlying9 trivial e
  have hff : (Instr.findKey 9 (.string s) es.toList).run Try.prog W = .ok none W := by
    unfold Instr.findKey
    simp [run_underlying Try.underlying9, hf, Result.andThen]
  refine ⟨.map (es.push { key := .string s, val := v, born := clock }) (clock + 1), ?_, _, _, putBlock_same _ hlt, ?_, fun k => ?_⟩
  · unfold Instr.mapUpdate
    simp [run_underlying Try.underlying77, MapKept.run_getObj_map hb, hc, hff, MapKept.run_setObj_map _ hb, Result.andThen, putBlock]
  · intro e he
    rw [Array.toList_push] at he
    rcases List.mem_append.1 he with he | he
    · exact hk e he
    · simp only [List.mem_singleton] at he; subst he; exact ⟨s, rfl⟩
  · rw [lookE_push es _ s k rfl, hl]

set_option maxRecDepth 100000 in
set_option maxHeartbeats 2000000 in
theorem varOf_any (dl : List (ByteArray × Int)) (s : ByteArray) (A : Option Addr) (cap : Nat) (w : World) (hD : Dcls w A dl) (hn : dl.length ≤ maxLen) :
    Calls Try.prog 105 #[.string s, .slice A dl.length cap] w fun e w' => e = .returned (.tuple #[.int .i64 ((lookD dl s).getD 0), .bool (lookD dl s).isSome]) ∧ Below w.heap.size w w' := by
  unfold maxLen at hn
  have HD := Lib.hid hD
  clear hD
  go_enter Try.func105, Try.ntmps105
  go_wp2_with fail
  go_loopw [10] (fun i wr => ∃ k : Nat, k ≤ dl.length ∧ i = .int .i64 k ∧ Hid (∀ j (hj : j < dl.length), j < k → (dl[j].1.toList == s.toList) = false) ∧ Below w.heap.size w wr) (fun i _ => dl.length - (intOf i).toNat)
  case atStart => exact ⟨0, Nat.zero_le _, rfl, fun j _ hj => absurd hj (by omega), Below.refl _ _⟩
  case round =>
    obtain ⟨k, hk, rfl, hno, hBr⟩ := hrel
    by_cases hlt : k < dl.length
    · obtain ⟨b, o, hA, hc⟩ := HD.out.later hBr
      obtain rfl := hA (by omega)
      obtain ⟨a0, a1⟩ := hc k hlt
      clear hA hc
      cases he : dl[k].1.toList == s.toList
      case true =>
        have HL := Lib.hid (show lookD dl s = some dl[k].2 by rw [lookD, find_take_some hlt hno.out he]; rfl)
        generalize dl[k] = q at *
        go_wp2_with fail
        rw [HL.out]
        go_ret2
        exact ⟨rfl, hBr.alloc hBr.size _⟩
      case false =>
        have hno' : Hid (∀ j (hj : j < dl.length), j < k + 1 → (dl[j].1.toList == s.toList) = false) := fun j hj hjk => by
          by_cases e : j = k
          · subst e; exact he
          · exact hno.out j hj (by omega)
        generalize dl[k] = q at *
        have hB2 : ∀ O, Below w.heap.size w (wr.alloc O) := fun O => hBr.alloc hBr.size O
        go_wp2_with fail
        go_roundw
        case rel => exact ⟨k + 1, by omega, by go_num, hno', hB2 _⟩
        case measure => simp [intOf]; omega
    · have HL := Lib.hid (show lookD dl s = none by rw [lookD, find_take_none (fun j hj => hno.out j hj (by omega))]; rfl)
      go_wp2_with fail
      rw [HL.out]
      go_ret2
      exact ⟨rfl, hBr⟩
end Go.Proofs.Ytpjokapkoeclpaa
