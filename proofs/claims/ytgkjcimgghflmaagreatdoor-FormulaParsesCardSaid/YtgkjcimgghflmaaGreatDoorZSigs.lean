/-
  Whether all names of a node stand for something, as package logic's way has it; conditions: the tree and the maps lie in memory.
-/
import Derived.Maps.OwnIn
import Derived.Maps.OwnSet
import Derived.WideMake
import Derived.Test.YtgkjcimgghflmaaGreatDoorZRefCheck
import Derived.Test.YtgkjcimgghflmaaGreatDoorZFresh
namespace Go.Proofs.YtgkjcimgghflmaaGreatDoor
set_option maxRecDepth 100000
set_option maxHeartbeats 8000000
open Go.RowKit Go.Shelf Go.WideMaps
attribute [local go_sem] Oper.semAt_some
def Dcls (w : World) (A : Option Addr) (dl : List (ByteArray × Int)) : Prop :=
 ∃ b o, (0 < dl.length → A = some ⟨b, o, none⟩) ∧ ∀ i (hi : i < dl.length), w.cell? ⟨b, o + i * 2, none⟩ = some (.string dl[i].1) ∧ w.cell? ⟨b, o + i * 2 + 1, none⟩ = some (.int .i64 dl[i].2)
theorem Dcls.later {w w' : World} {A : Option Addr} {dl : List (ByteArray × Int)} (h : Dcls w A dl) (hb : Below w.heap.size w w') : Dcls w' A dl := by
 obtain ⟨b, o, h1, h2⟩ := h
 exact ⟨b, o, h1, fun i hi => ⟨cellB hb (Nat.le_refl _) (h2 i hi).1, cellB hb (Nat.le_refl _) (h2 i hi).2⟩⟩
structure Sg where
 nm : ByteArray
 args : List Int
 so : Int
abbrev SgA := Sg × Option Addr × Nat
abbrev sgV (x : SgA) : Value := .agg #[.string x.1.nm, .slice x.2.1 x.1.args.length x.2.2, .int .i64 x.1.so]
def Sgs (w : World) (A : Option Addr) (sl : List SgA) : Prop :=
 ∃ b o, (0 < sl.length → A = some ⟨b, o, none⟩) ∧ ∀ i (hi : i < sl.length), w.cell? ⟨b, o + i * 3, none⟩ = some (.string sl[i].1.nm) ∧ w.cell? ⟨b, o + i * 3 + 1, none⟩ = some (.slice sl[i].2.1 sl[i].1.args.length sl[i].2.2) ∧ w.cell? ⟨b, o + i * 3 + 2, none⟩ = some (.int .i64 sl[i].1.so)
theorem Sgs.later {w w' : World} {A : Option Addr} {sl : List SgA} (h : Sgs w A sl) (hb : Below w.heap.size w w') : Sgs w' A sl := by
 obtain ⟨b, o, h1, h2⟩ := h
 exact ⟨b, o, h1, fun i hi => ⟨cellB hb (Nat.le_refl _) (h2 i hi).1, cellB hb (Nat.le_refl _) (h2 i hi).2.1, cellB hb (Nat.le_refl _) (h2 i hi).2.2⟩⟩
def ArgsIn (w : World) (sl : List SgA) : Prop := ∀ x ∈ sl, Ints w x.2.1 x.1.args ∧ x.1.args.length ≤ maxLen ∧ (Lit.int .i64 x.1.so).wf = true
theorem ArgsIn.later {w w' : World} {sl : List SgA} (h : ArgsIn w sl) (hb : Below w.heap.size w w') : ArgsIn w' sl :=
 fun x hx => ⟨(h x hx).1.later hb, (h x hx).2⟩
def lookD (dl : List (ByteArray × Int)) (s : ByteArray) : Option Int := (dl.find? fun d => d.1.toList == s.toList).map (·.2)
def lookS (sl : List SgA) (s : ByteArray) : Option SgA := sl.find? fun x => x.1.nm.toList == s.toList
def zeroSg : SgA := (⟨⟨#[]⟩, [], 0⟩, none, 0)
theorem find_take_some {α : Type} {l : List α} {p : α → Bool} {k : Nat} (hk : k < l.length) (h : ∀ j (hj : j < l.length), j < k → p l[j] = false) (hp : p l[k] = true) : l.find? p = some l[k] := by
 rw [List.find?_eq_some_iff_getElem]
 exact ⟨hp, k, hk, rfl, fun j hj => by rw [h j (by omega) hj]; rfl⟩
theorem find_take_none {α : Type} {l : List α} {p : α → Bool} (h : ∀ j (hj : j < l.length), p l[j] = false) : l.find? p = none := by
 rw [List.find?_eq_none]
 intro x hx
 obtain ⟨i, hi, rfl⟩ := List.getElem_of_mem hx
 rw [h i hi]; simp
def keyIs (s : ByteArray) (e : MapEntry) : Bool := match e.key with | .string k => k.toList == s.toList | _ => false
def lookE (es : List MapEntry) (s : ByteArray) : Option Value := (es.find? (keyIs s)).map (·.val)
def keysS (es : List MapEntry) : Prop := ∀ e ∈ es, ∃ s : ByteArray, e.key = .string s
theorem findNow_look (s : ByteArray) : ∀ (es : List MapEntry) (i : Nat), keysS es → ∃ r, Instr.findNow .string (.string s) es i = some r ∧ r.map (·.2) = lookE es s
 | [], i, _ => ⟨none, rfl, rfl⟩
 | e :: es, i, hk => by
  obtain ⟨k, hkk⟩ := hk e (by simp)
  rw [Instr.findNow, hkk]
  obtain ⟨q, hq, hiff⟩ := MapKept.sameNow_of_keys (d := .string) (a := .string s) (b := .string k) trivial trivial
  rw [hq]
  by_cases h : s = k
  ·subst h
   obtain rfl := hiff.2 rfl
   refine ⟨some (i, e.val), rfl, ?_⟩
   have hK : keyIs s e = true := by simp [keyIs, hkk]
   rw [lookE, List.find?_cons_of_pos hK]
   rfl
  ·obtain rfl : q = false := by
    cases q
    ·rfl
    ·have := hiff.1 rfl
     cases this
     exact absurd rfl h
   obtain ⟨r, h1, h2⟩ := findNow_look s es (i + 1) (fun e' he' => hk e' (by simp [he']))
   refine ⟨r, h1, ?_⟩
   have hK : ¬ keyIs s e = true := by
    have : k.toList ≠ s.toList := fun e => h (toList_inj e.symm)
    simp [keyIs, hkk, this]
   rw [h2, lookE, lookE, List.find?_cons_of_neg hK]
def NameMap (W : World) (m : Nat) (f : ByteArray → Option Value) : Prop :=
 ∃ (es : Array MapEntry) (clock : Nat), W.heap[m]? = some (.map es clock) ∧ keysS es.toList ∧ ∀ s, lookE es.toList s = f s
theorem NameMap.kept {W W' : World} {m : Nat} {f : ByteArray → Option Value} (h : NameMap W m f) (hb : W'.heap[m]? = W.heap[m]?) : NameMap W' m f := by
 obtain ⟨es, clock, h1, h2⟩ := h
 exact ⟨es, clock, hb.trans h1, h2⟩
theorem NameMap.lt {W : World} {m : Nat} {f : ByteArray → Option Value} (h : NameMap W m f) : m < W.heap.size := by
 obtain ⟨es, clock, h1, h2⟩ := h
 exact (Array.getElem?_eq_some_iff.1 h1).1
theorem NameMap.nil {W : World} {m : Nat} {clock : Nat} (h : W.heap[m]? = some (.map #[] clock)) : NameMap W m (fun _ => none) :=
 ⟨#[], clock, h, fun _ h => by simp at h, fun _ => rfl⟩
theorem NameMap.find {W : World} {m : Nat} {f : ByteArray → Option Value} (h : NameMap W m f) (s : ByteArray) :
  ∃ es clock r, W.heap[m]? = some (.map es clock) ∧ Instr.findNow .string (.string s) es.toList 0 = some r ∧ r.map (·.2) = f s ∧ keysS es.toList := by
 obtain ⟨es, clock, h1, h2, h3⟩ := h
 obtain ⟨r, h4, h5⟩ := findNow_look s es.toList 0 h2
 exact ⟨es, clock, r, h1, h4, h5.trans (h3 s), h2⟩
theorem NameMap.look54 {W : World} {m : Nat} {f : ByteArray → Option Value} (h : NameMap W m f) (s : ByteArray) :
  (Instr.lookup 71 (.map (some m)) (.string s) true).run Tryz.prog W = .ok (match f s with | some v => .tuple #[v, .bool true] | none => .tuple #[.int .i64 0, .bool false]) W := by
 obtain ⟨es, clock, r, hb, hf, hr, _⟩ := h.find s
 have hz : (zeroValue 3).run Tryz.prog W = .ok (.int .i64 0) W := Tryz.zeroValue3 W
 have hc : ∀ e, (Instr.checkKey e 10000 9 (.string s)).run Tryz.prog W = .ok () W := fun e => MapKept.run_checkKey (n := 9999) (k := .string s) Tryz.underlying9 trivial e
 have hff : (Instr.findKey 9 (.string s) es.toList).run Tryz.prog W = .ok r W := by
  unfold Instr.findKey
  simp [run_underlying Tryz.underlying9, hf, Result.andThen]
 rw [← hr]
 unfold Instr.lookup
 cases r with
 | none => simp [run_underlying Tryz.underlying71, MapKept.run_getObj_map hb, hc, hff, hz, Result.andThen]
 | some y => simp [run_underlying Tryz.underlying71, MapKept.run_getObj_map hb, hc, hff, Result.andThen]
theorem NameMap.look77 {W : World} {m : Nat} {f : ByteArray → Option Value} (h : NameMap W m f) (s : ByteArray) :
  (Instr.lookup 72 (.map (some m)) (.string s) true).run Tryz.prog W = .ok (match f s with | some v => .tuple #[v, .bool true] | none => .tuple #[sgV zeroSg, .bool false]) W := by
 obtain ⟨es, clock, r, hb, hf, hr, _⟩ := h.find s
 have hz : (zeroValue 80).run Tryz.prog W = .ok (sgV zeroSg) W := Tryz.zeroValue80 W
 have hc : ∀ e, (Instr.checkKey e 10000 9 (.string s)).run Tryz.prog W = .ok () W := fun e => MapKept.run_checkKey (n := 9999) (k := .string s) Tryz.underlying9 trivial e
 have hff : (Instr.findKey 9 (.string s) es.toList).run Tryz.prog W = .ok r W := by
  unfold Instr.findKey
  simp [run_underlying Tryz.underlying9, hf, Result.andThen]
 rw [← hr]
 unfold Instr.lookup
 cases r with
 | none => simp [run_underlying Tryz.underlying72, MapKept.run_getObj_map hb, hc, hff, hz, Result.andThen]
 | some y => simp [run_underlying Tryz.underlying72, MapKept.run_getObj_map hb, hc, hff, Result.andThen]
theorem NameMap.plain77 {W : World} {m : Nat} {f : ByteArray → Option Value} (h : NameMap W m f) (s : ByteArray) :
  (Instr.lookup 72 (.map (some m)) (.string s) false).run Tryz.prog W = .ok ((f s).getD (sgV zeroSg)) W := by
 obtain ⟨es, clock, r, hb, hf, hr, _⟩ := h.find s
 have hz : (zeroValue 80).run Tryz.prog W = .ok (sgV zeroSg) W := Tryz.zeroValue80 W
 have hc : ∀ e, (Instr.checkKey e 10000 9 (.string s)).run Tryz.prog W = .ok () W := fun e => MapKept.run_checkKey (n := 9999) (k := .string s) Tryz.underlying9 trivial e
 have hff : (Instr.findKey 9 (.string s) es.toList).run Tryz.prog W = .ok r W := by
  unfold Instr.findKey
  simp [run_underlying Tryz.underlying9, hf, Result.andThen]
 rw [← hr]
 unfold Instr.lookup
 cases r with
 | none => simp [run_underlying Tryz.underlying72, MapKept.run_getObj_map hb, hc, hff, hz, Result.andThen]
 | some y => simp [run_underlying Tryz.underlying72, MapKept.run_getObj_map hb, hc, hff, Result.andThen]
def putBlock (W : World) (m : Nat) (o : Obj) : World := { W with heap := W.heap.setIfInBounds m o }
theorem putBlock_same {W : World} {m : Nat} (o : Obj) (h : m < W.heap.size) : (putBlock W m o).heap[m]? = some o := by simp [putBlock, h]
theorem putBlock_other (W : World) (m : Nat) (o : Obj) {k : Nat} (h : k ≠ m) : (putBlock W m o).heap[k]? = W.heap[k]? := by
 simp only [putBlock, Array.getElem?_setIfInBounds]
 rw [if_neg (fun e => h e.symm)]
theorem putBlock_size (W : World) (m : Nat) (o : Obj) : (putBlock W m o).heap.size = W.heap.size := by simp [putBlock]
theorem Below.putBlock {B : Nat} {a W : World} (h : Below B a W) {m : Nat} (hm : B ≤ m) (o : Obj) : Below B a (putBlock W m o) :=
 h.trans ⟨rfl, rfl, rfl, Nat.le_of_eq (putBlock_size W m o).symm, fun k hk => putBlock_other W m o (by omega)⟩
theorem lookE_push (es : Array MapEntry) (e : MapEntry) (k s : ByteArray) (hk : e.key = .string k) : lookE (es.push e).toList s = (lookE es.toList s).or (if k.toList = s.toList then some e.val else none) := by
 unfold lookE
 rw [Array.toList_push, List.find?_append]
 cases hq : es.toList.find? (keyIs s) with
 | some p => simp
 | none =>
  by_cases he : k.toList = s.toList
  ·have hK : keyIs s e = true := by simp [keyIs, hk, he]
   rw [if_pos he, List.find?_cons_of_pos hK]
   rfl
  ·have hK : ¬ keyIs s e = true := by simp [keyIs, hk, he]
   rw [if_neg he, List.find?_cons_of_neg hK]
   rfl
theorem NameMap.enter54 {W : World} {m : Nat} {f : ByteArray → Option Value} (h : NameMap W m f) {s : ByteArray} (hs : f s = none) (v : Value) :
  ∃ o, (Instr.mapUpdate 71 (.map (some m)) (.string s) v).run Tryz.prog W = .ok () (putBlock W m o) ∧ NameMap (putBlock W m o) m (fun k => (f k).or (if s.toList = k.toList then some v else none)) := by
 have hlt := h.lt
 obtain ⟨es, clock, hb, hk, hl⟩ := h
 obtain ⟨r, hf, hr⟩ := findNow_look s es.toList 0 hk
 rw [hl, hs] at hr
 obtain rfl : r = none := by cases r <;> simp_all
 have hc : ∀ e, (Instr.checkKey e 10000 9 (.string s)).run Tryz.prog W = .ok () W := fun e => MapKept.run_checkKey (n := 9999) (k := .string s) Tryz.underlying9 trivial e
 have hff : (Instr.findKey 9 (.string s) es.toList).run Tryz.prog W = .ok none W := by
  unfold Instr.findKey
  simp [run_underlying Tryz.underlying9, hf, Result.andThen]
 refine ⟨.map (es.push { key := .string s, val := v, born := clock }) (clock + 1), ?_, _, _, putBlock_same _ hlt, ?_, fun k => ?_⟩
 ·unfold Instr.mapUpdate
  simp [run_underlying Tryz.underlying71, MapKept.run_getObj_map hb, hc, hff, MapKept.run_setObj_map _ hb, Result.andThen, putBlock]
 ·intro e he
  rw [Array.toList_push] at he
  rcases List.mem_append.1 he with he | he
  ·exact hk e he
  ·simp only [List.mem_singleton] at he; subst he; exact ⟨s, rfl⟩
 ·rw [lookE_push es _ s k rfl, hl]
theorem NameMap.enter77 {W : World} {m : Nat} {f : ByteArray → Option Value} (h : NameMap W m f) {s : ByteArray} (hs : f s = none) (v : Value) :
  ∃ o, (Instr.mapUpdate 72 (.map (some m)) (.string s) v).run Tryz.prog W = .ok () (putBlock W m o) ∧ NameMap (putBlock W m o) m (fun k => (f k).or (if s.toList = k.toList then some v else none)) := by
 have hlt := h.lt
 obtain ⟨es, clock, hb, hk, hl⟩ := h
 obtain ⟨r, hf, hr⟩ := findNow_look s es.toList 0 hk
 rw [hl, hs] at hr
 obtain rfl : r = none := by cases r <;> simp_all
 have hc : ∀ e, (Instr.checkKey e 10000 9 (.string s)).run Tryz.prog W = .ok () W := fun e => MapKept.run_checkKey (n := 9999) (k := .string s) Tryz.underlying9 trivial e
 have hff : (Instr.findKey 9 (.string s) es.toList).run Tryz.prog W = .ok none W := by
  unfold Instr.findKey
  simp [run_underlying Tryz.underlying9, hf, Result.andThen]
 refine ⟨.map (es.push { key := .string s, val := v, born := clock }) (clock + 1), ?_, _, _, putBlock_same _ hlt, ?_, fun k => ?_⟩
 ·unfold Instr.mapUpdate
  simp [run_underlying Tryz.underlying72, MapKept.run_getObj_map hb, hc, hff, MapKept.run_setObj_map _ hb, Result.andThen, putBlock]
 ·intro e he
  rw [Array.toList_push] at he
  rcases List.mem_append.1 he with he | he
  ·exact hk e he
  ·simp only [List.mem_singleton] at he; subst he; exact ⟨s, rfl⟩
 ·rw [lookE_push es _ s k rfl, hl]
theorem varOf_any (dl : List (ByteArray × Int)) (s : ByteArray) (A : Option Addr) (cap : Nat) (w : World) (hD : Dcls w A dl) (hn : dl.length ≤ maxLen) :
  Calls Tryz.prog 81 #[.string s, .slice A dl.length cap] w fun e w' => e = .returned (.tuple #[.int .i64 ((lookD dl s).getD 0), .bool (lookD dl s).isSome]) ∧ Below w.heap.size w w' := by
 unfold maxLen at hn
 have HD := Lib.hid hD
 clear hD
 go_enter Tryz.func81, Tryz.ntmps81
 go_wp2_with fail
 go_loopw [10] (fun i wr => ∃ k : Nat, k ≤ dl.length ∧ i = .int .i64 k ∧ Hid (∀ j (hj : j < dl.length), j < k → (dl[j].1.toList == s.toList) = false) ∧ Below w.heap.size w wr) (fun i _ => dl.length - (intOf i).toNat)
 case atStart => exact ⟨0, Nat.zero_le _, rfl, fun j _ hj => absurd hj (by omega), Below.refl _ _⟩
 case round =>
  obtain ⟨k, hk, rfl, hno, hBr⟩ := hrel
  by_cases hlt : k < dl.length
  ·obtain ⟨b, o, hA, hc⟩ := HD.out.later hBr
   obtain rfl := hA (by omega)
   obtain ⟨a0, a1⟩ := hc k hlt
   clear hA hc
   cases he : dl[k].1.toList == s.toList
   case true =>
    have HL := Lib.hid (show lookD dl s = some dl[k].2 by rw [lookD, find_take_some hlt hno.out he]; rfl)
    generalize dl[k] = q at *
    go_wp2_with fail
    rw [HL.out]
    go_ret2
    exact ⟨rfl, hBr.alloc hBr.size _⟩
   case false =>
    have hno' : Hid (∀ j (hj : j < dl.length), j < k + 1 → (dl[j].1.toList == s.toList) = false) := fun j hj hjk => by
     by_cases e : j = k
     ·subst e; exact he
     ·exact hno.out j hj (by omega)
    generalize dl[k] = q at *
    have hB2 : ∀ O, Below w.heap.size w (wr.alloc O) := fun O => hBr.alloc hBr.size O
    go_wp2_with fail
    go_roundw
    case rel => exact ⟨k + 1, by omega, by go_num, hno', hB2 _⟩
    case measure => simp [intOf]; omega
  ·have HL := Lib.hid (show lookD dl s = none by rw [lookD, find_take_none (fun j hj => hno.out j hj (by omega))]; rfl)
   go_wp2_with fail
   rw [HL.out]
   go_ret2
   exact ⟨rfl, hBr⟩
end Go.Proofs.YtgkjcimgghflmaaGreatDoor
namespace Go.Proofs.YtgkjcimgghflmaaGreatDoor
set_option maxRecDepth 100000
set_option maxHeartbeats 8000000
open Go.RowKit Go.Shelf
def sigSo (sl : List SgA) (s : ByteArray) : Int := ((lookS sl s).getD zeroSg).1.so
def sigArgs (sl : List SgA) (s : ByteArray) : List Int := ((lookS sl s).getD zeroSg).1.args
def constB (sl : List SgA) (s : ByteArray) : Bool := (lookS sl s).isSome && decide (sigArgs sl s = [])
def namedB (dl : List (ByteArray × Int)) (sl : List SgA) (t : Nd) : Bool :=
 if t.op = 1 then (lookD dl t.nm).isSome || constB sl t.nm else if t.op = 3 then (lookS sl t.nm).isSome else true
def allNamed (dl : List (ByteArray × Int)) (sl : List SgA) (t : Nd) : Bool := (nodesOf t).all (namedB dl sl)
def topR (b : Bool) (dl : List (ByteArray × Int)) (sl : List SgA) (t : Nd) (ks : List Nd) : Int × Int :=
 if t.op = 1 then (match lookD dl t.nm with | some x => (1, x) | none => if b = true ∨ ks.length = 0 then (3, sigSo sl t.nm) else (1, 0))
 else if t.op = 3 then (3, sigSo sl t.nm)
 else if t.op = 37 then (if takesB ks [2, 2] = true then 36 else 37, t.so)
 else (t.op, t.so)
def resG (b : Bool) (dl : List (ByteArray × Int)) (sl : List SgA) : Nd → Nd
 | .mk op so nm nu l => .mk (topR b dl sl (.mk op so nm nu l) (l.attach.map fun k => resG b dl sl k.1)).1 (topR b dl sl (.mk op so nm nu l) (l.attach.map fun k => resG b dl sl k.1)).2 nm nu (l.attach.map fun k => resG b dl sl k.1)
termination_by t => SizeOf.sizeOf t
decreasing_by
 all_goals
  have := List.sizeOf_lt_of_mem k.2
  simp only [Nd.mk.sizeOf_spec]
  omega
theorem resG_eq (b : Bool) (dl : List (ByteArray × Int)) (sl : List SgA) (t : Nd) :
  resG b dl sl t = .mk (topR b dl sl t (t.ks.map (resG b dl sl))).1 (topR b dl sl t (t.ks.map (resG b dl sl))).2 t.nm t.nu (t.ks.map (resG b dl sl)) := by
 cases t
 rw [resG]
 simp only [Nd.nm, Nd.nu, Nd.ks]
 rw [List.attach_map_val (f := resG b dl sl)]
theorem resG_ks (b : Bool) (dl : List (ByteArray × Int)) (sl : List SgA) (t : Nd) : (resG b dl sl t).ks = t.ks.map (resG b dl sl) := by rw [resG_eq]; rfl
theorem resG_nm (b : Bool) (dl : List (ByteArray × Int)) (sl : List SgA) (t : Nd) : (resG b dl sl t).nm = t.nm := by rw [resG_eq]; rfl
theorem resG_op (b : Bool) (dl : List (ByteArray × Int)) (sl : List SgA) (t : Nd) : (resG b dl sl t).op = (topR b dl sl t (t.ks.map (resG b dl sl))).1 := by rw [resG_eq]; rfl
theorem preN_res (b : Bool) (dl : List (ByteArray × Int)) (sl : List SgA) (t : Nd) : ∀ lv, preN lv (resG b dl sl t) = (preN lv t).map fun p => (p.1, resG b dl sl p.2) := by
 induction t using Nd.ind with
 | h t ih =>
 intro lv
 rw [preN_eq, preN_eq, List.map_cons, resG_ks]
 congr 1
 have key : ∀ (l : List Nd), (∀ k ∈ l, ∀ lv, preN lv (resG b dl sl k) = (preN lv k).map fun p => (p.1, resG b dl sl p.2)) → ∀ lv, preNs lv (l.map (resG b dl sl)) = (preNs lv l).map fun p => (p.1, resG b dl sl p.2) := by
  intro l
  induction l with
  | nil => intro _ lv; rfl
  | cons x xs ihx =>
   intro hl lv
   rw [List.map_cons, preNs, preNs, List.map_append, hl x (by simp), ihx (fun k hk => hl k (by simp [hk]))]
 exact key t.ks (fun k hk => by obtain ⟨i, hi, rfl⟩ := List.getElem_of_mem hk; exact ih i hi) _
theorem nodes_res (b : Bool) (dl : List (ByteArray × Int)) (sl : List SgA) (t : Nd) : nodesOf (resG b dl sl t) = (nodesOf t).map (resG b dl sl) := by
 unfold nodesOf
 rw [preN_res, List.map_map, List.map_map]
 rfl
theorem cnt_res (b : Bool) (dl : List (ByteArray × Int)) (sl : List SgA) (t : Nd) : cnt (resG b dl sl t) = cnt t := by
 unfold cnt
 rw [nodes_res, List.length_map]
theorem lim_res (b : Bool) (dl : List (ByteArray × Int)) (sl : List SgA) (t : Nd) : limB (preN 1 (resG b dl sl t)) = limB (preN 1 t) := by
 unfold limB
 rw [preN_res, List.length_map]
 congr 1
 apply propext
 constructor
 ·rintro ⟨h1, h2⟩
  exact ⟨h1, fun p hp => h2 (p.1, resG b dl sl p.2) (List.mem_map.2 ⟨p, hp, rfl⟩)⟩
 ·rintro ⟨h1, h2⟩
  refine ⟨h1, fun p hp => ?_⟩
  obtain ⟨q, hq, rfl⟩ := List.mem_map.1 hp
  exact h2 q hq
def argOk (w s : Int) : Bool := decide (w = s ∨ (w = 0 ∧ s ≠ 2))
def fitSigB (ks : List Nd) (args : List Int) : Bool := decide (ks.length = args.length ∧ ∀ i (h1 : i < args.length) (h2 : i < ks.length), argOk args[i] (sortN ks[i]) = true)
def fitOp (sl : List SgA) (t : Nd) : Bool := !(t.op == 3) || fitSigB t.ks (sigArgs sl t.nm)
def fitB (sl : List SgA) (t : Nd) : Bool := (nodesOf t).all (fitOp sl)
def misOp (sl : List SgA) (t : Nd) : Bool := (t.op == 1 && decide (t.ks.length ≠ 0)) || (t.op == 3 && decide ((sigArgs sl t.nm).length ≠ t.ks.length))
def misB (sl : List SgA) (t : Nd) : Bool := (nodesOf t).any (misOp sl)
theorem all_eq {p : Nd → Bool} (t : Nd) : (nodesOf t).all p = (p t && t.ks.all fun k => (nodesOf k).all p) := by
 rw [nodesOf_eq, List.all_cons, List.all_flatMap]
theorem any_eq {p : Nd → Bool} (t : Nd) : (nodesOf t).any p = (p t || t.ks.any fun k => (nodesOf k).any p) := by
 rw [nodesOf_eq, List.any_cons, List.any_flatMap]
theorem mem_self (t : Nd) : t ∈ nodesOf t := by rw [nodesOf_eq]; simp
theorem mem_kid {t k y : Nd} (hk : k ∈ t.ks) (hy : y ∈ nodesOf k) : y ∈ nodesOf t := by
 rw [nodesOf_eq]
 exact List.mem_cons_of_mem _ (List.mem_flatMap.2 ⟨k, hk, hy⟩)
theorem res_same {dl : List (ByteArray × Int)} {sl : List SgA} (t : Nd) (h : misB sl t = false) : resG false dl sl t = resG true dl sl t := by
 induction t using Nd.ind with
 | h t ih =>
 have hks : t.ks.map (resG false dl sl) = t.ks.map (resG true dl sl) := by
  apply List.map_congr_left
  intro k hk
  obtain ⟨i, hi, rfl⟩ := List.getElem_of_mem hk
  refine ih i hi ?_
  rw [misB, List.any_eq_false] at h ⊢
  exact fun y hy => h y (mem_kid hk hy)
 rw [resG_eq, resG_eq, hks]
 have hm : misOp sl t = false := by
  rw [misB, List.any_eq_false] at h
  simpa using h t (mem_self t)
 have : topR false dl sl t (t.ks.map (resG true dl sl)) = topR true dl sl t (t.ks.map (resG true dl sl)) := by
  unfold topR
  by_cases h1 : t.op = 1
  ·rw [if_pos h1, if_pos h1]
   have h0 : t.ks.length = 0 := by
    simp [misOp, h1] at hm
    simpa using hm
   cases lookD dl t.nm with
   | some x => rfl
   | none => simp [h0]
  ·rw [if_neg h1, if_neg h1]
 rw [this]
theorem ok_var {t : Nd} (h1 : t.op = 1) (h : t.ks.length ≠ 0) : okN t = false := by
 have : kidsB t.op t.ks = false := by
  rw [h1, kidsB_wants (l := []) t.ks (by decide) (by rfl)]
  exact takesB_len (by simpa using h)
 rw [okN, this, Bool.and_false]
theorem mis_refused {dl : List (ByteArray × Int)} {sl : List SgA} {t : Nd} (h : misB sl t = true) : allN (resG false dl sl t) = false ∨ fitB sl (resG false dl sl t) = false := by
 rw [misB, List.any_eq_true] at h
 obtain ⟨y, hy, hm⟩ := h
 have hmem : resG false dl sl y ∈ nodesOf (resG false dl sl t) := by rw [nodes_res]; exact List.mem_map.2 ⟨y, hy, rfl⟩
 simp only [misOp, Bool.or_eq_true, Bool.and_eq_true, beq_iff_eq, decide_eq_true_eq] at hm
 rcases hm with ⟨h1, h2⟩ | ⟨h3, h4⟩
 ·refine .inl ?_
  have hop : (resG false dl sl y).op = 1 := by
   rw [resG_op]
   unfold topR
   rw [if_pos h1]
   cases lookD dl y.nm with
   | some x => rfl
   | none =>
    have : ¬ ((false : Bool) = true ∨ (y.ks.map (resG false dl sl)).length = 0) := by simpa using h2
    simp only [if_neg this]
  have hb := ok_var hop (by rw [resG_ks, List.length_map]; exact h2)
  rw [allN, List.all_eq_false]
  exact ⟨_, hmem, by rw [hb]; simp⟩
 ·refine .inr ?_
  have hop : (resG false dl sl y).op = 3 := by
   rw [resG_op]
   unfold topR
   rw [if_neg (by omega), if_pos h3]
  have hb : fitOp sl (resG false dl sl y) = false := by
   rw [fitOp, hop]
   have : fitSigB (resG false dl sl y).ks (sigArgs sl (resG false dl sl y).nm) = false := by
    refine decide_eq_false fun hh => h4 ?_
    have h5 := hh.1
    rw [resG_ks, resG_nm, List.length_map] at h5
    exact h5.symm
   rw [this]; rfl
  rw [fitB, List.all_eq_false]
  exact ⟨_, hmem, by rw [hb]; simp⟩
theorem counted {dl : List (ByteArray × Int)} {sl : List SgA} {t : Nd} (hn : allNamed dl sl t = true) (hm : misB sl t = false) : ∀ y ∈ nodesOf (resG true dl sl t), y.op = 3 → y.ks.length = (sigArgs sl y.nm).length := by
 intro z hz h3
 rw [nodes_res] at hz
 obtain ⟨y, hy, rfl⟩ := List.mem_map.1 hz
 rw [resG_ks, resG_nm, List.length_map]
 rw [misB, List.any_eq_false] at hm
 have hm' : misOp sl y = false := by simpa using hm y hy
 rw [allNamed, List.all_eq_true] at hn
 have hn' := hn y hy
 simp only [misOp, Bool.or_eq_false_iff] at hm'
 rw [resG_op] at h3
 unfold topR at h3
 by_cases h1 : y.op = 1
 ·rw [if_pos h1] at h3
  have h0 : y.ks.length = 0 := by simpa [h1] using hm'.1
  unfold namedB at hn'
  rw [if_pos h1] at hn'
  cases hd : lookD dl y.nm with
  | some x => rw [hd] at h3; simp at h3
  | none =>
   rw [hd] at hn'
   simp only [Option.isSome_none, Bool.false_or, constB, Bool.and_eq_true, decide_eq_true_eq] at hn'
   rw [h0, hn'.2]; rfl
 ·rw [if_neg h1] at h3
  by_cases h3' : y.op = 3
  ·have := hm'.2; simp [h3'] at this; exact this.symm
  ·rw [if_neg h3'] at h3
   by_cases h37 : y.op = 37
   ·rw [if_pos h37] at h3
    simp only at h3
    split at h3 <;> cases h3
   ·rw [if_neg h37] at h3
    exact absurd h3 h3'
def zeroNd : Nd := .mk 0 0 ⟨#[]⟩ 0 []
open Classical in
noncomputable def resV (dl : List (ByteArray × Int)) (sl : List SgA) (t : Nd) : Nd × Int :=
 if limB (preN 1 t) = false then (zeroNd, 2)
 else if allNamed dl sl t = false then (zeroNd, 4)
 else if checkV (resG false dl sl t) 0 ≠ 0 ∨ fitB sl (resG false dl sl t) = false then (zeroNd, 3)
 else (resG false dl sl t, 0)
noncomputable def refResV (dl : List (ByteArray × Int)) (sl : List SgA) (t : Nd) : Nd × Int :=
 if 4000 < sizeW t ∨ 100 < levW t then (zeroNd, 2)
 else if allNamed dl sl t = false then (zeroNd, 4)
 else if misB sl t = true then (zeroNd, 3)
 else if allN (resG true dl sl t) = false ∨ refUniB (resG true dl sl t) = false ∨ fitB sl (resG true dl sl t) = false then (zeroNd, 3)
 else (resG true dl sl t, 0)
theorem check0 {r : Nd} (hl : limB (preN 1 r) = true) : checkV r 0 ≠ 0 ↔ allN r = false ∨ refUniB r = false := by
 unfold checkV
 rw [if_neg (by omega), if_neg (by rw [hl]; simp), allN_pre, uni_eq]
 show (if allN r = false ∨ uniB (nodesOf r) = false then (3 : Int) else if (0 : Int) ≠ 0 ∧ sortN r ≠ 0 then 10 else 0) ≠ 0 ↔ _
 by_cases h : allN r = false ∨ uniB (nodesOf r) = false
 ·rw [if_pos h]; simp [h]
 ·rw [if_neg h, if_neg (by simp)]; simp [h]
theorem res_eq {dl : List (ByteArray × Int)} {sl : List SgA} {t : Nd} (h : cnt t ≤ 1048576) : resV dl sl t = refResV dl sl t := by
 unfold resV refResV
 rw [lim_eq t h]
 by_cases hl : 4000 < sizeW t ∨ 100 < levW t
 ·rw [if_pos (decide_eq_false (fun e => e hl)), if_pos hl]
 rw [if_neg (by rw [decide_eq_true hl]; simp), if_neg hl]
 have hlim : limB (preN 1 t) = true := by rw [lim_eq t h]; exact decide_eq_true hl
 by_cases hn : allNamed dl sl t = false
 ·rw [if_pos hn, if_pos hn]
 rw [if_neg hn, if_neg hn]
 cases hm : misB sl t
 case true =>
  rw [if_pos rfl]
  rcases mis_refused (dl := dl) hm with hh | hh
  ·rw [if_pos (.inl ((check0 (by rw [lim_res]; exact hlim)).2 (.inl hh)))]
  ·rw [if_pos (.inr hh)]
 case false =>
  rw [if_neg Bool.false_ne_true, res_same t hm]
  by_cases hc : allN (resG true dl sl t) = false ∨ refUniB (resG true dl sl t) = false ∨ fitB sl (resG true dl sl t) = false
  ·rw [if_pos hc]
   refine if_pos ?_
   rcases hc with hc | hc | hc
   ·exact .inl ((check0 (by rw [lim_res]; exact hlim)).2 (.inl hc))
   ·exact .inl ((check0 (by rw [lim_res]; exact hlim)).2 (.inr hc))
   ·exact .inr hc
  ·rw [if_neg hc]
   refine if_neg ?_
   rintro (h1 | h1)
   ·rcases (check0 (by rw [lim_res]; exact hlim)).1 h1 with h2 | h2
    ·exact hc (.inl h2)
    ·exact hc (.inr (.inl h2))
   ·exact hc (.inr (.inr h1))
end Go.Proofs.YtgkjcimgghflmaaGreatDoor
namespace Go.Proofs.YtgkjcimgghflmaaGreatDoor
set_option maxRecDepth 100000
set_option maxHeartbeats 8000000
open Go.RowKit Go.Shelf Go.WideMaps
attribute [local go_sem] Oper.semAt_some
theorem row3_same {w : World} {b : Nat} {ty : TypeId} {d0 d1 d2 : Value} (c0 c1 c2 : Value) (h : w.heap[b]? = some (.cells #[d0, d1, d2] ty (0, 0))) :
  (((w.setCell ⟨b, 0, none⟩ c0).setCell ⟨b, 1, none⟩ c1).setCell ⟨b, 2, none⟩ c2).heap[b]? = some (.cells #[c0, c1, c2] ty (0, 0)) := by
 have h0 := heap_setCell_same w b 0 _ _ c0 h
 have h1 := heap_setCell_same _ b 1 _ _ c1 h0
 exact heap_setCell_same _ b 2 _ _ c2 h1
theorem sigOf_any (sl : List SgA) (s : ByteArray) (A : Option Addr) (cap : Nat) (w : World) (hD : Sgs w A sl) (hn : sl.length ≤ maxLen) :
  Calls Tryz.prog 82 #[.string s, .slice A sl.length cap] w fun e w' => e = .returned (.tuple #[sgV ((lookS sl s).getD zeroSg), .bool (lookS sl s).isSome]) ∧ Below w.heap.size w w' := by
 unfold maxLen at hn
 have HD := Lib.hid hD
 have B1 : Below w.heap.size w (w.alloc (.cells #[.string ⟨#[]⟩, .slice none 0 0, .int .i64 0] 80)) := (Below.refl _ _).alloc (Nat.le_refl _) _
 have R0 := Lib.hid (heap_alloc_new w (.cells #[.string ⟨#[]⟩, .slice none 0 0, .int .i64 0] 80))
 have B1 := Lib.hid B1
 clear hD
 go_enter Tryz.func82, Tryz.ntmps82
 go_wp2_with fail
 go_loopw [10] (fun i wr => ∃ k : Nat, k ≤ sl.length ∧ i = .int .i64 k ∧ Hid (∀ j (hj : j < sl.length), j < k → (sl[j].1.nm.toList == s.toList) = false) ∧ Hid (Below w.heap.size w wr) ∧ Hid (wr.heap[w.heap.size]? = some (.cells #[.string ⟨#[]⟩, .slice none 0 0, .int .i64 0] 80 (0, 0)))) (fun i _ => sl.length - (intOf i).toNat)
 case atStart => exact ⟨0, Nat.zero_le _, rfl, fun j _ hj => absurd hj (by omega), B1, R0⟩
 case round =>
  obtain ⟨k, hk, rfl, hno, hBr, hrow⟩ := hrel
  have hsz := hBr.out.size
  have hlt0 : w.heap.size < wr.heap.size := (Array.getElem?_eq_some_iff.1 hrow.out).1
  by_cases hlt : k < sl.length
  ·obtain ⟨b, o, hA, hc⟩ := HD.out.later hBr.out
   obtain rfl := hA (by omega)
   obtain ⟨a0, a1, a2⟩ := hc k hlt
   clear hA hc
   cases he : sl[k].1.nm.toList == s.toList
   case true =>
    have HL := Lib.hid (show lookS sl s = some sl[k] by rw [lookS, find_take_some hlt hno.out he])
    generalize sl[k] = q at *
    have hr := hrow.out
    have z0 := cell_row hr (i := 0) rfl
    have z1 := cell_row hr (i := 1) rfl
    have z2 := cell_row hr (i := 2) rfl
    have f0 := frozen_of_row wr w.heap.size 0 _ _ hr
    have f1 := frozen_of_row wr w.heap.size 1 _ _ hr
    have f2 := frozen_of_row wr w.heap.size 2 _ _ hr
    clear hr
    have hB1 := ((hBr.out.setCell (p := ⟨w.heap.size, 0, none⟩) (Nat.le_refl _) (.string q.1.nm)).setCell (p := ⟨w.heap.size, 1, none⟩) (Nat.le_refl _) (.slice q.2.1 q.1.args.length q.2.2)).setCell (p := ⟨w.heap.size, 2, none⟩) (Nat.le_refl _) (.int .i64 q.1.so)
    have hB2 := Lib.hid (hB1.alloc hB1.size (.cells #[.string q.1.nm, .slice q.2.1 q.1.args.length q.2.2, .int .i64 q.1.so] 80))
    have h3 := row3_same (.string q.1.nm) (.slice q.2.1 q.1.args.length q.2.2) (.int .i64 q.1.so) hrow.out
    have H3 := Lib.hid ((((Below.refl _ _).alloc (Nat.le_refl _) (.cells #[.string q.1.nm, .slice q.2.1 q.1.args.length q.2.2, .int .i64 q.1.so] 80)).block _ (Array.getElem?_eq_some_iff.1 h3).1).trans h3)
    clear hB1 h3
    go_wp2_with fail
    rw [HL.out]
    refine bodyPost_ret (v := .tuple #[sgV q, .bool true]) ?_ rfl ⟨rfl, hB2.out⟩
    have y0 := cell_row H3.out (i := 0) rfl
    have y1 := cell_row H3.out (i := 1) rfl
    have y2 := cell_row H3.out (i := 2) rfl
    clear z0 z1 z2
    simp [results, Tryz.f82, go_sem, y0, y1, y2]
   case false =>
    have hno' : Hid (∀ j (hj : j < sl.length), j < k + 1 → (sl[j].1.nm.toList == s.toList) = false) := fun j hj hjk => by
     by_cases e : j = k
     ·subst e; exact he
     ·exact hno.out j hj (by omega)
    generalize sl[k] = q at *
    have hB2 := Lib.hid (fun O => hBr.out.alloc hsz O)
    have hR2 := Lib.hid (fun O => (((Below.refl wr.heap.size wr).alloc (Nat.le_refl _) O).block w.heap.size hlt0).trans hrow.out)
    go_wp2_with fail
    go_roundw
    case rel => exact ⟨k + 1, by omega, by go_num, hno', hB2.out _, hR2.out _⟩
    case measure => simp [intOf]; omega
  ·have HL := Lib.hid (show lookS sl s = none by rw [lookS, find_take_none (fun j hj => hno.out j hj (by omega))])
   have hr := hrow.out
   have z0 := cell_row hr (i := 0) rfl
   have z1 := cell_row hr (i := 1) rfl
   have z2 := cell_row hr (i := 2) rfl
   have f0 := frozen_of_row wr w.heap.size 0 _ _ hr
   have f1 := frozen_of_row wr w.heap.size 1 _ _ hr
   have f2 := frozen_of_row wr w.heap.size 2 _ _ hr
   have H3 := Lib.hid (row3_same (.string ⟨#[]⟩) (.slice none 0 0) (.int .i64 0) hr)
   clear hr
   have hB2 := Lib.hid (((hBr.out.setCell (p := ⟨w.heap.size, 0, none⟩) (Nat.le_refl _) (.string ⟨#[]⟩)).setCell (p := ⟨w.heap.size, 1, none⟩) (Nat.le_refl _) (.slice none 0 0)).setCell (p := ⟨w.heap.size, 2, none⟩) (Nat.le_refl _) (.int .i64 0))
   go_wp2_with fail
   rw [HL.out]
   refine bodyPost_ret (v := .tuple #[sgV zeroSg, .bool false]) ?_ rfl ⟨rfl, hB2.out⟩
   have y0 := cell_row H3.out (i := 0) rfl
   have y1 := cell_row H3.out (i := 1) rfl
   have y2 := cell_row H3.out (i := 2) rfl
   clear z0 z1 z2
   simp [results, Tryz.f82, go_sem, y0, y1, y2, zeroSg]
def stepF (f : ByteArray → Option Value) (s : ByteArray) (v : Value) : ByteArray → Option Value := fun k => (f k).or (if s.toList = k.toList then some v else none)
theorem stepF_same {f : ByteArray → Option Value} {s : ByteArray} {x : Value} (h : f s = some x) (v : Value) : stepF f s v = f := by
 funext k
 unfold stepF
 by_cases e : s.toList = k.toList
 ·obtain rfl := toList_inj e
  rw [h]; rfl
 ·rw [if_neg e]; simp
def KeepM (m : Nat) (f : ByteArray → Option Value) (W : World) (e : Ending) (w' : World) : Prop :=
 e = .returned (.tuple #[]) ∧ NameMap w' m f ∧ Below m W w' ∧ W.heap.size ≤ w'.heap.size ∧ ∀ k, k < W.heap.size → k ≠ m → w'.heap[k]? = W.heap[k]?
theorem keepI_any (m : Nat) (f : ByteArray → Option Value) (s : ByteArray) (x : Int) (W : World) (hm : NameMap W m f) :
  Calls Tryz.prog 42 #[.map (some m), .string s, .int .i64 x] W (KeepM m (stepF f s (.int .i64 x)) W) := by
 have hlk := hm.look54 s
 cases hf : f s with
 | none =>
  rw [hf] at hlk
  obtain ⟨o, he, hn⟩ := hm.enter54 hf (.int .i64 x)
  have HN := Lib.hid (show KeepM m (stepF f s (.int .i64 x)) W (.returned (.tuple #[])) (putBlock W m o) from ⟨rfl, hn, Below.putBlock (Below.refl _ _) (Nat.le_refl _) o, Nat.le_of_eq (putBlock_size W m o).symm, fun k _ hk => putBlock_other W m o hk⟩)
  clear hn hf hm
  go_enter Tryz.func42, Tryz.ntmps42
  go_wp2_with fail
  go_end0
  exact HN.out
 | some y =>
  rw [hf] at hlk
  have HN := Lib.hid (show KeepM m (stepF f s (.int .i64 x)) W (.returned (.tuple #[])) W from ⟨rfl, by rw [stepF_same hf]; exact hm, Below.refl _ _, Nat.le_refl _, fun k _ hk => rfl⟩)
  clear hf hm
  go_enter Tryz.func42, Tryz.ntmps42
  go_wp2_with fail
  go_end0
  exact HN.out
theorem keepS_any (m : Nat) (f : ByteArray → Option Value) (hfs : ∀ s v, f s = some v → ∃ y : SgA, v = sgV y) (s : ByteArray) (x : SgA) (W : World) (hm : NameMap W m f) :
  Calls Tryz.prog 43 #[.map (some m), .string s, sgV x] W (KeepM m (stepF f s (sgV x)) W) := by
 have hlt := hm.lt
 have hk1 : ∀ O, NameMap (W.alloc O) m f := fun O => hm.kept (((Below.refl W.heap.size W).alloc (Nat.le_refl _) O).block m hlt)
 have hk2 : ∀ O O', NameMap ((W.alloc O).alloc O') m f := fun O O' => hm.kept ((((Below.refl W.heap.size W).alloc (Nat.le_refl _) O).alloc (by simp) O').block m hlt)
 have hkb : ∀ O O' k, k < W.heap.size → ((W.alloc O).alloc O').heap[k]? = W.heap[k]? := fun O O' k hk => (((Below.refl W.heap.size W).alloc (Nat.le_refl _) O).alloc (by simp) O').block k hk
 have hbb : ∀ O O', Below m W ((W.alloc O).alloc O') := fun O O' => (((Below.refl W.heap.size W).alloc (Nat.le_refl _) O).alloc (by simp) O').mono (Nat.le_of_lt hlt)
 have hlk := (hk1 (.cells #[.string x.1.nm, .slice x.2.1 x.1.args.length x.2.2, .int .i64 x.1.so] 80)).look77 s
 cases hf : f s with
 | none =>
  rw [hf] at hlk
  obtain ⟨o, he, hn⟩ := (hk2 (.cells #[.string x.1.nm, .slice x.2.1 x.1.args.length x.2.2, .int .i64 x.1.so] 80) (.cells #[.string ⟨#[]⟩, .slice none 0 0, .int .i64 0] 80)).enter77 hf (sgV x)
  have HN := Lib.hid (show KeepM m (stepF f s (sgV x)) W (.returned (.tuple #[])) (putBlock _ m o) from ⟨rfl, hn, Below.putBlock (hbb _ _) (Nat.le_refl _) o, by rw [putBlock_size]; simp; omega, fun k hk hkm => (putBlock_other _ m o hkm).trans (hkb _ _ k hk)⟩)
  replace he : (Instr.mapUpdate 72 (.map (some m)) (.string s) (.agg #[.string x.1.nm, .slice x.2.1 x.1.args.length x.2.2, .int .i64 x.1.so])).run Tryz.prog _ = _ := he
  replace hlk : (Instr.lookup 72 (.map (some m)) (.string s) true).run Tryz.prog _ = .ok (.tuple #[.agg #[.string ⟨#[]⟩, .slice none 0 0, .int .i64 0], .bool false]) _ := hlk
  clear hn hf hm hk1 hk2 hkb hbb hfs
  go_enter Tryz.func43, Tryz.ntmps43
  go_wp2_with fail
  go_end0
  exact HN.out
 | some v =>
  obtain ⟨y, rfl⟩ := hfs s v hf
  rw [hf] at hlk
  have HN := Lib.hid (show ∀ O O', KeepM m (stepF f s (sgV x)) W (.returned (.tuple #[])) ((W.alloc O).alloc O') from fun O O' => ⟨rfl, by rw [stepF_same hf]; exact hk2 O O', hbb _ _, by simp; omega, fun k hk hkm => hkb _ _ k hk⟩)
  replace hlk : (Instr.lookup 72 (.map (some m)) (.string s) true).run Tryz.prog _ = .ok (.tuple #[.agg #[.string y.1.nm, .slice y.2.1 y.1.args.length y.2.2, .int .i64 y.1.so], .bool true]) _ := hlk
  clear hf hm hk1 hk2 hkb hbb hfs
  go_enter Tryz.func43, Tryz.ntmps43
  go_wp2_with fail
  go_end0
  exact HN.out _ _
def fD (dl : List (ByteArray × Int)) (s : ByteArray) : Option Value := (lookD dl s).map (Value.int .i64)
def fS (sl : List SgA) (s : ByteArray) : Option Value := (lookS sl s).map sgV
theorem fS_form {sl : List SgA} (s : ByteArray) (v : Value) (h : fS sl s = some v) : ∃ y : SgA, v = sgV y := by
 unfold fS at h
 obtain ⟨y, _, rfl⟩ := Option.map_eq_some_iff.1 h
 exact ⟨y, rfl⟩
theorem fD_step (dl : List (ByteArray × Int)) {k : Nat} (hk : k < dl.length) : stepF (fD (dl.take k)) dl[k].1 (.int .i64 dl[k].2) = fD (dl.take (k + 1)) := by
 funext s
 unfold stepF fD lookD
 rw [List.take_succ_eq_append_getElem hk, List.find?_append]
 cases hq : (dl.take k).find? (fun d => d.1.toList == s.toList) with
 | some p => simp
 | none =>
  by_cases he : dl[k].1.toList = s.toList
  ·rw [if_pos he, List.find?_cons_of_pos (by simpa using he)]; rfl
  ·rw [if_neg he, List.find?_cons_of_neg (by simpa using he)]; rfl
theorem fS_step (sl : List SgA) {k : Nat} (hk : k < sl.length) : stepF (fS (sl.take k)) sl[k].1.nm (sgV sl[k]) = fS (sl.take (k + 1)) := by
 funext s
 unfold stepF fS lookS
 rw [List.take_succ_eq_append_getElem hk, List.find?_append]
 cases hq : (sl.take k).find? (fun x => x.1.nm.toList == s.toList) with
 | some p => simp
 | none =>
  by_cases he : sl[k].1.nm.toList = s.toList
  ·rw [if_pos he, List.find?_cons_of_pos (by simpa using he)]; rfl
  ·rw [if_neg he, List.find?_cons_of_neg (by simpa using he)]; rfl
theorem constantM_any (m1 m2 : Nat) (sl : List SgA) (s : ByteArray) (W : World) (hm : NameMap W m2 (fS sl)) :
  Calls Tryz.prog 115 #[.agg #[.map (some m1), .map (some m2)], .string s] W fun e w' => e = .returned (.bool (constB sl s)) ∧ Below W.heap.size W w' := by
 have hlt := hm.lt
 have hk1 : ∀ O, NameMap (W.alloc O) m2 (fS sl) := fun O => hm.kept (((Below.refl W.heap.size W).alloc (Nat.le_refl _) O).block m2 hlt)
 have HB := Lib.hid (show ∀ O O', Below W.heap.size W ((W.alloc O).alloc O') from fun O O' => ((Below.refl W.heap.size W).alloc (Nat.le_refl _) O).alloc (by simp) O')
 have hlk := fun O => (hk1 O).look77 s
 unfold constB sigArgs
 unfold fS at hlk
 cases hf : lookS sl s with
 | none =>
  rw [hf] at hlk
  replace hlk : ∀ O, (Instr.lookup 72 (.map (some m2)) (.string s) true).run Tryz.prog (W.alloc O) = .ok (.tuple #[.agg #[.string ⟨#[]⟩, .slice none 0 0, .int .i64 0], .bool false]) (W.alloc O) := hlk
  clear hf hm hk1
  go_enter Tryz.func115, Tryz.ntmps115
  go_wp2_with fail
  go_ret
  exact ⟨rfl, HB.out _ _⟩
 | some y =>
  rw [hf] at hlk
  replace hlk : ∀ O, (Instr.lookup 72 (.map (some m2)) (.string s) true).run Tryz.prog (W.alloc O) = .ok (.tuple #[.agg #[.string y.1.nm, .slice y.2.1 y.1.args.length y.2.2, .int .i64 y.1.so], .bool true]) (W.alloc O) := hlk
  clear hf hm hk1
  show Calls _ _ _ _ fun e w' => e = .returned (.bool (decide (y.1.args = []))) ∧ _
  by_cases ha : y.1.args = []
  ·rw [decide_eq_true ha]
   have hz : ((y.1.args.length : Int) == 0) = true := by rw [ha]; rfl
   clear ha
   go_enter Tryz.func115, Tryz.ntmps115
   go_wp2_with fail
   go_ret
   exact ⟨rfl, HB.out _ _⟩
  ·rw [decide_eq_false ha]
   have hz : ((y.1.args.length : Int) == 0) = false := by
    rw [beq_eq_false_iff_ne]
    intro e
    exact ha (List.eq_nil_of_length_eq_zero (by omega))
   clear ha
   go_enter Tryz.func115, Tryz.ntmps115
   go_wp2_with fail
   go_ret
   exact ⟨rfl, HB.out _ _⟩
end Go.Proofs.YtgkjcimgghflmaaGreatDoor
namespace Go.Proofs.YtgkjcimgghflmaaGreatDoor
set_option maxRecDepth 100000
set_option maxHeartbeats 8000000
open Go.RowKit Go.Shelf Go.WideMaps
attribute [local go_sem] Oper.semAt_some
theorem named_any (m1 m2 : Nat) (dl : List (ByteArray × Int)) (sl : List SgA) (t : Nd) (s : Value) (W : World) (hm1 : NameMap W m1 (fD dl)) (hm2 : NameMap W m2 (fS sl)) :
  Calls Tryz.prog 77 #[.agg #[.map (some m1), .map (some m2)], nv t.op t.so t.nm t.nu s] W fun e w' => e = .returned (.bool (namedB dl sl t)) ∧ Below W.heap.size W w' := by
 have hlt1 := hm1.lt
 have hlt2 := hm2.lt
 have HB := Lib.hid (show ∀ O O', Below W.heap.size W ((W.alloc O).alloc O') from fun O O' => ((Below.refl W.heap.size W).alloc (Nat.le_refl _) O).alloc (by simp) O')
 have HB3 := Lib.hid (show ∀ O O' O'', Below W.heap.size W (((W.alloc O).alloc O').alloc O'') from fun O O' O'' => (HB.out O O').alloc (by simp; omega) O'')
 have hl1 := Lib.hid (fun O O' => (hm1.kept ((HB.out O O').block m1 hlt1)).look54 t.nm)
 have hl2 := Lib.hid (fun O O' => (hm2.kept ((HB.out O O').block m2 hlt2)).look77 t.nm)
 have HC := Lib.hid (fun O O' => constantM_any m1 m2 sl t.nm _ (hm2.kept ((HB.out O O').block m2 hlt2)))
 clear hm1 hm2
 by_cases h1 : t.op = 1
 ·have h1' : (t.op == 1) = true := by simpa using h1
  unfold namedB
  rw [if_pos h1]
  clear h1
  unfold fD at hl1
  cases hf : lookD dl t.nm with
  | some y =>
   rw [hf] at hl1
   have hlk : ∀ O O', (Instr.lookup 71 (.map (some m1)) (.string t.nm) true).run Tryz.prog ((W.alloc O).alloc O') = .ok (.tuple #[.int .i64 y, .bool true]) ((W.alloc O).alloc O') := hl1.out
   clear hf hl1 hl2
   go_enter Tryz.func77, Tryz.ntmps77
   go_wp2_with fail
   go_ret
   exact ⟨rfl, HB.out _ _⟩
  | none =>
   rw [hf] at hl1
   have hlk : ∀ O O', (Instr.lookup 71 (.map (some m1)) (.string t.nm) true).run Tryz.prog ((W.alloc O).alloc O') = .ok (.tuple #[.int .i64 0, .bool false]) ((W.alloc O).alloc O') := hl1.out
   clear hf hl1 hl2
   go_enter Tryz.func77, Tryz.ntmps77
   go_wp2_with (go_at_call 115; refine (HC.out _ _).mono ?_; rintro e w1 ⟨rfl, hb1⟩; have HB1 := Lib.hid ((HB.out _ _).trans (hb1.mono (HB.out _ _).size)); clear hb1)
   go_ret
   exact ⟨rfl, HB1.out⟩
 ·have h1' : (t.op == 1) = false := by simpa using h1
  unfold namedB
  rw [if_neg h1]
  clear h1
  by_cases h3 : t.op = 3
  ·have h3' : (t.op == 3) = true := by simpa using h3
   rw [if_pos h3]
   clear h3
   unfold fS at hl2
   cases hf : lookS sl t.nm with
   | some y =>
    rw [hf] at hl2
    have hlk : ∀ O O', (Instr.lookup 72 (.map (some m2)) (.string t.nm) true).run Tryz.prog ((W.alloc O).alloc O') = .ok (.tuple #[.agg #[.string y.1.nm, .slice y.2.1 y.1.args.length y.2.2, .int .i64 y.1.so], .bool true]) ((W.alloc O).alloc O') := hl2.out
    clear hf hl1 hl2
    go_enter Tryz.func77, Tryz.ntmps77
    go_wp2_with fail
    go_ret
    exact ⟨rfl, HB3.out _ _ _⟩
   | none =>
    rw [hf] at hl2
    have hlk : ∀ O O', (Instr.lookup 72 (.map (some m2)) (.string t.nm) true).run Tryz.prog ((W.alloc O).alloc O') = .ok (.tuple #[.agg #[.string ⟨#[]⟩, .slice none 0 0, .int .i64 0], .bool false]) ((W.alloc O).alloc O') := hl2.out
    clear hf hl1 hl2
    go_enter Tryz.func77, Tryz.ntmps77
    go_wp2_with fail
    go_ret
    exact ⟨rfl, HB3.out _ _ _⟩
  ·have h3' : (t.op == 3) = false := by simpa using h3
   rw [if_neg h3]
   clear h3 hl1 hl2
   go_enter Tryz.func77, Tryz.ntmps77
   go_wp2_with fail
   go_ret
   exact ⟨rfl, HB.out _ _⟩
def AllPN (p : Nd → Bool) {w0 : World} (pre : List (El w0)) : Prop := ∀ x ∈ pre, p x.t = true
theorem allP_snoc {p : Nd → Bool} {w0 : World} {pre : List (El w0)} {x : El w0} (h : AllPN p pre) (h2 : p x.t = true) : AllPN p (pre ++ [x]) :=
 fun y hy => (List.mem_append.1 hy).elim (h y) (fun e => by simp at e; subst e; exact h2)
theorem allP_not {p : Nd → Bool} {w0 : World} {pre : List (El w0)} {x : El w0} (h : p x.t = false) : Hid (¬ AllPN p (pre ++ [x])) := fun hh => by
 have := hh x (by simp)
 rw [h] at this
 cases this
theorem allP_nodes {p : Nd → Bool} {w0 : World} {xs : List (El w0)} {t : Nd} (hxs : xs.map El.key = preN 1 t) : (nodesOf t).all p = (xs.map El.key).all fun q => p q.2 := by
 rw [nodesOf, ← hxs, List.all_map]
 rfl
theorem allNamed_any (m1 m2 : Nat) (dl : List (ByteArray × Int)) (sl : List SgA) (t : Nd) (A : Option Addr) (cap : Nat) (w : World) (hL : Lies w A cap t.ks) (hfine : Fine t) (hm1 : NameMap w m1 (fD dl)) (hm2 : NameMap w m2 (fS sl)) :
  Calls Tryz.prog 44 #[.agg #[.map (some m1), .map (some m2)], nv t.op t.so t.nm t.nu (.slice A t.ks.length cap)] w fun e w' => e = .returned (.bool (allNamed dl sl t)) ∧ Below w.heap.size w w' := by
 obtain ⟨xs, hxs, hst⟩ := walk_stops t A cap w hL hfine
 rw [allNamed, allP_nodes hxs]
 clear hxs
 have hlt1 := hm1.lt
 have hlt2 := hm2.lt
 have HN := Lib.hid (fun W (hb : Below w.heap.size w W) y s => named_any m1 m2 dl sl y s W (hm1.kept (hb.block m1 hlt1)) (hm2.kept (hb.block m2 hlt2)))
 clear hm1 hm2
 refine callsIn_wide (n := 9).1 ?_
 refine callsIn_of_wp_marks Tryz.func44 rfl trivial ?_ rfl
 simp only [Tryz.ntmps44, List.size_toArray, List.length_cons, List.length_nil, Nat.reduceAdd, Nat.reduceSub, Array.replicate_succ, Array.replicate_zero, List.push_toArray, List.append_toArray, List.nil_append, List.cons_append]
 have H := Lib.hid hst
 have HL := Lib.hid hL
 clear hst hL
 gi_wp2_with (refine ⟨trivial, ?_⟩; gi_at_call 76; refine (walkClo_any _ _ _ _ _ _ _).mono ?_; rintro e w' ⟨rfl, rfl⟩)
 have hB0 : Below w.heap.size w ((((w.alloc (.cells #[.map (some m1), .map (some m2)] 74)).alloc (.cells #[.int .i64 t.op, .int .i64 t.so, .string t.nm, .int .i64 t.nu, .slice A t.ks.length cap] 27)).alloc (.cells #[.bool false] 4)).alloc (.cells #[.int .i64 t.op, .int .i64 t.so, .string t.nm, .int .i64 t.nu, .slice A t.ks.length cap] 27)) :=
  ((((Below.refl _ w).alloc (Nat.le_refl _) _).alloc (by simp) _).alloc (by simp; omega) _).alloc (by simp; omega) _
 have r0 := cell_new_l ((w.alloc (.cells #[.map (some m1), .map (some m2)] 74)).alloc (.cells #[.int .i64 t.op, .int .i64 t.so, .string t.nm, .int .i64 t.nu, .slice A t.ks.length cap] 27)) (.bool false) 4
 have c1 := five_new (((w.alloc (.cells #[.map (some m1), .map (some m2)] 74)).alloc (.cells #[.int .i64 t.op, .int .i64 t.so, .string t.nm, .int .i64 t.nu, .slice A t.ks.length cap] 27)).alloc (.cells #[.bool false] 4)) t (.slice A t.ks.length cap) 27
 have p0 : ((((w.alloc (.cells #[.map (some m1), .map (some m2)] 74)).alloc (.cells #[.int .i64 t.op, .int .i64 t.so, .string t.nm, .int .i64 t.nu, .slice A t.ks.length cap] 27)).alloc (.cells #[.bool false] 4)).alloc (.cells #[.int .i64 t.op, .int .i64 t.so, .string t.nm, .int .i64 t.nu, .slice A t.ks.length cap] 27)).cell? ⟨w.heap.size, 0, none⟩ = some (.map (some m1)) := by simp [go_sem]
 have p1 : ((((w.alloc (.cells #[.map (some m1), .map (some m2)] 74)).alloc (.cells #[.int .i64 t.op, .int .i64 t.so, .string t.nm, .int .i64 t.nu, .slice A t.ks.length cap] 27)).alloc (.cells #[.bool false] 4)).alloc (.cells #[.int .i64 t.op, .int .i64 t.so, .string t.nm, .int .i64 t.nu, .slice A t.ks.length cap] 27)).cell? ⟨w.heap.size, 1, none⟩ = some (.map (some m2)) := by simp [go_sem]
 simp only [World.size_alloc] at c1 r0
 refine wpIn_rangeFunc_ownH rfl (by decide) (gf := 113) (lb := #[.pointer (some ⟨w.heap.size + 1 + 1 + 1, 0, none⟩)]) rfl trivial (enters_of Tryz.func113 (by kernel_rfl) rfl)
  (H.out _ _ _ hB0 c1) KpC.trans (kpC_b (by simp; omega)) (Below.refl _ _) (fun _ => rfl)
  (fun pre W => (AllPN (namedB dl sl) pre ∧ W.cell? ⟨w.heap.size + 1 + 1, 0, none⟩ = some (.bool false) ∧ W.frozen? ⟨w.heap.size + 1 + 1, 0, none⟩ = false ∧ W.cell? ⟨w.heap.size, 0, none⟩ = some (.map (some m1)) ∧ W.cell? ⟨w.heap.size, 1, none⟩ = some (.map (some m2))) ∧ Below w.heap.size w W)
  (fun c pre W => (c = .ret ∧ Hid (¬ AllPN (namedB dl sl) pre) ∧ W.cell? ⟨w.heap.size + 1 + 1, 0, none⟩ = some (.bool false)) ∧ Below w.heap.size w W)
  (OwnFrom.and (Own.from (fun s A B row hs hg hr => ⟨hs.1, cell_kept hs.2.1 hg hr, (frozen_kept hs.2.1 hg hr).trans hs.2.2.1, cell_kept hs.2.2.2.1 hg hr, cell_kept hs.2.2.2.2 hg hr⟩) _) (ownFrom_below (Nat.le_refl _) (by simp; omega)))
  (fun c => OwnFrom.and (Own.from (fun s A B row hs hg hr => ⟨hs.1, hs.2.1, cell_kept hs.2.2 hg hr⟩) _) (ownFrom_below (Nat.le_refl _) (by simp; omega)))
  ⟨⟨fun _ h => by simp at h, cell_alloc_l _ r0.1, frozen_alloc_l _ r0.1 r0.2, p0, p1⟩, hB0⟩
  (fun x a' W => BoxAt (fun Bx => { tmps := #[.agg #[.map (some m1), .map (some m2)], nv t.op t.so t.nm t.nu (.slice A t.ks.length cap), .pointer (some ⟨w.heap.size, 0, none⟩), .pointer (some ⟨w.heap.size + 1, 0, none⟩), .pointer (some ⟨w.heap.size + 1 + 1, 0, none⟩), undef, .pointer (some ⟨Bx, 0, none⟩), nv t.op t.so t.nm t.nu (.slice A t.ks.length cap), .func (.func 113) #[] #[.pointer (some ⟨w.heap.size + 1 + 1 + 1, 0, none⟩)], .int .i64 x.lv, nv x.t.op x.t.so x.t.nm x.t.nu (.slice x.A x.t.ks.length x.cap), undef, undef, undef, undef], defers := [] }) x a' W)
  (fun x a' => boxAt_own _ _ x a') ?assign ?body ?done ?stop
 case assign =>
  rintro l pre x W K ⟨⟨hp, hr, hrf, q0, q1⟩, hB⟩ hK
  have hp := Lib.hid hp
  have HK := Lib.hid hK
  have hsz := hB.size
  clear H HL hB0 r0 c1 hK p0 p1
  simp only [encE]
  gi_wp2
  refine HK.out _ _ (KeepsFrom.alloc _ _ _) ((KpC.refl _ _ W).alloc hB.size _) ⟨⟨hp.out, cell_alloc_l _ hr, frozen_alloc_l _ hr hrf, cell_alloc_l _ q0, cell_alloc_l _ q1⟩, hB.alloc hB.size _⟩ ⟨W.heap.size, five_new _ _ _ _, rfl⟩
 case body =>
  rintro l pre x a' W hl hrec ⟨⟨hp, hr, hrf, q0, q1⟩, hB⟩ ⟨Bx, hx5, rfl⟩ _
  have hp := Lib.hid hp
  obtain ⟨a0, a1, a2, a3, a4⟩ := hx5
  clear H HL hB0 r0 c1 hrec p0 p1
  have hN := Lib.hid (HN.out W hB x.t (.slice x.A x.t.ks.length x.cap))
  cases hf : namedB dl sl x.t
  case false =>
   have hno := Lib.hid hf
   clear hf
   gi_wp2_with fail
   refine ⟨trivial, ?_⟩
   refine (CallsIn.inRound l (callsIn_wide.2 hN.out)).mono ?_
   rintro e w1 ⟨rfl, hb1⟩
   rw [hno.out]
   have hr1 := cellB hb1 (Nat.le_refl _) hr
   have hrf1 := (hb1.frozen (p := ⟨w.heap.size + 1 + 1, 0, none⟩) (World.block_lt_of_cell? _ _ hr)).trans hrf
   have hB1 : Below w.heap.size w w1 := hB.trans (hb1.mono hB.size)
   have hk1 : KeepsFrom (w.heap.size + 1 + 1 + 1 + 1) W w1 := KeepsFrom.of_below hb1
   clear hb1 hr hrf a0 a1 a2 a3 a4 q0 q1
   gi_wp2_with fail
   have e3 := World.cell?_setCell_same' w1 ⟨w.heap.size + 1 + 1, 0, none⟩ (.bool false) (by rw [hr1]; rfl)
   exact ⟨by simpa using hk1.trans (KeepsFrom.setCell _ _ _ _), ⟨rfl, allP_not hno.out, e3⟩, hB1.setCell (p := ⟨w.heap.size + 1 + 1, 0, none⟩) (by simp; omega) _⟩
  case true =>
   have hyes := Lib.hid hf
   clear hf
   gi_wp2_with fail
   refine ⟨trivial, ?_⟩
   refine (CallsIn.inRound l (callsIn_wide.2 hN.out)).mono ?_
   rintro e w1 ⟨rfl, hb1⟩
   rw [hyes.out]
   have hr1 := cellB hb1 (Nat.le_refl _) hr
   have hrf1 := (hb1.frozen (p := ⟨w.heap.size + 1 + 1, 0, none⟩) (World.block_lt_of_cell? _ _ hr)).trans hrf
   have g0 := cellB hb1 (Nat.le_refl _) q0
   have g1 := cellB hb1 (Nat.le_refl _) q1
   have hB1 : Below w.heap.size w w1 := hB.trans (hb1.mono hB.size)
   have hW1 := Lib.hid hb1
   clear hb1 hr hrf a0 a1 a2 a3 a4 q0 q1
   gi_wp2_with fail
   exact ⟨KeepsFrom.of_below hW1.out, KpC.of_below hW1.out hB.size, ⟨allP_snoc hp.out hyes.out, hr1, hrf1, g0, g1⟩, hB1⟩
 case done =>
  rintro D ys W hD rfl ⟨⟨hp, hr, hrf, _, _⟩, hB⟩ hK
  have Hr := Lib.hid (show ((ys.map El.key).all fun p => namedB dl sl p.2) = true from by
   rw [List.all_map, List.all_eq_true]
   exact hp)
  clear hp H HL hB0 r0 c1 p0 p1
  gi_wp2
  have hK' := (KeepsOthers.setCell W ⟨w.heap.size + 1 + 1, 0, none⟩ (.bool true)).same D _ hK rfl
  refine ⟨by simp, .inl ⟨_, _, rfl, run_takeDeferred hK', ?_⟩⟩
  have hc5 := cell_kept (World.cell?_setCell_same' W ⟨w.heap.size + 1 + 1, 0, none⟩ (.bool true) (by rw [hr]; rfl)) (grownBy_putObj' _ D (.deferred none)) (fun r e => by cases e; exact ⟨_, hK', rfl⟩)
  refine ⟨.bool true, ?_, by rw [Hr.out], (hB.setCell (p := ⟨w.heap.size + 1 + 1, 0, none⟩) (by simp; omega) _).trans (belowK_b (w := w) (Nat.le_refl _) _ D _ _ (by simp at hD; omega) hK' rfl rfl)⟩
  simp [results, Tryz.f44, go_sem, hc5]
 case stop =>
  rintro D c pre W hD hpre ⟨⟨rfl, hin, hcr⟩, hB⟩ hK
  have hres : ((xs.map El.key).all fun p => namedB dl sl p.2) = false := by
   rw [← Bool.not_eq_true]
   intro h
   rw [List.all_map, List.all_eq_true] at h
   exact hin.out fun x hx => h x (hpre.subset hx)
  have Hr := Lib.hid hres
  clear hres hin H HL hB0 r0 c1 p0 p1
  gi_wp2
  refine ⟨by simp, .inl ⟨_, _, rfl, run_takeDeferred hK, ?_⟩⟩
  have hc5 := cell_kept hcr (grownBy_putObj' _ D (.deferred none)) (fun r e => by cases e; exact ⟨_, hK, rfl⟩)
  refine ⟨.bool false, ?_, by rw [Hr.out], hB.trans (belowK_b (w := w) (Nat.le_refl _) W D _ _ (by simp at hD; omega) hK rfl rfl)⟩
  simp [results, Tryz.f44, go_sem, hc5]
end Go.Proofs.YtgkjcimgghflmaaGreatDoor
