/-
  What the small functions of resolving return: looking up a sig, keeping a name's first meaning, whether a name stands for something, whether kids fit a sig; conditions: the lists and maps lie in memory.
-/
import Derived.Test.YtpjokapkoeclpaaResMath
import Derived.Test.YtpjokapkoeclpaaSame
namespace Go.Proofs.Ytpjokapkoeclpaa
open Go.RowKit Go.Shelf Go.WideMaps

attribute [local go_sem] Oper.semAt_some
theorem row3_same {w : World} {b : Nat} {ty : TypeId} {d0 d1 d2 : Value} (c0 c1 c2 : Value) (h : w.heap[b]? = some (.cells #[d0, d1, d2] ty (0, 0))) :
    (((w.setCell ⟨b, 0, none⟩ c0).setCell ⟨b, 1, none⟩ c1).setCell ⟨b, 2, none⟩ c2).heap[b]? = some (.cells #[c0, c1, c2] ty (0, 0)) := by
  have h0 := heap_setCell_same w b 0 _ _ c0 h
  have h1 := heap_setCell_same _ b 1 _ _ c1 h0
  exact heap_setCell_same _ b 2 _ _ c2 h1
set_option maxRecDepth 100000 in
set_option maxHeartbeats 2000000 in
theorem sigOf_any (sl : List SgA) (s : ByteArray) (A : Option Addr) (cap : Nat) (w : World) (hD : Sgs w A sl) (hn : sl.length ≤ maxLen) :
    Calls Try.prog 106 #[.string s, .slice A sl.length cap] w fun e w' => e = .returned (.tuple #[sgV ((lookS sl s).getD zeroSg), .bool (lookS sl s).isSome]) ∧ Below w.heap.size w w' := by
  unfold maxLen at hn
  have HD := Lib.hid hD
  have B1 : Below w.heap.size w (w.alloc (.cells #[.string ⟨#[]⟩, .slice none 0 0, .int .i64 0] 83)) := (Below.refl _ _).alloc (Nat.le_refl _) _
  have R0 := Lib.hid (heap_alloc_new w (.cells #[.string ⟨#[]⟩, .slice none 0 0, .int .i64 0] 83))
  have B1 := Lib.hid B1
  clear hD
  go_enter Try.func106, Try.ntmps106
  go_wp2_with fail
  go_loopw [10] (fun i wr => ∃ k : Nat, k ≤ sl.length ∧ i = .int .i64 k ∧ Hid (∀ j (hj : j < sl.length), j < k → (sl[j].1.nm.toList == s.toList) = false) ∧ Hid (Below w.heap.size w wr) ∧ Hid (wr.heap[w.heap.size]? = some (.cells #[.string ⟨#[]⟩, .slice none 0 0, .int .i64 0] 83 (0, 0)))) (fun i _ => sl.length - (intOf i).toNat)
  case atStart => exact ⟨0, Nat.zero_le _, rfl, fun j _ hj => absurd hj (by omega), B1, R0⟩
  case round =>
    obtain ⟨k, hk, rfl, hno, hBr, hrow⟩ := hrel
    have hsz := hBr.out.size
    have hlt0 : w.heap.size < wr.heap.size := (Array.getElem?_eq_some_iff.1 hrow.out).1
    by_cases hlt : k < sl.length
    · obtain ⟨b, o, hA, hc⟩ := HD.out.later hBr.out
      obtain rfl := hA (by omega)
      obtain ⟨a0, a1, a2⟩ := hc k hlt
      clear hA hc
      cases he : sl[k].1.nm.toList == s.toList
      case true =>
        have HL := Lib.hid (show lookS sl s = some sl[k] by rw [lookS, find_take_some hlt hno.out he])
        generalize sl[k] = q at *
        have hr := hrow.out
        have z0 := cell_row hr (i := 0) rfl
        have z1 := cell_row hr (i := 1) rfl
        have z2 := cell_row hr (i := 2) rfl
        have f0 := frozen_of_row wr w.heap.size 0 _ _ hr
        have f1 := frozen_of_row wr w.heap.size 1 _ _ hr
        have f2 := frozen_of_row wr w.heap.size 2 _ _ hr
        clear hr
        have hB1 := ((hBr.out.setCell (p := ⟨w.heap.size, 0, none⟩) (Nat.le_refl _) (.string q.1.nm)).setCell (p := ⟨w.heap.size, 1, none⟩) (Nat.le_refl _) (.slice q.2.1 q.1.args.length q.2.2)).setCell (p := ⟨w.heap.size, 2, none⟩) (Nat.le_refl _) (.int .i64 q.1.so)
        have hB2 := Lib.hid (hB1.alloc hB1.size (.cells #[.string q.1.nm, .slice q.2.1 q.1.args.length q.2.2, .int .i64 q.1.so] 83))
        have h3 := row3_same (.string q.1.nm) (.slice q.2.1 q.1.args.length q.2.2) (.int .i64 q.1.so) hrow.out
        have H3 := Lib.hid ((((Below.refl _ _).alloc (Nat.le_refl _) (.cells #[.string q.1.nm, .slice q.2.1 q.1.args.length q.2.2, .int .i64 q.1.so] 83)).block _ (Array.getElem?_eq_some_iff.1 h3).1).trans h3)
        clear hB1 h3
        go_wp2_with fail
        rw [HL.out]
        refine bodyPost_ret (v := .tuple #[sgV q, .bool true]) ?_ rfl ⟨rfl, hB2.out⟩
        have y0 := cell_row H3.out (i := 0) rfl
        have y1 := cell_row H3.out (i := 1) rfl
        have y2 := cell_row H3.out (i := 2) rfl
        clear z0 z1 z2
        simp [results, Try.f106, go_sem, y0, y1, y2]
      case false =>
        have hno' : Hid (∀ j (hj : j < sl.length), j < k + 1 → (sl[j].1.nm.toList == s.toList) = false) := fun j hj hjk => by
          by_cases e : j = k
          · subst e; exact he
          · exact hno.out j hj (by omega)
        generalize sl[k] = q at *
        have hB2 := Lib.hid (fun O => hBr.out.alloc hsz O)
        have hR2 := Lib.hid (fun O => (((Below.refl wr.heap.size wr).alloc (Nat.le_refl _) O).block w.heap.size hlt0).trans hrow.out)
        go_wp2_with fail
        go_roundw
        case rel => exact ⟨k + 1, by omega, by go_num, hno', hB2.out _, hR2.out _⟩
        case measure => simp [intOf]; omega
    · have HL := Lib.hid (show lookS sl s = none by rw [lookS, find_take_none (fun j hj => hno.out j hj (by omega))])
      have hr := hrow.out
      have z0 := cell_row hr (i := 0) rfl
      have z1 := cell_row hr (i := 1) rfl
      have z2 := cell_row hr (i := 2) rfl
      have f0 := frozen_of_row wr w.heap.size 0 _ _ hr
      have f1 := frozen_of_row wr w.heap.size 1 _ _ hr
      have f2 := frozen_of_row wr w.heap.size 2 _ _ hr
      have H3 := Lib.hid (row3_same (.string ⟨#[]⟩) (.slice none 0 0) (.int .i64 0) hr)
      clear hr
      have hB2 := Lib.hid (((hBr.out.setCell (p := ⟨w.heap.size, 0, none⟩) (Nat.le_refl _) (.string ⟨#[]⟩)).setCell (p := ⟨w.heap.size, 1, none⟩) (Nat.le_refl _) (.slice none 0 0)).setCell (p := ⟨w.heap.size, 2, none⟩) (Nat.le_refl _) (.int .i64 0))
      go_wp2_with fail
      rw [HL.out]
      refine bodyPost_ret (v := .tuple #[sgV zeroSg, .bool false]) ?_ rfl ⟨rfl, hB2.out⟩
      have y0 := cell_row H3.out (i := 0) rfl
      have y1 := cell_row H3.out (i := 1) rfl
      have y2 := cell_row H3.out (i := 2) rfl
      clear z0 z1 z2
      simp [results, Try.f106, go_sem, y0, y1, y2, zeroSg]

/-- A name gets a value, if it has none. -/
def stepF (f : ByteArray → Option Value) (s : ByteArray) (v : Value) : ByteArray → Option Value := fun k => (f k).or (if s.toList = k.toList then some v else none)
theorem stepF_same {f : ByteArray → Option Value} {s : ByteArray} {x : Value} (h : f s = some x) (v : Value) : stepF f s v = f := by
  funext k
  unfold stepF
  by_cases e : s.toList = k.toList
  · obtain rfl := toList_inj e
    rw [h]; rfl
  · rw [if_neg e]; simp
/-- What keepFirst does. -/
def KeepM (m : Nat) (f : ByteArray → Option Value) (W : World) (e : Ending) (w' : World) : Prop :=
  e = .returned (.tuple #[]) ∧ NameMap w' m f ∧ Below m W w' ∧ W.heap.size ≤ w'.heap.size ∧ ∀ k, k < W.heap.size → k ≠ m → w'.heap[k]? = W.heap[k]?
set_option maxRecDepth 100000 in
set_option maxHeartbeats 2000000 in
theorem keepI_any (m : Nat) (f : ByteArray → Option Value) (s : ByteArray) (x : Int) (W : World) (hm : NameMap W m f) :
    Calls Try.prog 71 #[.map (some m), .string s, .int .i64 x] W (KeepM m (stepF f s (.int .i64 x)) W) := by
  have hlk := hm.look54 s
  cases hf : f s with
  | none =>
    rw [hf] at hlk
    obtain ⟨o, he, hn⟩ := hm.enter54 hf (.int .i64 x)
    have HN := Lib.hid (show KeepM m (stepF f s (.int .i64 x)) W (.returned (.tuple #[])) (putBlock W m o) from ⟨rfl, hn, Below.putBlock (Below.refl _ _) (Nat.le_refl _) o, Nat.le_of_eq (putBlock_size W m o).symm, fun k _ hk => putBlock_other W m o hk⟩)
    clear hn hf hm
    go_enter Try.func71, Try.ntmps71
    go_wp2_with fail
    go_end0
    exact HN.out
  | some y =>
    rw [hf] at hlk
    have HN := Lib.hid (show KeepM m (stepF f s (.int .i64 x)) W (.returned (.tuple #[])) W from ⟨rfl, by rw [stepF_same hf]; exact hm, Below.refl _ _, Nat.le_refl _, fun k _ hk => rfl⟩)
    clear hf hm
    go_enter Try.func71, Try.ntmps71
    go_wp2_with fail
    go_end0
    exact HN.out
set_option maxRecDepth 100000 in
set_option maxHeartbeats 2000000 in
theorem keepS_any (m : Nat) (f : ByteArray → Option Value) (hfs : ∀ s v, f s = some v → ∃ y : SgA, v = sgV y) (s : ByteArray) (x : SgA) (W : World) (hm : NameMap W m f) :
    Calls Try.prog 72 #[.map (some m), .string s, sgV x] W (KeepM m (stepF f s (sgV x)) W) := by
  have hlt := hm.lt
  have hk1 : ∀ O, NameMap (W.alloc O) m f := fun O => hm.kept (((Below.refl W.heap.size W).alloc (Nat.le_refl _) O).block m hlt)
  have hk2 : ∀ O O', NameMap ((W.alloc O).alloc O') m f := fun O O' => hm.kept ((((Below.refl W.heap.size W).alloc (Nat.le_refl _) O).alloc (by simp) O').block m hlt)
  have hkb : ∀ O O' k, k < W.heap.size → ((W.alloc O).alloc O').heap[k]? = W.heap[k]? := fun O O' k hk => (((Below.refl W.heap.size W).alloc (Nat.le_refl _) O).alloc (by simp) O').block k hk
  have hbb : ∀ O O', Below m W ((W.alloc O).alloc O') := fun O O' => (((Below.refl W.heap.size W).alloc (Nat.le_refl _) O).alloc (by simp) O').mono (Nat.le_of_lt hlt)
  have hlk := (hk1 (.cells #[.string x.1.nm, .slice x.2.1 x.1.args.length x.2.2, .int .i64 x.1.so] 83)).look77 s
  cases hf : f s with
  | none =>
    rw [hf] at hlk
    obtain ⟨o, he, hn⟩ := (hk2 (.cells #[.string x.1.nm, .slice x.2.1 x.1.args.length x.2.2, .int .i64 x.1.so] 83) (.cells #[.string ⟨#[]⟩, .slice none 0 0, .int .i64 0] 83)).enter77 hf (sgV x)
    have HN := Lib.hid (show KeepM m (stepF f s (sgV x)) W (.returned (.tuple #[])) (putBlock _ m o) from ⟨rfl, hn, Below.putBlock (hbb _ _) (Nat.le_refl _) o, by rw [putBlock_size]; simp; omega, fun k hk hkm => (putBlock_other _ m o hkm).trans (hkb _ _ k hk)⟩)
    replace he : (Instr.mapUpdate 77 (.map (some m)) (.string s) (.agg #[.string x.1.nm, .slice x.2.1 x.1.args.length x.2.2, .int .i64 x.1.so])).run Try.prog _ = _ := he
    replace hlk : (Instr.lookup 77 (.map (some m)) (.string s) true).run Try.prog _ = .ok (.tuple #[.agg #[.string ⟨#[]⟩, .slice none 0 0, .int .i64 0], .bool false]) _ := hlk
    clear hn hf hm hk1 hk2 hkb hbb hfs
    go_enter Try.func72, Try.ntmps72
    go_wp2_with fail
    go_end0
    exact HN.out
  | some v =>
    obtain ⟨y, rfl⟩ := hfs s v hf
    rw [hf] at hlk
    have HN := Lib.hid (show ∀ O O', KeepM m (stepF f s (sgV x)) W (.returned (.tuple #[])) ((W.alloc O).alloc O') from fun O O' => ⟨rfl, by rw [stepF_same hf]; exact hk2 O O', hbb _ _, by simp; omega, fun k hk hkm => hkb _ _ k hk⟩)
    replace hlk : (Instr.lookup 77 (.map (some m)) (.string s) true).run Try.prog _ = .ok (.tuple #[.agg #[.string y.1.nm, .slice y.2.1 y.1.args.length y.2.2, .int .i64 y.1.so], .bool true]) _ := hlk
    clear hf hm hk1 hk2 hkb hbb hfs
    go_enter Try.func72, Try.ntmps72
    go_wp2_with fail
    go_end0
    exact HN.out _ _

/-- What the maps hold. -/
def fD (dl : List (ByteArray × Int)) (s : ByteArray) : Option Value := (lookD dl s).map (Value.int .i64)
def fS (sl : List SgA) (s : ByteArray) : Option Value := (lookS sl s).map sgV
theorem fS_form {sl : List SgA} (s : ByteArray) (v : Value) (h : fS sl s = some v) : ∃ y : SgA, v = sgV y := by
  unfold fS at h
  obtain ⟨y, _, rfl⟩ := Option.map_eq_some_iff.1 h
  exact ⟨y, rfl⟩
theorem fD_step (dl : List (ByteArray × Int)) {k : Nat} (hk : k < dl.length) : stepF (fD (dl.take k)) dl[k].1 (.int .i64 dl[k].2) = fD (dl.take (k + 1)) := by
  funext s
  unfold stepF fD lookD
  rw [List.take_succ_eq_append_getElem hk, List.find?_append]
  cases hq : (dl.take k).find? (fun d => d.1.toList == s.toList) with
  | some p => simp
  | none =>
    by_cases he : dl[k].1.toList = s.toList
    · rw [if_pos he, List.find?_cons_of_pos (by simpa using he)]; rfl
    · rw [if_neg he, List.find?_cons_of_neg (by simpa using he)]; rfl
theorem fS_step (sl : List SgA) {k : Nat} (hk : k < sl.length) : stepF (fS (sl.take k)) sl[k].1.nm (sgV sl[k]) = fS (sl.take (k + 1)) := by
  funext s
  unfold stepF fS lookS
  rw [List.take_succ_eq_append_getElem hk, List.find?_append]
  cases hq : (sl.take k).find? (fun x => x.1.nm.toList == s.toList) with
  | some p => simp
  | none =>
    by_cases he : sl[k].1.nm.toList = s.toList
    · rw [if_pos he, List.find?_cons_of_pos (by simpa using he)]; rfl
    · rw [if_neg he, List.find?_cons_of_neg (by simpa using he)]; rfl

set_option maxRecDepth 100000 in
set_option maxHeartbeats 2000000 in
theorem constantM_any (m1 m2 : Nat) (sl : List SgA) (s : ByteArray) (W : World) (hm : NameMap W m2 (fS sl)) :
    Calls Try.prog 113 #[.agg #[.map (some m1), .map (some m2)], .string s] W fun e w' => e = .returned (.bool (constB sl s)) ∧ Below W.heap.size W w' := by
  have hlt := hm.lt
  have hk1 : ∀ O, NameMap (W.alloc O) m2 (fS sl) := fun O => hm.kept (((Below.refl W.heap.size W).alloc (Nat.le_refl _) O).block m2 hlt)
  have HB := Lib.hid (show ∀ O O', Below W.heap.size W ((W.alloc O).alloc O') from fun O O' => ((Below.refl W.heap.size W).alloc (Nat.le_refl _) O).alloc (by simp) O')
  have hlk := fun O => (hk1 O).look77 s
  unfold constB sigArgs
  unfold fS at hlk
  cases hf : lookS sl s with
  | none =>
    rw [hf] at hlk
    replace hlk : ∀ O, (Instr.lookup 77 (.map (some m2)) (.string s) true).run Try.prog (W.alloc O) = .ok (.tuple #[.agg #[.string ⟨#[]⟩, .slice none 0 0, .int .i64 0], .bool false]) (W.alloc O) := hlk
    clear hf hm hk1
    go_enter Try.func113, Try.ntmps113
    go_wp2_with fail
    go_ret
    exact ⟨rfl, HB.out _ _⟩
  | some y =>
    rw [hf] at hlk
    replace hlk : ∀ O, (Instr.lookup 77 (.map (some m2)) (.string s) true).run Try.prog (W.alloc O) = .ok (.tuple #[.agg #[.string y.1.nm, .slice y.2.1 y.1.args.length y.2.2, .int .i64 y.1.so], .bool true]) (W.alloc O) := hlk
    clear hf hm hk1
    show Calls _ _ _ _ fun e w' => e = .returned (.bool (decide (y.1.args = []))) ∧ _
    by_cases ha : y.1.args = []
    · rw [decide_eq_true ha]
      have hz : ((y.1.args.length : Int) == 0) = true := by rw [ha]; rfl
      clear ha
      go_enter Try.func113, Try.ntmps113
      go_wp2_with fail
      go_ret
      exact ⟨rfl, HB.out _ _⟩
    · rw [decide_eq_false ha]
      have hz : ((y.1.args.length : Int) == 0) = false := by
        rw [beq_eq_false_iff_ne]
        intro e
        exact ha (List.eq_nil_of_length_eq_zero (by omega))
      clear ha
      go_enter Try.func113, Try.ntmps113
      go_wp2_with fail
      go_ret
      exact ⟨rfl, HB.out _ _⟩
end Go.Proofs.Ytpjokapkoeclpaa
