/-
  What package logic's copies return; conditions: the trees lie in memory and none of their lists is too long to be grown.
-/
import Derived.OwnWalk
import Derived.Lib.LazyBuf
import Derived.Test.YtpjokapkoeclpaaSame
namespace Go.Proofs.Ytpjokapkoeclpaa
open Go.RowKit Go.Shelf

attribute [local go_sem] Oper.semAt_some
theorem take_set5 (l : List Value) (k : Nat) (h : k + 5 ≤ l.length) (c0 c1 c2 c3 c4 : Value) :
    (((((l.set k c0).set (k + 1) c1).set (k + 2) c2).set (k + 3) c3).set (k + 4) c4).take (k + 5) = l.take k ++ [c0, c1, c2, c3, c4] := by
  apply List.ext_getElem?
  intro i
  by_cases h1 : i < k
  · rw [List.getElem?_append_left (by simp; omega), List.getElem?_take_of_lt (by omega), List.getElem?_take_of_lt h1]
    rw [List.getElem?_set_ne (by omega), List.getElem?_set_ne (by omega), List.getElem?_set_ne (by omega), List.getElem?_set_ne (by omega), List.getElem?_set_ne (by omega)]
  · rw [List.getElem?_append_right (by simp; omega)]
    have hl : (l.take k).length = k := by simp; omega
    rw [hl]
    obtain ⟨j, rfl⟩ : ∃ j, i = k + j := ⟨i - k, by omega⟩
    rw [show k + j - k = j by omega]
    match j with
    | 0 => rw [List.getElem?_take_of_lt (by omega)]; simp [List.getElem?_set]; omega
    | 1 => rw [List.getElem?_take_of_lt (by omega)]; simp [List.getElem?_set]; omega
    | 2 => rw [List.getElem?_take_of_lt (by omega)]; simp [List.getElem?_set]; omega
    | 3 => rw [List.getElem?_take_of_lt (by omega)]; simp [List.getElem?_set]; omega
    | 4 => rw [List.getElem?_take_of_lt (by omega)]; simp [List.getElem?_set]; omega
    | j + 5 => rw [List.getElem?_eq_none (by simp; omega)]; simp

/-- In the midst of a list's making: a row of n nodes in block g, of which the first ones are written. -/
structure MAt (w : World) (g n : Nat) (outs : List Nd) (wr : World) (cur : Array Value) (xs : List NdA) : Prop where
  outs : xs.map (·.1) = outs
  row : wr.heap[g]? = some (.cells cur 24 (0, 0))
  size : cur.size = n * 5
  head : cur.toList.take (xs.length * 5) = flatN xs
  kids : ∀ x ∈ xs, Rob w.heap.size wr (some g) x.2.1 x.2.2 x.1.ks
  fine : ∀ x ∈ xs, Fine x.1
  below : Below w.heap.size w wr
def MInv (w : World) (g n : Nat) (outs : List Nd) (wr : World) : Prop := ∃ cur xs, MAt w g n outs wr cur xs
theorem MAt.later {w : World} {g n : Nat} {outs : List Nd} {wr w' : World} {cur : Array Value} {xs : List NdA} (h : MAt w g n outs wr cur xs) (hb : Below wr.heap.size wr w') : MAt w g n outs w' cur xs :=
  ⟨h.outs, (hb.block _ (Array.getElem?_eq_some_iff.1 h.row).1).trans h.row, h.size, h.head, fun x hx => (h.kids x hx).later hb, h.fine, h.below.trans (hb.mono h.below.size)⟩

theorem mem_take5 {l : List Value} {k : Nat} (h : (k + 1) * 5 ≤ l.length) (j : Nat) (hj : j < 5) : l[k * 5 + j]? = some (l[k * 5 + j]'(by omega)) := List.getElem?_eq_getElem (by omega)

/-- The five cells of a node's place are written. -/
abbrev setAt (w : World) (b o : Nat) (c0 c1 c2 c3 c4 : Value) : World := ((((w.setCell ⟨b, o, none⟩ c0).setCell ⟨b, o + 1, none⟩ c1).setCell ⟨b, o + 2, none⟩ c2).setCell ⟨b, o + 3, none⟩ c3).setCell ⟨b, o + 4, none⟩ c4
theorem setAt_same {w : World} {b o : Nat} {cur : Array Value} (c0 c1 c2 c3 c4 : Value) (h : w.heap[b]? = some (.cells cur 24 (0, 0))) :
    (setAt w b o c0 c1 c2 c3 c4).heap[b]? = some (.cells (((((cur.setIfInBounds o c0).setIfInBounds (o + 1) c1).setIfInBounds (o + 2) c2).setIfInBounds (o + 3) c3).setIfInBounds (o + 4) c4) 24 (0, 0)) := by
  have h0 := heap_setCell_same w b o _ _ c0 h
  have h1 := heap_setCell_same _ b (o + 1) _ _ c1 h0
  have h2 := heap_setCell_same _ b (o + 2) _ _ c2 h1
  have h3 := heap_setCell_same _ b (o + 3) _ _ c3 h2
  exact heap_setCell_same _ b (o + 4) _ _ c4 h3
theorem setAt_other {w : World} {b o : Nat} (c0 c1 c2 c3 c4 : Value) {k : Nat} (h : k ≠ b) : (setAt w b o c0 c1 c2 c3 c4).heap[k]? = w.heap[k]? := by
  rw [setAt, heap_setCell_other _ _ _ _ h, heap_setCell_other _ _ _ _ h, heap_setCell_other _ _ _ _ h, heap_setCell_other _ _ _ _ h, heap_setCell_other _ _ _ _ h]
theorem setAt_size (w : World) (b o : Nat) (c0 c1 c2 c3 c4 : Value) : (setAt w b o c0 c1 c2 c3 c4).heap.size = w.heap.size := by simp [setAt, World.setCell]
theorem Below.setAt {B : Nat} {a w : World} (h : Below B a w) {b : Nat} (hb : B ≤ b) (o : Nat) (c0 c1 c2 c3 c4 : Value) : Below B a (setAt w b o c0 c1 c2 c3 c4) :=
  ((((h.setCell (p := ⟨b, o, none⟩) hb c0).setCell (p := ⟨b, o + 1, none⟩) hb c1).setCell (p := ⟨b, o + 2, none⟩) hb c2).setCell (p := ⟨b, o + 3, none⟩) hb c3).setCell (p := ⟨b, o + 4, none⟩) hb c4
theorem MAt.step {w : World} {g n : Nat} {outs : List Nd} {wr : World} {cur : Array Value} {xs : List NdA} (h : MAt w g n outs wr cur xs) (hg : w.heap.size ≤ g) (hk : xs.length < n) {x : NdA}
    (hx : Rob w.heap.size wr (some g) x.2.1 x.2.2 x.1.ks) (hf : Fine x.1) :
    MInv w g n (outs ++ [x.1]) (setAt wr g (xs.length * 5) (.int .i64 x.1.op) (.int .i64 x.1.so) (.string x.1.nm) (.int .i64 x.1.nu) (.slice x.2.1 x.1.ks.length x.2.2)) := by
  have rob : ∀ {A : Option Addr} {cap : Nat} {ks : List Nd}, Rob w.heap.size wr (some g) A cap ks → Rob w.heap.size (setAt wr g (xs.length * 5) (.int .i64 x.1.op) (.int .i64 x.1.so) (.string x.1.nm) (.int .i64 x.1.nu) (.slice x.2.1 x.1.ks.length x.2.2)) (some g) A cap ks :=
    fun hr W hW => hr W fun k h1 h2 h3 => (hW k h1 (by rw [setAt_size]; exact h2) h3).trans (setAt_other _ _ _ _ _ (fun e => h3 (by rw [e])))
  refine ⟨_, xs ++ [x], by rw [List.map_append, h.outs]; rfl, setAt_same _ _ _ _ _ h.row, by simp [h.size], ?_, ?_, ?_, Below.setAt h.below hg _ _ _ _ _ _⟩
  · have hs' : cur.toList.length = n * 5 := by rw [Array.length_toList]; exact h.size
    rw [flatN_snoc, ← h.head, List.length_append]
    simp only [Array.toList_setIfInBounds, List.length_singleton]
    rw [Nat.add_mul, Nat.one_mul, take_set5 _ _ (by rw [hs']; omega)]
    rfl
  · intro y hy
    rcases List.mem_append.1 hy with hy | hy
    · exact rob (h.kids y hy)
    · simp at hy; subst hy; exact rob hx
  · intro y hy
    rcases List.mem_append.1 hy with hy | hy
    · exact h.fine y hy
    · simp at hy; subst hy; exact hf
/-- In the end the list lies in new memory. -/
theorem MAt.rob {w : World} {g n : Nat} {outs : List Nd} {wr : World} {cur : Array Value} {xs : List NdA} (h : MAt w g n outs wr cur xs) (hg : w.heap.size ≤ g) (hn : xs.length = n) (hm : n ≤ maxLen) : Rob w.heap.size wr none (some ⟨g, 0, none⟩) n outs := by
  intro W hW
  have hgW : W.heap[g]? = some (.cells cur 24 (0, 0)) := (hW g hg (Array.getElem?_eq_some_iff.1 h.row).1 (by simp)).trans h.row
  rw [← h.outs]
  refine .mk _ _ _ (by simpa [hn] using hm) g 0 (fun i => ((xs[i]?).map (·.2.1)).getD none) (fun i => ((xs[i]?).map (·.2.2)).getD 0) (fun _ => rfl) (fun i hi => ?_) (fun i hi => ?_) (fun i hi => ?_)
  all_goals have hi' : i < xs.length := by simpa using hi
  · have hc : ∀ j, j < 5 → W.cell? ⟨g, 0 + i * 5 + j, none⟩ = (cells5 xs[i])[j]? := fun j hj => by
      have := flatN_at xs i hi' j hj
      rw [← h.head, List.getElem?_take_of_lt (by omega)] at this
      rw [← this]
      simp [World.cell?, hgW]
    simp only [List.getElem_map, List.getElem?_eq_getElem hi', Option.map_some, Option.getD_some]
    exact ⟨hc 0 (by omega), hc 1 (by omega), hc 2 (by omega), hc 3 (by omega), hc 4 (by omega)⟩
  · simp only [List.getElem_map, List.getElem?_eq_getElem hi', Option.map_some, Option.getD_some]
    exact h.kids xs[i] (List.getElem_mem hi') W fun k a b c => hW k a b (by simp)
  · simp only [List.getElem_map]
    exact h.fine xs[i] (List.getElem_mem hi')

/-- A function returns a list of new memory. -/
def RetL (w : World) (us : List Nd) (e : Ending) (w' : World) : Prop := ∃ A cap, e = .returned (.slice A us.length cap) ∧ Rob w.heap.size w' none A cap us ∧ Below w.heap.size w w'

set_option maxRecDepth 100000 in
set_option maxHeartbeats 4000000 in
theorem mapped_copy (ks outs : List Nd) (A : Option Addr) (cap : Nat) (w : World) (hL : Lies w A cap ks) (hsh : ks.length ≤ 2199023255488) (a : Addr) (hA : A = some a) (ho : outs.length = ks.length)
    (HC : ∀ i (hi : i < ks.length) (A : Option Addr) (C : Nat) (W : World), Below w.heap.size w W → Lies W A C ks[i].ks → Calls Try.prog 56 #[nv ks[i].op ks[i].so ks[i].nm ks[i].nu (.slice A ks[i].ks.length C)] W (RetN W (outs[i]'(by omega)))) :
    Calls Try.prog 96 #[.slice A ks.length cap, .func (.func 56) #[] #[]] w (RetL w outs) := by
  subst hA
  have hnil : ∀ W, (binOp .eql 22 (.slice (some a) ks.length cap) (.slice none 0 0)).run Try.prog W = .ok (.bool false) W := fun W => Lib.run_eql_slice_nil (h := Try.underlying22) ..
  obtain ⟨i0, hi, hz0, hz1, hz2⟩ := info_parts info24
  have I0 := Lib.hid hi
  have Z0 := Lib.hid hz0
  have Z1 := Lib.hid hz1
  have Z2 := Lib.hid hz2
  clear hi hz0 hz1 hz2
  have hn := hL.len
  unfold maxLen at hn
  have HL := Lib.hid hL
  have HCC := Lib.hid HC
  clear hL HC
  go_enter Try.func96, Try.ntmps96
  have BY : Hid (i0.bytes * ks.length ≤ 281474976710656) := by show _ ≤ _; rw [Z2.out]; omega
  have ML : Hid (ks.length ≤ maxLen) := by show _ ≤ _; unfold maxLen; omega
  go_wp2_with (at_make; refine wpList_make_full _ rfl _ _ 22 rfl w.heap.size 24 i0 _ 5 Try.underlying22 I0.out Z0.out Z1.out .i64 .i64 _ _ ks.length rfl rfl rfl rfl BY.out ML.out (Nat.le_refl _) ?_; intro w1 hown1 hgrow1)
  have M0 : MInv w w.heap.size ks.length [] w1 := by
    rcases hown1.2 with ⟨h, _⟩ | ⟨g, cap', cur, hv, h1, h2, h3, h4, h5, h6⟩
    · cases h
    · cases hv
      exact ⟨cur, [], rfl, h2, h5, by simp [flatN], fun _ h => by simp at h, fun _ h => by simp at h, (Below.refl _ _).grown hgrow1 (Nat.le_refl _) (fun k e => by cases e)⟩
  clear hown1 hgrow1
  go_loopw [15] (fun i wr => ∃ k : Nat, k ≤ ks.length ∧ i = .int .i64 k ∧ Hid (MInv w w.heap.size ks.length (outs.take k) wr)) (fun i _ => ks.length - (intOf i).toNat)
  case atStart => exact ⟨0, Nat.zero_le _, rfl, M0⟩
  case round =>
    obtain ⟨k, hk, rfl, cur, xs, hM⟩ := hrel
    have HM := Lib.hid hM
    have hBr := hM.below
    have hgz := (Array.getElem?_eq_some_iff.1 hM.row).1
    by_cases hlt : k < ks.length
    · obtain ⟨b', o', A', C', hA', g5, hK⟩ := HL.out.kid hlt
      cases hA'
      have hFk := HL.out.fine hlt
      obtain ⟨a0, a1, a2, a3, a4⟩ := g5.later hBr
      have hK' := Lib.hid (hK.later hBr)
      have hsz := hBr.size
      have hlen : xs.length = k := by
        have := congrArg List.length hM.outs
        simp only [List.length_map, List.length_take] at this
        omega
      have c := Lib.hid (HCC.out k hlt A' C')
      have hok : k < outs.length := by omega
      have htk := Lib.hid (show outs.take (k + 1) = outs.take k ++ [outs[k]] from List.take_succ_eq_append_getElem hok)
      clear hM
      generalize outs[k] = u at *
      generalize ks[k] = q at *
      clear g5 hK HL HCC
      go_wp2_with fail
      refine (c.out _ (hBr.alloc hsz _) (hK'.out.later ((Below.refl _ _).alloc (Nat.le_refl _) _))).mono ?_
      rintro e w2 ⟨A2, C2, rfl, hrob, hFu, hb2⟩
      have hb3 : Below wr.heap.size wr w2 := ((Below.refl _ _).alloc (Nat.le_refl _) _).trans (hb2.mono (by simp))
      have HM2 := Lib.hid (HM.out.later hb3)
      have HR := Lib.hid (show Rob w.heap.size w2 (some w.heap.size) A2 C2 u.ks from hrob.newNone (fun g hg => by cases hg; simp; omega) (by simp; omega))
      have hcs := HM2.out.size
      have hrow := HM2.out.row
      obtain ⟨y0, hy0⟩ : ∃ y, cur[k * 5]? = some y := ⟨_, Array.getElem?_eq_getElem (by omega)⟩
      obtain ⟨y1, hy1⟩ : ∃ y, cur[k * 5 + 1]? = some y := ⟨_, Array.getElem?_eq_getElem (by omega)⟩
      obtain ⟨y2, hy2⟩ : ∃ y, cur[k * 5 + 2]? = some y := ⟨_, Array.getElem?_eq_getElem (by omega)⟩
      obtain ⟨y3, hy3⟩ : ∃ y, cur[k * 5 + 3]? = some y := ⟨_, Array.getElem?_eq_getElem (by omega)⟩
      obtain ⟨y4, hy4⟩ : ∃ y, cur[k * 5 + 4]? = some y := ⟨_, Array.getElem?_eq_getElem (by omega)⟩
      have z0 := cell_row hrow hy0
      have z1 := cell_row hrow hy1
      have z2 := cell_row hrow hy2
      have z3 := cell_row hrow hy3
      have z4 := cell_row hrow hy4
      have f0 := frozen_of_row w2 w.heap.size (k * 5) _ _ hrow
      have f1 := frozen_of_row w2 w.heap.size (k * 5 + 1) _ _ hrow
      have f2 := frozen_of_row w2 w.heap.size (k * 5 + 2) _ _ hrow
      have f3 := frozen_of_row w2 w.heap.size (k * 5 + 3) _ _ hrow
      have f4 := frozen_of_row w2 w.heap.size (k * 5 + 4) _ _ hrow
      have HST := Lib.hid (HM2.out.step (x := (u, A2, C2)) (Nat.le_refl _) (by omega) HR.out hFu)
      clear hrow hy0 hy1 hy2 hy3 hy4 hb2 hb3 hrob hcs a0 a1 a2 a3 a4
      go_wp2_with fail
      go_roundw
      case rel => exact ⟨k + 1, by omega, by go_num, by rw [htk.out]; have := HST.out; rw [hlen] at this; exact this⟩
      case measure => simp [intOf]; omega
    · have hlen : xs.length = k := by
        have := congrArg List.length hM.outs
        simp only [List.length_map, List.length_take] at this
        omega
      have hrob := hM.rob (Nat.le_refl _) (by omega) ML.out
      rw [List.take_of_length_le (by omega)] at hrob
      have HR := Lib.hid hrob
      clear hrob hM
      go_wp2_with fail
      go_ret
      exact ⟨_, _, by rw [ho]; rfl, HR.out, hBr⟩

set_option maxHeartbeats 1000000 in
theorem mapped_nil (f : Value) (cap : Nat) (w : World) : Calls Try.prog 96 #[.slice none 0 cap, f] w (RetL w []) := by
  have hnil : ∀ W, (binOp .eql 22 (.slice none 0 cap) (.slice none 0 0)).run Try.prog W = .ok (.bool true) W := fun W => Lib.run_eql_slice_nil (h := Try.underlying22) ..
  go_enter Try.func96, Try.ntmps96
  go_wp2_with fail
  go_ret
  exact ⟨none, 0, rfl, fun W _ => .mk none 0 [] (by simp) 0 0 (fun _ => none) (fun _ => 0) (fun h => by simp at h) (fun i h => by simp at h) (fun i h => by simp at h) (fun i h => by simp at h), Below.refl _ _⟩

theorem lies_none {w : World} {cap : Nat} {ks : List Nd} (h : Lies w none cap ks) : ks = [] := by
  obtain ⟨b, o, A', C', hA, _⟩ := h.fns
  by_cases h0 : 0 < ks.length
  · cases hA h0
  · exact List.length_eq_zero_iff.1 (by omega)

set_option maxHeartbeats 1000000 in
theorem copies_any (ks : List Nd) (A : Option Addr) (cap : Nat) (w : World) (hL : Lies w A cap ks) (hsh : ks.length ≤ 2199023255488)
    (HC : ∀ i (hi : i < ks.length) (A : Option Addr) (C : Nat) (W : World), Below w.heap.size w W → Lies W A C ks[i].ks → Calls Try.prog 56 #[nv ks[i].op ks[i].so ks[i].nm ks[i].nu (.slice A ks[i].ks.length C)] W (RetN W ks[i])) :
    Calls Try.prog 61 #[.slice A ks.length cap] w (RetL w ks) := by
  have hm : Calls Try.prog 96 #[.slice A ks.length cap, .func (.func 56) #[] #[]] w (RetL w ks) := by
    cases A with
    | none =>
      obtain rfl := lies_none hL
      exact mapped_nil _ _ _
    | some a => exact mapped_copy ks ks _ cap w hL hsh a rfl rfl HC
  have HM := Lib.hid hm
  clear hm HC hL
  go_enter Try.func61, Try.ntmps61
  go_wp2_with fail
  refine HM.out.mono ?_
  rintro e w1 ⟨A1, c1, rfl, hr, hb⟩
  have HR := Lib.hid hr
  have HB := Lib.hid hb
  clear hr hb
  go_wp2_with fail
  go_ret
  exact ⟨_, _, rfl, HR.out, HB.out⟩
end Go.Proofs.Ytpjokapkoeclpaa
