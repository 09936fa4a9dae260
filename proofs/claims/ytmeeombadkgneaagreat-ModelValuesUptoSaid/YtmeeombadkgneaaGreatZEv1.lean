/-
  What chosen returns of a list of numbers, where package model calls it; conditions: the lists lie in memory.
  What slices.Concat returns of lists of numbers: their numbers one list behind the other, in memory of its own; conditions: the lists lie in memory and are short.
  What union returns of two lists of numbers: merged, each number once; conditions: the lists lie in memory.
-/
import Derived.Lib.AppendZerosOnto
import Derived.Laws.AppendOwnNone
import Derived.Test.YtmeeombadkgneaaGreatZEv0
namespace Go.Proofs.YtmeeombadkgneaaGreat
open Go.Proofs Go.RowKit Go.Shelf Go.Sort Go.Lib

attribute [local go_sem] Oper.semAt_some
abbrev intsV (l : List Int) : List Value := l.map fun x => Value.int .i64 x
theorem ownsI_below {w w' : World} {base : Nat} {v : Value} {n : Nat} {xs : List Value} (h : w.ownsRow base 2 1 v n xs) (hb : RowKit.Below w.heap.size w w') : w'.ownsRow base 2 1 v n xs := by
  refine ⟨h.1, ?_⟩
  rcases h.2 with h | ⟨g, cap, cur, hv, h1, h2, h3⟩
  · exact .inl h
  · exact .inr ⟨g, cap, cur, hv, h1, (hb.block g (Array.getElem?_eq_some_iff.1 h2).1).trans h2, h3⟩
/-- A row of numbers that a growing list owns. -/
theorem owns_ints {w : World} {base : Nat} {v : Value} {l : List Int} (h : w.ownsRow base 2 1 v l.length (intsV l)) : ∃ A c, v = .slice A l.length c ∧ RobI base w A l ∧ l.length ≤ c := by
  rcases h.2 with ⟨hv, hn⟩ | ⟨g, cap, cur, hv, h1, h2, h3, h4, h5, h6⟩
  · refine ⟨none, 0, by rw [hv, hn], fun W hW => ⟨0, 0, fun h => by omega, fun i hi => by omega⟩, by omega⟩
  · refine ⟨_, cap, hv, fun W hW => ⟨g, 0, fun _ => rfl, fun i hi => ?_⟩, h3⟩
    have hrow := (hW g h1 (Array.getElem?_eq_some_iff.1 h2).1).trans h2
    have hcur : cur[i]? = some (.int .i64 l[i]) := by
      have h7 : (cur.toList.take (l.length * 1))[i]? = (intsV l)[i]? := by rw [h6]
      rw [List.getElem?_take_of_lt (by omega)] at h7
      have h8 : (intsV l)[i]? = some (.int .i64 l[i]) := by simp [hi]
      rw [← h8, ← h7]; simp
    rw [Nat.zero_add]
    simpa [World.cell?, hrow] using hcur
theorem news1 (W : World) (x : Int) (bk : Nat) (hb : bk = W.heap.size) :
    ∀ (j : Nat) (u : Value), ([.int .i64 x] : List Value)[j]? = some u → (W.alloc (.cells #[.int .i64 x] 2)).cell? ((⟨bk, 0, none⟩ : Addr).add j) = some u := by
  subst hb
  intro j u hj
  match j, hj with
  | 0, hj => simp at hj; subst hj; simp [go_sem, Addr.add]
set_option maxRecDepth 100000 in
set_option maxHeartbeats 4000000 in
theorem nhas_any (x y : VA) (K : Option Addr) (kc B : Nat) (n : Int) (w : World) (hk : LiesVs w K [x, y]) (hB : w.cell? ⟨B, 0, none⟩ = some (.slice K 2 kc)) (hl : y.v.st.length ≤ 10000) (ha : AscI y.v.st) :
    Calls Tryz.prog 152 #[.int .i64 n, .pointer (some ⟨B, 0, none⟩)] w fun e w' => e = .returned (.bool (!decide (n ∈ y.v.st))) ∧ RowKit.Below w.heap.size w w' := by
  obtain ⟨b, o, hb, hc⟩ := hk.at_
  have hb := hb (by simp)
  have hc1 := hc 1 (by simp)
  obtain ⟨c0, c1, c2, c3, c4⟩ := hc1
  have hy : LiesV w y := hk.each 1 (by simp)
  have e1 : ([x, y] : List VA)[1]'(by simp) = y := rfl
  rw [e1] at c0 c1 c2 c3 c4
  simp only [Nat.one_mul] at c0 c1 c2 c3 c4
  have HY := Lib.hid hy
  have HA := Lib.hid ha
  rw [hb] at hB
  clear hk hc hy ha hb e1
  go_enter Tryz.func152, Tryz.ntmps152
  go_wp2_with fail
  refine (hasV_any y n _ HY.out hl HA.out).mono ?_
  rintro e w1 ⟨rfl, b1⟩
  have B1 := Lib.hid b1
  clear b1 c0 c1 c2 c3 c4 hB
  go_wp2_with fail
  go_ret
  exact ⟨rfl, B1.out⟩
set_option maxRecDepth 100000 in
set_option maxHeartbeats 4000000 in
theorem chosenIn_any (l : List Int) (x : VA) (A : Option Addr) (cap : Nat) (w : World) (hS : Ints w A l) (hl : l.length ≤ 10000) (hx : LiesV w x) (hxl : x.v.st.length ≤ 10000) (hxa : AscI x.v.st) :
    Calls Tryz.prog 150 #[.slice A l.length cap, .func (.func 151) #[vv x] #[]] w fun e w' => ∃ A' c, e = .returned (.slice A' (l.filter fun n => decide (n ∈ x.v.st)).length c) ∧ RobI w.heap.size w' A' (l.filter fun n => decide (n ∈ x.v.st)) ∧ (l.filter fun n => decide (n ∈ x.v.st)).length ≤ c ∧ RowKit.Below w.heap.size w w' := by
  obtain ⟨i0, hi, hz0, hz1, hz2⟩ := info_parts info2
  have I0 := Lib.hid hi
  have Z0 := Lib.hid hz0
  have Z1 := Lib.hid hz1
  have Z2 := Lib.hid hz2
  clear hi hz0 hz1 hz2
  have HS := Lib.hid hS
  obtain ⟨p, hpd⟩ : ∃ p : Int → Bool, p = fun n => decide (n ∈ x.v.st) := ⟨_, rfl⟩
  have KC := Lib.hid (fun (W' : World) (n : Int) (hb : RowKit.Below w.heap.size w W') => (show Calls Tryz.prog 151 #[vv x, .int .i64 n] W' fun e w' => e = .returned (.bool (p n)) ∧ RowKit.Below W'.heap.size W' w' from (by rw [hpd]; exact hasV_any x n W' (hx.later hb) hxl hxa)))
  rw [← hpd]
  clear hS hx hxa hpd
  go_enter Tryz.func150, Tryz.ntmps150
  go_wp2_with fail
  go_loopw [5, 10] (fun o i wr => ∃ k : Nat, k ≤ l.length ∧ i = .int .i64 k ∧ Hid (wr.ownsRow w.heap.size 2 1 o ((l.take k).filter p).length (intsV ((l.take k).filter p))) ∧ Hid (RowKit.Below w.heap.size w wr)) (fun _ i _ => l.length - (intOf i).toNat)
  case atStart => exact ⟨0, Nat.zero_le _, rfl, World.ownsRow_nil _ _ _ _, RowKit.Below.refl _ _⟩
  case round =>
    obtain ⟨k, hk, rfl, hown, hB⟩ := hrel
    by_cases hlt : k < l.length
    · obtain ⟨b, o, ha, hc⟩ := HS.out.later hB.out
      have ha := ha (by omega)
      have c0 := hc k hlt
      have htk : (l.take (k + 1)).filter p = (l.take k).filter p ++ [l[k]].filter p := by rw [List.take_succ_eq_append_getElem hlt, List.filter_append]
      have hle : ((l.take k).filter p).length ≤ k := Nat.le_trans (List.length_filter_le _ _) (by rw [List.length_take]; omega)
      have HTK := Lib.hid htk
      generalize l[k] = x0 at *
      generalize (l.take k).filter p = pre at *
      have HO0 := Lib.hid hown.out
      have Hg := Lib.hid hown.out.lt
      have L3 := Lib.hid (show pre.length + 1 ≤ maxLen by unfold maxLen; omega)
      have L4 := Lib.hid (show (pre.length + 1) * 8 ≤ 140737488355328 by omega)
      clear hc htk hown hle
      rw [ha] at *
      cases hp : p x0
      case false =>
        have Hp := Lib.hid hp
        have HF := Lib.hid (show (l.take (k + 1)).filter p = pre by rw [HTK.out, List.filter_cons_of_neg (by rw [hp]; simp)]; simp)
        clear hp
        go_wp2_with fail
        refine (KC.out _ x0 hB.out).mono ?_
        rintro e w3 ⟨rfl, b3⟩
        rw [Hp.out]
        have HB3 := Lib.hid b3
        clear b3 c0
        go_wp2_with fail
        go_roundw
        case rel => exact ⟨k + 1, by omega, by go_num, by rw [HF.out]; exact ownsI_below HO0.out HB3.out, hB.out.trans (HB3.out.mono hB.out.size)⟩
        case measure => simp [intOf]; omega
      case true =>
        have Hp := Lib.hid hp
        have HF := Lib.hid (show (l.take (k + 1)).filter p = pre ++ [x0] by rw [HTK.out, List.filter_cons_of_pos hp]; simp)
        clear hp
        go_wp2_with fail
        refine (KC.out _ x0 hB.out).mono ?_
        rintro e w3 ⟨rfl, b3⟩
        rw [Hp.out]
        have HB3 := Lib.hid b3
        have HS3 := Lib.hid (hB.out.trans (b3.mono hB.out.size))
        have HO := Lib.hid (fun O => ownsI_below HO0.out (show RowKit.Below wr.heap.size wr (w3.alloc O) from b3.alloc b3.size _))
        have HLB := Lib.hid (fun O => show w.heap.size ≤ (w3.alloc O).heap.size by have := HS3.out.size; rw [one_size]; omega)
        clear b3 c0
        go_wp2_with (at_builtin; refine wpList_append_own _ rfl _ _ 25 rfl w.heap.size 2 i0 (.int .i64 0) 1 8 Tryz.underlying25 I0.out Z0.out Z1.out Z2.out rfl (by decide) u5 pre.length (intsV pre) rfl (HO.out _) ⟨w3.heap.size, 0, none⟩ 1 1 [.int .i64 x0] rfl rfl (news1 _ _ _ rfl) (by simp [Value.oneCell']) L3.out L4.out (HLB.out _) ?_; intro v1 w4 hown1 hgrow1 _)
        have hBn : RowKit.Below w.heap.size w w4 := (HS3.out.alloc HS3.out.size _).grown hgrow1 (HLB.out _) (fun k e => (Hg.out k e).1)
        go_roundw
        case rel => exact ⟨k + 1, by omega, by go_num, by rw [HF.out, List.length_append]; exact (show w4.ownsRow w.heap.size 2 1 v1 (pre.length + [x0].length) (intsV (pre ++ [x0])) by simpa [intsV] using hown1), hBn⟩
        case measure => simp [intOf]; omega
    · have hown' := hown.out
      rw [List.take_of_length_le (by omega : l.length ≤ k)] at hown'
      obtain ⟨A', c', hv', hrob, hcap⟩ := owns_ints hown'
      subst hv'
      have HR := Lib.hid hrob
      have HC := Lib.hid hcap
      clear hown hown' hrob hcap
      go_wp2_with fail
      go_ret
      exact ⟨A', c', rfl, HR.out, HC.out, hB.out⟩
set_option maxRecDepth 100000 in
set_option maxHeartbeats 4000000 in
theorem chosenOut_any (l : List Int) (x y : VA) (K : Option Addr) (kc B : Nat) (A : Option Addr) (cap : Nat) (w : World) (hS : Ints w A l) (hl : l.length ≤ 10000) (hx : LiesVs w K [x, y]) (hP : w.cell? ⟨B, 0, none⟩ = some (.slice K 2 kc)) (hxl : y.v.st.length ≤ 10000) (hxa : AscI y.v.st) :
    Calls Tryz.prog 150 #[.slice A l.length cap, .func (.func 152) #[] #[.pointer (some ⟨B, 0, none⟩)]] w fun e w' => ∃ A' c, e = .returned (.slice A' (l.filter fun n => !decide (n ∈ y.v.st)).length c) ∧ RobI w.heap.size w' A' (l.filter fun n => !decide (n ∈ y.v.st)) ∧ (l.filter fun n => !decide (n ∈ y.v.st)).length ≤ c ∧ RowKit.Below w.heap.size w w' := by
  obtain ⟨i0, hi, hz0, hz1, hz2⟩ := info_parts info2
  have I0 := Lib.hid hi
  have Z0 := Lib.hid hz0
  have Z1 := Lib.hid hz1
  have Z2 := Lib.hid hz2
  clear hi hz0 hz1 hz2
  have HS := Lib.hid hS
  obtain ⟨p, hpd⟩ : ∃ p : Int → Bool, p = fun n => !decide (n ∈ y.v.st) := ⟨_, rfl⟩
  have KC := Lib.hid (fun (W' : World) (n : Int) (hb : RowKit.Below w.heap.size w W') => (show Calls Tryz.prog 152 #[.int .i64 n, .pointer (some ⟨B, 0, none⟩)] W' fun e w' => e = .returned (.bool (p n)) ∧ RowKit.Below W'.heap.size W' w' from (by rw [hpd]; exact nhas_any x y K kc B n W' (hx.later hb) ((hb.cell (World.block_lt_of_cell? _ _ hP)).trans hP) hxl hxa)))
  rw [← hpd]
  clear hS hx hxa hP hpd
  go_enter Tryz.func150, Tryz.ntmps150
  go_wp2_with fail
  go_loopw [5, 10] (fun o i wr => ∃ k : Nat, k ≤ l.length ∧ i = .int .i64 k ∧ Hid (wr.ownsRow w.heap.size 2 1 o ((l.take k).filter p).length (intsV ((l.take k).filter p))) ∧ Hid (RowKit.Below w.heap.size w wr)) (fun _ i _ => l.length - (intOf i).toNat)
  case atStart => exact ⟨0, Nat.zero_le _, rfl, World.ownsRow_nil _ _ _ _, RowKit.Below.refl _ _⟩
  case round =>
    obtain ⟨k, hk, rfl, hown, hB⟩ := hrel
    by_cases hlt : k < l.length
    · obtain ⟨b, o, ha, hc⟩ := HS.out.later hB.out
      have ha := ha (by omega)
      have c0 := hc k hlt
      have htk : (l.take (k + 1)).filter p = (l.take k).filter p ++ [l[k]].filter p := by rw [List.take_succ_eq_append_getElem hlt, List.filter_append]
      have hle : ((l.take k).filter p).length ≤ k := Nat.le_trans (List.length_filter_le _ _) (by rw [List.length_take]; omega)
      have HTK := Lib.hid htk
      generalize l[k] = x0 at *
      generalize (l.take k).filter p = pre at *
      have HO0 := Lib.hid hown.out
      have Hg := Lib.hid hown.out.lt
      have L3 := Lib.hid (show pre.length + 1 ≤ maxLen by unfold maxLen; omega)
      have L4 := Lib.hid (show (pre.length + 1) * 8 ≤ 140737488355328 by omega)
      clear hc htk hown hle
      rw [ha] at *
      cases hp : p x0
      case false =>
        have Hp := Lib.hid hp
        have HF := Lib.hid (show (l.take (k + 1)).filter p = pre by rw [HTK.out, List.filter_cons_of_neg (by rw [hp]; simp)]; simp)
        clear hp
        go_wp2_with fail
        refine (KC.out _ x0 hB.out).mono ?_
        rintro e w3 ⟨rfl, b3⟩
        rw [Hp.out]
        have HB3 := Lib.hid b3
        clear b3 c0
        go_wp2_with fail
        go_roundw
        case rel => exact ⟨k + 1, by omega, by go_num, by rw [HF.out]; exact ownsI_below HO0.out HB3.out, hB.out.trans (HB3.out.mono hB.out.size)⟩
        case measure => simp [intOf]; omega
      case true =>
        have Hp := Lib.hid hp
        have HF := Lib.hid (show (l.take (k + 1)).filter p = pre ++ [x0] by rw [HTK.out, List.filter_cons_of_pos hp]; simp)
        clear hp
        go_wp2_with fail
        refine (KC.out _ x0 hB.out).mono ?_
        rintro e w3 ⟨rfl, b3⟩
        rw [Hp.out]
        have HB3 := Lib.hid b3
        have HS3 := Lib.hid (hB.out.trans (b3.mono hB.out.size))
        have HO := Lib.hid (fun O => ownsI_below HO0.out (show RowKit.Below wr.heap.size wr (w3.alloc O) from b3.alloc b3.size _))
        have HLB := Lib.hid (fun O => show w.heap.size ≤ (w3.alloc O).heap.size by have := HS3.out.size; rw [one_size]; omega)
        clear b3 c0
        go_wp2_with (at_builtin; refine wpList_append_own _ rfl _ _ 25 rfl w.heap.size 2 i0 (.int .i64 0) 1 8 Tryz.underlying25 I0.out Z0.out Z1.out Z2.out rfl (by decide) u5 pre.length (intsV pre) rfl (HO.out _) ⟨w3.heap.size, 0, none⟩ 1 1 [.int .i64 x0] rfl rfl (news1 _ _ _ rfl) (by simp [Value.oneCell']) L3.out L4.out (HLB.out _) ?_; intro v1 w4 hown1 hgrow1 _)
        have hBn : RowKit.Below w.heap.size w w4 := (HS3.out.alloc HS3.out.size _).grown hgrow1 (HLB.out _) (fun k e => (Hg.out k e).1)
        go_roundw
        case rel => exact ⟨k + 1, by omega, by go_num, by rw [HF.out, List.length_append]; exact (show w4.ownsRow w.heap.size 2 1 v1 (pre.length + [x0].length) (intsV (pre ++ [x0])) by simpa [intsV] using hown1), hBn⟩
        case measure => simp [intOf]; omega
    · have hown' := hown.out
      rw [List.take_of_length_le (by omega : l.length ≤ k)] at hown'
      obtain ⟨A', c', hv', hrob, hcap⟩ := owns_ints hown'
      subst hv'
      have HR := Lib.hid hrob
      have HC := Lib.hid hcap
      clear hown hown' hrob hcap
      go_wp2_with fail
      go_ret
      exact ⟨A', c', rfl, HR.out, HC.out, hB.out⟩
end Go.Proofs.YtmeeombadkgneaaGreat
namespace Go.Proofs.YtmeeombadkgneaaGreat
open Go.Proofs Go.RowKit Go.Shelf Go.Sort Go.Lib

attribute [local go_sem] Oper.semAt_some
set_option maxRecDepth 100000 in
set_option maxHeartbeats 4000000 in
theorem growZero_any (w : World) : Calls Tryz.prog 159 #[.slice none 0 0, .int .i64 0] w fun e w' => e = .returned (.slice none 0 0) ∧ w = w' := by
  go_enter Tryz.func159, Tryz.ntmps159
  go_wp2_with fail
  go_ret
  exact ⟨rfl, rfl⟩
set_option maxRecDepth 100000 in
set_option maxHeartbeats 4000000 in
theorem growNil_any (n : Nat) (h0 : 0 < n) (hn : n ≤ 1000000) (w : World) :
    Calls Tryz.prog 159 #[.slice none 0 0, .int .i64 n] w fun e w' => ∃ v, e = .returned v ∧ w'.ownsRow w.heap.size 2 1 v 0 [] ∧ RowKit.Below w.heap.size w w' := by
  obtain ⟨i0, hi, hz0, hz1, hz2⟩ := info_parts info2
  have hrz : ∀ ty, (Builtin.append_ #[25, 3] ty #[.slice none 0 0, .int .i64 (n : Int)]).run Tryz.prog w =
      .ok (.slice (some ⟨w.heap.size, 0, none⟩) n (grownCap w n 0 2)) (w.drew.alloc (.cells ((#[] : Array Value) ++ Builtin.zeroCells (Value.int .i64 0).cells n ++ Builtin.zeroCells (Value.int .i64 0).cells (grownCap w n 0 2 - n)) 2)) := fun ty => by
    have h := Lib.run_append_grow_zeros w 25 3 ty 2 i0 (.int .i64 0) .i64 .i64 Tryz.underlying25 Tryz.underlying3 hi hz0 none 0 0 [] (run_firstCells_none w.drew i0.size 0 0 0) n h0 (by omega) (by omega) (by omega)
      (by rw [hz2]; omega) (by rw [hz2]; exact growslice_fits (by omega) (by omega))
    rw [Nat.zero_add] at h
    exact h
  have hsz : ∀ G, n ≤ G → ((#[] : Array Value) ++ Builtin.zeroCells (Value.int .i64 0).cells n ++ Builtin.zeroCells (Value.int .i64 0).cells (G - n)).size = G := by
    intro G hG
    have hz : ∀ m, (Builtin.zeroCells (Value.int .i64 0).cells m).size = m := fun m => by rw [size_zeroCells]; simp [Value.cells]
    rw [Array.size_append, Array.size_append, hz, hz]
    simp; omega
  have hGn := grownCap_ge w n 0 2
  have hGm := grownCap_le_maxLen w n 0 2 (by unfold maxLen; omega)
  have hp : decide ((0 : Int) < (n : Int)) = true := decide_eq_true (by omega)
  have hneg : decide ((n : Int) < 0) = false := decide_eq_false (by omega)
  generalize grownCap w n 0 2 = G at *
  have HSZ := Lib.hid (hsz G hGn)
  generalize ((#[] : Array Value) ++ Builtin.zeroCells (Value.int .i64 0).cells n ++ Builtin.zeroCells (Value.int .i64 0).cells (G - n)) = cur at *
  have HGM := Lib.hid hGm
  clear hsz hGm hi hz0 hz1 hz2
  go_enter Tryz.func159, Tryz.ntmps159
  go_wp2_with (at_builtin; refine Lib.wpList_append_run _ rfl _ _ _ _ rfl _ _ rfl rfl _ _ (hrz _) ?_)
  go_ret
  refine ⟨_, rfl, ⟨rfl, .inr ⟨w.heap.size, G, cur, rfl, Nat.le_refl _, heap_alloc_new w.drew _, Nat.zero_le _, HGM.out, by rw [HSZ.out, Nat.mul_one], by simp⟩⟩, (RowKit.Below.refl _ _).drew.alloc (Nat.le_refl _) _⟩
theorem growAny_any (n : Nat) (hn : n ≤ 1000000) (w : World) :
    Calls Tryz.prog 159 #[.slice none 0 0, .int .i64 n] w fun e w' => ∃ v, e = .returned v ∧ w'.ownsRow w.heap.size 2 1 v 0 [] ∧ RowKit.Below w.heap.size w w' := by
  by_cases h0 : 0 < n
  · exact growNil_any n h0 hn w
  · obtain rfl : n = 0 := by omega
    refine (growZero_any w).mono ?_
    rintro e w' ⟨rfl, rfl⟩
    exact ⟨_, rfl, World.ownsRow_nil _ _ _ _, RowKit.Below.refl _ _⟩
theorem run_append_owned_nil {P : Program} {w : World} (base : Nat) (t ty e : TypeId) (i : TypeInfo) (size c : Nat) (ht : P.underlying t = some (.slice e)) (hi : P.info? e = some i)
    (v : Value) (n : Nat) (xs : List Value) (hown : w.ownsRow base e size v n xs) :
    (Builtin.append_ #[t, t] ty #[v, .slice none 0 c]).run P w = .ok v w := by
  rcases hown.2 with ⟨rfl, rfl⟩ | ⟨g, cap, cur, rfl, _, _, hnc, _⟩
  · simp [Builtin.append_, run_underlying ht, Go.sizeOf, typeInfo, hi, Builtin.lenOf, Builtin.firstCells]
  · simp [Builtin.append_, run_underlying ht, Go.sizeOf, typeInfo, hi, Builtin.lenOf, Builtin.firstCells, hnc, storeCells]
/-- A list of numbers and where it lies. -/
structure PI where
  A : Option Addr
  l : List Int
  c : Nat
def allI (ps : List PI) : List Int := (ps.map PI.l).flatten
theorem allI_snoc (ps : List PI) (p : PI) : allI (ps ++ [p]) = allI ps ++ p.l := by simp [allI]
theorem intsV_append (a b : List Int) : intsV (a ++ b) = intsV a ++ intsV b := by simp [intsV]
set_option maxRecDepth 100000 in
set_option maxHeartbeats 4000000 in
theorem concat_any (ps : List PI) (G cap : Nat) (w : World) (hps : ps.length ≤ 10) (hrow : ∀ i (h : i < ps.length), w.cell? ⟨G, i, none⟩ = some (.slice ps[i].A ps[i].l.length ps[i].c)) (hI : ∀ i (h : i < ps.length), Ints w ps[i].A ps[i].l) (hsm : ∀ i (h : i < ps.length), ps[i].l.length ≤ 100000) :
    Calls Tryz.prog 146 #[.slice (some ⟨G, 0, none⟩) ps.length cap] w fun e w' => ∃ A' c, e = .returned (.slice A' (allI ps).length c) ∧ RobI w.heap.size w' A' (allI ps) ∧ (allI ps).length ≤ c ∧ RowKit.Below w.heap.size w w' := by
  obtain ⟨i0, hi, hz0, hz1, hz2⟩ := info_parts info2
  have I0 := Lib.hid hi
  have Z0 := Lib.hid hz0
  have Z1 := Lib.hid hz1
  have Z2 := Lib.hid hz2
  clear hi hz0 hz1 hz2
  have HR := Lib.hid hrow
  have HI := Lib.hid hI
  have HS := Lib.hid hsm
  have hall : ∀ k, k ≤ ps.length → (allI (ps.take k)).length ≤ k * 100000 := by
    intro k hk
    induction k with
    | zero => simp [allI]
    | succ k ih =>
      rw [List.take_succ_eq_append_getElem (by omega), allI_snoc, List.length_append]
      have := ih (by omega)
      have := hsm k (by omega)
      omega
  have HALL := Lib.hid hall
  clear hrow hI hsm hall
  go_enter Tryz.func146, Tryz.ntmps146
  go_wp2_with fail
  go_loopw [3, 11] (fun s i wr => ∃ k : Nat, k ≤ ps.length ∧ i = .int .i64 k ∧ s = .int .i64 ((allI (ps.take k)).length : Nat) ∧ w = wr) (fun _ i _ => ps.length - (intOf i).toNat)
  case atStart => exact ⟨0, Nat.zero_le _, rfl, rfl, rfl⟩
  case round =>
    obtain ⟨k, hk, rfl, rfl, rfl⟩ := hrel
    have hb := HALL.out k hk
    by_cases hlt : k < ps.length
    · have c0 := HR.out k hlt
      have htk := Lib.hid (show (allI (ps.take (k + 1))).length = (allI (ps.take k)).length + ps[k].l.length by rw [List.take_succ_eq_append_getElem hlt, allI_snoc, List.length_append])
      have hs := HS.out k hlt
      generalize (allI (ps.take k)).length = n at *
      generalize ps[k] = p at *
      have hneg : decide ((n : Int) + (p.l.length : Int) < 0) = false := decide_eq_false (by omega)
      go_wp2_with fail
      go_roundw
      case rel => exact ⟨k + 1, by omega, by go_num, by rw [htk.out]; go_num, by first | trivial | rfl⟩
      case measure => simp [intOf]; omega
    · have htk : ps.take k = ps := List.take_of_length_le (by omega)
      rw [htk] at hb ⊢
      clear htk
      have hnn : (allI ps).length ≤ 1000000 := by omega
      have GR := Lib.hid (growAny_any (allI ps).length hnn w)
      have HAL := Lib.hid HALL.out
      clear hb hnn
      go_wp2_with fail
      refine GR.out.mono ?_
      rintro e w1 ⟨v, rfl, hown, b1⟩
      have HO1 := Lib.hid hown
      have B1 := Lib.hid b1
      clear hown b1 GR
      go_wp2_with fail
      go_loopw [6, 27] (fun o i wr => ∃ k : Nat, k ≤ ps.length ∧ i = .int .i64 k ∧ Hid (wr.ownsRow w.heap.size 2 1 o (allI (ps.take k)).length (intsV (allI (ps.take k)))) ∧ Hid (RowKit.Below w.heap.size w wr)) (fun _ i _ => ps.length - (intOf i).toNat)
      case atStart => exact ⟨0, Nat.zero_le _, rfl, HO1.out, B1.out⟩
      case round =>
        obtain ⟨k, hk, rfl, hown, hB⟩ := hrel
        have hb := HAL.out k hk
        by_cases hlt : k < ps.length
        · have c0 := HR.out k hlt
          have hGlt : G < w.heap.size := World.block_lt_of_cell? _ _ c0
          have c1 : wr.cell? ⟨G, k, none⟩ = _ := (hB.out.cell (p := ⟨G, k, none⟩) hGlt).trans c0
          have htk := Lib.hid (show allI (ps.take (k + 1)) = allI (ps.take k) ++ ps[k].l by rw [List.take_succ_eq_append_getElem hlt, allI_snoc])
          have hs := HS.out k hlt
          have HIk := Lib.hid (HI.out k hlt)
          generalize allI (ps.take k) = pre at *
          generalize ps[k] = p at *
          have HO := Lib.hid hown.out
          have Hg := Lib.hid hown.out.lt
          have L3 := Lib.hid (show pre.length + p.l.length ≤ maxLen by unfold maxLen; omega)
          have L4 := Lib.hid (show (pre.length + p.l.length) * 8 ≤ 140737488355328 by omega)
          have HSZ := Lib.hid hB.out.size
          clear hown c0
          cases hA : p.A with
          | none =>
            have hpl : p.l = [] := by
              obtain ⟨b, o, ha, _⟩ := HIk.out
              by_cases h0 : 0 < p.l.length
              · have := ha h0; rw [hA] at this; cases this
              · exact List.eq_nil_of_length_eq_zero (by omega)
            have HF := Lib.hid (show allI (ps.take (k + 1)) = pre by rw [htk.out, hpl, List.append_nil])
            rw [hA, hpl] at c1
            have hrun := fun ty => run_append_owned_nil (P := Tryz.prog) (w := wr) w.heap.size 25 ty 2 i0 1 p.c Tryz.underlying25 I0.out u6 _ _ HO.out
            clear hA hpl L3 L4
            go_wp2_with (at_builtin; refine Lib.wpList_append_run _ rfl _ _ _ _ rfl _ _ rfl rfl _ _ (hrun _) ?_)
            go_roundw
            case rel => exact ⟨k + 1, by omega, by go_num, by rw [HF.out]; exact HO.out, hB.out⟩
            case measure => simp [intOf]; omega
          | some a =>
            rw [hA] at c1
            have HNW := Lib.hid (show ∀ j u, (intsV p.l)[j]? = some u → wr.cell? (a.add j) = some u from by
              intro j u hj
              obtain ⟨b, o, ha, hc⟩ := (HIk.out.later hB.out)
              have hjl : j < p.l.length := by
                have := (List.getElem?_eq_some_iff.1 hj).1
                simpa using this
              have ha := ha (by omega)
              rw [hA] at ha
              injection ha with ha
              subst ha
              have h1 := hc j hjl
              have h2 : (intsV p.l)[j]? = some (.int .i64 p.l[j]) := by simp [hjl]
              rw [h2] at hj
              injection hj with hj
              subst hj
              rw [Addr.add_lit]
              exact h1)
            have H1 := Lib.hid (show ∀ u ∈ intsV p.l, u.oneCell' = true from fun u hu => by obtain ⟨x, _, rfl⟩ := List.mem_map.1 hu; rfl)
            have HLN := Lib.hid (show (intsV p.l).length = p.l.length * 1 by simp)
            clear hA
            go_wp2_with (at_builtin; refine wpList_append_own _ rfl _ _ 25 rfl w.heap.size 2 i0 (.int .i64 0) 1 8 Tryz.underlying25 I0.out Z0.out Z1.out Z2.out rfl (by decide) u6 pre.length (intsV pre) rfl HO.out a p.l.length p.c (intsV p.l) rfl HLN.out HNW.out H1.out L3.out L4.out HSZ.out ?_; intro v1 w4 hown1 hgrow1 _)
            have hBn : RowKit.Below w.heap.size w w4 := hB.out.grown hgrow1 HSZ.out (fun k e => (Hg.out k e).1)
            go_roundw
            case rel => exact ⟨k + 1, by omega, by go_num, by rw [htk.out, List.length_append, intsV_append]; exact hown1, hBn⟩
            case measure => simp [intOf]; omega
        · have htk : ps.take k = ps := List.take_of_length_le (by omega)
          have hown' := hown.out
          rw [htk] at hown'
          obtain ⟨A', c', hv', hrob, hcap⟩ := owns_ints hown'
          subst hv'
          have HRB := Lib.hid hrob
          have HC := Lib.hid hcap
          clear hown hown' hrob htk hb hcap
          go_wp2_with fail
          go_ret
          exact ⟨A', c', rfl, HRB.out, HC.out, hB.out⟩
end Go.Proofs.YtmeeombadkgneaaGreat
namespace Go.Proofs.YtmeeombadkgneaaGreat
open Go.Proofs Go.RowKit Go.Shelf Go.Sort Go.Lib

attribute [local go_sem] Oper.semAt_some
/-- Two ascending lists merged. -/
def uniI : List Int → List Int → List Int
  | [], b => b
  | x :: a, [] => x :: a
  | x :: a, y :: b => if x < y then x :: uniI a (y :: b) else if y < x then y :: uniI (x :: a) b else x :: uniI a b
termination_by a b => a.length + b.length
theorem uniI_nil_right (a : List Int) : uniI a [] = a := by cases a <;> rw [uniI]
theorem uniI_lt {x y : Int} (a b : List Int) (h : x < y) : uniI (x :: a) (y :: b) = x :: uniI a (y :: b) := by rw [uniI, if_pos h]
theorem uniI_gt {x y : Int} (a b : List Int) (h : y < x) : uniI (x :: a) (y :: b) = y :: uniI (x :: a) b := by rw [uniI, if_neg (by omega), if_pos h]
theorem uniI_eq {x y : Int} (a b : List Int) (h : x = y) : uniI (x :: a) (y :: b) = x :: uniI a b := by subst h; rw [uniI, if_neg (by omega), if_neg (by omega)]
theorem uniI_len : ∀ (n : Nat) (a b : List Int), a.length + b.length ≤ n → (uniI a b).length ≤ a.length + b.length
  | _, [], b, _ => by rw [uniI]; simp
  | _, x :: a, [], _ => by rw [uniI]; simp
  | 0, x :: a, y :: b, h => by simp at h
  | n + 1, x :: a, y :: b, h => by
    rw [uniI]
    simp only [List.length_cons] at h
    split
    · have := uniI_len n a (y :: b) (by simp only [List.length_cons]; omega)
      simp only [List.length_cons] at *; omega
    · split
      · have := uniI_len n (x :: a) b (by simp only [List.length_cons]; omega)
        simp only [List.length_cons] at *; omega
      · have := uniI_len n a b (by omega)
        simp only [List.length_cons] at *; omega
theorem uniI_mem : ∀ (n : Nat) (a b : List Int), a.length + b.length ≤ n → ∀ z, z ∈ uniI a b ↔ z ∈ a ∨ z ∈ b
  | _, [], b, _, z => by rw [uniI]; simp
  | _, x :: a, [], _, z => by rw [uniI]; simp
  | 0, x :: a, y :: b, h, _ => by simp at h
  | n + 1, x :: a, y :: b, h, z => by
    rw [uniI]
    simp only [List.length_cons] at h
    split
    · rw [List.mem_cons, uniI_mem n a (y :: b) (by simp only [List.length_cons]; omega) z]
      simp [or_assoc]
    · split
      · rw [List.mem_cons, uniI_mem n (x :: a) b (by simp only [List.length_cons]; omega) z]
        simp only [List.mem_cons]
        constructor
        · rintro (h | (h | h) | h) <;> simp [h]
        · rintro ((h | h) | h | h) <;> simp [h]
      · have e : x = y := by omega
        subst e
        rw [List.mem_cons, uniI_mem n a b (by omega) z]
        simp only [List.mem_cons]
        constructor
        · rintro (h | h | h) <;> simp [h]
        · rintro ((h | h) | h | h) <;> simp [h]
theorem uniI_asc : ∀ (n : Nat) (a b : List Int), a.length + b.length ≤ n → AscI a → AscI b → AscI (uniI a b)
  | _, [], b, _, _, h => by rw [uniI]; exact h
  | _, x :: a, [], _, h, _ => by rw [uniI]; exact h
  | 0, x :: a, y :: b, h, _, _ => by simp at h
  | n + 1, x :: a, y :: b, h, ha, hb => by
    rw [uniI]
    simp only [List.length_cons] at h
    have ha' := List.pairwise_cons.1 ha
    have hb' := List.pairwise_cons.1 hb
    split
    · rename_i hlt
      refine List.pairwise_cons.2 ⟨fun z hz => ?_, uniI_asc n a (y :: b) (by simp only [List.length_cons]; omega) ha'.2 hb⟩
      rcases (uniI_mem n a (y :: b) (by simp only [List.length_cons]; omega) z).1 hz with h | h
      · exact ha'.1 z h
      · rcases List.mem_cons.1 h with rfl | h
        · exact hlt
        · exact Int.lt_trans hlt (hb'.1 z h)
    · split
      · rename_i hlt
        refine List.pairwise_cons.2 ⟨fun z hz => ?_, uniI_asc n (x :: a) b (by simp only [List.length_cons]; omega) ha hb'.2⟩
        rcases (uniI_mem n (x :: a) b (by simp only [List.length_cons]; omega) z).1 hz with h | h
        · rcases List.mem_cons.1 h with rfl | h
          · exact hlt
          · exact Int.lt_trans hlt (ha'.1 z h)
        · exact hb'.1 z h
      · have e : x = y := by omega
        subst e
        refine List.pairwise_cons.2 ⟨fun z hz => ?_, uniI_asc n a b (by omega) ha'.2 hb'.2⟩
        rcases (uniI_mem n a b (by omega) z).1 hz with h | h
        · exact ha'.1 z h
        · exact hb'.1 z h
/-- Two ascending lists with the same numbers are one. -/
theorem asc_ext : ∀ {l m : List Int}, AscI l → AscI m → (∀ z, z ∈ l ↔ z ∈ m) → l = m
  | [], [], _, _, _ => rfl
  | [], y :: m, _, _, h => by have := (h y).2 (by simp); simp at this
  | x :: l, [], _, _, h => by have := (h x).1 (by simp); simp at this
  | x :: l, y :: m, hl, hm, h => by
    have hl' := List.pairwise_cons.1 hl
    have hm' := List.pairwise_cons.1 hm
    have e : x = y := by
      have h1 := (h x).1 (by simp)
      have h2 := (h y).2 (by simp)
      rcases List.mem_cons.1 h1 with e | h1
      · exact e
      · rcases List.mem_cons.1 h2 with e | h2
        · exact e.symm
        · have := hl'.1 y h2
          have := hm'.1 x h1
          omega
    subst e
    have : l = m := asc_ext hl'.2 hm'.2 fun z => by
      have hz := h z
      simp only [List.mem_cons] at hz
      constructor
      · intro h1
        rcases hz.1 (.inr h1) with e | h2
        · subst e; have := hl'.1 z h1; omega
        · exact h2
      · intro h1
        rcases hz.2 (.inr h1) with e | h2
        · subst e; have := hm'.1 z h1; omega
        · exact h2
    rw [this]
def lenS : Value → Nat
  | .slice _ n _ => n
  | _ => 0
theorem ints_tail {w : World} {b o : Nat} {x : Int} {l : List Int} (h : ∀ i (hi : i < (x :: l).length), w.cell? ⟨b, o + i, none⟩ = some (.int .i64 (x :: l)[i])) : Ints w (some ⟨b, o + 1, none⟩) l :=
  ⟨b, o + 1, fun _ => rfl, fun i hi => by have := h (i + 1) (by simp; omega); rw [show o + 1 + i = o + (i + 1) by omega]; simpa using this⟩
theorem ints_tail_if {w : World} {b o k : Nat} {x : Int} {l : List Int} (h : ∀ i (hi : i < (x :: l).length), w.cell? ⟨b, o + i, none⟩ = some (.int .i64 (x :: l)[i])) (hk : l.length + 1 ≤ k) : Ints w (if k = 1 then some ⟨b, o, none⟩ else some ⟨b, o + 1, none⟩) l := by
  split
  · obtain rfl : l = [] := List.eq_nil_of_length_eq_zero (by omega)
    exact ⟨0, 0, fun h => absurd h (by simp), fun i hi => absurd hi (by simp)⟩
  · exact ints_tail h
theorem concat3_any (A1 A2 A3 : Option Addr) (l1 l2 l3 : List Int) (c1 c2 c3 G cap : Nat) (w : World) (h0 : w.cell? ⟨G, 0, none⟩ = some (.slice A1 l1.length c1)) (h1 : w.cell? ⟨G, 1, none⟩ = some (.slice A2 l2.length c2)) (h2 : w.cell? ⟨G, 2, none⟩ = some (.slice A3 l3.length c3))
    (i1 : Ints w A1 l1) (i2 : Ints w A2 l2) (i3 : Ints w A3 l3) (s1 : l1.length ≤ 100000) (s2 : l2.length ≤ 100000) (s3 : l3.length ≤ 100000) :
    Calls Tryz.prog 146 #[.slice (some ⟨G, 0, none⟩) 3 cap] w fun e w' => ∃ A' c, e = .returned (.slice A' (l1 ++ (l2 ++ l3)).length c) ∧ RobI w.heap.size w' A' (l1 ++ (l2 ++ l3)) ∧ (l1 ++ (l2 ++ l3)).length ≤ c ∧ RowKit.Below w.heap.size w w' := by
  have h := concat_any [⟨A1, l1, c1⟩, ⟨A2, l2, c2⟩, ⟨A3, l3, c3⟩] G cap w (by simp)
    (fun i hi => by
      match i, hi with
      | 0, _ => exact h0
      | 1, _ => exact h1
      | 2, _ => exact h2)
    (fun i hi => by
      match i, hi with
      | 0, _ => exact i1
      | 1, _ => exact i2
      | 2, _ => exact i3)
    (fun i hi => by
      match i, hi with
      | 0, _ => exact s1
      | 1, _ => exact s2
      | 2, _ => exact s3)
  have e : allI [⟨A1, l1, c1⟩, ⟨A2, l2, c2⟩, ⟨A3, l3, c3⟩] = l1 ++ (l2 ++ l3) := by simp [allI]
  rw [e] at h
  exact h
set_option maxRecDepth 100000 in
set_option maxHeartbeats 4000000 in
theorem union_any (la lb : List Int) (A B : Option Addr) (ca cb : Nat) (w : World) (hA : Ints w A la) (hB : Ints w B lb) (hca : la.length ≤ ca) (hcb : lb.length ≤ cb) (hla : la.length ≤ 10000) (hlb : lb.length ≤ 10000) :
    Calls Tryz.prog 149 #[.slice A la.length ca, .slice B lb.length cb] w fun e w' => ∃ A' c, e = .returned (.slice A' (uniI la lb).length c) ∧ RobI w.heap.size w' A' (uniI la lb) ∧ (uniI la lb).length ≤ c ∧ RowKit.Below w.heap.size w w' := by
  obtain ⟨i0, hi, hz0, hz1, hz2⟩ := info_parts info2
  have I0 := Lib.hid hi
  have Z0 := Lib.hid hz0
  have Z1 := Lib.hid hz1
  have Z2 := Lib.hid hz2
  clear hi hz0 hz1 hz2
  have HA := Lib.hid hA
  have HB := Lib.hid hB
  have HCA := Lib.hid hca
  have HCB := Lib.hid hcb
  have HLU := Lib.hid (uniI_len _ la lb (Nat.le_refl _))
  clear hA hB hca hcb
  go_enter Tryz.func149, Tryz.ntmps149
  go_wp2_with fail
  go_loopw [0, 1, 5] (fun s0 s1 o wr => ∃ (xa xb pre : List Int) (Aa Ab : Option Addr) (ka kb : Nat), s0 = .slice Aa xa.length ka ∧ s1 = .slice Ab xb.length kb ∧ Hid (xa.length ≤ ka) ∧ Hid (xb.length ≤ kb) ∧ Hid (Ints w Aa xa) ∧ Hid (Ints w Ab xb) ∧ Hid (uniI la lb = pre ++ uniI xa xb) ∧ Hid (xa.length ≤ 10000 ∧ xb.length ≤ 10000) ∧ Hid (wr.ownsRow w.heap.size 2 1 o pre.length (intsV pre)) ∧ Hid (RowKit.Below w.heap.size w wr)) (fun s0 s1 _ _ => lenS s0 + lenS s1)
  case atStart => exact ⟨la, lb, [], A, B, ca, cb, rfl, rfl, HCA.out, HCB.out, HA.out, HB.out, rfl, ⟨hla, hlb⟩, World.ownsRow_nil _ _ _ _, RowKit.Below.refl _ _⟩
  case round =>
    obtain ⟨xa, xb, pre, Aa, Ab, ka, kb, rfl, rfl, h1, h2, hIa, hIb, hu, hlen, hown, hBr⟩ := hrel
    have hpl : pre.length ≤ 20000 := by
      have := HLU.out
      rw [hu.out, List.length_append] at this
      omega
    match xa, xb with
    | [], xb =>
      obtain ⟨Al, cl, hv, hrob, hcl⟩ := owns_ints hown.out
      subst hv
      have HRB := Lib.hid hrob
      have HU := Lib.hid (show uniI la lb = pre ++ (([] : List Int) ++ xb) from hu.out.trans (by rw [uniI, List.nil_append]))
      have HCC := Lib.hid (fun O W' (hW : W' = wr.alloc O) (h0 : W'.cell? ⟨wr.heap.size, 0, none⟩ = some (.slice Al pre.length cl)) (h1 : W'.cell? ⟨wr.heap.size, 1, none⟩ = some (.slice Aa ([] : List Int).length ka)) (h2 : W'.cell? ⟨wr.heap.size, 2, none⟩ = some (.slice Ab (xb).length kb)) => concat3_any Al Aa Ab pre ([] : List Int) (xb) cl ka kb wr.heap.size 3 W' h0 h1 h2 (by rw [hW]; exact hrob.here.later ((RowKit.Below.refl _ _).alloc (Nat.le_refl _) _)) (by rw [hW]; exact hIa.out.later (hBr.out.alloc hBr.out.size _)) (by rw [hW]; exact hIb.out.later (hBr.out.alloc hBr.out.size _)) (by omega) (Nat.le_trans hlen.out.1 (by omega)) (Nat.le_trans hlen.out.2 (by omega)))
      clear hown hrob hcl hpl hu
      skip
      go_wp2_with fail
      refine (HCC.out _ _ rfl (by simp [go_sem]) (by simp [go_sem]) (by simp [go_sem])).mono ?_
      rintro e w2 ⟨A', c', rfl, hr2, hc2, b2⟩
      rw [← HU.out] at hr2 hc2 ⊢
      have HR2 := Lib.hid hr2
      have HC2 := Lib.hid hc2
      have HB2 := Lib.hid (hBr.out.alloc hBr.out.size (.cells #[.slice Al pre.length cl, .slice Aa ([] : List Int).length ka, .slice Ab (xb).length kb] 25))
      have B2 := Lib.hid b2
      clear hr2 hc2 b2
      go_wp2_with fail
      go_ret
      exact ⟨A', c', rfl, fun W hW => HR2.out W fun k h1 h2 => hW k (Nat.le_trans HB2.out.size h1) h2, HC2.out, HB2.out.trans (B2.out.mono HB2.out.size)⟩
    | x :: xa, [] =>
      obtain ⟨Al, cl, hv, hrob, hcl⟩ := owns_ints hown.out
      subst hv
      have HRB := Lib.hid hrob
      have HU := Lib.hid (show uniI la lb = pre ++ ((x :: xa) ++ ([] : List Int)) from hu.out.trans (by rw [uniI_nil_right, List.append_nil]))
      have HCC := Lib.hid (fun O W' (hW : W' = wr.alloc O) (h0 : W'.cell? ⟨wr.heap.size, 0, none⟩ = some (.slice Al pre.length cl)) (h1 : W'.cell? ⟨wr.heap.size, 1, none⟩ = some (.slice Aa (x :: xa).length ka)) (h2 : W'.cell? ⟨wr.heap.size, 2, none⟩ = some (.slice Ab ([] : List Int).length kb)) => concat3_any Al Aa Ab pre (x :: xa) ([] : List Int) cl ka kb wr.heap.size 3 W' h0 h1 h2 (by rw [hW]; exact hrob.here.later ((RowKit.Below.refl _ _).alloc (Nat.le_refl _) _)) (by rw [hW]; exact hIa.out.later (hBr.out.alloc hBr.out.size _)) (by rw [hW]; exact hIb.out.later (hBr.out.alloc hBr.out.size _)) (by omega) (Nat.le_trans hlen.out.1 (by omega)) (Nat.le_trans hlen.out.2 (by omega)))
      clear hown hrob hcl hpl hu
      have p1 : decide ((0 : Int) < (xa.length : Int) + 1) = true := decide_eq_true (by omega)
      go_wp2_with fail
      refine (HCC.out _ _ rfl (by simp [go_sem]) (by simp [go_sem]) (by simp [go_sem])).mono ?_
      rintro e w2 ⟨A', c', rfl, hr2, hc2, b2⟩
      rw [← HU.out] at hr2 hc2 ⊢
      have HR2 := Lib.hid hr2
      have HC2 := Lib.hid hc2
      have HB2 := Lib.hid (hBr.out.alloc hBr.out.size (.cells #[.slice Al pre.length cl, .slice Aa (x :: xa).length ka, .slice Ab ([] : List Int).length kb] 25))
      have B2 := Lib.hid b2
      clear hr2 hc2 b2
      go_wp2_with fail
      go_ret
      exact ⟨A', c', rfl, fun W hW => HR2.out W fun k h1 h2 => hW k (Nat.le_trans HB2.out.size h1) h2, HC2.out, HB2.out.trans (B2.out.mono HB2.out.size)⟩
    | x :: xa, y :: xb =>
      obtain ⟨b, o, ha, hc⟩ := hIa.out
      have ha := ha (by simp)
      obtain ⟨b2, o2, ha2, hc2⟩ := hIb.out
      have ha2 := ha2 (by simp)
      have c0 := hc 0 (by simp)
      have d0 := hc2 0 (by simp)
      simp only [Nat.add_zero, List.getElem_cons_zero] at c0 d0
      have TA := Lib.hid (fun h => ints_tail_if (k := ka) hc h)
      have TB := Lib.hid (fun h => ints_tail_if (k := kb) hc2 h)
      have KA := Lib.hid (fun W' (h : RowKit.Below w.heap.size w W') => (h.cell (p := ⟨b, o, none⟩) (World.block_lt_of_cell? _ _ c0)).trans c0)
      have KB := Lib.hid (fun W' (h : RowKit.Below w.heap.size w W') => (h.cell (p := ⟨b2, o2, none⟩) (World.block_lt_of_cell? _ _ d0)).trans d0)
      have r0 := KA.out _ hBr.out
      have r1 := KB.out _ hBr.out
      have g1 := h1.out
      have g2 := h2.out
      have g3 := hlen.out
      simp only [List.length_cons] at g1 g2 g3
      have p1 : decide ((0 : Int) < (xa.length : Int) + 1) = true := decide_eq_true (by omega)
      have p2 : decide ((0 : Int) < (xb.length : Int) + 1) = true := decide_eq_true (by omega)
      have HO0 := Lib.hid hown.out
      have Hg := Lib.hid hown.out.lt
      have HSZ := Lib.hid hBr.out.size
      have hdr : RowKit.Below wr.heap.size wr wr.drew := ⟨rfl, rfl, rfl, Nat.le_refl _, fun _ _ => rfl⟩
      have HO := Lib.hid (fun O => ownsI_below HO0.out (show RowKit.Below wr.heap.size wr (wr.drew.alloc O) from hdr.alloc (Nat.le_refl _) _))
      have HLB := Lib.hid (fun O => show w.heap.size ≤ (wr.drew.alloc O).heap.size by have := HSZ.out; rw [one_size]; exact Nat.le_trans this (Nat.le_succ _))
      have L3 := Lib.hid (show pre.length + 1 ≤ maxLen by unfold maxLen; omega)
      have L4 := Lib.hid (show (pre.length + 1) * 8 ≤ 140737488355328 by omega)
      have IA := Lib.hid hIa.out
      have IB := Lib.hid hIb.out
      clear hc hc2 hown hpl c0 d0 hdr
      rw [ha] at *
      rw [ha2] at *
      have hIa' := IA.out
      have hIb' := IB.out
      rw [ha] at hIa'
      rw [ha2] at hIb'
      have HIA := Lib.hid hIa'
      have HIB := Lib.hid hIb'
      clear hIa' hIb'
      by_cases hlt : x < y
      · have hmin : min x y = x := by omega
        have e2 : (y == x) = false := by simp; omega
        go_wp2_with fail
        go_region
        all_goals
          go_wp2_with (at_builtin; refine wpList_append_own _ rfl _ _ 25 rfl w.heap.size 2 i0 (.int .i64 0) 1 8 Tryz.underlying25 I0.out Z0.out Z1.out Z2.out rfl (by decide) u5 pre.length (intsV pre) rfl (HO.out _) ⟨wr.heap.size, 0, none⟩ 1 1 [.int .i64 x] rfl rfl (news1 _ _ _ rfl) (by simp [Value.oneCell']) L3.out L4.out (HLB.out _) ?_; intro v1 w4 hown1 hgrow1 _; have hBn : RowKit.Below w.heap.size w w4 := ((hBr.out.drew).alloc HSZ.out _).grown hgrow1 (HLB.out _) (fun k e => (Hg.out k e).1); have q0 := KA.out _ hBn; have q1 := KB.out _ hBn; have HBn := Lib.hid hBn; have HW := Lib.hid hown1; clear hown1 hgrow1 hBn)
          go_roundw
          case rel => exact ⟨xa, y :: xb, pre ++ [x], _, _, _, _, rfl, rfl, (show xa.length ≤ _ by omega), (show (y :: xb).length ≤ _ by simp only [List.length_cons]; omega), TA.out g1, HIB.out, (hu.out.trans (by rw [uniI_lt _ _ hlt, List.append_assoc]; rfl)), ⟨by omega, by simp only [List.length_cons]; omega⟩, (by rw [List.length_append]; exact (show w4.ownsRow w.heap.size 2 1 v1 (pre.length + [x].length) (intsV (pre ++ [x])) by simpa [intsV] using HW.out)), HBn.out⟩
          case measure => first | (simp [lenS]; done) | (simp [lenS]; omega)
      · by_cases hgt : y < x
        · have hmin : min x y = y := by omega
          have e2 : (x == y) = false := by simp; omega
          go_wp2_with fail
          go_region
          all_goals
            go_wp2_with (at_builtin; refine wpList_append_own _ rfl _ _ 25 rfl w.heap.size 2 i0 (.int .i64 0) 1 8 Tryz.underlying25 I0.out Z0.out Z1.out Z2.out rfl (by decide) u5 pre.length (intsV pre) rfl (HO.out _) ⟨wr.heap.size, 0, none⟩ 1 1 [.int .i64 y] rfl rfl (news1 _ _ _ rfl) (by simp [Value.oneCell']) L3.out L4.out (HLB.out _) ?_; intro v1 w4 hown1 hgrow1 _; have hBn : RowKit.Below w.heap.size w w4 := ((hBr.out.drew).alloc HSZ.out _).grown hgrow1 (HLB.out _) (fun k e => (Hg.out k e).1); have q0 := KA.out _ hBn; have q1 := KB.out _ hBn; have HBn := Lib.hid hBn; have HW := Lib.hid hown1; clear hown1 hgrow1 hBn)
            go_roundw
            case rel => exact ⟨x :: xa, xb, pre ++ [y], _, _, _, _, rfl, rfl, (show (x :: xa).length ≤ _ by simp only [List.length_cons]; omega), (show xb.length ≤ _ by omega), HIA.out, TB.out g2, (hu.out.trans (by rw [uniI_gt _ _ hgt, List.append_assoc]; rfl)), ⟨by simp only [List.length_cons]; omega, by omega⟩, (by rw [List.length_append]; exact (show w4.ownsRow w.heap.size 2 1 v1 (pre.length + [y].length) (intsV (pre ++ [y])) by simpa [intsV] using HW.out)), HBn.out⟩
            case measure => first | (simp [lenS]; done) | (simp [lenS]; omega)
        · have hmin : min x y = x := by omega
          have e2 : (y == x) = true := by simp; omega
          go_wp2_with fail
          go_region
          all_goals
            go_wp2_with (at_builtin; refine wpList_append_own _ rfl _ _ 25 rfl w.heap.size 2 i0 (.int .i64 0) 1 8 Tryz.underlying25 I0.out Z0.out Z1.out Z2.out rfl (by decide) u5 pre.length (intsV pre) rfl (HO.out _) ⟨wr.heap.size, 0, none⟩ 1 1 [.int .i64 x] rfl rfl (news1 _ _ _ rfl) (by simp [Value.oneCell']) L3.out L4.out (HLB.out _) ?_; intro v1 w4 hown1 hgrow1 _; have hBn : RowKit.Below w.heap.size w w4 := ((hBr.out.drew).alloc HSZ.out _).grown hgrow1 (HLB.out _) (fun k e => (Hg.out k e).1); have q0 := KA.out _ hBn; have q1 := KB.out _ hBn; have HBn := Lib.hid hBn; have HW := Lib.hid hown1; clear hown1 hgrow1 hBn)
            go_roundw
            case rel => exact ⟨xa, xb, pre ++ [x], _, _, _, _, rfl, rfl, (show xa.length ≤ _ by omega), (show xb.length ≤ _ by omega), TA.out g1, TB.out g2, (hu.out.trans (by rw [uniI_eq _ _ (show x = y by omega), List.append_assoc]; rfl)), ⟨by omega, by omega⟩, (by rw [List.length_append]; exact (show w4.ownsRow w.heap.size 2 1 v1 (pre.length + [x].length) (intsV (pre ++ [x])) by simpa [intsV] using HW.out)), HBn.out⟩
            case measure => first | (simp [lenS]; done) | (simp [lenS]; omega)
end Go.Proofs.YtmeeombadkgneaaGreat
