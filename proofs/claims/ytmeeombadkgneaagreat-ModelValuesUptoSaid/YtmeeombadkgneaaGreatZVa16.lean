/-
  What slices.SortFunc does to an empty table: nothing; conditions: none.
  What slices.Clone returns of a table of entries: the same entries in a row of its own; conditions: the table lies in memory and is short.
  What slices.Clone returns of a list of numbers: the same numbers in a row of its own; conditions: the list lies in memory.
  What copyOf returns of a value: the same value, its lists cloned; conditions: the value's lists lie in memory.
-/
import Derived.Test.YtmeeombadkgneaaGreatZVa14
namespace Go.Proofs.YtmeeombadkgneaaGreat
open Go.Proofs Go.RowKit Go.Shelf Go.Sort Go.Lib

attribute [local go_sem] Oper.semAt_some
set_option maxRecDepth 100000 in
set_option maxHeartbeats 4000000 in
theorem insNone_any (p : Option Addr) (cap : Nat) (fv : Value) (w : World) : Calls Tryz.prog 107 #[.slice p 0 cap, .int .i64 0, .int .i64 0, fv] w fun e w' => e = .returned (.tuple #[]) ∧ w = w' := by
  go_enter Tryz.func107, Tryz.ntmps107
  go_wp2
  refine wp_loop_rounds 1 ?_
  rw [rounds_succ]
  go_wp2
  go_end0
  exact ⟨rfl, rfl⟩
set_option maxRecDepth 100000 in
set_option maxHeartbeats 4000000 in
theorem pdqNone_any (p : Option Addr) (cap : Nat) (lim : Int) (fv : Value) (w : World) : Calls Tryz.prog 90 #[.slice p 0 cap, .int .i64 0, .int .i64 0, .int .i64 lim, fv] w fun e w' => e = .returned (.tuple #[]) ∧ w = w' := by
  go_enter Tryz.func90, Tryz.ntmps90
  go_wp2
  refine wp_loop_rounds 1 ?_
  rw [rounds_succ]
  go_wp2_with (go_at_call 107; refine (insNone_any p cap fv _).mono ?_; rintro e w' ⟨rfl, rfl⟩)
  (try simp only [Exit.inBlock, Exit.then]); refine bodyPost_ret (results_none rfl _ _ _) rfl ?_
  exact ⟨rfl, rfl⟩
set_option maxRecDepth 100000 in
set_option maxHeartbeats 4000000 in
theorem sortNone_any (p : Option Addr) (cap : Nat) (fv : Value) (w : World) : Calls Tryz.prog 68 #[.slice p 0 cap, fv] w fun e w' => e = .returned (.tuple #[]) ∧ w = w' := by
  have hl : ∀ W, Calls Tryz.prog 91 #[.int .u64 0] W fun e w' => e = .returned (.int .i64 (Lib.bitLen 0 : Nat)) ∧ w' = W := fun W => by
    have h := Any.bits_Len Tryz.bitsLen 0 W (by omega) (by omega)
    exact h
  generalize ((Lib.bitLen 0 : Nat) : Int) = z at hl
  have HL := Lib.hid hl
  clear hl
  go_enter Tryz.func68, Tryz.ntmps68
  go_wp2_with (first | (go_at_call 91; refine (HL.out _).mono ?_; rintro e w' ⟨rfl, rfl⟩) | (go_at_call 90; refine (pdqNone_any p cap z fv _).mono ?_; rintro e w' ⟨rfl, rfl⟩))
  go_end0
  exact ⟨rfl, rfl⟩
end Go.Proofs.YtmeeombadkgneaaGreat
namespace Go.Proofs.YtmeeombadkgneaaGreat
open Go.Proofs Go.RowKit Go.Shelf Go.Sort Go.Lib

attribute [local go_sem] Oper.semAt_some
/-- The entries of a model, each with the fact that it lies in w. -/
def elems {w : World} {A : Option Addr} {l : List EA} (h : LiesM w A l) : Array (El0 w) := Array.ofFn fun i : Fin l.length => ⟨l[i], h.each i i.2⟩
theorem elems_size {w : World} {A : Option Addr} {l : List EA} (h : LiesM w A l) : (elems h).size = l.length := by
  unfold elems; exact Array.size_ofFn
theorem elems_get {w : World} {A : Option Addr} {l : List EA} (h : LiesM w A l) (i : Nat) (hi : i < l.length) : ((elems h)[i]!).1 = l[i] := by
  rw [getElem!_pos (elems h) i (by rw [elems_size]; exact hi)]
  have e := Array.getElem_ofFn (f := fun i : Fin l.length => (⟨l[i], h.each i i.2⟩ : El0 w)) (i := i) (by rw [Array.size_ofFn]; exact hi)
  exact congrArg Subtype.val e
theorem info29 : (Tryz.prog.info? 29).map (fun i => (i.zero, i.size, i.bytes)) = some (some (.agg #[.string ⟨#[]⟩, .slice none 0 0, .int .i64 0, .int .i64 0, .slice none 0 0, .slice none 0 0, .slice none 0 0]), 7, 128) := by kernel_rfl
theorem encEn_one {w0 : World} (x : El0 w0) : ∀ v ∈ encEn x, v.oneCell' = true := fun v hv => by
  simp [encEn] at hv
  rcases hv with rfl | rfl | rfl | rfl | rfl | rfl | rfl <;> rfl
theorem flat_at {w0 : World} (d : Array (El0 w0)) (j : Nat) (h : j < d.size * 7) : (flatK encEn 7 d)[j]! ∈ encEn d[j / 7]! := by
  rw [get_flatK _ _ _ _ h]
  have : j % 7 < (encEn d[j / 7]!).length := by show j % 7 < 7; omega
  rw [getElem!_pos (encEn d[j / 7]!) (j % 7) this]
  exact List.getElem_mem _
/-- A row that holds the entries of a model. -/
theorem flat_cell {w : World} {b o : Nat} {e : EA} (h : LiesE w e) (s : SevenE w b o e) (r : Nat) (hr : r < 7) : w.cell? ⟨b, o + r, none⟩ = some ((encEn (⟨e, h⟩ : El0 w))[r]'(by show r < 7; exact hr)) := by
  match r, hr with
  | 0, _ => exact s.c0
  | 1, _ => exact s.c1
  | 2, _ => exact s.c2
  | 3, _ => exact s.c3
  | 4, _ => exact s.c4
  | 5, _ => exact s.c5
  | 6, _ => exact s.c6
set_option maxRecDepth 100000 in
set_option maxHeartbeats 4000000 in
theorem cloneE_any (l : List EA) (A : Option Addr) (cap : Nat) (w : World) (hL : LiesM w A l) (h0 : 0 < l.length) (h2 : l.length ≤ 2000) :
    Calls Tryz.prog 67 #[.slice A l.length cap] w fun e w' => ∃ g c, e = .returned (.slice (some ⟨g, 0, none⟩) l.length c) ∧ w.heap.size ≤ g ∧ g < w'.heap.size ∧ HoldsK encEn 7 w' g 0 (elems hL) ∧ Below w.heap.size w w' := by
  obtain ⟨b, o, ha, hc⟩ := hL.at_
  obtain rfl := ha h0
  obtain ⟨i0, hi, hz0, hz1, hz2⟩ := info_parts info29
  have hsz := elems_size hL
  have hnews : ((flatK encEn 7 (elems hL)).toList).length = l.length * 7 := by rw [Array.length_toList, size_flatK, hsz]
  have key : ∀ j u, (flatK encEn 7 (elems hL)).toList[j]? = some u → w.cell? ⟨b, o + j, none⟩ = some u := by
    intro j u hj
    obtain ⟨hlt, rfl⟩ := List.getElem?_eq_some_iff.1 hj
    rw [hnews] at hlt
    have hq : j / 7 < l.length := by omega
    have e1 : (flatK encEn 7 (elems hL)).toList[j]'(by rw [hnews]; exact hlt) = (flatK encEn 7 (elems hL))[j]! := by
      rw [getElem!_pos (flatK encEn 7 (elems hL)) j (by rw [size_flatK, hsz]; exact hlt)]
      simp
    rw [e1, get_flatK _ _ _ _ (by rw [hsz]; exact hlt)]
    have hl : j % 7 < (encEn (elems hL)[j / 7]!).length := by show j % 7 < 7; omega
    rw [getElem!_pos (encEn (elems hL)[j / 7]!) (j % 7) hl]
    have := flat_cell (hL.each (j / 7) hq) (hc (j / 7) hq) (j % 7) (by omega)
    rw [show o + j / 7 * 7 + j % 7 = o + j by omega] at this
    rw [this]
    congr 1
    have he := elems_get hL (j / 7) hq
    have : (elems hL)[j / 7]! = ⟨l[j / 7], hL.each (j / 7) hq⟩ := Subtype.ext he
    simp only [this]
  have hcl := AnyE.slices_Clone Tryz.cloneE i0 _ 7 128 hi hz0 hz1 hz2 rfl (by omega) Tryz.sizeOf29 b o l.length cap (flatK encEn 7 (elems hL)).toList w hnews (by unfold maxLen; omega) (by omega) key (fun u hu => by
    obtain ⟨j, hj, rfl⟩ := List.getElem_of_mem hu
    rw [hnews] at hj
    have e1 : (flatK encEn 7 (elems hL)).toList[j]'(by rw [hnews]; exact hj) = (flatK encEn 7 (elems hL))[j]! := by
      rw [getElem!_pos (flatK encEn 7 (elems hL)) j (by rw [size_flatK, hsz]; exact hj)]
      simp
    rw [e1]
    exact encEn_one _ _ (flat_at _ j (by rw [hsz]; exact hj)))
  refine Calls.mono hcl ?_
  rintro e w' ⟨v', rfl, hown, _, hb⟩
  rcases hown.2 with ⟨_, h3⟩ | ⟨g, c, cur, rfl, hg, hrow, _, _, hsize, htake⟩
  · omega
  · have hglt := (Array.getElem?_eq_some_iff.1 hrow).1
    refine ⟨g, c, rfl, hg, hglt, fun j hj => ?_, hb⟩
    rw [size_flatK, hsz] at hj
    have hcur : cur[j]? = some ((flatK encEn 7 (elems hL))[j]!) := by
      have h4 : (cur.toList.take (l.length * 7))[j]? = (flatK encEn 7 (elems hL)).toList[j]? := by rw [htake]
      rw [List.getElem?_take_of_lt hj] at h4
      have h5 : (flatK encEn 7 (elems hL)).toList[j]? = some ((flatK encEn 7 (elems hL))[j]!) := by
        rw [getElem!_pos (flatK encEn 7 (elems hL)) j (by rw [size_flatK, hsz]; exact hj)]
        simp
      rw [← h5, ← h4]
      simp
    rw [Nat.zero_add]
    exact ⟨by simpa [World.cell?, hrow] using hcur, frozen_of_row _ _ _ _ _ hrow⟩
end Go.Proofs.YtmeeombadkgneaaGreat
namespace Go.Proofs.YtmeeombadkgneaaGreat
open Go.Proofs Go.RowKit Go.Shelf Go.Sort Go.Lib

attribute [local go_sem] Oper.semAt_some
/-- A list of numbers that lies in blocks from n0 on. -/
def RobI (n0 : Nat) (w : World) (A : Option Addr) (l : List Int) : Prop := ∀ W : World, (∀ k, n0 ≤ k → k < w.heap.size → W.heap[k]? = w.heap[k]?) → Ints W A l
theorem RobI.here {n0 : Nat} {w : World} {A : Option Addr} {l : List Int} (h : RobI n0 w A l) : Ints w A l := h w fun _ _ _ => rfl
theorem info2 : (Tryz.prog.info? 2).map (fun i => (i.zero, i.size, i.bytes)) = some (some (.int .i64 0), 1, 8) := by kernel_rfl
set_option maxRecDepth 100000 in
set_option maxHeartbeats 4000000 in
theorem cloneI_some (l : List Int) (A : Option Addr) (cap : Nat) (w : World) (hS : Ints w A l) (h0 : 0 < l.length) (h2 : l.length ≤ 10000) :
    Calls Tryz.prog 89 #[.slice A l.length cap] w fun e w' => ∃ g c, e = .returned (.slice (some ⟨g, 0, none⟩) l.length c) ∧ w.heap.size ≤ g ∧ RobI w.heap.size w' (some ⟨g, 0, none⟩) l ∧ Below w.heap.size w w' := by
  obtain ⟨b, o, ha, hc⟩ := hS
  obtain rfl := ha h0
  obtain ⟨i0, hi, hz0, hz1, hz2⟩ := info_parts info2
  have hnews : (l.map fun x => Value.int .i64 x).length = l.length * 1 := by simp
  have hcl := AnyE.slices_Clone Tryz.cloneI i0 _ 1 8 hi hz0 hz1 hz2 rfl (by omega) Tryz.sizeOf2 b o l.length cap (l.map fun x => Value.int .i64 x) w hnews (by unfold maxLen; omega) (by omega)
    (fun j u hj => by
      obtain ⟨hlt, rfl⟩ := List.getElem?_eq_some_iff.1 hj
      have hq : j < l.length := by simpa using hlt
      rw [hc j hq]; simp)
    (fun u hu => by
      obtain ⟨x, _, rfl⟩ := List.mem_map.1 hu
      rfl)
  refine Calls.mono hcl ?_
  rintro e w' ⟨v', rfl, hown, _, hb⟩
  rcases hown.2 with ⟨_, h3⟩ | ⟨g, c, cur, rfl, hg, hrow, _, _, hsize, htake⟩
  · omega
  · refine ⟨g, c, rfl, hg, fun W hW => ⟨g, 0, fun _ => rfl, fun j hj => ?_⟩, hb⟩
    have hrow2 := (hW g hg (Array.getElem?_eq_some_iff.1 hrow).1).trans hrow
    have hcur : cur[j]? = some (.int .i64 l[j]) := by
      have h4 : (cur.toList.take (l.length * 1))[j]? = (l.map fun x => Value.int .i64 x)[j]? := by rw [htake]
      rw [List.getElem?_take_of_lt (by omega)] at h4
      have h5 : (l.map fun x => Value.int .i64 x)[j]? = some (.int .i64 l[j]) := by simp [hj]
      rw [← h5, ← h4]
      simp
    rw [Nat.zero_add]
    simpa [World.cell?, hrow2] using hcur
theorem cloneI_none (w : World) (n cap : Nat) : Calls Tryz.prog 89 #[.slice none n cap] w fun e w' => e = .returned (.slice none 0 0) ∧ w' = w :=
  AnyE.slices_Clone_nil Tryz.cloneI n cap w
theorem cloneE_none (w : World) (n cap : Nat) : Calls Tryz.prog 67 #[.slice none n cap] w fun e w' => e = .returned (.slice none 0 0) ∧ w' = w :=
  AnyE.slices_Clone_nil Tryz.cloneE n cap w
set_option maxRecDepth 100000 in
set_option maxHeartbeats 4000000 in
theorem cloneI_zero (a : Addr) (w : World) (c : Nat) : Calls Tryz.prog 89 #[.slice (some a) 0 c] w fun e w' => (∃ A' c', e = .returned (.slice A' 0 c')) ∧ Below w.heap.size w w' := by
  obtain ⟨i0, hi, hz0, hz1, hz2⟩ := info_parts info2
  have q25 : ∀ (w : World) (a : Option Addr) (n c n' c' : Nat), (binOp .eql 25 (.slice a n c) (.slice none n' c')).run Tryz.prog w = .ok (.bool a.isNone) w := fun w a n c n' c' => Lib.run_eql_slice_nil w _ _ a n c n' c' Tryz.underlying25
  go_enter Tryz.func89, Tryz.ntmps89
  go_wp2_with (at_builtin; refine wpList_append_own _ rfl _ _ 25 rfl w.heap.size 2 i0 (.int .i64 0) 1 8 Tryz.underlying25 hi hz0 hz1 hz2 rfl (by decide) _ _ _ rfl (World.ownsRow_made w #[] 0 (Nat.le_refl _) (Nat.zero_le _) (by simp)) a 0 c [] rfl rfl (by intro j u hj; simp at hj) (by intro u hu; cases hu) (by unfold maxLen; omega) (by omega) (by simp) ?_)
  intro v' w1 hown hgrow hnil
  go_wp2
  go_ret
  rcases hown with ⟨_, h⟩
  refine ⟨?_, ((Below.refl _ w).alloc (Nat.le_refl _) _).grown hgrow (by simp) (by intro k hk; simp [Value.ownBlock] at hk; omega)⟩
  rcases h with ⟨h, _⟩ | ⟨g, c2, cur, h, _⟩
  · exact ⟨none, 0, by rw [h]; rfl⟩
  · exact ⟨some ⟨g, 0, none⟩, c2, by rw [h]; rfl⟩
/-- Clone of a list of numbers. -/
theorem cloneI_any (l : List Int) (A : Option Addr) (cap : Nat) (w : World) (hS : Ints w A l) (h2 : l.length ≤ 10000) :
    Calls Tryz.prog 89 #[.slice A l.length cap] w fun e w' => ∃ A' c, e = .returned (.slice A' l.length c) ∧ RobI w.heap.size w' A' l ∧ Below w.heap.size w w' := by
  by_cases h0 : 0 < l.length
  · refine (cloneI_some l A cap w hS h0 h2).mono ?_
    rintro e w' ⟨g, c, rfl, _, h, hb⟩
    exact ⟨_, c, rfl, h, hb⟩
  · obtain rfl : l = [] := List.eq_nil_of_length_eq_zero (by omega)
    cases A with
    | none =>
      refine (cloneI_none w 0 cap).mono ?_
      rintro e w' ⟨rfl, rfl⟩
      exact ⟨none, 0, rfl, fun _ _ => ints_nil _, Below.refl _ _⟩
    | some a =>
      refine (cloneI_zero a w cap).mono ?_
      rintro e w' ⟨⟨A', c', rfl⟩, hb⟩
      exact ⟨A', c', rfl, fun _ _ => ⟨0, 0, fun h => absurd h (by simp), fun i h => absurd h (by simp)⟩, hb⟩
end Go.Proofs.YtmeeombadkgneaaGreat
namespace Go.Proofs.YtmeeombadkgneaaGreat
open Go.Proofs Go.RowKit Go.Shelf Go.Sort Go.Lib

attribute [local go_sem] Oper.semAt_some
/-- A value whose lists lie in blocks from n0 on. -/
def RobV (n0 : Nat) (w : World) (x : VA) : Prop := ∀ W : World, (∀ k, n0 ≤ k → k < w.heap.size → W.heap[k]? = w.heap[k]?) → LiesV W x
theorem RobV.here {n0 : Nat} {w : World} {x : VA} (h : RobV n0 w x) : LiesV w x := h w fun _ _ _ => rfl
theorem RobV.later {n0 : Nat} {w w' : World} {x : VA} (h : RobV n0 w x) (hb : RowKit.Below w.heap.size w w') : RobV n0 w' x :=
  fun W hW => h W fun k h1 h2 => (hW k h1 (Nat.lt_of_lt_of_le h2 hb.size)).trans (hb.block k h2)
theorem RobV.less {n0 n1 : Nat} {w : World} {x : VA} (h : RobV n0 w x) (hn : n1 ≤ n0) : RobV n1 w x :=
  fun W hW => h W fun k h1 h2 => hW k (Nat.le_trans hn h1) h2
theorem set_size (w : World) (p : Addr) (u : Value) : (w.setCell p u).heap.size = w.heap.size := by simp [World.setCell]
theorem set_other (w : World) (b i : Nat) (u : Value) {k : Nat} (h : k ≠ b) : (w.setCell ⟨b, i, none⟩ u).heap[k]? = w.heap[k]? := by
  rw [heap_setCell_other _ _ _ _ h]
theorem one_size (w : World) (a : Obj) : (w.alloc a).heap.size = w.heap.size + 1 := by simp
theorem two_size (w : World) (a b : Obj) : ((w.alloc a).alloc b).heap.size = w.heap.size + 2 := by rw [one_size, one_size]
theorem two_snd (w : World) (a b : Obj) : ((w.alloc a).alloc b).heap[w.heap.size + 1]? = some b := by
  rw [← one_size w a]; exact heap_alloc_new _ _
theorem two_fst (w : World) (a b : Obj) : ((w.alloc a).alloc b).heap[w.heap.size]? = some a := by
  have h : w.heap.size < (w.alloc a).heap.size := by rw [one_size]; omega
  exact (((RowKit.Below.refl (w.alloc a).heap.size (w.alloc a)).alloc (Nat.le_refl _) b).block _ h).trans (heap_alloc_new _ _)
set_option maxRecDepth 100000 in
set_option maxHeartbeats 4000000 in
theorem copyV_any (x : VA) (w : World) (h : LiesV w x) (h1 : x.v.st.length ≤ 10000) (h2 : x.v.ix.length ≤ 10000) (h3 : x.v.xs.length ≤ 10000) :
    Calls Tryz.prog 62 #[vv x] w fun e w' => ∃ y : VA, e = .returned (vv y) ∧ y.v = x.v ∧ RobV w.heap.size w' y ∧ RowKit.Below w.heap.size w w' := by
  have HL := Lib.hid h
  have HB := Lib.hid (show RowKit.Below w.heap.size w ((w.alloc (boxV x 27)).alloc (.cells #[.int .i64 0, .int .i64 0, .slice none 0 0, .slice none 0 0, .slice none 0 0] 27)) from ((RowKit.Below.refl _ _).alloc (Nat.le_refl _) _).alloc (by rw [one_size]; omega) _)
  have HZ := Lib.hid (show ((w.alloc (boxV x 27)).alloc (.cells #[.int .i64 0, .int .i64 0, .slice none 0 0, .slice none 0 0, .slice none 0 0] 27)).heap[w.heap.size]? = some (boxV x 27) from two_fst _ _ _)
  have HY := Lib.hid (show ((w.alloc (boxV x 27)).alloc (.cells #[.int .i64 0, .int .i64 0, .slice none 0 0, .slice none 0 0, .slice none 0 0] 27)).heap[w.heap.size + 1]? = some (.cells #[.int .i64 0, .int .i64 0, .slice none 0 0, .slice none 0 0, .slice none 0 0] 27 (0, 0)) from two_snd _ _ _)
  have HS := Lib.hid (show ((w.alloc (boxV x 27)).alloc (.cells #[.int .i64 0, .int .i64 0, .slice none 0 0, .slice none 0 0, .slice none 0 0] 27)).heap.size = w.heap.size + 2 from two_size _ _ _)
  clear h
  go_enter Tryz.func62, Tryz.ntmps62
  go_wp2_with fail
  refine (cloneI_any x.v.st x.a1 x.c1 _ (HL.out.later HB.out).st h1).mono ?_
  rintro e w1 ⟨A1, c1, rfl, I1, B1⟩
  have R1 := (B1.block _ (Array.getElem?_eq_some_iff.1 HZ.out).1).trans HZ.out
  have Y1 := (B1.block _ (Array.getElem?_eq_some_iff.1 HY.out).1).trans HY.out
  obtain ⟨z0, z1, z2, z3, z4, f0, f1, f2, f3, f4⟩ := boxT_facts R1
  have S1 := Lib.hid (heap_setCell_same w1 w.heap.size 2 _ _ (.slice A1 x.v.st.length c1) R1)
  have HI1 := Lib.hid I1
  have HB1 := Lib.hid B1
  clear I1 B1
  have L1 := Lib.hid (show RowKit.Below w.heap.size w (w1.setCell ⟨w.heap.size, 2, none⟩ (.slice A1 x.v.st.length c1)) from (HB.out.trans (HB1.out.mono HB.out.size)).setCell (Nat.le_refl _) _)
  have T1 := Lib.hid (set_size w1 ⟨w.heap.size, 2, none⟩ (.slice A1 x.v.st.length c1))
  have YS1 := Lib.hid ((set_other w1 w.heap.size 2 (.slice A1 x.v.st.length c1) (by omega : w.heap.size + 1 ≠ w.heap.size)).trans Y1)
  clear R1 Y1
  go_wp2_with fail
  refine (cloneI_any x.v.ix x.a2 x.c2 _ (HL.out.later L1.out).ix h2).mono ?_
  rintro e w2 ⟨A2, c2, rfl, I2, B2⟩
  have R2 := (B2.block _ (Array.getElem?_eq_some_iff.1 S1.out).1).trans S1.out
  have Y2 := (B2.block _ (Array.getElem?_eq_some_iff.1 YS1.out).1).trans YS1.out
  clear z0 z1 z2 z3 z4 f0 f1 f2 f3 f4
  obtain ⟨z0, z1, z2, z3, z4, f0, f1, f2, f3, f4⟩ := boxT_facts R2
  have S2 := Lib.hid (heap_setCell_same w2 w.heap.size 3 _ _ (.slice A2 x.v.ix.length c2) R2)
  have HI2 := Lib.hid I2
  have HB2 := Lib.hid B2
  have L2 := Lib.hid (show RowKit.Below w.heap.size w (w2.setCell ⟨w.heap.size, 3, none⟩ (.slice A2 x.v.ix.length c2)) from (L1.out.trans (B2.mono L1.out.size)).setCell (Nat.le_refl _) _)
  have T2 := Lib.hid (set_size w2 ⟨w.heap.size, 3, none⟩ (.slice A2 x.v.ix.length c2))
  have YS2 := Lib.hid ((set_other w2 w.heap.size 3 (.slice A2 x.v.ix.length c2) (by omega : w.heap.size + 1 ≠ w.heap.size)).trans Y2)
  clear I2 B2 R2 Y2
  go_wp2_with fail
  refine (cloneI_any x.v.xs x.a3 x.c3 _ (HL.out.later L2.out).xs h3).mono ?_
  rintro e w3 ⟨A3, c3, rfl, I3, B3⟩
  have R3 := (B3.block _ (Array.getElem?_eq_some_iff.1 S2.out).1).trans S2.out
  have Y3 := (B3.block _ (Array.getElem?_eq_some_iff.1 YS2.out).1).trans YS2.out
  clear z0 z1 z2 z3 z4 f0 f1 f2 f3 f4
  obtain ⟨z0, z1, z2, z3, z4, f0, f1, f2, f3, f4⟩ := boxT_facts R3
  have S3 := Lib.hid (heap_setCell_same w3 w.heap.size 4 _ _ (.slice A3 x.v.xs.length c3) R3)
  have L3 := Lib.hid (show RowKit.Below w.heap.size w (w3.setCell ⟨w.heap.size, 4, none⟩ (.slice A3 x.v.xs.length c3)) from (L2.out.trans (B3.mono L2.out.size)).setCell (Nat.le_refl _) _)
  have YS3 := Lib.hid ((set_other w3 w.heap.size 4 (.slice A3 x.v.xs.length c3) (by omega : w.heap.size + 1 ≠ w.heap.size)).trans Y3)
  have T3 := Lib.hid (set_size w3 ⟨w.heap.size, 4, none⟩ (.slice A3 x.v.xs.length c3))
  have HI3 := Lib.hid I3
  have HB3 := Lib.hid B3
  obtain ⟨y0, y1, y2, y3, y4, g0, g1, g2, g3, g4⟩ := boxT_facts Y3
  clear I3 B3 R3 Y3
  have HF := Lib.hid (setT_same (.int .i64 x.v.so) (.int .i64 x.v.nu) (.slice A1 x.v.st.length c1) (.slice A2 x.v.ix.length c2) (.slice A3 x.v.xs.length c3) YS3.out)
  have LF := Lib.hid (Below.set5 L3.out (b := w.heap.size + 1) (by omega) (.int .i64 x.v.so) (.int .i64 x.v.nu) (.slice A1 x.v.st.length c1) (.slice A2 x.v.ix.length c2) (.slice A3 x.v.xs.length c3))
  go_wp2_with fail
  clear z0 z1 z2 z3 z4 y0 y1 y2 y3 y4
  obtain ⟨y0, y1, y2, y3, y4, _, _, _, _, _⟩ := boxT_facts HF.out
  refine bodyPost_ret (v := .agg #[.int .i64 x.v.so, .int .i64 x.v.nu, .slice A1 x.v.st.length c1, .slice A2 x.v.ix.length c2, .slice A3 x.v.xs.length c3]) (by simp [results, Tryz.results62, go_sem, y0, y1, y2, y3, y4]) rfl ⟨⟨x.v, A1, c1, A2, c2, A3, c3⟩, rfl, rfl, ?_, LF.out⟩
  have s1 := HB1.out.size
  have s2 := HB2.out.size
  have s3 := HB3.out.size
  rw [HS.out] at s1
  rw [T1.out] at s2
  rw [T2.out] at s3
  intro W hW
  have hsz : ∀ k, k < w3.heap.size → k < (set5 (w3.setCell ⟨w.heap.size, 4, none⟩ (.slice A3 x.v.xs.length c3)) (w.heap.size + 1) (.int .i64 x.v.so) (.int .i64 x.v.nu) (.slice A1 x.v.st.length c1) (.slice A2 x.v.ix.length c2) (.slice A3 x.v.xs.length c3)).heap.size := fun k hk => by
    rw [set5_size, T3.out]; exact hk
  have e3 : ∀ k, w.heap.size + 2 ≤ k → k < w3.heap.size → W.heap[k]? = w3.heap[k]? := fun k hk h3 =>
    (hW k (by omega) (hsz k h3)).trans <| (set5_other _ _ _ _ _ (by omega)).trans (set_other _ _ _ _ (by omega))
  have e2 : ∀ k, w.heap.size + 2 ≤ k → k < w2.heap.size → w3.heap[k]? = w2.heap[k]? := fun k hk h2 =>
    (HB3.out.block k (by rw [T2.out]; exact h2)).trans (set_other _ _ _ _ (by omega))
  have e1 : ∀ k, w.heap.size + 2 ≤ k → k < w1.heap.size → w2.heap[k]? = w1.heap[k]? := fun k hk h1 =>
    (HB2.out.block k (by rw [T1.out]; exact h1)).trans (set_other _ _ _ _ (by omega))
  have i1 := HI1.out
  have i2 := HI2.out
  have i3 := HI3.out
  rw [HS.out] at i1
  rw [T1.out] at i2
  rw [T2.out] at i3
  exact ⟨i1 _ fun k h1 h2 => (e3 k h1 (by omega)).trans ((e2 k h1 (by omega)).trans (e1 k h1 h2)),
    i2 _ fun k h1 h2 => (e3 k (by omega) (by omega)).trans (e2 k (by omega) h2),
    i3 _ fun k h1 h2 => e3 k (by omega) h2, HL.out.l1, HL.out.l2, HL.out.l3⟩
end Go.Proofs.YtmeeombadkgneaaGreat
