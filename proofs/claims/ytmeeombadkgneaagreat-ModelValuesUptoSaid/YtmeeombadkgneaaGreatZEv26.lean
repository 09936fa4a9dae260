/-
  What the document's stored returns of an array, an index and an integer; conditions: the array lies in memory and is valid.
  What the document's stored returns of an array, an index and an integer; conditions: the array lies in memory and is valid.
-/
import Derived.Maps.AppendAt
import Derived.Test.YtmeeombadkgneaaGreatZEv19
import Derived.Test.YtmeeombadkgneaaGreatZEv4
namespace Go.Proofs.YtmeeombadkgneaaGreat
open Go.Proofs Go.RowKit Go.Shelf Go.Sort Go.Lib

attribute [local go_sem] Oper.semAt_some
/-- What the document stores at an index z. -/
def gI (ix xs : List Int) (i x z : Int) : Int := if z = i then x else atI ix xs z
def fI (ix xs : List Int) (i x : Int) (l : List Int) : List Int := l.filter fun z => decide (gI ix xs i x z ≠ 0)
theorem fI_snoc (ix xs : List Int) (i x : Int) (l : List Int) (z : Int) : fI ix xs i x (l ++ [z]) = fI ix xs i x l ++ (if gI ix xs i x z = 0 then [] else [z]) := by
  unfold fI
  rw [List.filter_append]
  by_cases h : gI ix xs i x z = 0
  · simp [h]
  · simp [h]
/-- In the midst of stored: the new array's cells in block R, its two lists in rows of their own, and the elder blocks as they were. -/
structure SI (w w1 : World) (R : Nat) (nu : Int) (at_ to_ : List Int) (wr : World) (v1 v2 : Value) : Prop where
  row : wr.heap[R]? = some (.cells #[.int .i64 5, .int .i64 nu, .slice none 0 0, v1, v2] 27 (0, 0))
  own1 : wr.ownsRow w1.heap.size 2 1 v1 at_.length (intsV at_)
  own2 : wr.ownsRow w1.heap.size 2 1 v2 to_.length (intsV to_)
  apart : v1.ownBlock = none ∨ v1.ownBlock ≠ v2.ownBlock
  old : ∀ k, k < w1.heap.size → k ≠ R → wr.heap[k]? = w1.heap[k]?
  below : RowKit.Below w.heap.size w wr
  big : w1.heap.size ≤ wr.heap.size
theorem own_slice_block {w : World} {base : Nat} {e : TypeId} {size : Nat} {v : Value} {n : Nat} {xs : List Value} (h : w.ownsRow base e size v n xs) (k : Nat) (hk : k < base) : some k ≠ v.ownBlock := fun e => by
  have := (h.lt k e.symm).1
  omega
theorem ownsI_grown {W W' : World} {base : Nat} {v u : Value} {n : Nat} {xs : List Value} (h : W.ownsRow base 2 1 v n xs) (hg : W.grownBy W' u.ownBlock) (ha : v.ownBlock = none ∨ v.ownBlock ≠ u.ownBlock) : W'.ownsRow base 2 1 v n xs := h.kept hg ha
theorem ownsI_set {w : World} {base : Nat} {v : Value} {n : Nat} {xs : List Value} (h : w.ownsRow base 2 1 v n xs) {p : Addr} (hp : p.block < base) (u : Value) : (w.setCell p u).ownsRow base 2 1 v n xs := by
  refine ⟨h.1, ?_⟩
  rcases h.2 with h | ⟨g, cap, cur, hv, h1, h2, h3⟩
  · exact .inl h
  · exact .inr ⟨g, cap, cur, hv, h1, (heap_setCell_other _ _ _ _ (by omega)).trans h2, h3⟩
/-- Behind an append to the first list, laid into its cell. -/
theorem SI.put1 {w w1 : World} {R : Nat} {nu : Int} {a t : List Int} {wr : World} {v1 v2 v1' : Value} (h : SI w w1 R nu a t wr v1 v2) (hR : R < w1.heap.size) (hwR : w.heap.size ≤ R) {z : Int} {O : Obj} {w4 : World}
    (hown : w4.ownsRow w1.heap.size 2 1 v1' (a.length + 1) (intsV a ++ [.int .i64 z])) (hg : (wr.alloc O).grownBy w4 v1.ownBlock) (hat : v1'.ownBlock = v1.ownBlock ∨ v1'.ownBlock = some (wr.alloc O).heap.size) :
    SI w w1 R nu (a ++ [z]) t (w4.setCell ⟨R, 3, none⟩ v1') v1' v2 := by
  have hal : RowKit.Below wr.heap.size wr (wr.alloc O) := (RowKit.Below.refl _ _).alloc (Nat.le_refl _) _
  have hbig := h.big
  have hblk : ∀ k, k < wr.heap.size → some k ≠ v1.ownBlock → w4.heap[k]? = wr.heap[k]? := fun k hk hne => (hg.block k (by rw [one_size]; omega) hne).trans (hal.block k hk)
  have hr4 := (hblk R (by omega) (own_slice_block h.own1 R hR)).trans h.row
  have h2 : w4.ownsRow w1.heap.size 2 1 v2 t.length (intsV t) := (ownsI_below h.own2 hal).kept hg (by
    rcases h.apart with e | e
    · by_cases h0 : v2.ownBlock = none
      · exact .inl h0
      · exact .inr (by rw [e]; exact h0)
    · exact .inr (Ne.symm e))
  refine ⟨heap_setCell_same _ _ 3 _ _ v1' hr4, ?_, ownsI_set h2 hR _, ?_, fun k hk hne => (heap_setCell_other _ _ _ _ hne).trans ((hblk k (by omega) (own_slice_block h.own1 k hk)).trans (h.old k hk hne)), ?_, ?_⟩
  · rw [List.length_append, intsV_append]
    exact ownsI_set hown hR _
  · rcases hat with e | e
    · rw [e]; exact h.apart
    · refine .inr ?_
      rw [e, one_size]
      intro e2
      have := (h.own2.lt _ e2.symm).2
      omega
  · refine RowKit.Below.setCell ?_ hwR _
    exact (h.below.trans (hal.mono h.below.size)).grown hg (by rw [one_size]; have := h.below.size; omega) (fun k e => by have := (h.own1.lt k e).1; omega)
  · rw [set_size]
    have := hg.size
    rw [one_size] at this
    omega
theorem SI.put2 {w w1 : World} {R : Nat} {nu : Int} {a t : List Int} {wr : World} {v1 v2 v2' : Value} (h : SI w w1 R nu a t wr v1 v2) (hR : R < w1.heap.size) (hwR : w.heap.size ≤ R) {z : Int} {O : Obj} {w4 : World}
    (hown : w4.ownsRow w1.heap.size 2 1 v2' (t.length + 1) (intsV t ++ [.int .i64 z])) (hg : (wr.alloc O).grownBy w4 v2.ownBlock) (hat : v2'.ownBlock = v2.ownBlock ∨ v2'.ownBlock = some (wr.alloc O).heap.size) :
    SI w w1 R nu a (t ++ [z]) (w4.setCell ⟨R, 4, none⟩ v2') v1 v2' := by
  have hal : RowKit.Below wr.heap.size wr (wr.alloc O) := (RowKit.Below.refl _ _).alloc (Nat.le_refl _) _
  have hbig := h.big
  have hblk : ∀ k, k < wr.heap.size → some k ≠ v2.ownBlock → w4.heap[k]? = wr.heap[k]? := fun k hk hne => (hg.block k (by rw [one_size]; omega) hne).trans (hal.block k hk)
  have hr4 := (hblk R (by omega) (own_slice_block h.own2 R hR)).trans h.row
  have h2 : w4.ownsRow w1.heap.size 2 1 v1 a.length (intsV a) := (ownsI_below h.own1 hal).kept hg h.apart
  refine ⟨heap_setCell_same _ _ 4 _ _ v2' hr4, ownsI_set h2 hR _, ?_, ?_, fun k hk hne => (heap_setCell_other _ _ _ _ hne).trans ((hblk k (by omega) (own_slice_block h.own2 k hk)).trans (h.old k hk hne)), ?_, ?_⟩
  · rw [List.length_append, intsV_append]
    exact ownsI_set hown hR _
  · rcases hat with e | e
    · rw [e]; exact h.apart
    · by_cases h0 : v1.ownBlock = none
      · exact .inl h0
      · refine .inr ?_
        rw [e, one_size]
        intro e2
        have := (h.own1.lt _ e2).2
        omega
  · refine RowKit.Below.setCell ?_ hwR _
    exact (h.below.trans (hal.mono h.below.size)).grown hg (by rw [one_size]; have := h.below.size; omega) (fun k e => by have := (h.own2.lt k e).1; omega)
  · rw [set_size]
    have := hg.size
    rw [one_size] at this
    omega
theorem SI.later {w w1 : World} {R : Nat} {nu : Int} {a t : List Int} {wr w' : World} {v1 v2 : Value} (h : SI w w1 R nu a t wr v1 v2) (hb : RowKit.Below wr.heap.size wr w') : SI w w1 R nu a t w' v1 v2 :=
  ⟨(hb.block _ (Array.getElem?_eq_some_iff.1 h.row).1).trans h.row, ownsI_below h.own1 hb, ownsI_below h.own2 hb, h.apart, fun k hk hne => (hb.block k (Nat.lt_of_lt_of_le hk h.big)).trans (h.old k hk hne), h.below.trans (hb.mono h.below.size), Nat.le_trans h.big hb.size⟩
end Go.Proofs.YtmeeombadkgneaaGreat
namespace Go.Proofs.YtmeeombadkgneaaGreat
open Go.Proofs Go.RowKit Go.Shelf Go.Sort Go.Lib

attribute [local go_sem] Oper.semAt_some
theorem three_blocks (w : World) (a b c : Obj) : ((w.alloc a).alloc b).alloc c = ((w.alloc a).alloc b).alloc c ∧ (((w.alloc a).alloc b).alloc c).heap.size = w.heap.size + 3 ∧ (((w.alloc a).alloc b).alloc c).heap[w.heap.size]? = some a ∧ (((w.alloc a).alloc b).alloc c).heap[w.heap.size + 1]? = some b ∧ (((w.alloc a).alloc b).alloc c).heap[w.heap.size + 2]? = some c := by
  have h2 := two_size w a b
  have hb : RowKit.Below ((w.alloc a).alloc b).heap.size ((w.alloc a).alloc b) (((w.alloc a).alloc b).alloc c) := (RowKit.Below.refl _ _).alloc (Nat.le_refl _) _
  refine ⟨rfl, by rw [one_size, h2], (hb.block _ (by omega)).trans (two_fst _ _ _), (hb.block _ (by omega)).trans (two_snd _ _ _), ?_⟩
  rw [← h2]
  exact heap_alloc_new _ _
theorem SI.row1 {w w1 : World} {R : Nat} {nu : Int} {a t : List Int} {wr : World} {v1 v2 : Value} (h : SI w w1 R nu a t wr v1 v2) (hR : R < w1.heap.size) {O : Obj} {w4 : World} (hg : (wr.alloc O).grownBy w4 v1.ownBlock) :
    w4.heap[R]? = some (.cells #[.int .i64 5, .int .i64 nu, .slice none 0 0, v1, v2] 27 (0, 0)) := by
  have hbig := h.big
  exact (hg.block R (by rw [one_size]; omega) (own_slice_block h.own1 R hR)).trans ((((RowKit.Below.refl wr.heap.size wr).alloc (Nat.le_refl _) O).block R (by omega)).trans h.row)
theorem SI.row2 {w w1 : World} {R : Nat} {nu : Int} {a t : List Int} {wr : World} {v1 v2 : Value} (h : SI w w1 R nu a t wr v1 v2) (hR : R < w1.heap.size) {O : Obj} {w4 : World} (hg : (wr.alloc O).grownBy w4 v2.ownBlock) :
    w4.heap[R]? = some (.cells #[.int .i64 5, .int .i64 nu, .slice none 0 0, v1, v2] 27 (0, 0)) := by
  have hbig := h.big
  exact (hg.block R (by rw [one_size]; omega) (own_slice_block h.own2 R hR)).trans ((((RowKit.Below.refl wr.heap.size wr).alloc (Nat.le_refl _) O).block R (by omega)).trans h.row)
set_option maxRecDepth 100000 in
set_option maxHeartbeats 4000000 in
theorem refStored_any (x : VA) (i n : Int) (w : World) (hx : LiesV w x) (hok : OkV x.v) :
    Calls Tryz.prog 134 #[vv x, .int .i64 i, .int .i64 n] w fun e w' => (∃ y : VA, e = .returned (vv y) ∧ y.v = ⟨5, x.v.nu, [], stoI x.v.ix x.v.ix i n i, stoI x.v.ix x.v.xs i n n⟩ ∧ RobV w.heap.size w' y ∧ CapV y) ∧ RowKit.Below w.heap.size w w' := by
  obtain ⟨i0, hi, hz0, hz1, hz2⟩ := info_parts info2
  have I0 := Lib.hid hi
  have Z0 := Lib.hid hz0
  have Z1 := Lib.hid hz1
  have Z2 := Lib.hid hz2
  clear hi hz0 hz1 hz2
  obtain ⟨W, hW⟩ : ∃ W, ((w.alloc (boxV x 27)).alloc (.cells #[.int .i64 0, .int .i64 0, .slice none 0 0, .slice none 0 0, .slice none 0 0] 27)).alloc (.cells #[.int .i64 5, .int .i64 x.v.nu, .slice none 0 0, .slice none 0 0, .slice none 0 0] 27) = W := ⟨_, rfl⟩
  obtain ⟨_, hS, hP, hQ, hR⟩ := three_blocks w (boxV x 27) (.cells #[.int .i64 0, .int .i64 0, .slice none 0 0, .slice none 0 0, .slice none 0 0] 27) (.cells #[.int .i64 5, .int .i64 x.v.nu, .slice none 0 0, .slice none 0 0, .slice none 0 0] 27)
  rw [hW] at hS hP hQ hR
  have HB := Lib.hid (show RowKit.Below w.heap.size w W by rw [← hW]; exact (((RowKit.Below.refl _ _).alloc (Nat.le_refl _) _).alloc (by rw [one_size]; omega) _).alloc (by rw [two_size]; omega) _)
  have HP := Lib.hid hP
  have HQ := Lib.hid hQ
  have HR := Lib.hid hR
  have HSZ := Lib.hid hS
  have HX := Lib.hid (fun (W' : World) (h : RowKit.Below w.heap.size w W') => hx.later h)
  have HW := Lib.hid hW
  have HI := Lib.hid (refInsert_any x.v.ix i x.a2 x.c2 W (hx.later HB.out).ix (Nat.le_trans hok.l2 (by omega)) hok.s2)
  have hul := uniI_len _ [i] x.v.ix (Nat.le_refl _)
  have HUL := Lib.hid (show (uniI [i] x.v.ix).length ≤ 1000 by have := hok.l2; simp at hul; omega)
  have HAT := Lib.hid (fun (z : Int) (W' : World) (h : RowKit.Below w.heap.size w W') => refAt_any x z W' (hx.later h) (Nat.le_trans hok.l2 (by omega)) hok.s2 hok.len)
  have HF1 := Lib.hid (show fI x.v.ix x.v.xs i n (uniI [i] x.v.ix) = stoI x.v.ix x.v.ix i n i from (sto_doc hok.s2 hok.len hok.nz i n).symm)
  have HF2 := Lib.hid (show (fI x.v.ix x.v.xs i n (uniI [i] x.v.ix)).map (gI x.v.ix x.v.xs i n) = stoI x.v.ix x.v.xs i n n by rw [HF1.out]; exact (sto_vals hok.s2 hok.len i n).symm)
  have HSH := Lib.hid (show (stoI x.v.ix x.v.ix i n i).length ≤ 1000 ∧ (stoI x.v.ix x.v.xs i n n).length ≤ 1000 by
    have h1 := sto_short x.v.ix i n i
    have h2 := sto_len x.v.ix x.v.xs hok.len i n n i
    have := hok.l2
    omega)
  clear hW hx hok hS hP hQ hR hul
  obtain ⟨z0, z1, z2, z3, z4, f0, f1, f2, f3, f4⟩ := boxT_facts HP.out
  go_enter Tryz.func134, Tryz.ntmps134
  go_upto_region 2 with fail
  rw [HW.out]
  go_wp2_with fail
  refine HI.out.mono ?_
  rintro e w1 ⟨A, c, rfl, hrob, hc, b1⟩
  have HL := Lib.hid hrob
  have B1 := Lib.hid b1
  have hs1 := b1.size
  have hsz := HSZ.out
  have HS1 := Lib.hid (show w.heap.size + 3 ≤ w1.heap.size by omega)
  have M0 : Hid (SI w w1 (w.heap.size + 2) x.v.nu [] [] w1 (.slice none 0 0) (.slice none 0 0)) := ⟨(b1.block _ (Array.getElem?_eq_some_iff.1 HR.out).1).trans HR.out, World.ownsRow_nil _ _ _ _, World.ownsRow_nil _ _ _ _, .inl rfl, fun _ _ _ => rfl, HB.out.trans (b1.mono HB.out.size), Nat.le_refl _⟩
  clear hrob hc b1 hs1 hsz z0 z1 z2 z3 z4 f0 f1 f2 f3 f4 HI
  generalize huu : uniI [i] x.v.ix = L at *
  have HGG := Lib.hid (fun z => (show gI x.v.ix x.v.xs i n z = if z = i then n else atI x.v.ix x.v.xs z from rfl))
  clear huu
  go_wp2_with fail
  go_loopw [21] (fun k wr => ∃ m : Nat, m ≤ L.length ∧ k = .int .i64 m ∧ Hid (∃ A1 c1 A2 c2, SI w w1 (w.heap.size + 2) x.v.nu (fI x.v.ix x.v.xs i n (L.take m)) ((fI x.v.ix x.v.xs i n (L.take m)).map (gI x.v.ix x.v.xs i n)) wr (.slice A1 (fI x.v.ix x.v.xs i n (L.take m)).length c1) (.slice A2 ((fI x.v.ix x.v.xs i n (L.take m)).map (gI x.v.ix x.v.xs i n)).length c2))) (fun k _ => L.length - (intOf k).toNat)
  case atStart => exact ⟨0, Nat.zero_le _, rfl, none, 0, none, 0, M0.out⟩
  case round =>
    obtain ⟨m, hm, rfl, A1, c1, A2, c2, hM⟩ := hrel
    have HM := Lib.hid hM
    have hbw := hM.below
    have HBW := Lib.hid hbw
    have hul := HUL.out
    have hrow := Lib.hid hM.row
    have hs1 := HS1.out
    have hP1 := (hM.old w.heap.size (by omega) (by omega)).trans ((B1.out.block _ (Array.getElem?_eq_some_iff.1 HP.out).1).trans HP.out)
    have HP1 := Lib.hid hP1
    have hQ1 := (hM.old (w.heap.size + 1) (by omega) (by omega)).trans ((B1.out.block _ (Array.getElem?_eq_some_iff.1 HQ.out).1).trans HQ.out)
    have HQ1 := Lib.hid hQ1
    have hLr : Ints wr A L := HL.out wr fun k h1 h2 => hM.old k h2 (by have := HSZ.out; omega)
    by_cases hlt : m < L.length
    · obtain ⟨b, o, ha, hcs⟩ := hLr
      have ha := ha (by omega)
      have c0 := hcs m hlt
      have htk := Lib.hid (show L.take (m + 1) = L.take m ++ [L[m]] from List.take_succ_eq_append_getElem hlt)
      generalize L[m] = q at *
      rw [ha] at *
      clear hM hcs hbw hP1 hQ1
      obtain ⟨z0, z1, z2, z3, z4, _, _, _, _, _⟩ := boxT_facts HP1.out
      have hg0 := HGG.out q
      have hFS := fI_snoc x.v.ix x.v.xs i n (L.take m) q
      have hAT := Lib.hid (HAT.out q wr HBW.out)
      have HFL := Lib.hid (show (fI x.v.ix x.v.xs i n (L.take m)).length ≤ 1000 from Nat.le_trans (List.length_filter_le _ _) (by rw [List.length_take]; omega))
      have HTL := Lib.hid (show ((fI x.v.ix x.v.xs i n (L.take m)).map (gI x.v.ix x.v.xs i n)).length ≤ 1000 by rw [List.length_map]; exact HFL.out)
      have HMP := Lib.hid (show ∀ (F2 : List Int), (fI x.v.ix x.v.xs i n (L.take m) ++ F2).map (gI x.v.ix x.v.xs i n) = (fI x.v.ix x.v.xs i n (L.take m)).map (gI x.v.ix x.v.xs i n) ++ F2.map (gI x.v.ix x.v.xs i n) from fun F2 => List.map_append)
      obtain ⟨F', hF'⟩ : ∃ F', fI x.v.ix x.v.xs i n (L.take (m + 1)) = F' := ⟨_, rfl⟩
      rw [htk.out, hFS] at hF'
      have HF' := Lib.hid (show fI x.v.ix x.v.xs i n (L.take (m + 1)) = F' by rw [htk.out, hFS]; exact hF')
      have HFE := Lib.hid hF'
      generalize (fI x.v.ix x.v.xs i n (L.take m)).map (gI x.v.ix x.v.xs i n) = T at *
      generalize fI x.v.ix x.v.xs i n (L.take m) = F at *
      clear hFS hF' HAT HF1 HF2
      have HRW := Lib.hid (show w.heap.size + 2 < w1.heap.size by omega)
      have HWR := Lib.hid (show w.heap.size ≤ w.heap.size + 2 by omega)
      by_cases hqi : q = i
      · have d1 : (q == i) = true := by simp [hqi]
        have hgn : gI x.v.ix x.v.xs i n q = n := by rw [hg0, if_pos hqi]
        by_cases hn0 : n = 0
        · have d2 : (n == 0) = true := by simp [hn0]
          have HE := Lib.hid (show F' = F by rw [← HFE.out, if_pos (by rw [hgn]; exact hn0), List.append_nil])
          have HT := Lib.hid (show F.map (gI x.v.ix x.v.xs i n) = T by have := HMP.out []; simpa using this)
          clear hg0 hgn hqi HFE HMP
          subst hn0
          go_wp2_with fail
          refine hAT.out.mono ?_
          rintro e w5 ⟨rfl, b5⟩
          have HM5 := Lib.hid (HM.out.later b5)
          clear b5 z0 z1 z2 z3 z4
          generalize atI x.v.ix x.v.xs q = av at *
          go_wp2_with fail
          go_roundw
          case rel => exact ⟨m + 1, by omega, by go_num, A1, c1, A2, c2, by rw [HF'.out, HE.out]; rw [HT.out]; exact HM5.out⟩
          case measure => simp [intOf]; omega
        · have d2 : (n == 0) = false := by simp [hn0]
          have HE := Lib.hid (show F' = F ++ [q] by rw [← HFE.out, if_neg (by rw [hgn]; exact hn0)])
          have HT := Lib.hid (show (F ++ [q]).map (gI x.v.ix x.v.xs i n) = T ++ [n] by rw [HMP.out, List.map_singleton, hgn])
          clear hg0 hgn hqi HFE HMP hn0
          go_wp2_with fail
          refine hAT.out.mono ?_
          rintro e w5 ⟨rfl, b5⟩
          have HM5 := Lib.hid (HM.out.later b5)
          clear b5 z0 z1 z2 z3 z4
          generalize atI x.v.ix x.v.xs q = av at *
          have HO1 := Lib.hid (fun O => ownsI_below HM5.out.own1 (show RowKit.Below w5.heap.size w5 (w5.alloc O) from (RowKit.Below.refl _ _).alloc (Nat.le_refl _) _))
          have HLB := Lib.hid (fun O => show w1.heap.size ≤ (w5.alloc O).heap.size by have := HM5.out.big; rw [one_size]; omega)
          have L3 := Lib.hid (show F.length + 1 ≤ maxLen by have := HFL.out; unfold maxLen; omega)
          have L4 := Lib.hid (show (F.length + 1) * 8 ≤ 140737488355328 by have := HFL.out; omega)
          obtain ⟨z0, z1, z2, z3, z4, f0, f1, f2, f3, f4⟩ := boxT_facts HM5.out.row
          go_upto_region 11 with (at_builtin; refine wpList_append_own_at _ rfl _ _ 25 rfl w1.heap.size 2 i0 (.int .i64 0) 1 8 Tryz.underlying25 I0.out Z0.out Z1.out Z2.out rfl (by decide) (.slice A1 F.length c1) F.length (intsV F) rfl (HO1.out _) ⟨w5.heap.size, 0, none⟩ 1 1 [.int .i64 q] rfl rfl (news1 _ _ _ rfl) (by simp [Value.oneCell']) L3.out L4.out (HLB.out _) ?_; intro v1 w6 hown hgrow _ hat; obtain ⟨A1', c1', rfl⟩ := owns_slice hown; have hr6 := HM5.out.row1 HRW.out hgrow; clear z0 z1 z2 z3 z4 f0 f1 f2 f3 f4; obtain ⟨z0, z1, z2, z3, z4, f0, f1, f2, f3, f4⟩ := boxT_facts hr6; have hM7 := HM5.out.put1 HRW.out HWR.out hown hgrow hat; clear hown hgrow hat hr6)
          obtain ⟨W7, hW7⟩ : ∃ W7, w6.setCell ⟨w.heap.size + 2, 3, none⟩ (.slice A1' (F.length + 1) c1') = W7 := ⟨_, rfl⟩
          rw [hW7] at hM7 ⊢
          have HM7 := Lib.hid hM7
          clear hM7 hW7 z0 z1 z2 z3 z4 f0 f1 f2 f3 f4 HO1 HLB L3 L4 HM5
          have HO2 := Lib.hid (fun O => ownsI_below HM7.out.own2 (show RowKit.Below W7.heap.size W7 (W7.alloc O) from (RowKit.Below.refl _ _).alloc (Nat.le_refl _) _))
          have HLB := Lib.hid (fun O => show w1.heap.size ≤ (W7.alloc O).heap.size by have := HM7.out.big; rw [one_size]; omega)
          have L3 := Lib.hid (show T.length + 1 ≤ maxLen by have := HTL.out; unfold maxLen; omega)
          have L4 := Lib.hid (show (T.length + 1) * 8 ≤ 140737488355328 by have := HTL.out; omega)
          obtain ⟨z0, z1, z2, z3, z4, f0, f1, f2, f3, f4⟩ := boxT_facts HM7.out.row
          go_upto_region 12 with (at_builtin; refine wpList_append_own_at _ rfl _ _ 25 rfl w1.heap.size 2 i0 (.int .i64 0) 1 8 Tryz.underlying25 I0.out Z0.out Z1.out Z2.out rfl (by decide) (.slice A2 T.length c2) T.length (intsV T) rfl (HO2.out _) ⟨W7.heap.size, 0, none⟩ 1 1 [.int .i64 n] rfl rfl (news1 _ _ _ rfl) (by simp [Value.oneCell']) L3.out L4.out (HLB.out _) ?_; intro v2 w8 hown hgrow _ hat; obtain ⟨A2', c2', rfl⟩ := owns_slice hown; have hr8 := HM7.out.row2 HRW.out hgrow; clear z0 z1 z2 z3 z4 f0 f1 f2 f3 f4; obtain ⟨z0, z1, z2, z3, z4, f0, f1, f2, f3, f4⟩ := boxT_facts hr8; have hM9 := HM7.out.put2 HRW.out HWR.out hown hgrow hat; clear hown hgrow hat hr8)
          obtain ⟨W9, hW9⟩ : ∃ W9, w8.setCell ⟨w.heap.size + 2, 4, none⟩ (.slice A2' (T.length + 1) c2') = W9 := ⟨_, rfl⟩
          rw [hW9] at hM9 ⊢
          have HM9 := Lib.hid hM9
          clear hM9 hW9 z0 z1 z2 z3 z4 f0 f1 f2 f3 f4 HO2 HLB L3 L4 HM7
          go_wp2_with fail
          go_roundw
          case rel => exact ⟨m + 1, by omega, by go_num, A1', c1', A2', c2', by rw [HF'.out, HE.out, HT.out, List.length_append, List.length_append]; exact HM9.out⟩
          case measure => simp [intOf]; omega
      · have d1 : (q == i) = false := by simp [hqi]
        obtain ⟨av, hav⟩ : ∃ av, atI x.v.ix x.v.xs q = av := ⟨_, rfl⟩
        have hgn : gI x.v.ix x.v.xs i n q = av := by rw [hg0, if_neg hqi, hav]
        by_cases hn0 : av = 0
        · have HE := Lib.hid (show F' = F by rw [← HFE.out, if_pos (by rw [hgn]; exact hn0), List.append_nil])
          have HT := Lib.hid (show F.map (gI x.v.ix x.v.xs i n) = T by have := HMP.out []; simpa using this)
          clear hg0 hgn hqi HFE HMP
          subst hn0
          go_wp2_with fail
          refine hAT.out.mono ?_
          rintro e w5 ⟨rfl, b5⟩
          have HM5 := Lib.hid (HM.out.later b5)
          clear b5 z0 z1 z2 z3 z4
          rw [hav]
          go_wp2_with fail
          go_roundw
          case rel => exact ⟨m + 1, by omega, by go_num, A1, c1, A2, c2, by rw [HF'.out, HE.out]; rw [HT.out]; exact HM5.out⟩
          case measure => simp [intOf]; omega
        · have d2 : (av == 0) = false := by simp [hn0]
          have HE := Lib.hid (show F' = F ++ [q] by rw [← HFE.out, if_neg (by rw [hgn]; exact hn0)])
          have HT := Lib.hid (show (F ++ [q]).map (gI x.v.ix x.v.xs i n) = T ++ [av] by rw [HMP.out, List.map_singleton, hgn])
          clear hg0 hgn hqi HFE HMP hn0
          go_wp2_with fail
          refine hAT.out.mono ?_
          rintro e w5 ⟨rfl, b5⟩
          have HM5 := Lib.hid (HM.out.later b5)
          clear b5 z0 z1 z2 z3 z4
          rw [hav]
          have HO1 := Lib.hid (fun O => ownsI_below HM5.out.own1 (show RowKit.Below w5.heap.size w5 (w5.alloc O) from (RowKit.Below.refl _ _).alloc (Nat.le_refl _) _))
          have HLB := Lib.hid (fun O => show w1.heap.size ≤ (w5.alloc O).heap.size by have := HM5.out.big; rw [one_size]; omega)
          have L3 := Lib.hid (show F.length + 1 ≤ maxLen by have := HFL.out; unfold maxLen; omega)
          have L4 := Lib.hid (show (F.length + 1) * 8 ≤ 140737488355328 by have := HFL.out; omega)
          obtain ⟨z0, z1, z2, z3, z4, f0, f1, f2, f3, f4⟩ := boxT_facts HM5.out.row
          go_upto_region 11 with (at_builtin; refine wpList_append_own_at _ rfl _ _ 25 rfl w1.heap.size 2 i0 (.int .i64 0) 1 8 Tryz.underlying25 I0.out Z0.out Z1.out Z2.out rfl (by decide) (.slice A1 F.length c1) F.length (intsV F) rfl (HO1.out _) ⟨w5.heap.size, 0, none⟩ 1 1 [.int .i64 q] rfl rfl (news1 _ _ _ rfl) (by simp [Value.oneCell']) L3.out L4.out (HLB.out _) ?_; intro v1 w6 hown hgrow _ hat; obtain ⟨A1', c1', rfl⟩ := owns_slice hown; have hr6 := HM5.out.row1 HRW.out hgrow; clear z0 z1 z2 z3 z4 f0 f1 f2 f3 f4; obtain ⟨z0, z1, z2, z3, z4, f0, f1, f2, f3, f4⟩ := boxT_facts hr6; have hM7 := HM5.out.put1 HRW.out HWR.out hown hgrow hat; clear hown hgrow hat hr6)
          obtain ⟨W7, hW7⟩ : ∃ W7, w6.setCell ⟨w.heap.size + 2, 3, none⟩ (.slice A1' (F.length + 1) c1') = W7 := ⟨_, rfl⟩
          rw [hW7] at hM7 ⊢
          have HM7 := Lib.hid hM7
          clear hM7 hW7 z0 z1 z2 z3 z4 f0 f1 f2 f3 f4 HO1 HLB L3 L4 HM5
          have HO2 := Lib.hid (fun O => ownsI_below HM7.out.own2 (show RowKit.Below W7.heap.size W7 (W7.alloc O) from (RowKit.Below.refl _ _).alloc (Nat.le_refl _) _))
          have HLB := Lib.hid (fun O => show w1.heap.size ≤ (W7.alloc O).heap.size by have := HM7.out.big; rw [one_size]; omega)
          have L3 := Lib.hid (show T.length + 1 ≤ maxLen by have := HTL.out; unfold maxLen; omega)
          have L4 := Lib.hid (show (T.length + 1) * 8 ≤ 140737488355328 by have := HTL.out; omega)
          obtain ⟨z0, z1, z2, z3, z4, f0, f1, f2, f3, f4⟩ := boxT_facts HM7.out.row
          go_upto_region 12 with (at_builtin; refine wpList_append_own_at _ rfl _ _ 25 rfl w1.heap.size 2 i0 (.int .i64 0) 1 8 Tryz.underlying25 I0.out Z0.out Z1.out Z2.out rfl (by decide) (.slice A2 T.length c2) T.length (intsV T) rfl (HO2.out _) ⟨W7.heap.size, 0, none⟩ 1 1 [.int .i64 av] rfl rfl (news1 _ _ _ rfl) (by simp [Value.oneCell']) L3.out L4.out (HLB.out _) ?_; intro v2 w8 hown hgrow _ hat; obtain ⟨A2', c2', rfl⟩ := owns_slice hown; have hr8 := HM7.out.row2 HRW.out hgrow; clear z0 z1 z2 z3 z4 f0 f1 f2 f3 f4; obtain ⟨z0, z1, z2, z3, z4, f0, f1, f2, f3, f4⟩ := boxT_facts hr8; have hM9 := HM7.out.put2 HRW.out HWR.out hown hgrow hat; clear hown hgrow hat hr8)
          obtain ⟨W9, hW9⟩ : ∃ W9, w8.setCell ⟨w.heap.size + 2, 4, none⟩ (.slice A2' (T.length + 1) c2') = W9 := ⟨_, rfl⟩
          rw [hW9] at hM9 ⊢
          have HM9 := Lib.hid hM9
          clear hM9 hW9 z0 z1 z2 z3 z4 f0 f1 f2 f3 f4 HO2 HLB L3 L4 HM7
          go_wp2_with fail
          go_roundw
          case rel => exact ⟨m + 1, by omega, by go_num, A1', c1', A2', c2', by rw [HF'.out, HE.out, HT.out, List.length_append, List.length_append]; exact HM9.out⟩
          case measure => simp [intOf]; omega
    · have hme : L.take m = L := List.take_of_length_le (by omega)
      rw [hme] at hM
      obtain ⟨A1', c1', hv1, hrob1, hcap1⟩ := owns_ints hM.own1
      obtain ⟨A2', c2', hv2, hrob2, hcap2⟩ := owns_ints hM.own2
      have hrowM := hM.row
      rw [hv1, hv2] at hrowM
      obtain ⟨FL, hFL⟩ : ∃ FL, fI x.v.ix x.v.xs i n L = FL := ⟨_, rfl⟩
      obtain ⟨TL, hTL⟩ : ∃ TL, (fI x.v.ix x.v.xs i n L).map (gI x.v.ix x.v.xs i n) = TL := ⟨_, rfl⟩
      rw [hTL] at hrowM hrob2 hcap2
      rw [hFL] at hrowM hrob1 hcap1
      have hf1 := HF1.out
      have hf2 := HF2.out
      rw [hTL] at hf2
      rw [hFL] at hf1
      have HE1 := Lib.hid hf1
      have HE2 := Lib.hid hf2
      have HRB1 := Lib.hid hrob1
      have HRB2 := Lib.hid hrob2
      have HC1 := Lib.hid hcap1
      have HC2 := Lib.hid hcap2
      have hq2 := HQ1.out
      have HX5 := Lib.hid (setT_same (.int .i64 5) (.int .i64 x.v.nu) (.slice none 0 0) (.slice A1' FL.length c1') (.slice A2' TL.length c2') hq2)
      have HBX5 := Lib.hid (Below.set5 HBW.out (b := w.heap.size + 1) (by omega) (.int .i64 5) (.int .i64 x.v.nu) (.slice none 0 0) (.slice A1' FL.length c1') (.slice A2' TL.length c2'))
      have HSH2 := Lib.hid (show FL.length ≤ maxLen ∧ TL.length ≤ maxLen by have := HSH.out; rw [hf1, hf2]; unfold maxLen; omega)
      clear hFL hTL hf1 hf2 hrob1 hrob2 hcap1 hcap2 hM HM hme hv1 hv2 hP1 HF1 HF2 hrow
      obtain ⟨z0, z1, z2, z3, z4, f0, f1, f2, f3, f4⟩ := boxT_facts hrowM
      obtain ⟨y0, y1, y2, y3, y4, g0, g1, g2, g3, g4⟩ := boxT_facts hq2
      clear hrowM hq2 hQ1 hbw hLr
      go_wp2_with fail
      clear z0 z1 z2 z3 z4 f0 f1 f2 f3 f4 y0 y1 y2 y3 y4 g0 g1 g2 g3 g4
      obtain ⟨y0, y1, y2, y3, y4, _, _, _, _, _⟩ := boxT_facts HX5.out
      refine bodyPost_ret (v := .agg #[.int .i64 5, .int .i64 x.v.nu, .slice none 0 0, .slice A1' FL.length c1', .slice A2' TL.length c2']) (by simp [results, Tryz.results134, go_sem, y0, y1, y2, y3, y4]) rfl ⟨⟨⟨⟨5, x.v.nu, [], FL, TL⟩, none, 0, A1', c1', A2', c2'⟩, rfl, by rw [← HE1.out, ← HE2.out], fun W' hW' => ?_, ⟨by simp, HC1.out, HC2.out⟩⟩, HBX5.out⟩
      have hag : ∀ k, w1.heap.size ≤ k → k < wr.heap.size → W'.heap[k]? = wr.heap[k]? := fun k k1 k2 => (hW' k (by omega) (by rw [set5_size]; exact k2)).trans (set5_other _ _ _ _ _ (by omega))
      exact ⟨ints_nil _, HRB1.out W' hag, HRB2.out W' hag, by simp, HSH2.out.1, HSH2.out.2⟩
end Go.Proofs.YtmeeombadkgneaaGreat
