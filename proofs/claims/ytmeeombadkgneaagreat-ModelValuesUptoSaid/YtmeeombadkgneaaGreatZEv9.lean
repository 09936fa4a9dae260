/-
  What find returns of a name and arguments: the value of their entry, or the default of the sort; conditions: the table and the arguments lie in memory, the table is in order and not long.
-/
import Derived.Test.YtmeeombadkgneaaGreatZVa36
namespace Go.Proofs.YtmeeombadkgneaaGreat
open Go.Proofs Go.RowKit Go.Shelf Go.Sort Go.Lib

attribute [local go_sem] Oper.semAt_some
def plV2 (so : Int) : VA := ⟨⟨so, 0, [], [], []⟩, none, 0, none, 0, none, 0⟩
/-- What is looked for. -/
def skA (nm : ByteArray) (args : List VA) (A : Option Addr) (c : Nat) (so : Int) : EA := ⟨nm, args, A, c, plV2 so⟩
def FindR (l : List EA) (nm : ByteArray) (args : List VA) (so : Int) (v : VA) : Prop :=
  (∃ (k : Nat) (h : k < l.length), cmpE l[k] (skA nm args none 0 so) = 0 ∧ v = l[k].val) ∨ ((∀ x ∈ l, cmpE x (skA nm args none 0 so) ≠ 0) ∧ v = plV2 so)
theorem cmp_skA (x : EA) (nm : ByteArray) (args : List VA) (A : Option Addr) (c : Nat) (so : Int) : cmpE x (skA nm args A c so) = cmpE x (skA nm args none 0 so) := rfl
theorem flatV_len : ∀ l : List VA, (flatV l).length = l.length * 5
  | [] => rfl
  | x :: l => by
    show (cells5V x ++ flatV l).length = _
    rw [List.length_append, flatV_len l]
    show 5 + l.length * 5 = (l.length + 1) * 5
    omega
theorem newsV5 (W : World) (x : VA) (t : TypeId) (bk : Nat) (hb : bk = W.heap.size) :
    ∀ (j : Nat) (u : Value), (cells5V x)[j]? = some u → (W.alloc (boxV x t)).cell? ((⟨bk, 0, none⟩ : Addr).add j) = some u := by
  subst hb
  intro j u hj
  have S := fiveV_new W x t
  match j, hj with
  | 0, hj => simp at hj; subst hj; exact S.c0
  | 1, hj => simp at hj; subst hj; exact S.c1
  | 2, hj => simp at hj; subst hj; exact S.c2
  | 3, hj => simp at hj; subst hj; exact S.c3
  | 4, hj => simp at hj; subst hj; exact S.c4
theorem oneV5 (x : VA) : ∀ u ∈ cells5V x, u.oneCell' = true := by simp [Value.oneCell']
/-- A row of values that a growing list owns. -/
theorem owns_vals {w : World} {base : Nat} {v : Value} {l : List VA} (h : w.ownsRow base 27 5 v l.length (flatV l)) (he : ∀ x ∈ l, LiesV w x) (hm : l.length ≤ maxLen) : ∃ A c, v = .slice A l.length c ∧ LiesVs w A l := by
  rcases h.2 with ⟨hv, hn⟩ | ⟨g, cap, cur, hv, h1, h2, h3, h4, h5, h6⟩
  · exact ⟨none, 0, by rw [hv, hn], hm, ⟨0, 0, fun h => by omega, fun i hi => by omega⟩, fun i hi => by omega⟩
  · refine ⟨_, cap, hv, hm, ⟨g, 0, fun _ => rfl, fun i hi => ?_⟩, fun i hi => he _ (List.getElem_mem hi)⟩
    have hc : ∀ j, j < 5 → w.cell? ⟨g, 0 + i * 5 + j, none⟩ = (cells5V l[i])[j]? := fun j hj => by
      have := flatV_at l i hi j hj
      rw [← h6, List.getElem?_take_of_lt (by omega)] at this
      rw [← this]
      simp [World.cell?, h2]
    exact ⟨hc 0 (by omega), hc 1 (by omega), hc 2 (by omega), hc 3 (by omega), hc 4 (by omega)⟩
theorem ownsV_below {w w' : World} {base : Nat} {v : Value} {n : Nat} {xs : List Value} (h : w.ownsRow base 27 5 v n xs) (hb : RowKit.Below w.heap.size w w') : w'.ownsRow base 27 5 v n xs := by
  refine ⟨h.1, ?_⟩
  rcases h.2 with h | ⟨g, cap, cur, hv, h1, h2, h3⟩
  · exact .inl h
  · exact .inr ⟨g, cap, cur, hv, h1, (hb.block g (Array.getElem?_eq_some_iff.1 h2).1).trans h2, h3⟩
theorem ownsV_set {w : World} {base : Nat} {v : Value} {n : Nat} {xs : List Value} (h : w.ownsRow base 27 5 v n xs) {p : Addr} (hp : p.block < base) (u : Value) : (w.setCell p u).ownsRow base 27 5 v n xs := by
  refine ⟨h.1, ?_⟩
  rcases h.2 with h | ⟨g, cap, cur, hv, h1, h2, h3⟩
  · exact .inl h
  · exact .inr ⟨g, cap, cur, hv, h1, (heap_setCell_other _ _ _ _ (by omega)).trans h2, h3⟩
theorem owns_slice {w : World} {base : Nat} {e : TypeId} {size : Nat} {v : Value} {n : Nat} {xs : List Value} (h : w.ownsRow base e size v n xs) : ∃ A c, v = .slice A n c := by
  rcases h.2 with ⟨hv, hn⟩ | ⟨g, cap, cur, hv, _⟩
  · exact ⟨none, 0, by rw [hv, hn]⟩
  · exact ⟨_, cap, hv⟩
theorem search_miss {l : List EA} {y : EA} (ha : Asc l) {i : Nat} (hi : i ≤ l.length) (h1 : ∀ t (_ : t < l.length), t < i → cmpE l[t] y < 0) (h2 : ∀ t (_ : t < l.length), i ≤ t → 0 ≤ cmpE l[t] y) (hh : hitE l y i = false) : ∀ x ∈ l, cmpE x y ≠ 0 := by
  intro x hx hz
  obtain ⟨t, ht, rfl⟩ := List.getElem_of_mem hx
  have e := search_at ha ht hz hi h1 h2
  subst e
  rw [hitE_in ht, hz] at hh
  cases hh
abbrev rowS (nm : ByteArray) (v : Value) (so : Int) : Array Value := #[.string nm, v, .int .i64 so, .int .i64 0, .slice none 0 0, .slice none 0 0, .slice none 0 0]
set_option maxRecDepth 100000 in
set_option maxHeartbeats 4000000 in
theorem find_any (l : List EA) (nm : ByteArray) (args : List VA) (so : Int) (A B : Option Addr) (cap cb : Nat) (w : World) (hL : LiesM w A l) (hl : l.length ≤ 2000) (ha : Asc l) (hnm : nm.size ≤ maxLen) (hB : LiesVs w B args) (hal : args.length ≤ 10000) :
    Calls Tryz.prog 121 #[.slice A l.length cap, .string nm, .slice B args.length cb, .int .i64 so] w fun e w' => (∃ v : VA, e = .returned (vv v) ∧ FindR l nm args so v) ∧ RowKit.Below w.heap.size w w' := by
  obtain ⟨i0, hi, hz0, hz1, hz2⟩ := info_parts info27
  have I0 := Lib.hid hi
  have Z0 := Lib.hid hz0
  have Z1 := Lib.hid hz1
  have Z2 := Lib.hid hz2
  clear hi hz0 hz1 hz2
  obtain ⟨W, hW⟩ : ∃ W, (w.alloc (.cells #[.int .i64 0, .int .i64 0, .slice none 0 0, .slice none 0 0, .slice none 0 0] 63)).alloc (.cells #[.string nm, .slice none 0 0, .int .i64 so, .int .i64 0, .slice none 0 0, .slice none 0 0, .slice none 0 0] 29) = W := ⟨_, rfl⟩
  have HBw := Lib.hid (show RowKit.Below w.heap.size w W by rw [← hW]; exact ((RowKit.Below.refl _ _).alloc (Nat.le_refl _) _).alloc (by rw [one_size]; omega) _)
  have HP := Lib.hid (show W.heap[w.heap.size]? = some (.cells #[.int .i64 0, .int .i64 0, .slice none 0 0, .slice none 0 0, .slice none 0 0] 63) by rw [← hW]; exact two_fst _ _ _)
  have HQ := Lib.hid (show W.heap[w.heap.size + 1]? = some (.cells (rowS nm (.slice none 0 0) so) 29) by rw [← hW]; exact two_snd _ _ _)
  have HSZ := Lib.hid (show W.heap.size = w.heap.size + 2 by rw [← hW]; exact two_size _ _ _)
  have HL := Lib.hid hL
  have HA := Lib.hid ha
  have HV := Lib.hid hB
  have HNM := Lib.hid hnm
  have HW := Lib.hid hW
  clear hW hL ha hB hnm
  go_enter Tryz.func121, Tryz.ntmps121
  go_upto_region 2 with fail
  rw [HW.out]
  go_wp2_with fail
  go_loopw [20] (fun i wr => ∃ (k : Nat) (v : Value), k ≤ args.length ∧ i = .int .i64 k ∧ Hid (wr.heap[w.heap.size + 1]? = some (.cells (rowS nm v so) 29 (0, 0))) ∧ Hid (wr.heap[w.heap.size]? = some (.cells #[.int .i64 0, .int .i64 0, .slice none 0 0, .slice none 0 0, .slice none 0 0] 63 (0, 0))) ∧ Hid (wr.ownsRow W.heap.size 27 5 v k (flatV (args.take k))) ∧ Hid (RowKit.Below w.heap.size w wr) ∧ Hid (W.heap.size ≤ wr.heap.size)) (fun i _ => args.length - (intOf i).toNat)
  case atStart => exact ⟨0, _, Nat.zero_le _, rfl, HQ.out, HP.out, World.ownsRow_nil _ _ _ _, HBw.out, Nat.le_refl _⟩
  case round =>
    obtain ⟨k, v, hk, rfl, hq, hp, hown, hBr, hsz⟩ := hrel
    have hs0 := HSZ.out
    have hs1 := hsz.out
    by_cases hlt : k < args.length
    · obtain ⟨b, o, ha, hc⟩ := (HV.out.later hBr.out).at_
      have ha := ha (by omega)
      obtain ⟨c0, c1, c2, c3, c4⟩ := hc k hlt
      obtain ⟨z0, z1, z2, z3, z4, z5, z6, f0, f1, f2, f3, f4, f5, f6⟩ := boxE_facts hq.out
      have htk := Lib.hid (show args.take (k + 1) = args.take k ++ [args[k]] from List.take_succ_eq_append_getElem hlt)
      generalize args[k] = x at *
      have hlen : (args.take k).length = k := by rw [List.length_take]; omega
      generalize args.take k = pre at *
      have HO0 := Lib.hid hown.out
      have Hg := Lib.hid hown.out.lt
      have g1 : RowKit.Below wr.heap.size wr (wr.alloc (boxV x 63)) := (RowKit.Below.refl _ _).alloc (Nat.le_refl _) _
      have hq1 := (g1.block _ (Array.getElem?_eq_some_iff.1 hq.out).1).trans hq.out
      obtain ⟨p0, p1, p2, p3, p4, p5, p6, h0, h1, h2, h3, h4, h5, h6⟩ := boxE_facts hq1
      have hne : ¬ w.heap.size + 1 = wr.heap.size := by omega
      have G1 := Lib.hid g1
      have HO := Lib.hid (fun O => ownsV_below HO0.out (show RowKit.Below wr.heap.size wr ((wr.alloc (boxV x 63)).alloc O) from g1.alloc g1.size _))
      have L3 := Lib.hid (show k + 1 ≤ maxLen by unfold maxLen; omega)
      have L4 := Lib.hid (show (k + 1) * 88 ≤ 140737488355328 by omega)
      have HLB := Lib.hid (fun O => show W.heap.size ≤ ((wr.alloc (boxV x 63)).alloc O).heap.size by rw [one_size, one_size]; omega)
      have HLEN := Lib.hid hlen
      clear hc hown g1 hq1 hlen
      rw [ha] at *
      go_wp2_with (at_builtin; refine wpList_append_own _ rfl _ _ 24 rfl W.heap.size 27 i0 _ 5 88 Tryz.underlying24 I0.out Z0.out Z1.out Z2.out rfl (by decide) v k (flatV pre) rfl (HO.out _) ⟨wr.heap.size + 1, 0, none⟩ 1 1 (cells5V x) rfl rfl (newsV5 _ _ _ _ (by rw [one_size])) (oneV5 x) L3.out L4.out (HLB.out _) ?_; intro v1 w4 hown1 hgrow1 _; obtain ⟨A1, cc1, hv1⟩ := owns_slice hown1; subst hv1; clear z0 z1 z2 z3 z4 z5 z6 f0 f1 f2 f3 f4 f5 f6 p0 p1 p2 p3 p4 p5 p6 h0 h1 h2 h3 h4 h5 h6; have hbb : RowKit.Below W.heap.size wr w4 := ((((RowKit.Below.refl W.heap.size wr).alloc hsz.out _).alloc (by have := hsz.out; rw [one_size]; omega) _).grown hgrow1 (HLB.out _) (fun k e => (Hg.out k e).1)); have hq4 := (hbb.block (w.heap.size + 1) (by have := HSZ.out; omega)).trans hq.out; have hp4 := (hbb.block w.heap.size (by have := HSZ.out; omega)).trans hp.out; obtain ⟨z0, z1, z2, z3, z4, z5, z6, f0, f1, f2, f3, f4, f5, f6⟩ := boxE_facts hq4; have HQ4 := Lib.hid hq4; have HP4 := Lib.hid hp4; have HBB := Lib.hid hbb; have HOW := Lib.hid hown1; clear hown1 hgrow1 hq4 hp4 hbb)
      go_roundw
      case rel =>
        refine ⟨k + 1, .slice A1 (k + 1) cc1, by omega, by go_num, heap_setCell_same w4 (w.heap.size + 1) 1 _ _ (.slice A1 (k + 1) cc1) HQ4.out, (heap_setCell_other _ _ _ _ (by show w.heap.size ≠ w.heap.size + 1; omega)).trans HP4.out, ?_, (hBr.out.trans (HBB.out.mono (by have := HSZ.out; omega))).setCell (by show w.heap.size ≤ w.heap.size + 1; omega) _, by show W.heap.size ≤ _; rw [set_size]; exact Nat.le_trans hsz.out HBB.out.size⟩
        rw [htk.out, flatV_snoc]
        exact ownsV_set HOW.out (by show w.heap.size + 1 < W.heap.size; have := HSZ.out; omega) _
      case measure => simp [intOf]; omega
    · have hkk : k = args.length := by omega
      subst hkk
      have hown' := hown.out
      rw [List.take_length] at hown'
      obtain ⟨A', c', hv, hlv⟩ := owns_vals hown' (fun x hx => by obtain ⟨j, hj, rfl⟩ := List.getElem_of_mem hx; exact (HV.out.each j hj).later hBr.out) HV.out.len
      subst hv
      obtain ⟨z0, z1, z2, z3, z4, z5, z6, f0, f1, f2, f3, f4, f5, f6⟩ := boxE_facts hq.out
      have HS := Lib.hid (show LiesE wr (skA nm args A' c' so) from ⟨HNM.out, hlv, ⟨ints_zero _, ints_zero _, ints_zero _, by simp [skA, plV2], by simp [skA, plV2], by simp [skA, plV2]⟩⟩)
      have HLr := Lib.hid (HL.out.later hBr.out)
      have HBr := Lib.hid hBr.out
      have Hp := Lib.hid hp.out
      generalize wr = wo at *
      clear hown hown' hlv hq HV hp hBr
      go_wp2_with fail
      refine (searchE_any l (skA nm args A' c' so) A cap _ HLr.out HS.out hl HA.out).mono ?_
      rintro e w1 ⟨⟨i, hi, rfl, h1, h2⟩, b1⟩
      have hP1 := (b1.block _ (Array.getElem?_eq_some_iff.1 Hp.out).1).trans Hp.out
      have HB1 := Lib.hid (HBr.out.trans (b1.mono HBr.out.size))
      clear z0 z1 z2 z3 z4 z5 z6 f0 f1 f2 f3 f4 f5 f6
      cases hh : hitE l (skA nm args A' c' so) i
      case false =>
        have HF := Lib.hid (show FindR l nm args so (plV2 so) from .inr ⟨fun x hx => by have := search_miss HA.out hi h1 h2 hh x hx; rwa [cmp_skA] at this, rfl⟩)
        have HP1 := Lib.hid hP1
        clear hh h1 h2 hP1 b1
        go_wp2_with fail
        refine (standard_any so _).mono ?_
        rintro e w2 ⟨rfl, b2⟩
        have hP2 := (b2.block _ (Array.getElem?_eq_some_iff.1 HP1.out).1).trans HP1.out
        have HX := Lib.hid (setT_same (.int .i64 so) (.int .i64 0) (.slice none 0 0) (.slice none 0 0) (.slice none 0 0) hP2)
        have HBX := Lib.hid (Below.set5 (HB1.out.trans (b2.mono HB1.out.size)) (b := w.heap.size) (Nat.le_refl _) (.int .i64 so) (.int .i64 0) (.slice none 0 0) (.slice none 0 0) (.slice none 0 0))
        obtain ⟨z0, z1, z2, z3, z4, f0, f1, f2, f3, f4⟩ := boxT_facts hP2
        clear hP2 b2
        go_wp2_with fail
        clear z0 z1 z2 z3 z4 f0 f1 f2 f3 f4
        obtain ⟨y0, y1, y2, y3, y4, _, _, _, _, _⟩ := boxT_facts HX.out
        exact bodyPost_ret (v := pv so 0) (by simp [results, Tryz.results121, go_sem, y0, y1, y2, y3, y4]) rfl ⟨⟨plV2 so, rfl, HF.out⟩, HBX.out⟩
      case true =>
        have hil : i < l.length := by
          by_cases h : i < l.length
          · exact h
          · rw [hitE_out (by omega)] at hh; cases hh
        have hz : cmpE l[i] (skA nm args none 0 so) = 0 := by
          rw [hitE_in hil, beq_iff_eq, cmp_skA] at hh
          exact hh
        have HF := Lib.hid (show FindR l nm args so l[i].val from .inl ⟨i, hil, hz, rfl⟩)
        have hL1 := HLr.out.later b1
        obtain ⟨b, o, ha, hc⟩ := hL1.at_
        have ha := ha (by omega)
        obtain ⟨c0, c1, c2, c3, c4, c5, c6⟩ := hc i hil
        generalize l[i] = x at *
        have HX := Lib.hid (setT_same (.int .i64 x.val.v.so) (.int .i64 x.val.v.nu) (.slice x.val.a1 x.val.v.st.length x.val.c1) (.slice x.val.a2 x.val.v.ix.length x.val.c2) (.slice x.val.a3 x.val.v.xs.length x.val.c3) hP1)
        have HBX := Lib.hid (Below.set5 HB1.out (b := w.heap.size) (Nat.le_refl _) (.int .i64 x.val.v.so) (.int .i64 x.val.v.nu) (.slice x.val.a1 x.val.v.st.length x.val.c1) (.slice x.val.a2 x.val.v.ix.length x.val.c2) (.slice x.val.a3 x.val.v.xs.length x.val.c3))
        obtain ⟨z0, z1, z2, z3, z4, f0, f1, f2, f3, f4⟩ := boxT_facts hP1
        clear hL1 hc hP1 b1 h1 h2 hh hz
        rw [ha] at *
        go_wp2_with fail
        clear z0 z1 z2 z3 z4 f0 f1 f2 f3 f4
        obtain ⟨y0, y1, y2, y3, y4, _, _, _, _, _⟩ := boxT_facts HX.out
        exact bodyPost_ret (v := vv x.val) (by simp [results, Tryz.results121, go_sem, y0, y1, y2, y3, y4]) rfl ⟨⟨x.val, rfl, HF.out⟩, HBX.out⟩
end Go.Proofs.YtmeeombadkgneaaGreat
