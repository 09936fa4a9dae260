/-
  What find returns of a name without arguments that has an entry in the table; conditions: the table lies in memory, is in order and not long.
  What apply and evaluate return of a variable that has an entry in the table; conditions: the table lies in memory, is in order and not long.
  What evaluate returns of a variable that has a small entry in the table; conditions: the table lies in memory, is in order and not long.
  What the law's awake returns: true; conditions: none.
-/
import Derived.Test.YtmeeombadkgneaaGreatZVa32
import Derived.Test.YtmeeombadkgneaaGreatZLev
import Derived.Test.YtmeeombadkgneaaGreatZCheck
namespace Go.Proofs.YtmeeombadkgneaaGreat
open Go.Proofs Go.RowKit Go.Shelf Go.Sort Go.Lib

attribute [local go_sem] Oper.semAt_some
/-- What find looks for, without arguments. -/
def skE (nm : ByteArray) (so : Int) : EA := ⟨nm, [], none, 0, ⟨⟨so, 0, [], [], []⟩, none, 0, none, 0, none, 0⟩⟩
theorem lies_skE (w : World) (nm : ByteArray) (so : Int) (h : nm.size ≤ maxLen) : LiesE w (skE nm so) :=
  ⟨h, ⟨by simp [skE], ⟨0, 0, fun h => by simp [skE] at h, fun i h => by simp [skE] at h⟩, fun i h => by simp [skE] at h⟩, ⟨ints_zero w, ints_zero w, ints_zero w, by simp [skE], by simp [skE], by simp [skE]⟩⟩
/-- The place that the search tells is the entry's. -/
theorem search_at {l : List EA} {y : EA} (ha : Asc l) {k i : Nat} (hk : k < l.length) (hz : cmpE l[k] y = 0) (hi : i ≤ l.length) (h1 : ∀ t (_ : t < l.length), t < i → cmpE l[t] y < 0) (h2 : ∀ t (_ : t < l.length), i ≤ t → 0 ≤ cmpE l[t] y) : i = k := by
  have hik : i ≤ k := by
    by_cases h : k < i
    · have := h1 k hk h; omega
    · omega
  by_cases e : i = k
  · exact e
  · have hil : i < l.length := by omega
    have h3 := List.pairwise_iff_getElem.1 ha i k hil hk (by omega)
    have h4 := h2 i hil (Nat.le_refl _)
    obtain ⟨a, b⟩ := laws_E.tri l[i] l[k] y (by omega) (by omega)
    omega
set_option maxRecDepth 100000 in
set_option maxHeartbeats 4000000 in
theorem findHit_any (l : List EA) (nm : ByteArray) (so : Int) (A B : Option Addr) (cap cb : Nat) (w : World) (hL : LiesM w A l) (hl : l.length ≤ 2000) (ha : Asc l) (hnm : nm.size ≤ maxLen) (k : Nat) (hk : k < l.length) (hz : cmpE l[k] (skE nm so) = 0) :
    Calls Tryz.prog 121 #[.slice A l.length cap, .string nm, .slice B 0 cb, .int .i64 so] w fun e w' => e = .returned (vv l[k].val) ∧ RowKit.Below w.heap.size w w' := by
  obtain ⟨W, hW⟩ : ∃ W, (w.alloc (.cells #[.int .i64 0, .int .i64 0, .slice none 0 0, .slice none 0 0, .slice none 0 0] 63)).alloc (.cells #[.string nm, .slice none 0 0, .int .i64 so, .int .i64 0, .slice none 0 0, .slice none 0 0, .slice none 0 0] 29) = W := ⟨_, rfl⟩
  have HB := Lib.hid (show RowKit.Below w.heap.size w W by rw [← hW]; exact ((RowKit.Below.refl _ _).alloc (Nat.le_refl _) _).alloc (by rw [one_size]; omega) _)
  have HP := Lib.hid (show W.heap[w.heap.size]? = some (.cells #[.int .i64 0, .int .i64 0, .slice none 0 0, .slice none 0 0, .slice none 0 0] 63) by rw [← hW]; exact two_fst _ _ _)
  have HQ := Lib.hid (show W.heap[w.heap.size + 1]? = some (.cells #[.string nm, .slice none 0 0, .int .i64 so, .int .i64 0, .slice none 0 0, .slice none 0 0, .slice none 0 0] 29) by rw [← hW]; exact two_snd _ _ _)
  have HL := Lib.hid (hL.later HB.out)
  have HS := Lib.hid (lies_skE W nm so hnm)
  have HA := Lib.hid ha
  have HF := Lib.hid (fun i => search_at (i := i) ha hk hz)
  have HZ := Lib.hid hz
  have HK := Lib.hid hk
  have HW := Lib.hid hW
  have hit := Lib.hid (show hitE l (skE nm so) k = true by rw [hitE_in hk, hz]; rfl)
  clear hW hL ha hz
  go_enter Tryz.func121, Tryz.ntmps121
  go_upto_region 2 with fail
  rw [HW.out]
  obtain ⟨z0, z1, z2, z3, z4, z5, z6, f0, f1, f2, f3, f4, f5, f6⟩ := boxE_facts HQ.out
  go_wp2_with fail
  refine wp_loop_rounds 1 ?_
  rw [rounds_succ]
  go_wp2_with fail
  refine (searchE_any l (skE nm so) A cap _ HL.out HS.out hl HA.out).mono ?_
  rintro e w1 ⟨⟨i, hi, rfl, h1, h2⟩, b1⟩
  obtain rfl := HF.out i hi h1 h2
  rw [hit.out]
  have hL1 := HL.out.later b1
  obtain ⟨b, o, ha, hc⟩ := hL1.at_
  have ha := ha (by omega)
  obtain ⟨c0, c1, c2, c3, c4, c5, c6⟩ := hc i hk
  have hP1 := (b1.block _ (Array.getElem?_eq_some_iff.1 HP.out).1).trans HP.out
  generalize hx : l[i] = x at *
  have HE := Lib.hid hx
  clear hx
  have HX := Lib.hid (setT_same (.int .i64 x.val.v.so) (.int .i64 x.val.v.nu) (.slice x.val.a1 x.val.v.st.length x.val.c1) (.slice x.val.a2 x.val.v.ix.length x.val.c2) (.slice x.val.a3 x.val.v.xs.length x.val.c3) hP1)
  have HBX := Lib.hid (Below.set5 (HB.out.trans (b1.mono HB.out.size)) (b := w.heap.size) (Nat.le_refl _) (.int .i64 x.val.v.so) (.int .i64 x.val.v.nu) (.slice x.val.a1 x.val.v.st.length x.val.c1) (.slice x.val.a2 x.val.v.ix.length x.val.c2) (.slice x.val.a3 x.val.v.xs.length x.val.c3))
  clear z0 z1 z2 z3 z4 z5 z6 f0 f1 f2 f3 f4 f5 f6
  obtain ⟨z0, z1, z2, z3, z4, f0, f1, f2, f3, f4⟩ := boxT_facts hP1
  clear hL1 hc hP1 b1 h1 h2
  rw [ha] at *
  go_wp2_with fail
  clear z0 z1 z2 z3 z4 f0 f1 f2 f3 f4
  obtain ⟨y0, y1, y2, y3, y4, _, _, _, _, _⟩ := boxT_facts HX.out
  exact bodyPost_ret (v := vv x.val) (by simp [results, Tryz.results121, go_sem, y0, y1, y2, y3, y4]) rfl ⟨congrArg (fun q : EA => Ending.returned (vv q.val)) HE.out.symm, HBX.out⟩
end Go.Proofs.YtmeeombadkgneaaGreat
namespace Go.Proofs.YtmeeombadkgneaaGreat
open Go.Proofs Go.RowKit Go.Shelf Go.Sort Go.Lib

attribute [local go_sem] Oper.semAt_some
set_option maxRecDepth 100000 in
set_option maxHeartbeats 4000000 in
theorem applyVar_any (l : List EA) (nm : ByteArray) (so nu : Int) (A B C : Option Addr) (cap cb cc : Nat) (w : World) (hL : LiesM w A l) (hl : l.length ≤ 2000) (ha : Asc l) (hnm : nm.size ≤ maxLen) (k : Nat) (hk : k < l.length) (hz : cmpE l[k] (skE nm so) = 0) :
    Calls Tryz.prog 98 #[.slice A l.length cap, nv 1 so nm nu (.slice C 0 cc), .slice B 0 cb] w fun e w' => e = .returned (vv l[k].val) ∧ RowKit.Below w.heap.size w w' := by
  obtain ⟨W, hW⟩ : ∃ W, (w.alloc (.cells #[.int .i64 1, .int .i64 so, .string nm, .int .i64 nu, .slice C 0 cc] 44)).alloc (.cells #[.int .i64 0, .int .i64 0, .slice none 0 0, .slice none 0 0, .slice none 0 0] 63) = W := ⟨_, rfl⟩
  have HB := Lib.hid (show RowKit.Below w.heap.size w W by rw [← hW]; exact ((RowKit.Below.refl _ _).alloc (Nat.le_refl _) _).alloc (by rw [one_size]; omega) _)
  have HP := Lib.hid (show W.heap[w.heap.size]? = some (.cells #[.int .i64 1, .int .i64 so, .string nm, .int .i64 nu, .slice C 0 cc] 44) by rw [← hW]; exact two_fst _ _ _)
  have HQ := Lib.hid (show W.heap[w.heap.size + 1]? = some (.cells #[.int .i64 0, .int .i64 0, .slice none 0 0, .slice none 0 0, .slice none 0 0] 63) by rw [← hW]; exact two_snd _ _ _)
  have HL := Lib.hid (hL.later HB.out)
  have HA := Lib.hid ha
  have HZ := Lib.hid hz
  have HW := Lib.hid hW
  clear hW hL ha hz
  go_enter Tryz.func98, Tryz.ntmps98
  go_upto_region 1 with fail
  rw [HW.out]
  obtain ⟨z0, z1, z2, z3, z4, f0, f1, f2, f3, f4⟩ := boxT_facts HP.out
  go_wp2_with fail
  refine (findHit_any l nm so A B cap cb _ HL.out hl HA.out hnm k hk HZ.out).mono ?_
  rintro e w1 ⟨rfl, b1⟩
  have hQ1 := (b1.block _ (Array.getElem?_eq_some_iff.1 HQ.out).1).trans HQ.out
  generalize hx : l[k] = x at *
  have HE := Lib.hid hx
  clear hx
  have HX := Lib.hid (setT_same (.int .i64 x.val.v.so) (.int .i64 x.val.v.nu) (.slice x.val.a1 x.val.v.st.length x.val.c1) (.slice x.val.a2 x.val.v.ix.length x.val.c2) (.slice x.val.a3 x.val.v.xs.length x.val.c3) hQ1)
  have HBX := Lib.hid (Below.set5 (HB.out.trans (b1.mono HB.out.size)) (b := w.heap.size + 1) (by omega) (.int .i64 x.val.v.so) (.int .i64 x.val.v.nu) (.slice x.val.a1 x.val.v.st.length x.val.c1) (.slice x.val.a2 x.val.v.ix.length x.val.c2) (.slice x.val.a3 x.val.v.xs.length x.val.c3))
  clear z0 z1 z2 z3 z4 f0 f1 f2 f3 f4
  obtain ⟨z0, z1, z2, z3, z4, f0, f1, f2, f3, f4⟩ := boxT_facts hQ1
  clear hQ1 b1
  go_wp2_with fail
  clear z0 z1 z2 z3 z4 f0 f1 f2 f3 f4
  obtain ⟨y0, y1, y2, y3, y4, _, _, _, _, _⟩ := boxT_facts HX.out
  exact bodyPost_ret (v := vv x.val) (by simp [results, Tryz.results98, go_sem, y0, y1, y2, y3, y4]) rfl ⟨congrArg (fun q : EA => Ending.returned (vv q.val)) HE.out.symm, HBX.out⟩
end Go.Proofs.YtmeeombadkgneaaGreat
namespace Go.Proofs.YtmeeombadkgneaaGreat
open Go.Proofs Go.RowKit Go.Shelf Go.Sort Go.Lib

attribute [local go_sem] Oper.semAt_some
theorem info63c : (Tryz.prog.info? 63).map (fun i => (i.zero, i.size, i.bytes)) = some (some (.agg #[.int .i64 0, .int .i64 0, .slice none 0 0, .slice none 0 0, .slice none 0 0]), 5, 88) := by kernel_rfl
set_option maxRecDepth 100000 in
set_option maxHeartbeats 4000000 in
theorem evalVar_any (l : List EA) (nm : ByteArray) (so nu : Int) (A C : Option Addr) (cap cc : Nat) (w : World) (hL : LiesM w A l) (hl : l.length ≤ 2000) (ha : Asc l) (hnm : nm.size ≤ maxLen) (k : Nat) (hk : k < l.length) (hz : cmpE l[k] (skE nm so) = 0) (hs : smallV l[k].val.v = true) :
    Calls Tryz.prog 74 #[.slice A l.length cap, nv 1 so nm nu (.slice C 0 cc)] w fun e w' => e = .returned (.tuple #[vv l[k].val, .bool true]) ∧ RowKit.Below w.heap.size w w' := by
  obtain ⟨i0, hi, hz0, hz1, hz2⟩ := info_parts info63c
  have I0 := Lib.hid hi
  have Z0 := Lib.hid hz0
  have Z1 := Lib.hid hz1
  have Z2 := Lib.hid hz2
  clear hi hz0 hz1 hz2
  obtain ⟨W, hW⟩ : ∃ W, (w.alloc (.cells #[.int .i64 1, .int .i64 so, .string nm, .int .i64 nu, .slice C 0 cc] 44)).alloc (.cells #[.int .i64 0, .int .i64 0, .slice none 0 0, .slice none 0 0, .slice none 0 0] 63) = W := ⟨_, rfl⟩
  have HB := Lib.hid (show RowKit.Below w.heap.size w W by rw [← hW]; exact ((RowKit.Below.refl _ _).alloc (Nat.le_refl _) _).alloc (by rw [one_size]; omega) _)
  have HP := Lib.hid (show W.heap[w.heap.size]? = some (.cells #[.int .i64 1, .int .i64 so, .string nm, .int .i64 nu, .slice C 0 cc] 44) by rw [← hW]; exact two_fst _ _ _)
  have HQ := Lib.hid (show W.heap[w.heap.size + 1]? = some (.cells #[.int .i64 0, .int .i64 0, .slice none 0 0, .slice none 0 0, .slice none 0 0] 63) by rw [← hW]; exact two_snd _ _ _)
  have HSZ := Lib.hid (show W.heap.size = w.heap.size + 2 by rw [← hW]; exact two_size _ _ _)
  have HL := Lib.hid (hL.later HB.out)
  have HA := Lib.hid ha
  have HZ := Lib.hid hz
  have HS := Lib.hid hs
  have HW := Lib.hid hW
  clear hW hL ha hz hs
  go_enter Tryz.func74, Tryz.ntmps74
  go_upto_region 1 with fail
  rw [HW.out]
  obtain ⟨z0, z1, z2, z3, z4, f0, f1, f2, f3, f4⟩ := boxT_facts HP.out
  have BY : Hid (i0.bytes * 0 ≤ 281474976710656) := by show _ ≤ _; omega
  have ML : Hid (0 ≤ maxLen) := Nat.zero_le _
  go_wp2_with (at_make; refine wpList_make_full _ rfl _ _ 112 rfl W.heap.size 63 i0 _ 5 Tryz.underlying112 I0.out Z0.out Z1.out .i64 .i64 _ _ 0 rfl rfl rfl rfl BY.out ML.out (Nat.le_refl _) ?_; intro w1 hown1 hgrow1; clear z0 z1 z2 z3 z4 f0 f1 f2 f3 f4; have B1 : RowKit.Below W.heap.size W w1 := (RowKit.Below.refl _ _).grown hgrow1 (Nat.le_refl _) (fun k e => by cases e); obtain ⟨z0, z1, z2, z3, z4, f0, f1, f2, f3, f4⟩ := boxT_facts ((B1.block _ (Array.getElem?_eq_some_iff.1 HP.out).1).trans HP.out); have HB1 := Lib.hid B1; clear B1 hown1 hgrow1)
  refine wp_loop_rounds 1 ?_
  rw [rounds_succ]
  go_wp2_with fail
  refine (applyVar_any l nm so nu A _ C cap _ cc _ (HL.out.later HB1.out) hl HA.out hnm k hk HZ.out).mono ?_
  rintro e w2 ⟨rfl, b2⟩
  have HE0 := HS.out
  generalize hx : l[k].val = x at *
  have HE := Lib.hid hx
  have HSM := Lib.hid HE0
  clear hx HE0
  have hb12 := HB1.out.trans (b2.mono HB1.out.size)
  have hQ2 := (hb12.block _ (Array.getElem?_eq_some_iff.1 HQ.out).1).trans HQ.out
  have HB2 := Lib.hid hb12
  have HQ2 := Lib.hid hQ2
  clear z0 z1 z2 z3 z4 f0 f1 f2 f3 f4 b2 hb12
  obtain ⟨z0, z1, z2, z3, z4, f0, f1, f2, f3, f4⟩ := boxT_facts hQ2
  clear hQ2
  go_wp2_with fail
  obtain ⟨W3, hW3⟩ : ∃ W3, w2.alloc (boxV x 63) = W3 := ⟨_, rfl⟩
  have b3 : RowKit.Below w2.heap.size w2 W3 := by rw [← hW3]; exact (RowKit.Below.refl _ _).alloc (Nat.le_refl _) _
  have hr3 : W3.heap[w2.heap.size]? = some (boxV x 63) := by rw [← hW3]; exact heap_alloc_new _ _
  have hq3 := (b3.block _ (Array.getElem?_eq_some_iff.1 HQ2.out).1).trans HQ2.out
  have hb3 := HB2.out.trans (b3.mono HB2.out.size)
  rw [hW3]
  clear z0 z1 z2 z3 z4 f0 f1 f2 f3 f4 hW3
  obtain ⟨z0, z1, z2, z3, z4, _, _, _, _, _⟩ := boxT_facts hr3
  have hdr : RowKit.Below W3.heap.size W3 W3.drew := ⟨rfl, rfl, rfl, Nat.le_refl _, fun _ _ => rfl⟩
  have KQ := Lib.hid (fun (W' : World) (h : RowKit.Below W3.drew.heap.size W3.drew W') => (h.block _ (Array.getElem?_eq_some_iff.1 hq3).1).trans hq3)
  have KR := Lib.hid (fun (W' : World) (h : RowKit.Below W3.drew.heap.size W3.drew W') => (h.block _ (Array.getElem?_eq_some_iff.1 hr3).1).trans hr3)
  have KB := Lib.hid (fun (W' : World) (h : RowKit.Below W3.drew.heap.size W3.drew W') => HB.out.trans ((hb3.trans ((hdr.trans (h.mono (Nat.le_refl _))).mono hb3.size)).mono HB.out.size))
  clear hr3 hq3 hb3 b3 hdr
  go_region_with ((go_at_call 69; ((with_reducible refine (small_any x _).mono ?_); rintro e w4 ⟨rfl, b4⟩; rw [HSM.out]; obtain ⟨y0, y1, y2, y3, y4, g0, g1, g2, g3, g4⟩ := boxT_facts (KQ.out _ b4); obtain ⟨x0, x1, x2, x3, x4, _, _, _, _, _⟩ := boxT_facts (KR.out _ b4); have HF := Lib.hid (setT_same (.int .i64 x.v.so) (.int .i64 x.v.nu) (.slice x.a1 x.v.st.length x.c1) (.slice x.a2 x.v.ix.length x.c2) (.slice x.a3 x.v.xs.length x.c3) (KQ.out _ b4)); have HBF := Lib.hid (Below.set5 (KB.out _ b4) (b := w.heap.size + 1) (by omega) (.int .i64 x.v.so) (.int .i64 x.v.nu) (.slice x.a1 x.v.st.length x.c1) (.slice x.a2 x.v.ix.length x.c2) (.slice x.a3 x.v.xs.length x.c3)); clear b4)))
  all_goals
    clear z0 z1 z2 z3 z4 x0 x1 x2 x3 x4 y0 y1 y2 y3 y4 g0 g1 g2 g3 g4
    go_wp2_with fail
    obtain ⟨y0, y1, y2, y3, y4, _, _, _, _, _⟩ := boxT_facts HF.out
    exact bodyPost_ret (v := .tuple #[vv x, .bool true]) (by simp [results, Tryz.results74, go_sem, y0, y1, y2, y3, y4]) rfl ⟨congrArg (fun q : VA => Ending.returned (.tuple #[vv q, .bool true])) HE.out.symm, HBF.out⟩
end Go.Proofs.YtmeeombadkgneaaGreat
namespace Go.Proofs.YtmeeombadkgneaaGreat
open Go.Proofs Go.RowKit Go.Shelf Go.Sort Go.Lib

attribute [local go_sem] Oper.semAt_some
def nX : ByteArray := ⟨#[120]⟩
def tX : Nd := .mk 1 1 nX 0 []
def xE : EA := ⟨nX, [], none, 0, ⟨⟨1, 2, [], [], []⟩, none, 0, none, 0, none, 0⟩⟩
theorem pre_x : preN 1 tX = [(1, tX)] := by simp [tX, preN, preNs]
theorem check_x : checkV tX 0 = 0 := by
  unfold checkV
  rw [pre_x, show limB [(1, tX)] = true by decide +kernel, show ([((1 : Int), tX)].all fun p => okN p.2) = true by decide +kernel]
  rw [show uniB (List.map Prod.snd [((1 : Int), tX)]) = true by
    refine uniB_true ?_
    intro y hy z hz h
    simp only [List.map_cons, List.map_nil, List.mem_cons, List.not_mem_nil, or_false] at hy hz
    subst hy hz
    simp [conflict, isVar, isCon, tX, Nd.op, Nd.ks, Nd.so] at h]
  decide
theorem hole_x : holeB (preN 1 tX) = false := by rw [pre_x]; decide +kernel
theorem name_x : nameB nX = true := by decide +kernel
theorem small_x : smallV xE.val.v = true := by decide +kernel
theorem valid_x : validE xE = true := by
  unfold validE
  rw [show nameB xE.nm = true from name_x]
  simp only [xE, List.length_nil, List.all_nil, Bool.and_true, Bool.true_and, Nat.zero_le, decide_true]
  unfold validV
  rw [show smallV ⟨1, 2, [], [], []⟩ = true from small_x, ascB_yes (l := []) (fun j h => absurd h (by simp)), nzB_yes (l := []) (fun j h => absurd h (by simp))]
  decide
theorem validM_x : validM [xE] = true := (validM_iff _).2 ⟨by simp, fun x hx => by simp at hx; subst hx; exact valid_x, List.pairwise_singleton _ _⟩
theorem fine_x : Fine tX := ⟨by decide, by decide, by decide, by decide⟩
theorem cmp_x : cmpE xE (skE nX 1) = 0 := by
  show lexI (lexI _ _) _ = 0
  rw [lexI_zero, lexI_zero, cmpS_zero, cmpI_zero, cmpVs_zero]
  exact ⟨⟨rfl, rfl⟩, rfl⟩
theorem perm_one {t : List EA} (h : t.Perm [xE]) : t = [xE] := List.perm_singleton.1 h
set_option maxRecDepth 100000 in
set_option maxHeartbeats 4000000 in
theorem valueOfX_any (A : Option Addr) (cap : Nat) (w : World) (hL : LiesM w A [xE]) :
    Calls Tryz.prog 46 #[nv 1 1 nX 0 (.slice none 0 0), .int .i64 0, .slice A 1 cap] w fun e w' => (∃ y : VA, e = .returned (.tuple #[vv y, .int .i64 0]) ∧ y.v = ⟨1, 2, [], [], []⟩) ∧ RowKit.Below w.heap.size w w' := by
  obtain ⟨W, hW⟩ : ∃ W, (w.alloc (.cells #[.int .i64 1, .int .i64 1, .string nX, .int .i64 0, .slice none 0 0] 44)).alloc (.cells #[.int .i64 0, .int .i64 0, .slice none 0 0, .slice none 0 0, .slice none 0 0] 27) = W := ⟨_, rfl⟩
  have HB := Lib.hid (show RowKit.Below w.heap.size w W by rw [← hW]; exact ((RowKit.Below.refl _ _).alloc (Nat.le_refl _) _).alloc (by rw [one_size]; omega) _)
  have HP := Lib.hid (show W.heap[w.heap.size]? = some (.cells #[.int .i64 1, .int .i64 1, .string nX, .int .i64 0, .slice none 0 0] 44) by rw [← hW]; exact two_fst _ _ _)
  have HQ := Lib.hid (show W.heap[w.heap.size + 1]? = some (.cells #[.int .i64 0, .int .i64 0, .slice none 0 0, .slice none 0 0, .slice none 0 0] 27) by rw [← hW]; exact two_snd _ _ _)
  have HL := Lib.hid (hL.later HB.out)
  have HW := Lib.hid hW
  have leaf : ∀ W', Lies W' none 0 tX.ks := fun W' => .mk none 0 [] (by simp) 0 0 (fun _ => none) (fun _ => 0) (fun h => by simp at h) (fun i h => by simp at h) (fun i h => by simp at h) (fun i h => by simp at h)
  have CK := Lib.hid (fun W' => (show Calls Tryz.prog 72 #[nv 1 1 nX 0 (.slice none 0 0), .int .i64 0] W' fun e w' => e = .returned (.int .i64 0) ∧ RowKit.Below W'.heap.size W' w' from by have := check_any tX 0 none 0 W' (leaf W') fine_x; rw [check_x] at this; exact this))
  have CH := Lib.hid (fun W' => (show Calls Tryz.prog 73 #[nv 1 1 nX 0 (.slice none 0 0)] W' fun e w' => e = .returned (.bool false) ∧ RowKit.Below W'.heap.size W' w' from by have := holes_any tX none 0 W' (leaf W') fine_x; rw [hole_x] at this; exact this))
  clear hW hL leaf
  obtain ⟨z0, z1, z2, z3, z4, f0, f1, f2, f3, f4⟩ := boxT_facts HP.out
  go_enter Tryz.func46, Tryz.ntmps46
  go_upto_region 1 with fail
  rw [HW.out]
  go_wp2_with fail
  refine (CK.out _).mono ?_
  rintro e w1 ⟨rfl, b1⟩
  have B1 := Lib.hid b1
  clear b1 z0 z1 z2 z3 z4 f0 f1 f2 f3 f4
  go_wp2_with fail
  refine (tableOf_any [xE] A cap _ (HL.out.later B1.out)).mono ?_
  rintro e w2 ⟨⟨v, rfl, hv⟩, b2⟩
  rcases hv with ⟨hv, _⟩ | ⟨_, t, A', c, rfl, hlt, hperm, hasc⟩
  · rw [validM_x] at hv; cases hv
  obtain rfl := perm_one hperm
  have B2 := Lib.hid (B1.out.trans (b2.mono B1.out.size))
  have HT := Lib.hid hlt
  have HA := Lib.hid hasc
  obtain ⟨z0, z1, z2, z3, z4, f0, f1, f2, f3, f4⟩ := boxT_facts ((B2.out.block _ (Array.getElem?_eq_some_iff.1 HP.out).1).trans HP.out)
  clear b2 hlt hasc hperm B1
  go_wp2_with fail
  refine (CH.out _).mono ?_
  rintro e w3 ⟨rfl, b3⟩
  have HT3 := Lib.hid (HT.out.later b3)
  have B3 := Lib.hid (B2.out.trans (b3.mono B2.out.size))
  clear b3 z0 z1 z2 z3 z4 f0 f1 f2 f3 f4 B2 HT
  obtain ⟨z0, z1, z2, z3, z4, f0, f1, f2, f3, f4⟩ := boxT_facts ((B3.out.block _ (Array.getElem?_eq_some_iff.1 HP.out).1).trans HP.out)
  go_wp2_with fail
  refine (evalVar_any [xE] nX 1 0 A' none c 0 _ HT3.out (by simp) HA.out (by decide) 0 (by simp) cmp_x small_x).mono ?_
  rintro e w4 ⟨he, b4⟩
  obtain ⟨x, hx⟩ : ∃ x, xE.val = x := ⟨_, rfl⟩
  have he' : e = .returned (.tuple #[vv x, .bool true]) := he.trans (by rw [← hx]; rfl)
  clear he
  subst he'
  have hxv : x.v = ⟨1, 2, [], [], []⟩ := by rw [← hx]; rfl
  have hT4 := (HT3.out.later b4).each 0 (by simp)
  have hlx : LiesV w4 x := by rw [← hx]; exact hT4.val
  have HXV := Lib.hid hxv
  have HLX := Lib.hid (hlx.later ((RowKit.Below.refl w4.heap.size w4).alloc (Nat.le_refl _) (boxV x 63)))
  have G1 := Lib.hid ((RowKit.Below.refl w4.heap.size w4).alloc (Nat.le_refl _) (boxV x 63))
  have B4 := Lib.hid (B3.out.trans (b4.mono B3.out.size))
  clear z0 z1 z2 z3 z4 f0 f1 f2 f3 f4 b4 hx hT4 hlx hxv
  go_wp2_with fail
  refine (copyV_any x _ HLX.out (by rw [HXV.out]; simp) (by rw [HXV.out]; simp) (by rw [HXV.out]; simp)).mono ?_
  rintro e w5 ⟨y, rfl, hy, _, b5⟩
  have hb5 := B4.out.trans ((G1.out.trans (b5.mono G1.out.size)).mono B4.out.size)
  have hQ5 := (hb5.block _ (Array.getElem?_eq_some_iff.1 HQ.out).1).trans HQ.out
  have HX := Lib.hid (setT_same (.int .i64 y.v.so) (.int .i64 y.v.nu) (.slice y.a1 y.v.st.length y.c1) (.slice y.a2 y.v.ix.length y.c2) (.slice y.a3 y.v.xs.length y.c3) hQ5)
  have HBX := Lib.hid (Below.set5 (HB.out.trans (hb5.mono HB.out.size)) (b := w.heap.size + 1) (by omega) (.int .i64 y.v.so) (.int .i64 y.v.nu) (.slice y.a1 y.v.st.length y.c1) (.slice y.a2 y.v.ix.length y.c2) (.slice y.a3 y.v.xs.length y.c3))
  have HY := Lib.hid (hy.trans HXV.out)
  obtain ⟨z0, z1, z2, z3, z4, f0, f1, f2, f3, f4⟩ := boxT_facts hQ5
  clear hQ5 b5 hb5 hy
  go_wp2_with fail
  clear z0 z1 z2 z3 z4 f0 f1 f2 f3 f4
  obtain ⟨y0, y1, y2, y3, y4, _, _, _, _, _⟩ := boxT_facts HX.out
  exact bodyPost_ret (v := .tuple #[vv y, .int .i64 0]) (by simp [results, Tryz.results46, go_sem, y0, y1, y2, y3, y4]) rfl ⟨⟨y, rfl, HY.out⟩, HBX.out⟩
set_option maxRecDepth 100000 in
set_option maxHeartbeats 4000000 in
theorem valueX_any (A : Option Addr) (cap : Nat) (w : World) (hL : LiesM w A [xE]) :
    Calls Tryz.prog 21 #[nv 1 1 nX 0 (.slice none 0 0), .slice A 1 cap] w fun e w' => (∃ y : VA, e = .returned (.tuple #[vv y, .int .i64 0]) ∧ y.v = ⟨1, 2, [], [], []⟩) ∧ RowKit.Below w.heap.size w w' := by
  obtain ⟨W, hW⟩ : ∃ W, (w.alloc (.cells #[.int .i64 1, .int .i64 1, .string nX, .int .i64 0, .slice none 0 0] 44)).alloc (.cells #[.int .i64 0, .int .i64 0, .slice none 0 0, .slice none 0 0, .slice none 0 0] 27) = W := ⟨_, rfl⟩
  have HB := Lib.hid (show RowKit.Below w.heap.size w W by rw [← hW]; exact ((RowKit.Below.refl _ _).alloc (Nat.le_refl _) _).alloc (by rw [one_size]; omega) _)
  have HP := Lib.hid (show W.heap[w.heap.size]? = some (.cells #[.int .i64 1, .int .i64 1, .string nX, .int .i64 0, .slice none 0 0] 44) by rw [← hW]; exact two_fst _ _ _)
  have HQ := Lib.hid (show W.heap[w.heap.size + 1]? = some (.cells #[.int .i64 0, .int .i64 0, .slice none 0 0, .slice none 0 0, .slice none 0 0] 27) by rw [← hW]; exact two_snd _ _ _)
  have HL := Lib.hid (hL.later HB.out)
  have HW := Lib.hid hW
  clear hW hL
  obtain ⟨z0, z1, z2, z3, z4, f0, f1, f2, f3, f4⟩ := boxT_facts HP.out
  go_enter Tryz.func21, Tryz.ntmps21
  go_upto_region 1 with fail
  rw [HW.out]
  go_wp2_with fail
  refine (valueOfX_any A cap _ HL.out).mono ?_
  rintro e w1 ⟨⟨y, rfl, hy⟩, b1⟩
  have hQ5 := (b1.block _ (Array.getElem?_eq_some_iff.1 HQ.out).1).trans HQ.out
  have HX := Lib.hid (setT_same (.int .i64 y.v.so) (.int .i64 y.v.nu) (.slice y.a1 y.v.st.length y.c1) (.slice y.a2 y.v.ix.length y.c2) (.slice y.a3 y.v.xs.length y.c3) hQ5)
  have HBX := Lib.hid (Below.set5 (HB.out.trans (b1.mono HB.out.size)) (b := w.heap.size + 1) (by omega) (.int .i64 y.v.so) (.int .i64 y.v.nu) (.slice y.a1 y.v.st.length y.c1) (.slice y.a2 y.v.ix.length y.c2) (.slice y.a3 y.v.xs.length y.c3))
  have HY := Lib.hid hy
  clear z0 z1 z2 z3 z4 f0 f1 f2 f3 f4
  obtain ⟨z0, z1, z2, z3, z4, f0, f1, f2, f3, f4⟩ := boxT_facts hQ5
  clear hQ5 b1 hy
  go_wp2_with fail
  clear z0 z1 z2 z3 z4 f0 f1 f2 f3 f4
  obtain ⟨y0, y1, y2, y3, y4, _, _, _, _, _⟩ := boxT_facts HX.out
  exact bodyPost_ret (v := .tuple #[vv y, .int .i64 0]) (by simp [results, Tryz.results21, go_sem, y0, y1, y2, y3, y4]) rfl ⟨⟨y, rfl, HY.out⟩, HBX.out⟩
set_option maxRecDepth 100000 in
set_option maxHeartbeats 4000000 in
theorem awake_any (w : World) : Calls Tryz.prog 6 #[] w fun e w' => e = .returned (.bool true) ∧ RowKit.Below w.heap.size w w' := by
  have hM : LiesM ((w.alloc (.cells #[.int .i64 1, .int .i64 1, .string nX, .int .i64 0, .slice none 0 0] 44)).alloc (boxE xE 29)) (some ⟨w.heap.size + 1, 0, none⟩) [xE] := by
    refine ⟨by decide, ⟨w.heap.size + 1, 0, fun _ => rfl, fun i hi => ?_⟩, fun i hi => ?_⟩
    · obtain rfl : i = 0 := by simp at hi; exact hi
      have := sevenE_new (w.alloc (.cells #[.int .i64 1, .int .i64 1, .string nX, .int .i64 0, .slice none 0 0] 44)) xE 29
      rw [one_size] at this
      exact this
    · obtain rfl : i = 0 := by simp at hi; exact hi
      show LiesE _ xE
      exact ⟨by decide, (lies_skE _ nX 1 (by decide)).args, ⟨ints_zero _, ints_zero _, ints_zero _, by simp [xE], by simp [xE], by simp [xE]⟩⟩
  have HM := Lib.hid hM
  have HB := Lib.hid (show RowKit.Below w.heap.size w ((w.alloc (.cells #[.int .i64 1, .int .i64 1, .string nX, .int .i64 0, .slice none 0 0] 44)).alloc (boxE xE 29)) from ((RowKit.Below.refl _ _).alloc (Nat.le_refl _) _).alloc (by rw [one_size]; omega) _)
  clear hM
  go_enter Tryz.func6, Tryz.ntmps6
  go_wp2_with fail
  refine (valueX_any (some ⟨w.heap.size + 1, 0, none⟩) 1 _ HM.out).mono ?_
  rintro e w1 ⟨⟨y, rfl, hy⟩, b1⟩
  have B1 := Lib.hid (HB.out.trans (b1.mono HB.out.size))
  clear b1
  obtain ⟨v, a1, c1, a2, c2, a3, c3⟩ := y
  obtain rfl : v = ⟨1, 2, [], [], []⟩ := hy
  clear HM HB
  go_wp2_with fail
  go_ret
  exact ⟨rfl, B1.out.alloc B1.out.size _⟩
end Go.Proofs.YtmeeombadkgneaaGreat
