/-
  What the document's own resolved returns; conditions: the tree and the lists lie in memory, and none of the tree's lists is too long to be grown.
-/
import Derived.Test.YtpjokapkoeclpaaSorted
import Derived.Test.YtpjokapkoeclpaaRefFit
import Derived.RegionTactic
import Derived.BigRegion
namespace Go.Proofs.Ytpjokapkoeclpaa
open Go.RowKit Go.Shelf Go.WideMaps

attribute [local go_sem] Oper.semAt_some
theorem takes_two {ks : List Nd} (h : ks.length = 2) : takesB ks [2, 2] = (sortN (ks[0]'(by omega)) == 2 && sortN (ks[1]'(by omega)) == 2) := by
  match ks, h with
  | [a, b], _ =>
    unfold takesB
    rw [Bool.eq_iff_iff]
    simp
set_option maxRecDepth 100000 in
set_option maxHeartbeats 2500000 in
theorem resolved_any (dl : List (ByteArray × Int)) (sl : List SgA) (hdw : ∀ d ∈ dl, (Lit.int .i64 d.2).wf = true) (hsw : ∀ s, (Lit.int .i64 (sigAt sl s).1.so).wf = true) (DA SA : Option Addr) (dcap scap : Nat) (hdl : dl.length ≤ maxLen) (hsl : sl.length ≤ maxLen) (t : Nd) : ∀ (A : Option Addr) (cap : Nat) (w : World), Lies w A cap t.ks → Fine t → Short t → Dcls w DA dl → Sgs w SA sl →
    Calls Try.prog 78 #[nv t.op t.so t.nm t.nu (.slice A t.ks.length cap), .slice DA dl.length dcap, .slice SA sl.length scap] w (RetN w (resG true dl sl t)) := by
  induction t using Nd.ind with
  | h t ih =>
  intro A cap w hL hfine hsh hD hS
  have HB1 : Below w.heap.size w (w.alloc (.cells #[.int .i64 t.op, .int .i64 t.so, .string t.nm, .int .i64 t.nu, .slice A t.ks.length cap] 24)) := (Below.refl _ _).alloc (Nat.le_refl _) _
  obtain ⟨i0, hi, hz0, hz1, hz2⟩ := info_parts info24
  have I0 := Lib.hid hi
  have Z0 := Lib.hid hz0
  have Z1 := Lib.hid hz1
  have Z2 := Lib.hid hz2
  clear hi hz0 hz1 hz2
  have hn := hL.len
  unfold maxLen at hn
  have HL := Lib.hid hL
  have IH := Lib.hid ih
  have HF := Lib.hid hfine
  have HSh := Lib.hid hsh
  have HD := Lib.hid hD
  have HS := Lib.hid hS
  have NB := Lib.hid (heap_alloc_new w (.cells #[.int .i64 t.op, .int .i64 t.so, .string t.nm, .int .i64 t.nu, .slice A t.ks.length cap] 24))
  clear hL ih hfine hsh hD hS
  have HB1 := Lib.hid HB1
  go_enter Try.func78, Try.ntmps78
  go_wp2_with fail
  have G0 : GInv (w.alloc (.cells #[.int .i64 t.op, .int .i64 t.so, .string t.nm, .int .i64 t.nu, .slice A t.ks.length cap] 24)) (w.heap.size + 1 + 1 + 1) (w.heap.size + 1 + 1) (w.heap.size + 1) t [] (((w.alloc (.cells #[.int .i64 t.op, .int .i64 t.so, .string t.nm, .int .i64 t.nu, .slice A t.ks.length cap] 24)).alloc (.cells zero5 24)).alloc (.cells #[.int .i64 t.op, .int .i64 t.so, .string t.nm, .int .i64 t.nu, .slice none 0 0] 24)) :=
    ⟨_, [], rfl, Grows.nil _ _, by have := heap_alloc_new ((w.alloc (.cells #[.int .i64 t.op, .int .i64 t.so, .string t.nm, .int .i64 t.nu, .slice A t.ks.length cap] 24)).alloc (.cells zero5 24)) (.cells #[.int .i64 t.op, .int .i64 t.so, .string t.nm, .int .i64 t.nu, .slice none 0 0] 24); rwa [World.size_alloc, World.size_alloc] at this, (((Below.refl _ _).alloc (Nat.le_refl _) _).block _ (by simp)).trans (by have := heap_alloc_new (w.alloc (.cells #[.int .i64 t.op, .int .i64 t.so, .string t.nm, .int .i64 t.nu, .slice A t.ks.length cap] 24)) (.cells zero5 24); rwa [World.size_alloc] at this), ((Below.refl _ _).alloc (Nat.le_refl _) _).alloc (by simp) _⟩
  have S1 := Lib.hid (show (w.alloc (.cells #[.int .i64 t.op, .int .i64 t.so, .string t.nm, .int .i64 t.nu, .slice A t.ks.length cap] 24)).heap.size = w.heap.size + 1 by simp)
  generalize (((w.alloc (.cells #[.int .i64 t.op, .int .i64 t.so, .string t.nm, .int .i64 t.nu, .slice A t.ks.length cap] 24)).alloc (.cells zero5 24)).alloc (.cells #[.int .i64 t.op, .int .i64 t.so, .string t.nm, .int .i64 t.nu, .slice none 0 0] 24)) = W0 at *
  generalize hW1 : w.alloc (.cells #[.int .i64 t.op, .int .i64 t.so, .string t.nm, .int .i64 t.nu, .slice A t.ks.length cap] 24) = W1 at *
  clear hW1
  go_loopw [29] (fun i wr => ∃ k : Nat, k ≤ t.ks.length ∧ i = .int .i64 k ∧ Hid (GInv W1 (w.heap.size + 1 + 1 + 1) (w.heap.size + 1 + 1) (w.heap.size + 1) t ((t.ks.take k).map (resG true dl sl)) wr)) (fun i _ => t.ks.length - (intOf i).toNat)
  case atStart => exact ⟨0, Nat.zero_le _, rfl, G0⟩
  case round =>
    obtain ⟨k, hk, rfl, v, xs, hG⟩ := hrel
    have HG := Lib.hid hG
    have c4 := cell_row hG.rbox (i := 4) rfl
    have s1 : W1.heap.size ≤ w.heap.size + 1 := Nat.le_of_eq S1.out
    have s1' : w.heap.size + 1 ≤ W1.heap.size := Nat.le_of_eq S1.out.symm
    have hBr : Below w.heap.size w wr := HB1.out.trans (hG.below.mono HB1.out.size)
    have hrbz := (Array.getElem?_eq_some_iff.1 hG.rbox).1
    have hlen : xs.length = k := by
      have := congrArg List.length hG.outs
      simpa [Nat.min_eq_left hk] using this
    clear hG
    by_cases hlt : k < t.ks.length
    · obtain ⟨b, o, A', C', rfl, g5, hK⟩ := HL.out.kid hlt
      have hFk := HL.out.fine hlt
      obtain ⟨a0, a1, a2, a3, a4⟩ := g5.later hBr
      have c := Lib.hid (fun w hL hD hS => IH.out k hlt A' C' w hL hFk (HSh.out.kid hlt) hD hS)
      have hK' := Lib.hid (hK.later hBr)
      have htk := Lib.hid (show (t.ks.take (k + 1)).map (resG true dl sl) = (t.ks.take k).map (resG true dl sl) ++ [resG true dl sl t.ks[k]] from by rw [List.take_succ_eq_append_getElem hlt, List.map_append]; rfl)
      have hsz := hBr.size
      have hself := HSh.out.self
      have HD' := Lib.hid (HD.out.later hBr)
      have HS' := Lib.hid (HS.out.later hBr)
      generalize resG true dl sl t.ks[k] = u at *
      generalize t.ks[k] = q at *
      clear g5 hK IH HL HD HS NB
      go_wp2_with fail
      refine (c.out _ (hK'.out.later ((Below.refl _ _).alloc (Nat.le_refl _) _)) (HD'.out.later ((Below.refl _ _).alloc (Nat.le_refl _) _)) (HS'.out.later ((Below.refl _ _).alloc (Nat.le_refl _) _))).mono ?_
      rintro e w2 ⟨A2, C2, rfl, hrob, hFu, hb2⟩
      have hb3 : Below wr.heap.size wr w2 := ((Below.refl _ _).alloc (Nat.le_refl _) _).trans (hb2.mono (by simp))
      have HG2 := Lib.hid (HG.out.later hb3)
      have hR : Rob (w.heap.size + 1 + 1 + 1) w2 v.ownBlock A2 C2 u.ks := hrob.newNone (fun g hg => by have := (HG.out.grows.row.lt g hg).2; simp; omega) (by simp; omega)
      have HR := Lib.hid hR
      have d4 := cell_row HG2.out.rbox (i := 4) rfl
      have hsz2 : w.heap.size + 1 + 1 + 1 ≤ w2.heap.size := by have := (Array.getElem?_eq_some_iff.1 HG2.out.rbox).1; omega
      have hsz3 : w.heap.size + 1 + 1 < w2.heap.size := by omega
      have SZ := Lib.hid (show ∀ O O', w.heap.size + 1 + 1 + 1 ≤ ((w2.alloc O).alloc O').heap.size from fun O O' => by rw [World.size_alloc, World.size_alloc]; omega)
      have NX := Lib.hid (fun O => news5 (w2.alloc O) (u, A2, C2) (w2.heap.size + 1) (by rw [World.size_alloc]))
      have BB := Lib.hid (show ∀ O O', Below w2.heap.size w2 ((w2.alloc O).alloc O') from fun O O' => ((Below.refl _ _).alloc (Nat.le_refl _) _).alloc (by rw [World.size_alloc]; omega) _)
      have HO := Lib.hid (fun O O' => ownsRow_below HG2.out.grows.row (BB.out O O'))
      have L1 := Lib.hid (show xs.length + 1 ≤ maxLen by unfold maxLen; omega)
      have L2 := Lib.hid (show (xs.length + 1) * 64 ≤ 140737488355328 by omega)
      clear hb2 hb3 hrob hR a0 a1 a2 a3 a4 c4 HG
      go_wp2_with (at_builtin; refine wpList_append_own_at _ rfl _ _ 22 rfl (w.heap.size + 1 + 1 + 1) 24 i0 _ 5 64 Try.underlying22 I0.out Z0.out Z1.out Z2.out rfl (by decide) v xs.length (flatN xs) rfl (HO.out _ _) ⟨w2.heap.size + 1, 0, none⟩ 1 1 (cells5 (u, A2, C2)) rfl rfl (NX.out _) (by simp [cells5, Value.oneCell']) L1.out L2.out (SZ.out _ _) ?_; intro v' w3 hown3 hgrow3 _ hor; obtain ⟨g3, cap3, rfl⟩ := ownsRow_succ hown3; have HST := Lib.hid ((HG2.out.later (BB.out _ _)).step (x := (u, A2, C2)) (by omega) (by omega) (by omega) (HR.out.later (BB.out _ _)) hFu hown3 hgrow3 hor); have hb := hgrow3.block (w.heap.size + 1 + 1) (Nat.lt_of_lt_of_le hsz3 (BB.out _ _).size) (fun e => absurd ((HG2.out.grows.row.lt _ e.symm).1) (by omega)); have hb' := hb.trans (((BB.out _ _).block _ hsz3).trans HG2.out.rbox); have e4 := cell_row hb' (i := 4) rfl; have f4 := frozen_of_row w3 (w.heap.size + 1 + 1) 4 _ _ hb'; clear hb hb' hown3 hgrow3 hor)
      go_roundw
      case rel => exact ⟨k + 1, by omega, by go_num, by rw [htk.out]; have := HST.out; rw [hlen] at this; exact ⟨_, _, this⟩⟩
      case measure => simp [intOf]; omega
    · have hG := HG.out
      have hself := HSh.out.self
      obtain ⟨A3, cap3, rfl, hrob⟩ := hG.grows.rob (by unfold maxLen; omega)
      have hk' : t.ks.length = k := by omega
      have houts : xs.map (·.1) = t.ks.map (resG true dl sl) := hG.outs.trans (by rw [List.take_of_length_le (by omega)])
      have hr := hG.rbox
      have hz := hG.zbox
      have hnn := (hG.below.block w.heap.size (by omega)).trans NB.out
      have hxl : xs.length = t.ks.length := by omega
      rw [houts] at hrob
      rw [hxl] at hr
      obtain rfl := hk'
      have HLr := Lib.hid (HD.out.later hBr)
      have HSr := Lib.hid (HS.out.later hBr)
      have hszr := hBr.size
      have hsz3 : w.heap.size + 1 + 1 < wr.heap.size := hrbz
      clear hG HG hlen houts IH HL HD HS NB G0 c4 hlt hxl
      replace hrbz := hsz3
      have hB := hBr
      by_cases h1 : t.op = 1
      · have h1' : (t.op == 1) = true := by simpa using h1
        cases hd : lookD dl t.nm with
        | some x =>
          have hsub := Lib.hid (resG_at (b := true) (dl := dl) (sl := sl) (t := t) (x := t.op) (y := x) (by unfold topR; rw [if_pos h1, hd, h1]))
          have hy := Lib.hid (lookD_wf hdw hd)
          have Hd := Lib.hid hd
          clear h1 hd
          have n2 := cell_row hnn (i := 2) rfl
          have n0 := cell_row hnn (i := 0) rfl
          have b0 := cell_row hr (i := 0) rfl
          have b1 := cell_row hr (i := 1) rfl
          have b2 := cell_row hr (i := 2) rfl
          have b3 := cell_row hr (i := 3) rfl
          have b4 := cell_row hr (i := 4) rfl
          have p0 := frozen_of_row wr (w.heap.size + 1 + 1) 0 _ _ hr
          have p1 := frozen_of_row wr (w.heap.size + 1 + 1) 1 _ _ hr
          have z0 := cell_row hz (i := 0) rfl
          have z1 := cell_row hz (i := 1) rfl
          have z2 := cell_row hz (i := 2) rfl
          have z3 := cell_row hz (i := 3) rfl
          have z4 := cell_row hz (i := 4) rfl
          have f0 := frozen_of_row wr (w.heap.size + 1) 0 _ _ hz
          have f1 := frozen_of_row wr (w.heap.size + 1) 1 _ _ hz
          have f2 := frozen_of_row wr (w.heap.size + 1) 2 _ _ hz
          have f3 := frozen_of_row wr (w.heap.size + 1) 3 _ _ hz
          have f4 := frozen_of_row wr (w.heap.size + 1) 4 _ _ hz
          go_wp2_with fail
          refine (varOf_any dl t.nm DA dcap _ HLr.out hdl).mono ?_
          rintro e w1 ⟨rfl, hb1⟩
          rw [Hd.out]
          have hr1 := (hb1.block (w.heap.size + 1 + 1) (by omega)).trans hr
          have hz1 := (hb1.block (w.heap.size + 1) (by omega)).trans hz
          have hnn1 := (hb1.block w.heap.size (by omega)).trans hnn
          have hrob1 := hrob.later hb1
          have hB1 := hB.trans (hb1.mono (by omega))
          have hsz1 : w.heap.size + 1 + 1 < w1.heap.size := Nat.lt_of_lt_of_le (by omega) hb1.size
          clear n2 n0 b0 b1 b2 b3 b4 p0 p1 z0 z1 z2 z3 z4 f0 f1 f2 f3 f4
          have n2 := cell_row hnn1 (i := 2) rfl
          have n0 := cell_row hnn1 (i := 0) rfl
          have b0 := cell_row hr1 (i := 0) rfl
          have b1 := cell_row hr1 (i := 1) rfl
          have b2 := cell_row hr1 (i := 2) rfl
          have b3 := cell_row hr1 (i := 3) rfl
          have b4 := cell_row hr1 (i := 4) rfl
          have p0 := frozen_of_row w1 (w.heap.size + 1 + 1) 0 _ _ hr1
          have p1 := frozen_of_row w1 (w.heap.size + 1 + 1) 1 _ _ hr1
          have z0 := cell_row hz1 (i := 0) rfl
          have z1 := cell_row hz1 (i := 1) rfl
          have z2 := cell_row hz1 (i := 2) rfl
          have z3 := cell_row hz1 (i := 3) rfl
          have z4 := cell_row hz1 (i := 4) rfl
          have f0 := frozen_of_row w1 (w.heap.size + 1) 0 _ _ hz1
          have f1 := frozen_of_row w1 (w.heap.size + 1) 1 _ _ hz1
          have f2 := frozen_of_row w1 (w.heap.size + 1) 2 _ _ hz1
          have f3 := frozen_of_row w1 (w.heap.size + 1) 3 _ _ hz1
          have f4 := frozen_of_row w1 (w.heap.size + 1) 4 _ _ hz1
          clear hr hz hnn hrob hb1
          have hz0x := (heap_setCell_other _ ⟨w.heap.size + 1 + 1, 1, none⟩ (w.heap.size + 1) (.int .i64 x) (by simp)).trans hz1
          have hr0x := hrob1.set1 (p := ⟨w.heap.size + 1 + 1, 1, none⟩) (by simp) (.int .i64 x)
          have hb0x := hB1.setCell (p := ⟨w.heap.size + 1 + 1, 1, none⟩) (by simp; omega) (.int .i64 x)
          have hfin := set5_same (.int .i64 t.op) (.int .i64 x) (.string t.nm) (.int .i64 t.nu) (.slice A3 t.ks.length cap3) hz0x
          have hRR := hr0x.set5 (b := w.heap.size + 1) (n1 := w.heap.size) (by omega) (by omega) (.int .i64 t.op) (.int .i64 x) (.string t.nm) (.int .i64 t.nu) (.slice A3 t.ks.length cap3)
          have hBB := Below.set5 hb0x (b := w.heap.size + 1) (by omega) (.int .i64 t.op) (.int .i64 x) (.string t.nm) (.int .i64 t.nu) (.slice A3 t.ks.length cap3)
          have Hfin := Lib.hid hfin
          have HR := Lib.hid hRR
          have HBf := Lib.hid hBB
          clear hfin hRR hBB hz0x hr0x hb0x hz1 hr1 hrob1 hB1 hnn1
          go_wp2_with fail
          have hf := Hfin.out
          have y0 := cell_row hf (i := 0) rfl
          have y1 := cell_row hf (i := 1) rfl
          have y2 := cell_row hf (i := 2) rfl
          have y3 := cell_row hf (i := 3) rfl
          have y4 := cell_row hf (i := 4) rfl
          rw [hsub.out]
          refine bodyPost_ret (v := nv t.op x t.nm t.nu (.slice A3 t.ks.length cap3)) ?_ rfl ⟨A3, cap3, by show Ending.returned (nv t.op x t.nm t.nu (.slice A3 t.ks.length cap3)) = .returned (nv t.op x t.nm t.nu (.slice A3 (t.ks.map (resG true dl sl)).length cap3)); rw [List.length_map], HR.out, fine_at HF.out HF.out.op hy.out _, HBf.out⟩
          clear hf Hfin HR HBf
          simp [results, Try.f78, go_sem, y0, y1, y2, y3, y4]
        | none =>
          have hsub := Lib.hid (resG_at (b := true) (dl := dl) (sl := sl) (t := t) (x := 3) (y := (sigAt sl t.nm).1.so) (by unfold topR; rw [if_pos h1, hd]; rfl))
          have hx := Lib.hid (show (Lit.int .i64 3).wf = true by decide)
          have hy := Lib.hid (hsw t.nm)
          have Hd := Lib.hid hd
          clear h1 hd
          have n2 := cell_row hnn (i := 2) rfl
          have n0 := cell_row hnn (i := 0) rfl
          have b0 := cell_row hr (i := 0) rfl
          have b1 := cell_row hr (i := 1) rfl
          have b2 := cell_row hr (i := 2) rfl
          have b3 := cell_row hr (i := 3) rfl
          have b4 := cell_row hr (i := 4) rfl
          have p0 := frozen_of_row wr (w.heap.size + 1 + 1) 0 _ _ hr
          have p1 := frozen_of_row wr (w.heap.size + 1 + 1) 1 _ _ hr
          have z0 := cell_row hz (i := 0) rfl
          have z1 := cell_row hz (i := 1) rfl
          have z2 := cell_row hz (i := 2) rfl
          have z3 := cell_row hz (i := 3) rfl
          have z4 := cell_row hz (i := 4) rfl
          have f0 := frozen_of_row wr (w.heap.size + 1) 0 _ _ hz
          have f1 := frozen_of_row wr (w.heap.size + 1) 1 _ _ hz
          have f2 := frozen_of_row wr (w.heap.size + 1) 2 _ _ hz
          have f3 := frozen_of_row wr (w.heap.size + 1) 3 _ _ hz
          have f4 := frozen_of_row wr (w.heap.size + 1) 4 _ _ hz
          go_wp2_with fail
          refine (varOf_any dl t.nm DA dcap _ HLr.out hdl).mono ?_
          rintro e w1 ⟨rfl, hb1⟩
          rw [Hd.out]
          have hr1 := (hb1.block (w.heap.size + 1 + 1) (by omega)).trans hr
          have hz1 := (hb1.block (w.heap.size + 1) (by omega)).trans hz
          have hnn1 := (hb1.block w.heap.size (by omega)).trans hnn
          have hrob1 := hrob.later hb1
          have hB1 := hB.trans (hb1.mono (by omega))
          have hsz1 : w.heap.size + 1 + 1 < w1.heap.size := Nat.lt_of_lt_of_le (by omega) hb1.size
          clear n2 n0 b0 b1 b2 b3 b4 p0 p1 z0 z1 z2 z3 z4 f0 f1 f2 f3 f4
          have n2 := cell_row hnn1 (i := 2) rfl
          have n0 := cell_row hnn1 (i := 0) rfl
          have b0 := cell_row hr1 (i := 0) rfl
          have b1 := cell_row hr1 (i := 1) rfl
          have b2 := cell_row hr1 (i := 2) rfl
          have b3 := cell_row hr1 (i := 3) rfl
          have b4 := cell_row hr1 (i := 4) rfl
          have p0 := frozen_of_row w1 (w.heap.size + 1 + 1) 0 _ _ hr1
          have p1 := frozen_of_row w1 (w.heap.size + 1 + 1) 1 _ _ hr1
          have z0 := cell_row hz1 (i := 0) rfl
          have z1 := cell_row hz1 (i := 1) rfl
          have z2 := cell_row hz1 (i := 2) rfl
          have z3 := cell_row hz1 (i := 3) rfl
          have z4 := cell_row hz1 (i := 4) rfl
          have f0 := frozen_of_row w1 (w.heap.size + 1) 0 _ _ hz1
          have f1 := frozen_of_row w1 (w.heap.size + 1) 1 _ _ hz1
          have f2 := frozen_of_row w1 (w.heap.size + 1) 2 _ _ hz1
          have f3 := frozen_of_row w1 (w.heap.size + 1) 3 _ _ hz1
          have f4 := frozen_of_row w1 (w.heap.size + 1) 4 _ _ hz1
          have HS1 := Lib.hid (HSr.out.later hb1)
          clear hr hz hnn hrob hb1
          go_wp2_with fail
          refine (sigOf_any sl t.nm SA scap _ HS1.out hsl).mono ?_
          rintro e w2 ⟨rfl, hb2⟩
          rw [show (lookS sl t.nm).getD zeroSg = sigAt sl t.nm from rfl]
          generalize (lookS sl t.nm).isSome = bb at *
          generalize sigAt sl t.nm = y at *
          have hr2 := (hb2.block (w.heap.size + 1 + 1) (by omega)).trans hr1
          have hz2 := (hb2.block (w.heap.size + 1) (by omega)).trans hz1
          have hnn2 := (hb2.block w.heap.size (by omega)).trans hnn1
          have hrob2 := hrob1.later hb2
          have hB2 := hB1.trans (hb2.mono (by omega))
          have hsz2 : w.heap.size + 1 + 1 < w2.heap.size := Nat.lt_of_lt_of_le (by omega) hb2.size
          clear n2 n0 b0 b1 b2 b3 b4 p0 p1 z0 z1 z2 z3 z4 f0 f1 f2 f3 f4
          have n2 := cell_row hnn2 (i := 2) rfl
          have n0 := cell_row hnn2 (i := 0) rfl
          have b0 := cell_row hr2 (i := 0) rfl
          have b1 := cell_row hr2 (i := 1) rfl
          have b2 := cell_row hr2 (i := 2) rfl
          have b3 := cell_row hr2 (i := 3) rfl
          have b4 := cell_row hr2 (i := 4) rfl
          have p0 := frozen_of_row w2 (w.heap.size + 1 + 1) 0 _ _ hr2
          have p1 := frozen_of_row w2 (w.heap.size + 1 + 1) 1 _ _ hr2
          have z0 := cell_row hz2 (i := 0) rfl
          have z1 := cell_row hz2 (i := 1) rfl
          have z2 := cell_row hz2 (i := 2) rfl
          have z3 := cell_row hz2 (i := 3) rfl
          have z4 := cell_row hz2 (i := 4) rfl
          have f0 := frozen_of_row w2 (w.heap.size + 1) 0 _ _ hz2
          have f1 := frozen_of_row w2 (w.heap.size + 1) 1 _ _ hz2
          have f2 := frozen_of_row w2 (w.heap.size + 1) 2 _ _ hz2
          have f3 := frozen_of_row w2 (w.heap.size + 1) 3 _ _ hz2
          have f4 := frozen_of_row w2 (w.heap.size + 1) 4 _ _ hz2
          clear hr1 hz1 hnn1 hrob1 hb2
          have hr3 := heap_setCell_same _ (w.heap.size + 1 + 1) 1 _ _ (.int .i64 y.1.so) (heap_setCell_same w2 (w.heap.size + 1 + 1) 0 _ _ (.int .i64 3) hr2)
          have hz3 := (heap_setCell_other _ ⟨w.heap.size + 1 + 1, 1, none⟩ (w.heap.size + 1) (.int .i64 y.1.so) (by simp)).trans ((heap_setCell_other w2 ⟨w.heap.size + 1 + 1, 0, none⟩ (w.heap.size + 1) (.int .i64 3) (by simp)).trans hz2)
          have hn3 := (heap_setCell_other _ ⟨w.heap.size + 1 + 1, 1, none⟩ w.heap.size (.int .i64 y.1.so) (by show w.heap.size ≠ w.heap.size + 1 + 1; omega)).trans ((heap_setCell_other w2 ⟨w.heap.size + 1 + 1, 0, none⟩ w.heap.size (.int .i64 3) (by show w.heap.size ≠ w.heap.size + 1 + 1; omega)).trans hnn2)
          have hrob3 := (hrob2.set1 (p := ⟨w.heap.size + 1 + 1, 0, none⟩) (by simp) (.int .i64 3)).set1 (p := ⟨w.heap.size + 1 + 1, 1, none⟩) (by simp) (.int .i64 y.1.so)
          have hB3 := (hB2.setCell (p := ⟨w.heap.size + 1 + 1, 0, none⟩) (by simp; omega) (.int .i64 3)).setCell (p := ⟨w.heap.size + 1 + 1, 1, none⟩) (by simp; omega) (.int .i64 y.1.so)
          have hal := fun W => (Below.refl (World.heap W).size W).alloc (Nat.le_refl _) (.cells #[.string y.1.nm, .slice y.2.1 y.1.args.length y.2.2, .int .i64 y.1.so] 83)
          have HR5 := Lib.hid (((hal _).block _ (Array.getElem?_eq_some_iff.1 hr3).1).trans hr3)
          have HZ5 := Lib.hid (((hal _).block _ (Array.getElem?_eq_some_iff.1 hz3).1).trans hz3)
          have HN5 := Lib.hid (((hal _).block _ (Array.getElem?_eq_some_iff.1 hn3).1).trans hn3)
          have HO5 := Lib.hid ((hrob3.later (hal _)).later (Below.refl _ _).drew)
          have HB5 := Lib.hid ((hB3.alloc hB3.size (.cells #[.string y.1.nm, .slice y.2.1 y.1.args.length y.2.2, .int .i64 y.1.so] 83)).drew)
          clear hr3 hz3 hn3 hrob3 hB3 hal hr2 hz2 hnn2 hrob2 hB2
          go_upto_region 15 with fail
          go_region
          have hr5 : ((((w2.setCell ⟨w.heap.size + 1 + 1, 0, none⟩ (.int .i64 3)).setCell ⟨w.heap.size + 1 + 1, 1, none⟩ (.int .i64 y.1.so)).alloc (.cells #[.string y.1.nm, .slice y.2.1 y.1.args.length y.2.2, .int .i64 y.1.so] 83)).drew).heap[w.heap.size + 1 + 1]? = _ := HR5.out
          have hz5 : ((((w2.setCell ⟨w.heap.size + 1 + 1, 0, none⟩ (.int .i64 3)).setCell ⟨w.heap.size + 1 + 1, 1, none⟩ (.int .i64 y.1.so)).alloc (.cells #[.string y.1.nm, .slice y.2.1 y.1.args.length y.2.2, .int .i64 y.1.so] 83)).drew).heap[w.heap.size + 1]? = _ := HZ5.out
          have hnn5 : ((((w2.setCell ⟨w.heap.size + 1 + 1, 0, none⟩ (.int .i64 3)).setCell ⟨w.heap.size + 1 + 1, 1, none⟩ (.int .i64 y.1.so)).alloc (.cells #[.string y.1.nm, .slice y.2.1 y.1.args.length y.2.2, .int .i64 y.1.so] 83)).drew).heap[w.heap.size]? = _ := HN5.out
          have hrob5 := HO5.out
          have hB5 := HB5.out
          clear HR5 HZ5 HN5 HO5 HB5
          generalize (((w2.setCell ⟨w.heap.size + 1 + 1, 0, none⟩ (.int .i64 3)).setCell ⟨w.heap.size + 1 + 1, 1, none⟩ (.int .i64 y.1.so)).alloc (.cells #[.string y.1.nm, .slice y.2.1 y.1.args.length y.2.2, .int .i64 y.1.so] 83)).drew = W5 at *
          clear n2 n0 b0 b1 b2 b3 b4 p0 p1 z0 z1 z2 z3 z4 f0 f1 f2 f3 f4
          have n2 := cell_row hnn5 (i := 2) rfl
          have n0 := cell_row hnn5 (i := 0) rfl
          have b0 := cell_row hr5 (i := 0) rfl
          have b1 := cell_row hr5 (i := 1) rfl
          have b2 := cell_row hr5 (i := 2) rfl
          have b3 := cell_row hr5 (i := 3) rfl
          have b4 := cell_row hr5 (i := 4) rfl
          have p0 := frozen_of_row W5 (w.heap.size + 1 + 1) 0 _ _ hr5
          have p1 := frozen_of_row W5 (w.heap.size + 1 + 1) 1 _ _ hr5
          have z0 := cell_row hz5 (i := 0) rfl
          have z1 := cell_row hz5 (i := 1) rfl
          have z2 := cell_row hz5 (i := 2) rfl
          have z3 := cell_row hz5 (i := 3) rfl
          have z4 := cell_row hz5 (i := 4) rfl
          have f0 := frozen_of_row W5 (w.heap.size + 1) 0 _ _ hz5
          have f1 := frozen_of_row W5 (w.heap.size + 1) 1 _ _ hz5
          have f2 := frozen_of_row W5 (w.heap.size + 1) 2 _ _ hz5
          have f3 := frozen_of_row W5 (w.heap.size + 1) 3 _ _ hz5
          have f4 := frozen_of_row W5 (w.heap.size + 1) 4 _ _ hz5
          have hfin := set5_same (.int .i64 3) (.int .i64 y.1.so) (.string t.nm) (.int .i64 t.nu) (.slice A3 t.ks.length cap3) hz5
          have hRR := hrob5.set5 (b := w.heap.size + 1) (n1 := w.heap.size) (by omega) (by omega) (.int .i64 3) (.int .i64 y.1.so) (.string t.nm) (.int .i64 t.nu) (.slice A3 t.ks.length cap3)
          have hBB := Below.set5 hB5 (b := w.heap.size + 1) (by omega) (.int .i64 3) (.int .i64 y.1.so) (.string t.nm) (.int .i64 t.nu) (.slice A3 t.ks.length cap3)
          have Hfin := Lib.hid hfin
          have HR := Lib.hid hRR
          have HBf := Lib.hid hBB
          clear hfin hRR hBB  hz5 hr5 hrob5 hB5 hnn5
          go_wp2_with fail
          have hf := Hfin.out
          have y0 := cell_row hf (i := 0) rfl
          have y1 := cell_row hf (i := 1) rfl
          have y2 := cell_row hf (i := 2) rfl
          have y3 := cell_row hf (i := 3) rfl
          have y4 := cell_row hf (i := 4) rfl
          rw [hsub.out]
          refine bodyPost_ret (v := nv 3 y.1.so t.nm t.nu (.slice A3 t.ks.length cap3)) ?_ rfl ⟨A3, cap3, by show Ending.returned (nv 3 y.1.so t.nm t.nu (.slice A3 t.ks.length cap3)) = .returned (nv 3 y.1.so t.nm t.nu (.slice A3 (t.ks.map (resG true dl sl)).length cap3)); rw [List.length_map], HR.out, fine_at HF.out hx.out hy.out _, HBf.out⟩
          clear hf Hfin HR HBf
          simp [results, Try.f78, go_sem, y0, y1, y2, y3, y4]
      · have h1' : (t.op == 1) = false := by simpa using h1
        by_cases h3 : t.op = 3
        · have h3' : (t.op == 3) = true := by simpa using h3
          have hsub := Lib.hid (resG_at (b := true) (dl := dl) (sl := sl) (t := t) (x := t.op) (y := (sigAt sl t.nm).1.so) (by unfold topR; rw [if_neg h1, if_pos h3, h3]; rfl))
          have hy := Lib.hid (hsw t.nm)
          clear h1 h3
          have n2 := cell_row hnn (i := 2) rfl
          have n0 := cell_row hnn (i := 0) rfl
          have b0 := cell_row hr (i := 0) rfl
          have b1 := cell_row hr (i := 1) rfl
          have b2 := cell_row hr (i := 2) rfl
          have b3 := cell_row hr (i := 3) rfl
          have b4 := cell_row hr (i := 4) rfl
          have p0 := frozen_of_row wr (w.heap.size + 1 + 1) 0 _ _ hr
          have p1 := frozen_of_row wr (w.heap.size + 1 + 1) 1 _ _ hr
          have z0 := cell_row hz (i := 0) rfl
          have z1 := cell_row hz (i := 1) rfl
          have z2 := cell_row hz (i := 2) rfl
          have z3 := cell_row hz (i := 3) rfl
          have z4 := cell_row hz (i := 4) rfl
          have f0 := frozen_of_row wr (w.heap.size + 1) 0 _ _ hz
          have f1 := frozen_of_row wr (w.heap.size + 1) 1 _ _ hz
          have f2 := frozen_of_row wr (w.heap.size + 1) 2 _ _ hz
          have f3 := frozen_of_row wr (w.heap.size + 1) 3 _ _ hz
          have f4 := frozen_of_row wr (w.heap.size + 1) 4 _ _ hz
          go_wp2_with fail
          refine (sigOf_any sl t.nm SA scap _ HSr.out hsl).mono ?_
          rintro e w1 ⟨rfl, hb1⟩
          rw [show (lookS sl t.nm).getD zeroSg = sigAt sl t.nm from rfl]
          generalize (lookS sl t.nm).isSome = bb at *
          generalize sigAt sl t.nm = y at *
          have hr1 := (hb1.block (w.heap.size + 1 + 1) (by omega)).trans hr
          have hz1 := (hb1.block (w.heap.size + 1) (by omega)).trans hz
          have hnn1 := (hb1.block w.heap.size (by omega)).trans hnn
          have hrob1 := hrob.later hb1
          have hB1 := hB.trans (hb1.mono (by omega))
          have hsz1 : w.heap.size + 1 + 1 < w1.heap.size := Nat.lt_of_lt_of_le (by omega) hb1.size
          clear n2 n0 b0 b1 b2 b3 b4 p0 p1 z0 z1 z2 z3 z4 f0 f1 f2 f3 f4
          have n2 := cell_row hnn1 (i := 2) rfl
          have n0 := cell_row hnn1 (i := 0) rfl
          have b0 := cell_row hr1 (i := 0) rfl
          have b1 := cell_row hr1 (i := 1) rfl
          have b2 := cell_row hr1 (i := 2) rfl
          have b3 := cell_row hr1 (i := 3) rfl
          have b4 := cell_row hr1 (i := 4) rfl
          have p0 := frozen_of_row w1 (w.heap.size + 1 + 1) 0 _ _ hr1
          have p1 := frozen_of_row w1 (w.heap.size + 1 + 1) 1 _ _ hr1
          have z0 := cell_row hz1 (i := 0) rfl
          have z1 := cell_row hz1 (i := 1) rfl
          have z2 := cell_row hz1 (i := 2) rfl
          have z3 := cell_row hz1 (i := 3) rfl
          have z4 := cell_row hz1 (i := 4) rfl
          have f0 := frozen_of_row w1 (w.heap.size + 1) 0 _ _ hz1
          have f1 := frozen_of_row w1 (w.heap.size + 1) 1 _ _ hz1
          have f2 := frozen_of_row w1 (w.heap.size + 1) 2 _ _ hz1
          have f3 := frozen_of_row w1 (w.heap.size + 1) 3 _ _ hz1
          have f4 := frozen_of_row w1 (w.heap.size + 1) 4 _ _ hz1
          clear hr hz hnn hrob hb1
          have hr3 := heap_setCell_same w1 (w.heap.size + 1 + 1) 1 _ _ (.int .i64 y.1.so) hr1
          have hz3 := (heap_setCell_other w1 ⟨w.heap.size + 1 + 1, 1, none⟩ (w.heap.size + 1) (.int .i64 y.1.so) (by simp)).trans hz1
          have hn3 := (heap_setCell_other w1 ⟨w.heap.size + 1 + 1, 1, none⟩ w.heap.size (.int .i64 y.1.so) (by show w.heap.size ≠ w.heap.size + 1 + 1; omega)).trans hnn1
          have hrob3 := hrob1.set1 (p := ⟨w.heap.size + 1 + 1, 1, none⟩) (by simp) (.int .i64 y.1.so)
          have hB3 := hB1.setCell (p := ⟨w.heap.size + 1 + 1, 1, none⟩) (by simp; omega) (.int .i64 y.1.so)
          have hal := fun W => (Below.refl (World.heap W).size W).alloc (Nat.le_refl _) (.cells #[.string y.1.nm, .slice y.2.1 y.1.args.length y.2.2, .int .i64 y.1.so] 83)
          have HR5 := Lib.hid (((hal _).block _ (Array.getElem?_eq_some_iff.1 hr3).1).trans hr3)
          have HZ5 := Lib.hid (((hal _).block _ (Array.getElem?_eq_some_iff.1 hz3).1).trans hz3)
          have HN5 := Lib.hid (((hal _).block _ (Array.getElem?_eq_some_iff.1 hn3).1).trans hn3)
          have HO5 := Lib.hid (hrob3.later (hal _))
          have HB5 := Lib.hid (hB3.alloc hB3.size (.cells #[.string y.1.nm, .slice y.2.1 y.1.args.length y.2.2, .int .i64 y.1.so] 83))
          clear hr3 hz3 hn3 hrob3 hB3 hal hr1 hz1 hnn1 hrob1 hB1
          go_upto_region 22 with fail
          have hr5 := HR5.out
          have hz5 := HZ5.out
          have hnn5 := HN5.out
          have hrob5 := HO5.out
          have hB5 := HB5.out
          clear HR5 HZ5 HN5 HO5 HB5
          generalize (w1.setCell ⟨w.heap.size + 1 + 1, 1, none⟩ (.int .i64 y.1.so)).alloc (.cells #[.string y.1.nm, .slice y.2.1 y.1.args.length y.2.2, .int .i64 y.1.so] 83) = W5 at *
          clear n2 n0 b0 b1 b2 b3 b4 p0 p1 z0 z1 z2 z3 z4 f0 f1 f2 f3 f4
          have n2 := cell_row hnn5 (i := 2) rfl
          have n0 := cell_row hnn5 (i := 0) rfl
          have b0 := cell_row hr5 (i := 0) rfl
          have b1 := cell_row hr5 (i := 1) rfl
          have b2 := cell_row hr5 (i := 2) rfl
          have b3 := cell_row hr5 (i := 3) rfl
          have b4 := cell_row hr5 (i := 4) rfl
          have p0 := frozen_of_row W5 (w.heap.size + 1 + 1) 0 _ _ hr5
          have p1 := frozen_of_row W5 (w.heap.size + 1 + 1) 1 _ _ hr5
          have z0 := cell_row hz5 (i := 0) rfl
          have z1 := cell_row hz5 (i := 1) rfl
          have z2 := cell_row hz5 (i := 2) rfl
          have z3 := cell_row hz5 (i := 3) rfl
          have z4 := cell_row hz5 (i := 4) rfl
          have f0 := frozen_of_row W5 (w.heap.size + 1) 0 _ _ hz5
          have f1 := frozen_of_row W5 (w.heap.size + 1) 1 _ _ hz5
          have f2 := frozen_of_row W5 (w.heap.size + 1) 2 _ _ hz5
          have f3 := frozen_of_row W5 (w.heap.size + 1) 3 _ _ hz5
          have f4 := frozen_of_row W5 (w.heap.size + 1) 4 _ _ hz5
          have hfin := set5_same (.int .i64 t.op) (.int .i64 y.1.so) (.string t.nm) (.int .i64 t.nu) (.slice A3 t.ks.length cap3) hz5
          have hRR := hrob5.set5 (b := w.heap.size + 1) (n1 := w.heap.size) (by omega) (by omega) (.int .i64 t.op) (.int .i64 y.1.so) (.string t.nm) (.int .i64 t.nu) (.slice A3 t.ks.length cap3)
          have hBB := Below.set5 hB5 (b := w.heap.size + 1) (by omega) (.int .i64 t.op) (.int .i64 y.1.so) (.string t.nm) (.int .i64 t.nu) (.slice A3 t.ks.length cap3)
          have Hfin := Lib.hid hfin
          have HR := Lib.hid hRR
          have HBf := Lib.hid hBB
          clear hfin hRR hBB  hz5 hr5 hrob5 hB5 hnn5
          go_wp2_with fail
          have hf := Hfin.out
          have y0 := cell_row hf (i := 0) rfl
          have y1 := cell_row hf (i := 1) rfl
          have y2 := cell_row hf (i := 2) rfl
          have y3 := cell_row hf (i := 3) rfl
          have y4 := cell_row hf (i := 4) rfl
          rw [hsub.out]
          refine bodyPost_ret (v := nv t.op y.1.so t.nm t.nu (.slice A3 t.ks.length cap3)) ?_ rfl ⟨A3, cap3, by show Ending.returned (nv t.op y.1.so t.nm t.nu (.slice A3 t.ks.length cap3)) = .returned (nv t.op y.1.so t.nm t.nu (.slice A3 (t.ks.map (resG true dl sl)).length cap3)); rw [List.length_map], HR.out, fine_at HF.out HF.out.op hy.out _, HBf.out⟩
          clear hf Hfin HR HBf
          simp [results, Try.f78, go_sem, y0, y1, y2, y3, y4]
        · have h3' : (t.op == 3) = false := by simpa using h3
          by_cases h37 : t.op = 37
          · have h37' : (t.op == 37) = true := by simpa using h37
            have htop := Lib.hid (show topR true dl sl t (t.ks.map (resG true dl sl)) = (if takesB (t.ks.map (resG true dl sl)) [2, 2] = true then 36 else 37, t.so) by unfold topR; rw [if_neg h1, if_neg h3, if_pos h37])
            have hop := Lib.hid h37
            clear h1 h3 h37
            by_cases h2 : t.ks.length = 2
            · have h2' : ((t.ks.length : Int) == 2) = true := by rw [h2]; rfl
              have hK2 : (t.ks.map (resG true dl sl)).length = 2 := by rw [List.length_map]; exact h2
              have htk := Lib.hid (takes_two hK2)
              have hli := hrob.lies
              obtain ⟨kb, ko, KA, KC, hKA, k5, hKL⟩ := hli.kid (i := 0) (by omega)
              subst hKA
              obtain ⟨kb', ko', KA', KC', hKA', k5', hKL'⟩ := hli.kid (i := 1) (by omega)
              obtain ⟨rfl, rfl⟩ : kb = kb' ∧ ko = ko' := by simpa using hKA'
              have HK0 := Lib.hid hKL
              have HK1 := Lib.hid hKL'
              have h2a : 0 < t.ks.length := by omega
              have h2b : 1 < t.ks.length := by omega
              have K51 := Lib.hid k5'
              obtain ⟨e0, e1, e2, e3, e4⟩ := k5
              simp only [Nat.zero_mul, Nat.add_zero] at e0 e1 e2 e3 e4
              generalize (t.ks.map (resG true dl sl))[0]'(by omega) = q0 at *
              generalize (t.ks.map (resG true dl sl))[1]'(by omega) = q1 at *
              clear hKA' hli hKL hKL' h2 k5' hK2
              have n2 := cell_row hnn (i := 2) rfl
              have n0 := cell_row hnn (i := 0) rfl
              have b0 := cell_row hr (i := 0) rfl
              have b1 := cell_row hr (i := 1) rfl
              have b2 := cell_row hr (i := 2) rfl
              have b3 := cell_row hr (i := 3) rfl
              have b4 := cell_row hr (i := 4) rfl
              have p0 := frozen_of_row wr (w.heap.size + 1 + 1) 0 _ _ hr
              have p1 := frozen_of_row wr (w.heap.size + 1 + 1) 1 _ _ hr
              have z0 := cell_row hz (i := 0) rfl
              have z1 := cell_row hz (i := 1) rfl
              have z2 := cell_row hz (i := 2) rfl
              have z3 := cell_row hz (i := 3) rfl
              have z4 := cell_row hz (i := 4) rfl
              have f0 := frozen_of_row wr (w.heap.size + 1) 0 _ _ hz
              have f1 := frozen_of_row wr (w.heap.size + 1) 1 _ _ hz
              have f2 := frozen_of_row wr (w.heap.size + 1) 2 _ _ hz
              have f3 := frozen_of_row wr (w.heap.size + 1) 3 _ _ hz
              have f4 := frozen_of_row wr (w.heap.size + 1) 4 _ _ hz
              cases hs0 : sortN q0 == 2
              case false =>
                have hsub := Lib.hid (resG_at (b := true) (dl := dl) (sl := sl) (t := t) (x := t.op) (y := t.so) (by rw [htop.out, htk.out, hs0, hop.out]; rfl))
                go_wp2_with fail
                refine (refSort_any q0 _ _ _ HK0.out).mono ?_
                rintro e w1 ⟨rfl, hb1⟩
                have hr1 := (hb1.block (w.heap.size + 1 + 1) (by omega)).trans hr
                have hz1 := (hb1.block (w.heap.size + 1) (by omega)).trans hz
                have hnn1 := (hb1.block w.heap.size (by omega)).trans hnn
                have hrob1 := hrob.later hb1
                have hB1 := hB.trans (hb1.mono (by omega))
                have hsz1 : w.heap.size + 1 + 1 < w1.heap.size := Nat.lt_of_lt_of_le (by omega) hb1.size
                clear n2 n0 b0 b1 b2 b3 b4 p0 p1 z0 z1 z2 z3 z4 f0 f1 f2 f3 f4
                have n2 := cell_row hnn1 (i := 2) rfl
                have n0 := cell_row hnn1 (i := 0) rfl
                have b0 := cell_row hr1 (i := 0) rfl
                have b1 := cell_row hr1 (i := 1) rfl
                have b2 := cell_row hr1 (i := 2) rfl
                have b3 := cell_row hr1 (i := 3) rfl
                have b4 := cell_row hr1 (i := 4) rfl
                have p0 := frozen_of_row w1 (w.heap.size + 1 + 1) 0 _ _ hr1
                have p1 := frozen_of_row w1 (w.heap.size + 1 + 1) 1 _ _ hr1
                have z0 := cell_row hz1 (i := 0) rfl
                have z1 := cell_row hz1 (i := 1) rfl
                have z2 := cell_row hz1 (i := 2) rfl
                have z3 := cell_row hz1 (i := 3) rfl
                have z4 := cell_row hz1 (i := 4) rfl
                have f0 := frozen_of_row w1 (w.heap.size + 1) 0 _ _ hz1
                have f1 := frozen_of_row w1 (w.heap.size + 1) 1 _ _ hz1
                have f2 := frozen_of_row w1 (w.heap.size + 1) 2 _ _ hz1
                have f3 := frozen_of_row w1 (w.heap.size + 1) 3 _ _ hz1
                have f4 := frozen_of_row w1 (w.heap.size + 1) 4 _ _ hz1
                clear hr hz hnn hrob hb1 e0 e1 e2 e3 e4
                have hfin := set5_same (.int .i64 t.op) (.int .i64 t.so) (.string t.nm) (.int .i64 t.nu) (.slice (some ⟨kb, ko, none⟩) t.ks.length cap3) hz1
                have hRR := hrob1.set5 (b := w.heap.size + 1) (n1 := w.heap.size) (by omega) (by omega) (.int .i64 t.op) (.int .i64 t.so) (.string t.nm) (.int .i64 t.nu) (.slice (some ⟨kb, ko, none⟩) t.ks.length cap3)
                have hBB := Below.set5 hB1 (b := w.heap.size + 1) (by omega) (.int .i64 t.op) (.int .i64 t.so) (.string t.nm) (.int .i64 t.nu) (.slice (some ⟨kb, ko, none⟩) t.ks.length cap3)
                have Hfin := Lib.hid hfin
                have HR := Lib.hid hRR
                have HBf := Lib.hid hBB
                clear hfin hRR hBB  hz1 hr1 hrob1 hB1 hnn1
                go_wp2_with fail
                have hf := Hfin.out
                have y0 := cell_row hf (i := 0) rfl
                have y1 := cell_row hf (i := 1) rfl
                have y2 := cell_row hf (i := 2) rfl
                have y3 := cell_row hf (i := 3) rfl
                have y4 := cell_row hf (i := 4) rfl
                rw [hsub.out]
                refine bodyPost_ret (v := nv t.op t.so t.nm t.nu (.slice (some ⟨kb, ko, none⟩) t.ks.length cap3)) ?_ rfl ⟨some ⟨kb, ko, none⟩, cap3, by show Ending.returned (nv t.op t.so t.nm t.nu (.slice (some ⟨kb, ko, none⟩) t.ks.length cap3)) = .returned (nv t.op t.so t.nm t.nu (.slice (some ⟨kb, ko, none⟩) (t.ks.map (resG true dl sl)).length cap3)); rw [List.length_map], HR.out, fine_at HF.out HF.out.op HF.out.so _, HBf.out⟩
                clear hf Hfin HR HBf
                simp [results, Try.f78, go_sem, y0, y1, y2, y3, y4]
              case true =>
                go_wp2_with fail
                refine (refSort_any q0 _ _ _ HK0.out).mono ?_
                rintro e w1 ⟨rfl, hb1⟩
                have K51' := K51.out.later hb1
                have HK1' := Lib.hid (HK1.out.later hb1)
                clear e0 e1 e2 e3 e4
                obtain ⟨e0, e1, e2, e3, e4⟩ := K51'
                simp only [Nat.one_mul] at e0 e1 e2 e3 e4
                have hr1 := (hb1.block (w.heap.size + 1 + 1) (by omega)).trans hr
                have hz1 := (hb1.block (w.heap.size + 1) (by omega)).trans hz
                have hnn1 := (hb1.block w.heap.size (by omega)).trans hnn
                have hrob1 := hrob.later hb1
                have hB1 := hB.trans (hb1.mono (by omega))
                have hsz1 : w.heap.size + 1 + 1 < w1.heap.size := Nat.lt_of_lt_of_le (by omega) hb1.size
                clear n2 n0 b0 b1 b2 b3 b4 p0 p1 z0 z1 z2 z3 z4 f0 f1 f2 f3 f4
                have n2 := cell_row hnn1 (i := 2) rfl
                have n0 := cell_row hnn1 (i := 0) rfl
                have b0 := cell_row hr1 (i := 0) rfl
                have b1 := cell_row hr1 (i := 1) rfl
                have b2 := cell_row hr1 (i := 2) rfl
                have b3 := cell_row hr1 (i := 3) rfl
                have b4 := cell_row hr1 (i := 4) rfl
                have p0 := frozen_of_row w1 (w.heap.size + 1 + 1) 0 _ _ hr1
                have p1 := frozen_of_row w1 (w.heap.size + 1 + 1) 1 _ _ hr1
                have z0 := cell_row hz1 (i := 0) rfl
                have z1 := cell_row hz1 (i := 1) rfl
                have z2 := cell_row hz1 (i := 2) rfl
                have z3 := cell_row hz1 (i := 3) rfl
                have z4 := cell_row hz1 (i := 4) rfl
                have f0 := frozen_of_row w1 (w.heap.size + 1) 0 _ _ hz1
                have f1 := frozen_of_row w1 (w.heap.size + 1) 1 _ _ hz1
                have f2 := frozen_of_row w1 (w.heap.size + 1) 2 _ _ hz1
                have f3 := frozen_of_row w1 (w.heap.size + 1) 3 _ _ hz1
                have f4 := frozen_of_row w1 (w.heap.size + 1) 4 _ _ hz1
                clear hr hz hnn hrob hb1
                cases hs1 : sortN q1 == 2
                case false =>
                  have hsub := Lib.hid (resG_at (b := true) (dl := dl) (sl := sl) (t := t) (x := t.op) (y := t.so) (by rw [htop.out, htk.out, hs0, hs1, hop.out]; rfl))
                  go_wp2_with fail
                  refine (refSort_any q1 _ _ _ HK1'.out).mono ?_
                  rintro e w2 ⟨rfl, hb2⟩
                  have hr2 := (hb2.block (w.heap.size + 1 + 1) (by omega)).trans hr1
                  have hz2 := (hb2.block (w.heap.size + 1) (by omega)).trans hz1
                  have hnn2 := (hb2.block w.heap.size (by omega)).trans hnn1
                  have hrob2 := hrob1.later hb2
                  have hB2 := hB1.trans (hb2.mono (by omega))
                  have hsz2 : w.heap.size + 1 + 1 < w2.heap.size := Nat.lt_of_lt_of_le (by omega) hb2.size
                  clear n2 n0 b0 b1 b2 b3 b4 p0 p1 z0 z1 z2 z3 z4 f0 f1 f2 f3 f4
                  have n2 := cell_row hnn2 (i := 2) rfl
                  have n0 := cell_row hnn2 (i := 0) rfl
                  have b0 := cell_row hr2 (i := 0) rfl
                  have b1 := cell_row hr2 (i := 1) rfl
                  have b2 := cell_row hr2 (i := 2) rfl
                  have b3 := cell_row hr2 (i := 3) rfl
                  have b4 := cell_row hr2 (i := 4) rfl
                  have p0 := frozen_of_row w2 (w.heap.size + 1 + 1) 0 _ _ hr2
                  have p1 := frozen_of_row w2 (w.heap.size + 1 + 1) 1 _ _ hr2
                  have z0 := cell_row hz2 (i := 0) rfl
                  have z1 := cell_row hz2 (i := 1) rfl
                  have z2 := cell_row hz2 (i := 2) rfl
                  have z3 := cell_row hz2 (i := 3) rfl
                  have z4 := cell_row hz2 (i := 4) rfl
                  have f0 := frozen_of_row w2 (w.heap.size + 1) 0 _ _ hz2
                  have f1 := frozen_of_row w2 (w.heap.size + 1) 1 _ _ hz2
                  have f2 := frozen_of_row w2 (w.heap.size + 1) 2 _ _ hz2
                  have f3 := frozen_of_row w2 (w.heap.size + 1) 3 _ _ hz2
                  have f4 := frozen_of_row w2 (w.heap.size + 1) 4 _ _ hz2
                  clear hr1 hz1 hnn1 hrob1 hb2 e0 e1 e2 e3 e4
                  have hfin := set5_same (.int .i64 t.op) (.int .i64 t.so) (.string t.nm) (.int .i64 t.nu) (.slice (some ⟨kb, ko, none⟩) t.ks.length cap3) hz2
                  have hRR := hrob2.set5 (b := w.heap.size + 1) (n1 := w.heap.size) (by omega) (by omega) (.int .i64 t.op) (.int .i64 t.so) (.string t.nm) (.int .i64 t.nu) (.slice (some ⟨kb, ko, none⟩) t.ks.length cap3)
                  have hBB := Below.set5 hB2 (b := w.heap.size + 1) (by omega) (.int .i64 t.op) (.int .i64 t.so) (.string t.nm) (.int .i64 t.nu) (.slice (some ⟨kb, ko, none⟩) t.ks.length cap3)
                  have Hfin := Lib.hid hfin
                  have HR := Lib.hid hRR
                  have HBf := Lib.hid hBB
                  clear hfin hRR hBB  hz2 hr2 hrob2 hB2 hnn2
                  go_wp2_with fail
                  have hf := Hfin.out
                  have y0 := cell_row hf (i := 0) rfl
                  have y1 := cell_row hf (i := 1) rfl
                  have y2 := cell_row hf (i := 2) rfl
                  have y3 := cell_row hf (i := 3) rfl
                  have y4 := cell_row hf (i := 4) rfl
                  rw [hsub.out]
                  refine bodyPost_ret (v := nv t.op t.so t.nm t.nu (.slice (some ⟨kb, ko, none⟩) t.ks.length cap3)) ?_ rfl ⟨some ⟨kb, ko, none⟩, cap3, by show Ending.returned (nv t.op t.so t.nm t.nu (.slice (some ⟨kb, ko, none⟩) t.ks.length cap3)) = .returned (nv t.op t.so t.nm t.nu (.slice (some ⟨kb, ko, none⟩) (t.ks.map (resG true dl sl)).length cap3)); rw [List.length_map], HR.out, fine_at HF.out HF.out.op HF.out.so _, HBf.out⟩
                  clear hf Hfin HR HBf
                  simp [results, Try.f78, go_sem, y0, y1, y2, y3, y4]
                case true =>
                  have hsub := Lib.hid (resG_at (b := true) (dl := dl) (sl := sl) (t := t) (x := 36) (y := t.so) (by rw [htop.out, htk.out, hs0, hs1]; rfl))
                  have hx := Lib.hid (show (Lit.int .i64 36).wf = true by decide)
                  go_wp2_with fail
                  refine (refSort_any q1 _ _ _ HK1'.out).mono ?_
                  rintro e w2 ⟨rfl, hb2⟩
                  have hr2 := (hb2.block (w.heap.size + 1 + 1) (by omega)).trans hr1
                  have hz2 := (hb2.block (w.heap.size + 1) (by omega)).trans hz1
                  have hnn2 := (hb2.block w.heap.size (by omega)).trans hnn1
                  have hrob2 := hrob1.later hb2
                  have hB2 := hB1.trans (hb2.mono (by omega))
                  have hsz2 : w.heap.size + 1 + 1 < w2.heap.size := Nat.lt_of_lt_of_le (by omega) hb2.size
                  clear n2 n0 b0 b1 b2 b3 b4 p0 p1 z0 z1 z2 z3 z4 f0 f1 f2 f3 f4
                  have n2 := cell_row hnn2 (i := 2) rfl
                  have n0 := cell_row hnn2 (i := 0) rfl
                  have b0 := cell_row hr2 (i := 0) rfl
                  have b1 := cell_row hr2 (i := 1) rfl
                  have b2 := cell_row hr2 (i := 2) rfl
                  have b3 := cell_row hr2 (i := 3) rfl
                  have b4 := cell_row hr2 (i := 4) rfl
                  have p0 := frozen_of_row w2 (w.heap.size + 1 + 1) 0 _ _ hr2
                  have p1 := frozen_of_row w2 (w.heap.size + 1 + 1) 1 _ _ hr2
                  have z0 := cell_row hz2 (i := 0) rfl
                  have z1 := cell_row hz2 (i := 1) rfl
                  have z2 := cell_row hz2 (i := 2) rfl
                  have z3 := cell_row hz2 (i := 3) rfl
                  have z4 := cell_row hz2 (i := 4) rfl
                  have f0 := frozen_of_row w2 (w.heap.size + 1) 0 _ _ hz2
                  have f1 := frozen_of_row w2 (w.heap.size + 1) 1 _ _ hz2
                  have f2 := frozen_of_row w2 (w.heap.size + 1) 2 _ _ hz2
                  have f3 := frozen_of_row w2 (w.heap.size + 1) 3 _ _ hz2
                  have f4 := frozen_of_row w2 (w.heap.size + 1) 4 _ _ hz2
                  clear hr1 hz1 hnn1 hrob1 hb2 e0 e1 e2 e3 e4
                  have hz0x := (heap_setCell_other _ ⟨w.heap.size + 1 + 1, 0, none⟩ (w.heap.size + 1) (.int .i64 36) (by simp)).trans hz2
                  have hr0x := hrob2.set1 (p := ⟨w.heap.size + 1 + 1, 0, none⟩) (by simp) (.int .i64 36)
                  have hb0x := hB2.setCell (p := ⟨w.heap.size + 1 + 1, 0, none⟩) (by simp; omega) (.int .i64 36)
                  have hfin := set5_same (.int .i64 36) (.int .i64 t.so) (.string t.nm) (.int .i64 t.nu) (.slice (some ⟨kb, ko, none⟩) t.ks.length cap3) hz0x
                  have hRR := hr0x.set5 (b := w.heap.size + 1) (n1 := w.heap.size) (by omega) (by omega) (.int .i64 36) (.int .i64 t.so) (.string t.nm) (.int .i64 t.nu) (.slice (some ⟨kb, ko, none⟩) t.ks.length cap3)
                  have hBB := Below.set5 hb0x (b := w.heap.size + 1) (by omega) (.int .i64 36) (.int .i64 t.so) (.string t.nm) (.int .i64 t.nu) (.slice (some ⟨kb, ko, none⟩) t.ks.length cap3)
                  have Hfin := Lib.hid hfin
                  have HR := Lib.hid hRR
                  have HBf := Lib.hid hBB
                  clear hfin hRR hBB hz0x hr0x hb0x hz2 hr2 hrob2 hB2 hnn2
                  go_wp2_with fail
                  have hf := Hfin.out
                  have y0 := cell_row hf (i := 0) rfl
                  have y1 := cell_row hf (i := 1) rfl
                  have y2 := cell_row hf (i := 2) rfl
                  have y3 := cell_row hf (i := 3) rfl
                  have y4 := cell_row hf (i := 4) rfl
                  rw [hsub.out]
                  refine bodyPost_ret (v := nv 36 t.so t.nm t.nu (.slice (some ⟨kb, ko, none⟩) t.ks.length cap3)) ?_ rfl ⟨some ⟨kb, ko, none⟩, cap3, by show Ending.returned (nv 36 t.so t.nm t.nu (.slice (some ⟨kb, ko, none⟩) t.ks.length cap3)) = .returned (nv 36 t.so t.nm t.nu (.slice (some ⟨kb, ko, none⟩) (t.ks.map (resG true dl sl)).length cap3)); rw [List.length_map], HR.out, fine_at HF.out hx.out HF.out.so _, HBf.out⟩
                  clear hf Hfin HR HBf
                  simp [results, Try.f78, go_sem, y0, y1, y2, y3, y4]
            · have h2' : ((t.ks.length : Int) == 2) = false := by rw [beq_eq_false_iff_ne]; omega
              have hsub := Lib.hid (resG_at (b := true) (dl := dl) (sl := sl) (t := t) (x := t.op) (y := t.so) (by rw [htop.out, takesB_len (by rw [List.length_map]; exact h2), hop.out]; rfl))
              clear h2
              have n2 := cell_row hnn (i := 2) rfl
              have n0 := cell_row hnn (i := 0) rfl
              have b0 := cell_row hr (i := 0) rfl
              have b1 := cell_row hr (i := 1) rfl
              have b2 := cell_row hr (i := 2) rfl
              have b3 := cell_row hr (i := 3) rfl
              have b4 := cell_row hr (i := 4) rfl
              have p0 := frozen_of_row wr (w.heap.size + 1 + 1) 0 _ _ hr
              have p1 := frozen_of_row wr (w.heap.size + 1 + 1) 1 _ _ hr
              have z0 := cell_row hz (i := 0) rfl
              have z1 := cell_row hz (i := 1) rfl
              have z2 := cell_row hz (i := 2) rfl
              have z3 := cell_row hz (i := 3) rfl
              have z4 := cell_row hz (i := 4) rfl
              have f0 := frozen_of_row wr (w.heap.size + 1) 0 _ _ hz
              have f1 := frozen_of_row wr (w.heap.size + 1) 1 _ _ hz
              have f2 := frozen_of_row wr (w.heap.size + 1) 2 _ _ hz
              have f3 := frozen_of_row wr (w.heap.size + 1) 3 _ _ hz
              have f4 := frozen_of_row wr (w.heap.size + 1) 4 _ _ hz
              have hfin := set5_same (.int .i64 t.op) (.int .i64 t.so) (.string t.nm) (.int .i64 t.nu) (.slice A3 t.ks.length cap3) hz
              have hRR := hrob.set5 (b := w.heap.size + 1) (n1 := w.heap.size) (by omega) (by omega) (.int .i64 t.op) (.int .i64 t.so) (.string t.nm) (.int .i64 t.nu) (.slice A3 t.ks.length cap3)
              have hBB := Below.set5 hB (b := w.heap.size + 1) (by omega) (.int .i64 t.op) (.int .i64 t.so) (.string t.nm) (.int .i64 t.nu) (.slice A3 t.ks.length cap3)
              have Hfin := Lib.hid hfin
              have HR := Lib.hid hRR
              have HBf := Lib.hid hBB
              clear hfin hRR hBB  hz hr hrob hB hnn
              go_wp2_with fail
              have hf := Hfin.out
              have y0 := cell_row hf (i := 0) rfl
              have y1 := cell_row hf (i := 1) rfl
              have y2 := cell_row hf (i := 2) rfl
              have y3 := cell_row hf (i := 3) rfl
              have y4 := cell_row hf (i := 4) rfl
              rw [hsub.out]
              refine bodyPost_ret (v := nv t.op t.so t.nm t.nu (.slice A3 t.ks.length cap3)) ?_ rfl ⟨A3, cap3, by show Ending.returned (nv t.op t.so t.nm t.nu (.slice A3 t.ks.length cap3)) = .returned (nv t.op t.so t.nm t.nu (.slice A3 (t.ks.map (resG true dl sl)).length cap3)); rw [List.length_map], HR.out, fine_at HF.out HF.out.op HF.out.so _, HBf.out⟩
              clear hf Hfin HR HBf
              simp [results, Try.f78, go_sem, y0, y1, y2, y3, y4]
          · have h37' : (t.op == 37) = false := by simpa using h37
            have hsub := Lib.hid (resG_at (b := true) (dl := dl) (sl := sl) (t := t) (x := t.op) (y := t.so) (by unfold topR; rw [if_neg h1, if_neg h3, if_neg h37]))
            clear h1 h3 h37
            have n2 := cell_row hnn (i := 2) rfl
            have n0 := cell_row hnn (i := 0) rfl
            have b0 := cell_row hr (i := 0) rfl
            have b1 := cell_row hr (i := 1) rfl
            have b2 := cell_row hr (i := 2) rfl
            have b3 := cell_row hr (i := 3) rfl
            have b4 := cell_row hr (i := 4) rfl
            have p0 := frozen_of_row wr (w.heap.size + 1 + 1) 0 _ _ hr
            have p1 := frozen_of_row wr (w.heap.size + 1 + 1) 1 _ _ hr
            have z0 := cell_row hz (i := 0) rfl
            have z1 := cell_row hz (i := 1) rfl
            have z2 := cell_row hz (i := 2) rfl
            have z3 := cell_row hz (i := 3) rfl
            have z4 := cell_row hz (i := 4) rfl
            have f0 := frozen_of_row wr (w.heap.size + 1) 0 _ _ hz
            have f1 := frozen_of_row wr (w.heap.size + 1) 1 _ _ hz
            have f2 := frozen_of_row wr (w.heap.size + 1) 2 _ _ hz
            have f3 := frozen_of_row wr (w.heap.size + 1) 3 _ _ hz
            have f4 := frozen_of_row wr (w.heap.size + 1) 4 _ _ hz
            have hfin := set5_same (.int .i64 t.op) (.int .i64 t.so) (.string t.nm) (.int .i64 t.nu) (.slice A3 t.ks.length cap3) hz
            have hRR := hrob.set5 (b := w.heap.size + 1) (n1 := w.heap.size) (by omega) (by omega) (.int .i64 t.op) (.int .i64 t.so) (.string t.nm) (.int .i64 t.nu) (.slice A3 t.ks.length cap3)
            have hBB := Below.set5 hB (b := w.heap.size + 1) (by omega) (.int .i64 t.op) (.int .i64 t.so) (.string t.nm) (.int .i64 t.nu) (.slice A3 t.ks.length cap3)
            have Hfin := Lib.hid hfin
            have HR := Lib.hid hRR
            have HBf := Lib.hid hBB
            clear hfin hRR hBB  hz hr hrob hB hnn
            go_wp2_with fail
            have hf := Hfin.out
            have y0 := cell_row hf (i := 0) rfl
            have y1 := cell_row hf (i := 1) rfl
            have y2 := cell_row hf (i := 2) rfl
            have y3 := cell_row hf (i := 3) rfl
            have y4 := cell_row hf (i := 4) rfl
            rw [hsub.out]
            refine bodyPost_ret (v := nv t.op t.so t.nm t.nu (.slice A3 t.ks.length cap3)) ?_ rfl ⟨A3, cap3, by show Ending.returned (nv t.op t.so t.nm t.nu (.slice A3 t.ks.length cap3)) = .returned (nv t.op t.so t.nm t.nu (.slice A3 (t.ks.map (resG true dl sl)).length cap3)); rw [List.length_map], HR.out, fine_at HF.out HF.out.op HF.out.so _, HBf.out⟩
            clear hf Hfin HR HBf
            simp [results, Try.f78, go_sem, y0, y1, y2, y3, y4]
end Go.Proofs.Ytpjokapkoeclpaa
