/-
  What the law of printing and reading back returns: true; conditions: the tree lies in memory, and the program's tables hold what its text lays.
-/
import Derived.OwnWalk
import Derived.Lib.LazyBuf
import Derived.RegionTactic
import Derived.BigRegion
import Derived.Deep.Cut
import Derived.Test.YtgkjcimgghflmaaGreatDoorYBk0
import Derived.Test.YtgkjcimgghflmaaGreatDoorYFresh
import Derived.Test.YtgkjcimgghflmaaGreatDoorYSigs
import Derived.Test.YtgkjcimgghflmaaGreatDoorYRea
import Derived.Test.YtgkjcimgghflmaaGreatDoorYPx4
namespace Go.Proofs.YtgkjcimgghflmaaGreatDoor
open Go.RowKit Go.Shelf
attribute [local go_sem] Oper.semAt_some
set_option maxRecDepth 100000 in
set_option maxHeartbeats 4000000 in
theorem bare_any (t : Nd) : ∀ (A : Option Addr) (cap : Nat) (w : World), Lies w A cap t.ks → Fine t → Short t →
    Calls Tryz.prog 17 #[nv t.op t.so t.nm t.nu (.slice A t.ks.length cap)] w (RetN w (bareT t)) := by
  induction t using Nd.ind with
  | h t ih =>
  intro A cap w hL hfine hsh
  have HB1 : Below w.heap.size w (w.alloc (.cells #[.int .i64 t.op, .int .i64 t.so, .string t.nm, .int .i64 t.nu, .slice A t.ks.length cap] 27)) := (Below.refl _ _).alloc (Nat.le_refl _) _
  obtain ⟨i0, hi, hz0, hz1, hz2⟩ := info_parts info27
  have I0 := Lib.hid hi
  have Z0 := Lib.hid hz0
  have Z1 := Lib.hid hz1
  have Z2 := Lib.hid hz2
  clear hi hz0 hz1 hz2
  have hn := hL.len
  unfold maxLen at hn
  have HL := Lib.hid hL
  have IH := Lib.hid ih
  have HF := Lib.hid hfine
  have HSh := Lib.hid hsh
  clear hL ih hfine hsh
  have HB1 := Lib.hid HB1
  go_enter Tryz.func17, Tryz.ntmps17
  go_wp2_with fail
  have G0 : GInv w (w.heap.size + 1 + 1 + 1) (w.heap.size + 1 + 1) (w.heap.size + 1) (.mk t.op 0 t.nm t.nu []) [] (((w.alloc (.cells #[.int .i64 t.op, .int .i64 t.so, .string t.nm, .int .i64 t.nu, .slice A t.ks.length cap] 27)).alloc (.cells zero5 27)).alloc (.cells #[.int .i64 t.op, .int .i64 0, .string t.nm, .int .i64 t.nu, .slice none 0 0] 27)) :=
    ⟨_, [], rfl, Grows.nil _ _, by have := heap_alloc_new ((w.alloc (.cells #[.int .i64 t.op, .int .i64 t.so, .string t.nm, .int .i64 t.nu, .slice A t.ks.length cap] 27)).alloc (.cells zero5 27)) (.cells #[.int .i64 t.op, .int .i64 0, .string t.nm, .int .i64 t.nu, .slice none 0 0] 27); rwa [World.size_alloc, World.size_alloc] at this, (((Below.refl _ _).alloc (Nat.le_refl _) _).block _ (by simp)).trans (by have := heap_alloc_new (w.alloc (.cells #[.int .i64 t.op, .int .i64 t.so, .string t.nm, .int .i64 t.nu, .slice A t.ks.length cap] 27)) (.cells zero5 27); rwa [World.size_alloc] at this), ((HB1.out.alloc (by simp) _).alloc (by simp; omega) _)⟩
  generalize (((w.alloc (.cells #[.int .i64 t.op, .int .i64 t.so, .string t.nm, .int .i64 t.nu, .slice A t.ks.length cap] 27)).alloc (.cells zero5 27)).alloc (.cells #[.int .i64 t.op, .int .i64 0, .string t.nm, .int .i64 t.nu, .slice none 0 0] 27)) = W0 at *
  go_loopw [17] (fun i wr => ∃ k : Nat, k ≤ t.ks.length ∧ i = .int .i64 k ∧ Hid (GInv w (w.heap.size + 1 + 1 + 1) (w.heap.size + 1 + 1) (w.heap.size + 1) (.mk t.op 0 t.nm t.nu []) ((t.ks.take k).map bareT) wr)) (fun i _ => t.ks.length - (intOf i).toNat)
  case atStart => exact ⟨0, Nat.zero_le _, rfl, G0⟩
  case round =>
    obtain ⟨k, hk, rfl, v, xs, hG⟩ := hrel
    have HG := Lib.hid hG
    have c4 := cell_row hG.rbox (i := 4) rfl
    have hBr := hG.below
    have hlen : xs.length = k := by
      have := congrArg List.length hG.outs
      simpa [Nat.min_eq_left hk] using this
    clear hG
    have HL0 := HL
    by_cases hlt : k < t.ks.length
    · obtain ⟨b, o, A', C', rfl, g5, hK⟩ := HL.out.kid hlt
      obtain ⟨a0, a1, a2, a3, a4⟩ := g5.later hBr
      have c := Lib.hid (fun w hL => IH.out k hlt A' C' w hL (HL0.out.fine hlt) (HSh.out.kid hlt))
      have hK' := Lib.hid (hK.later hBr)
      have htk := Lib.hid (show (t.ks.take (k + 1)).map bareT = (t.ks.take k).map bareT ++ [bareT t.ks[k]] by rw [List.take_succ_eq_append_getElem hlt, List.map_append]; rfl)
      have hsz := hBr.size
      have hself := HSh.out.self
      generalize t.ks[k] = q at *
      clear g5 hK IH HL HL0
      have hqb := bare_op q
      generalize bareT q = qb at *
      clear hqb
      go_wp2_with fail
      refine (c.out _ (hK'.out.later ((Below.refl _ _).alloc (Nat.le_refl _) _))).mono ?_
      rintro e w2 ⟨A2, C2, rfl, hrob, hFk, hb2⟩
      have hb3 : Below wr.heap.size wr w2 := ((Below.refl _ _).alloc (Nat.le_refl _) _).trans (hb2.mono (by simp))
      have HG2 := Lib.hid (HG.out.later hb3)
      have hR : Rob (w.heap.size + 1 + 1 + 1) w2 v.ownBlock A2 C2 qb.ks := hrob.newNone (fun g hg => by have := (HG.out.grows.row.lt g hg).2; simp; omega) (by have := (Array.getElem?_eq_some_iff.1 HG.out.rbox).1; simp; omega)
      have HR := Lib.hid hR
      have d4 := cell_row HG2.out.rbox (i := 4) rfl
      have hsz2 : w.heap.size + 1 + 1 + 1 ≤ w2.heap.size := by have := (Array.getElem?_eq_some_iff.1 HG2.out.rbox).1; omega
      have hsz3 : w.heap.size + 1 + 1 < w2.heap.size := by omega
      have SZ := Lib.hid (show ∀ O O', w.heap.size + 1 + 1 + 1 ≤ ((w2.alloc O).alloc O').heap.size from fun O O' => by rw [World.size_alloc, World.size_alloc]; omega)
      have NX := Lib.hid (fun O => news5 (w2.alloc O) (qb, A2, C2) (w2.heap.size + 1) (by rw [World.size_alloc]))
      have BB := Lib.hid (show ∀ O O', Below w2.heap.size w2 ((w2.alloc O).alloc O') from fun O O' => ((Below.refl _ _).alloc (Nat.le_refl _) _).alloc (by rw [World.size_alloc]; omega) _)
      have HO := Lib.hid (fun O O' => ownsRow_below HG2.out.grows.row (BB.out O O'))
      have L1 := Lib.hid (show xs.length + 1 ≤ maxLen by unfold maxLen; omega)
      have L2 := Lib.hid (show (xs.length + 1) * 64 ≤ 140737488355328 by omega)
      clear hb2 hb3 hrob hR a0 a1 a2 a3 a4 c4 HG
      go_wp2_with (at_builtin; refine wpList_append_own_at _ rfl _ _ 25 rfl (w.heap.size + 1 + 1 + 1) 27 i0 _ 5 64 Tryz.underlying25 I0.out Z0.out Z1.out Z2.out rfl (by decide) v xs.length (flatN xs) rfl (HO.out _ _) ⟨w2.heap.size + 1, 0, none⟩ 1 1 (cells5 (qb, A2, C2)) rfl rfl (NX.out _) (by simp [cells5, Value.oneCell']) L1.out L2.out (SZ.out _ _) ?_; intro v' w3 hown3 hgrow3 _ hor; obtain ⟨g3, cap3, rfl⟩ := ownsRow_succ hown3; have HST := Lib.hid ((HG2.out.later (BB.out _ _)).step (x := (qb, A2, C2)) (by omega) (by omega) (by omega) (HR.out.later (BB.out _ _)) hFk hown3 hgrow3 hor); have hb := hgrow3.block (w.heap.size + 1 + 1) (Nat.lt_of_lt_of_le hsz3 (BB.out _ _).size) (fun e => absurd ((HG2.out.grows.row.lt _ e.symm).1) (by omega)); have hb' := hb.trans (((BB.out _ _).block _ hsz3).trans HG2.out.rbox); have e4 := cell_row hb' (i := 4) rfl; have f4 := frozen_of_row w3 (w.heap.size + 1 + 1) 4 _ _ hb'; clear hb hb' hown3 hgrow3 hor)
      go_roundw
      case rel => exact ⟨k + 1, by omega, by go_num, by rw [htk.out]; have := HST.out; rw [hlen] at this; exact ⟨_, _, this⟩⟩
      case measure => simp [intOf]; omega
    · have hG := HG.out
      obtain ⟨A3, cap3, rfl, hrob⟩ := hG.grows.rob (by unfold maxLen; omega)
      have hr := hG.rbox
      have b0 : wr.cell? ⟨w.heap.size + 1 + 1, 0, none⟩ = some (.int .i64 t.op) := cell_row hr (i := 0) rfl
      have b1 : wr.cell? ⟨w.heap.size + 1 + 1, 1, none⟩ = some (.int .i64 0) := cell_row hr (i := 1) rfl
      have b2 : wr.cell? ⟨w.heap.size + 1 + 1, 2, none⟩ = some (.string t.nm) := cell_row hr (i := 2) rfl
      have b3 : wr.cell? ⟨w.heap.size + 1 + 1, 3, none⟩ = some (.int .i64 t.nu) := cell_row hr (i := 3) rfl
      have hz := hG.zbox
      have z0 := cell_row hz (i := 0) rfl
      have z1 := cell_row hz (i := 1) rfl
      have z2 := cell_row hz (i := 2) rfl
      have z3 := cell_row hz (i := 3) rfl
      have z4 := cell_row hz (i := 4) rfl
      have f0 := frozen_of_row wr (w.heap.size + 1) 0 _ _ hz
      have f1 := frozen_of_row wr (w.heap.size + 1) 1 _ _ hz
      have f2 := frozen_of_row wr (w.heap.size + 1) 2 _ _ hz
      have f3 := frozen_of_row wr (w.heap.size + 1) 3 _ _ hz
      have f4 := frozen_of_row wr (w.heap.size + 1) 4 _ _ hz
      have hfin := set5_same (.int .i64 t.op) (.int .i64 0) (.string t.nm) (.int .i64 t.nu) (.slice A3 k cap3) hz
      have hk' : t.ks.length = k := by omega
      have houts : xs.map (·.1) = t.ks.map bareT := hG.outs.trans (by rw [List.take_of_length_le (by omega)])
      have HRob := Lib.hid hrob
      have Hfin := Lib.hid hfin
      clear hr hz hG hrob hfin
      go_wp2_with fail
      have hf := Hfin.out
      have y0 := cell_row hf (i := 0) rfl
      have y1 := cell_row hf (i := 1) rfl
      have y2 := cell_row hf (i := 2) rfl
      have y3 := cell_row hf (i := 3) rfl
      have y4 := cell_row hf (i := 4) rfl
      obtain ⟨q1, q2, q3, q4, q5⟩ := bare_op t
      refine bodyPost_ret (v := nv t.op 0 t.nm t.nu (.slice A3 k cap3)) ?_ rfl ⟨A3, cap3, by rw [q1, q2, q3, q4, q5, List.length_map, hk'], ?_, ⟨by rw [q3]; exact HF.out.nm, by rw [q1]; exact HF.out.op, by rw [q2]; decide, by rw [q4]; exact HF.out.nu⟩, Below.set5 hBr (by omega) _ _ _ _ _⟩
      · clear hf Hfin HRob
        simp [results, Tryz.f17, go_sem, y0, y1, y2, y3, y4]
      · have := HRob.out
        rw [houts, ← q5] at this
        exact this.set5 (by omega) (by omega) _ _ _ _ _
theorem turnB_eq (t : Nd) : turnB t = ((t.op == 7 && decide (t.nu < 0)) || t.ks.any turnB) := by
  unfold turnB
  rw [nodesOf_eq, List.any_cons, List.any_flatMap]
set_option maxRecDepth 100000 in
set_option maxHeartbeats 4000000 in
theorem turned_any (t : Nd) : ∀ (A : Option Addr) (cap : Nat) (w : World), Lies w A cap t.ks →
    Calls Tryz.prog 16 #[nv t.op t.so t.nm t.nu (.slice A t.ks.length cap)] w fun e w' => e = .returned (.bool (turnB t)) ∧ Below w.heap.size w w' := by
  induction t using Nd.ind with
  | h t ih =>
  intro A cap w hL
  have HB1 : Below w.heap.size w (w.alloc (.cells #[.int .i64 t.op, .int .i64 t.so, .string t.nm, .int .i64 t.nu, .slice A t.ks.length cap] 27)) := (Below.refl _ _).alloc (Nat.le_refl _) _
  have hn := hL.len
  unfold maxLen at hn
  have HL := Lib.hid hL
  have IH := Lib.hid ih
  clear hL ih
  have HB1 := Lib.hid HB1
  have HB : ∀ O, Below w.heap.size w (w.alloc O) := fun O => (Below.refl _ _).alloc (Nat.le_refl _) _
  by_cases h0 : t.op = 7 ∧ t.nu < 0
  · have Hr := Lib.hid (show turnB t = true by rw [turnB_eq]; simp [h0])
    have h3' : (t.op == 7) = true := by simpa using h0.1
    have h4' : decide (t.nu < 0) = true := decide_eq_true h0.2
    clear h0
    go_enter Tryz.func16, Tryz.ntmps16
    go_wp2_with fail
    go_ret
    exact ⟨by rw [Hr.out]; rfl, HB1.out⟩
  have hz := Lib.hid (show turnB t = t.ks.any turnB by
    rw [turnB_eq]
    have : (t.op == 7 && decide (t.nu < 0)) = false := by simpa using h0
    rw [this, Bool.false_or])
  have key : (t.op == 7) = false ∨ ((t.op == 7) = true ∧ decide (t.nu < 0) = false) := by
    by_cases h7 : t.op = 7
    · exact .inr ⟨by simpa using h7, decide_eq_false fun h => h0 ⟨h7, h⟩⟩
    · exact .inl (by simpa using h7)
  clear h0
  rcases key with h3' | ⟨h3', h4'⟩
  all_goals
    go_enter Tryz.func16, Tryz.ntmps16
    go_wp2_with fail
    go_loopw [16] (fun i wr => ∃ k : Nat, k ≤ t.ks.length ∧ i = .int .i64 k ∧ Hid (∀ j (h : j < t.ks.length), j < k → turnB t.ks[j] = false) ∧ Below w.heap.size w wr) (fun i _ => t.ks.length - (intOf i).toNat)
    case atStart => exact ⟨0, Nat.zero_le _, rfl, fun j hj hjk => absurd hjk (by omega), HB _⟩
    case round =>
      obtain ⟨k, hk, rfl, hj, hBr⟩ := hrel
      by_cases hlt : k < t.ks.length
      · obtain ⟨b, o, A', C', rfl, g5, hK⟩ := HL.out.kid hlt
        obtain ⟨a0, a1, a2, a3, a4⟩ := g5.later hBr
        have c := Lib.hid (IH.out k hlt A' C')
        have hK' := Lib.hid (hK.later hBr)
        have hsn := Lib.hid (fun (e : turnB t.ks[k] = false) => (show Hid (∀ j (h : j < t.ks.length), j < k + 1 → turnB t.ks[j] = false) from fun j hjs hjk => by
          by_cases e' : j = k
          · subst e'; exact e
          · exact hj.out j hjs (by omega)))
        have hyes := Lib.hid (fun (e : turnB t.ks[k] = true) => hz.out.trans (List.any_eq_true.2 ⟨_, List.getElem_mem hlt, e⟩))
        have hszr := hBr.size
        have HBr := Lib.hid hBr
        generalize t.ks[k] = q at *
        clear g5 hK IH HL hj
        cases hq : turnB q
        case false =>
          have Hq := Lib.hid hq
          have Hsn := hsn.out hq
          clear hq hyes
          go_wp2_with fail
          refine (c.out _ (hK'.out.later ((Below.refl _ _).alloc (Nat.le_refl _) _))).mono ?_
          rintro e w2 ⟨rfl, hb2⟩
          rw [Hq.out]
          have hB2 := Lib.hid (HBr.out.trans ((((Below.refl _ wr).alloc (Nat.le_refl _) _).trans (hb2.mono (by simp))).mono hszr))
          clear hb2
          go_wp2_with fail
          go_roundw
          case rel => exact ⟨k + 1, by omega, by go_num, Hsn, hB2.out⟩
          case measure => simp [intOf]; omega
        case true =>
          have Hq := Lib.hid hq
          have Hr := Lib.hid (hyes.out hq)
          clear hq hyes hsn
          go_wp2_with fail
          refine (c.out _ (hK'.out.later ((Below.refl _ _).alloc (Nat.le_refl _) _))).mono ?_
          rintro e w2 ⟨rfl, hb2⟩
          rw [Hq.out]
          have hB2 := Lib.hid (HBr.out.trans ((((Below.refl _ wr).alloc (Nat.le_refl _) _).trans (hb2.mono (by simp))).mono hszr))
          clear hb2
          go_wp2_with fail
          go_ret
          exact ⟨by rw [Hr.out]; rfl, hB2.out⟩
      · have Hr := Lib.hid (hz.out.trans (show t.ks.any turnB = false from by
          rw [← Bool.not_eq_true, List.any_eq_true]
          rintro ⟨x, hx, hx2⟩
          obtain ⟨i, hi, rfl⟩ := List.getElem_of_mem hx
          have := hj.out i hi (by omega)
          rw [this] at hx2
          cases hx2))
        go_wp2_with fail
        go_ret
        exact ⟨by rw [Hr.out]; rfl, hBr⟩
end Go.Proofs.YtgkjcimgghflmaaGreatDoor
namespace Go.Proofs.YtgkjcimgghflmaaGreatDoor
open Go.RowKit Go.Shelf
attribute [local go_sem] Oper.semAt_some
theorem prt_ok {t : Nd} (h : prtE t = 0) : limB (preN 1 t) = true ∧ prB t = true := by
  unfold prtE at h
  split at h
  · rename_i h1
    split at h
    · rename_i h2
      exact ⟨h1, h2⟩
    · cases h
  · cases h
theorem back_par {t : Nd} (hv : levW t ≤ 30) (hb : turnB t = false) (he : prtE t = 0) (hs : (bs (prtS t)).size ≤ 60000) :
    parR (bs (prtS t)) = .ok (bareT t) (bs (prtS t)).size ∧ prtS (bareT t) = prtS t ∧ prtE (bareT t) = 0 ∧ Short t := by
  obtain ⟨h1, h2⟩ := prt_ok he
  have hc := lim_cnt h1
  have hd := levW_dep t (by omega)
  have hS : prtS t = txt t := by unfold prtS; rw [h1, h2]; rfl
  have l1 : limB (preN 1 (bareT t)) = true := by rw [lim_bare]; exact h1
  have l2 := pr_bare t h2
  have hw := back_PW h2 hb (by omega)
  refine ⟨?_, ?_, ?_, short_cnt (by omega)⟩
  · rw [hS] at hs ⊢
    unfold parR
    rw [if_neg (by omega), hw]
    show (if limB (preN 1 (bareT t)) = true then _ else _) = _
    rw [if_pos l1]
  · unfold prtS; rw [l1, l2, h1, h2, txt_bare]
  · unfold prtE; rw [l1, l2]; rfl
set_option maxRecDepth 100000 in
set_option maxHeartbeats 8000000 in
theorem back_law (t : Nd) (A : Option Addr) (cap : Nat) (w : World) (hL : Lies w A cap t.ks) (hf : Fine t) (hT : Tabs w) (hG : SigTab w) (hP : PowTab w)
    (haw : ∀ W, Below w.heap.size w W → Calls Tryz.prog 6 #[] W fun e w' => e = .returned (.bool true) ∧ Below W.heap.size W w') :
    Calls Tryz.prog 5 #[nv t.op t.so t.nm t.nu (.slice A t.ks.length cap)] w fun e w' => e = .returned (.bool true) ∧ Below w.heap.size w w' := by
  obtain ⟨W, hW⟩ : ∃ W, w.alloc (.cells #[.int .i64 t.op, .int .i64 t.so, .string t.nm, .int .i64 t.nu, .slice A t.ks.length cap] 27) = W := ⟨_, rfl⟩
  have X := five_new w t (.slice A t.ks.length cap) 27
  have HB : Below w.heap.size w W := by rw [← hW]; exact (Below.refl _ _).alloc (Nat.le_refl _) _
  rw [hW] at X
  have ca := haw W HB
  have cz := Lib.hid (fun (W' : World) (h : Below W.heap.size W W') => refSize_any t A cap W' ((hL.later HB).later h))
  have cv := Lib.hid (fun (W' : World) (h : Below W.heap.size W W') => refLevels_any t A cap W' ((hL.later HB).later h))
  have cb := Lib.hid (fun (W' : World) (h : Below W.heap.size W W') => turned_any t A cap W' ((hL.later HB).later h))
  have cp := Lib.hid (fun (W' : World) (h : Below W.heap.size W W') => print_any t A cap W' ((hL.later HB).later h) hf ((hT.later HB).later h) ((hP.later HB).later h))
  have cq := Lib.hid (fun (u : Nd) (A' : Option Addr) (cap' : Nat) (W' : World) (h : Below W.heap.size W W') (hl : Lies W' A' cap' u.ks) (hu : Fine u) => print_any u A' cap' W' hl hu ((hT.later HB).later h) ((hP.later HB).later h))
  have cr := Lib.hid (fun (s : ByteArray) (W' : World) (h : Below W.heap.size W W') => parse_any s W' ((hT.later HB).later h) ((hG.later HB).later h))
  have cc := Lib.hid (fun (hsh : Short t) (W' : World) (h : Below W.heap.size W W') => bare_any t A cap W' ((hL.later HB).later h) hf hsh)
  have hpar := Lib.hid (fun a b c d => back_par (t := t) a b c d)
  have KX := Lib.hid (fun (W' : World) (h : Below W.heap.size W W') => X.later h)
  have HW := Lib.hid hW
  have HB := Lib.hid HB
  have hlt : w.heap.size < W.heap.size := by rw [← hW]; simp
  clear X hL hW hf hT hG hP haw
  generalize hz0 : sizeW t = z at *
  generalize hv0 : levW t = v at *
  generalize her0 : prtE t = er at *
  generalize hst0 : bs (prtS t) = st at *
  clear hz0
  have HV := Lib.hid hv0
  have HE := Lib.hid her0
  have HS := Lib.hid hst0
  clear hv0 her0 hst0
  go_enter Tryz.func5, Tryz.ntmps5
  go_wp2_with fail
  rw [HW.out]
  refine ca.mono ?_
  rintro e w1 ⟨rfl, b1⟩
  have B1 := Lib.hid b1
  obtain ⟨x0, x1, x2, x3, x4⟩ := KX.out _ b1
  clear b1 ca
  go_wp2_with fail
  refine (cz.out _ B1.out).mono ?_
  rintro e w2 ⟨rfl, b2⟩
  have B2 := Lib.hid (B1.out.trans (b2.mono B1.out.size))
  clear b2 x0 x1 x2 x3 x4 cz
  obtain ⟨x0, x1, x2, x3, x4⟩ := KX.out _ B2.out
  by_cases hz : 1500 < z
  · have hz' : decide ((1500 : Int) < z) = true := decide_eq_true hz
    clear hz
    go_wp2_with fail
    go_ret
    exact ⟨rfl, HB.out.trans (B2.out.mono HB.out.size)⟩
  have hz' : decide ((1500 : Int) < z) = false := decide_eq_false hz
  clear hz
  go_wp2_with fail
  refine (cv.out _ B2.out).mono ?_
  rintro e w3 ⟨rfl, b3⟩
  have B3 := Lib.hid (B2.out.trans (b3.mono B2.out.size))
  clear b3 x0 x1 x2 x3 x4 cv hz'
  obtain ⟨x0, x1, x2, x3, x4⟩ := KX.out _ B3.out
  by_cases hv : 30 < v
  · have hv' : decide ((30 : Int) < v) = true := decide_eq_true hv
    clear hv
    go_wp2_with fail
    go_ret
    exact ⟨rfl, HB.out.trans (B3.out.mono HB.out.size)⟩
  have hv' : decide ((30 : Int) < v) = false := decide_eq_false hv
  have Hv := Lib.hid hv
  clear hv
  go_wp2_with fail
  refine (cb.out _ B3.out).mono ?_
  rintro e w4 ⟨rfl, b4⟩
  have B4 := Lib.hid (B3.out.trans (b4.mono B3.out.size))
  clear b4 x0 x1 x2 x3 x4 cb
  obtain ⟨x0, x1, x2, x3, x4⟩ := KX.out _ B4.out
  clear hv'
  cases hb : turnB t
  case true =>
    clear hb
    go_wp2_with fail
    go_ret
    exact ⟨rfl, HB.out.trans (B4.out.mono HB.out.size)⟩
  have Hb := Lib.hid hb
  clear hb
  go_wp2_with fail
  refine (cp.out _ B4.out).mono ?_
  rintro e w5 ⟨rfl, b5⟩
  have B5 := Lib.hid (B4.out.trans (b5.mono B4.out.size))
  clear b5 x0 x1 x2 x3 x4 cp
  by_cases he : er = 0
  case neg =>
    have he' : (er != 0) = true := by simpa using he
    go_wp2_with fail
    go_ret
    exact ⟨rfl, HB.out.trans (B5.out.mono HB.out.size)⟩
  have he' : (er != 0) = false := by simpa using he
  by_cases hs : 60000 < st.size
  · have hs' : decide ((60000 : Int) < (st.size : Int)) = true := decide_eq_true (by omega)
    clear hs
    go_wp2_with fail
    go_ret
    exact ⟨rfl, HB.out.trans (B5.out.mono HB.out.size)⟩
  have hs' : decide ((60000 : Int) < (st.size : Int)) = false := decide_eq_false (by omega)
  have hp := hpar.out (by have := Hv.out; omega) Hb.out he (by omega)
  have HC := Lib.hid (cc.out hp.2.2.2)
  have HP := Lib.hid hp.1
  have HPS := Lib.hid (show bs (prtS (bareT t)) = st by rw [hp.2.1]; exact HS.out)
  have HPE := Lib.hid hp.2.2.1
  clear hp hpar hs he cc HS HE HV
  go_wp2_with fail
  have c6 := cr.out st w5 B5.out
  rw [HP.out] at c6
  refine c6.mono ?_
  rintro e w6 ⟨A6, c6', rfl, r6, f6, b6⟩
  have B6 := B5.out.trans (b6.mono B5.out.size)
  have hal := (Below.refl w6.heap.size w6).alloc (Nat.le_refl _) (.cells #[.int .i64 (bareT t).op, .int .i64 (bareT t).so, .string (bareT t).nm, .int .i64 (bareT t).nu, .slice A6 (bareT t).ks.length c6'] 27)
  have Y7 := five_new w6 (bareT t) (.slice A6 (bareT t).ks.length c6') 27
  have L7 := r6.lies.later hal
  have B7 := B6.trans (hal.mono B6.size)
  have HF := Lib.hid f6
  clear c6 b6 r6 f6 hal B6 cr HP he' hs'
  generalize bareT t = u at *
  go_upto_region 9 with fail
  change Code.wp _ _ _ _ (w6.alloc (.cells #[.int .i64 u.op, .int .i64 u.so, .string u.nm, .int .i64 u.nu, .slice A6 u.ks.length c6'] 27))
  generalize w6.alloc (.cells #[.int .i64 u.op, .int .i64 u.so, .string u.nm, .int .i64 u.nu, .slice A6 u.ks.length c6'] 27) = w7 at *
  generalize w6.heap.size = g6 at *
  have hd : Below w7.heap.size w7 w7.drew := ⟨rfl, rfl, rfl, Nat.le_refl _, fun _ _ => rfl⟩
  have BD := Lib.hid (B7.trans (hd.mono B7.size))
  have LD := Lib.hid (L7.later hd)
  have YD := Lib.hid (Y7.later hd)
  obtain ⟨x0, x1, x2, x3, x4⟩ := KX.out _ B7
  obtain ⟨y0, y1, y2, y3, y4⟩ := id Y7
  clear hd L7 Y7 B7
  go_region_with (first
    | (go_at_call 17; ((with_reducible refine (HC.out _ BD.out).mono ?_); rintro e w8 ⟨A8, c8, rfl, r8, f8, b8⟩; have B8 := Lib.hid (BD.out.trans (b8.mono BD.out.size)); have L8 := Lib.hid (LD.out.later b8); have M8 := Lib.hid r8.lies; have Y8 := Lib.hid (YD.out.later b8); obtain ⟨v0, v1, v2, v3, v4⟩ := YD.out.later b8; clear b8 r8 f8))
    | (go_at_call 9; ((with_reducible refine (refEqual_any u u A6 A8 c6' c8 _ L8.out M8.out).mono ?_); rintro e w9 ⟨rfl, b9⟩; rw [(cmp_all u).2.2.1]; have B9 := Lib.hid (B8.out.trans (b9.mono B8.out.size)); have L9 := Lib.hid (L8.out.later b9); have Y9 := Lib.hid (Y8.out.later b9); clear b9)))
  all_goals
    clear x0 x1 x2 x3 x4 y0 y1 y2 y3 y4 v0 v1 v2 v3 v4
    obtain ⟨p0, p1, p2, p3, p4⟩ := Y9.out
    have s1 : (st.toList == st.toList) = true := by simp
    go_wp2_with fail
    refine (cq.out u A6 c6' _ B9.out L9.out HF.out).mono ?_
    rintro e w10 ⟨rfl, b10⟩
    rw [HPS.out, HPE.out]
    have B10 := Lib.hid (B9.out.trans (b10.mono B9.out.size))
    clear b10 p0 p1 p2 p3 p4
    go_wp2_with fail
    go_ret
    exact ⟨rfl, HB.out.trans (B10.out.mono HB.out.size)⟩
end Go.Proofs.YtgkjcimgghflmaaGreatDoor
