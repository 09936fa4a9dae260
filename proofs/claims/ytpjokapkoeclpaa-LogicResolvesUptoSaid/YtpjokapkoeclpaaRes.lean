/-
  What package logic's Resolve returns; conditions: the tree and the lists lie in memory, and the tree has few nodes.
-/
import Derived.Test.YtpjokapkoeclpaaRefRes
namespace Go.Proofs.Ytpjokapkoeclpaa
open Go.RowKit Go.Shelf Go.WideMaps

attribute [local go_sem] Oper.semAt_some
theorem fD_nil : fD ([] : List (ByteArray × Int)) = fun _ => none := rfl
theorem fS_nil : fS ([] : List SgA) = fun _ => none := rfl
set_option maxRecDepth 100000 in
set_option maxHeartbeats 3000000 in
theorem resolve_any (dl : List (ByteArray × Int)) (sl : List SgA) (hdw : ∀ d ∈ dl, (Lit.int .i64 d.2).wf = true) (DA SA : Option Addr) (dcap scap : Nat) (hdl : dl.length ≤ maxLen) (hsl : sl.length ≤ maxLen) (t : Nd) (A : Option Addr) (cap : Nat) (w : World) (hL : Lies w A cap t.ks) (hfine : Fine t) (hcnt : cnt t ≤ 1048576) (hD : Dcls w DA dl) (hS : Sgs w SA sl) (hA : ArgsIn w sl) :
    Calls Try.prog 42 #[nv t.op t.so t.nm t.nu (.slice A t.ks.length cap), .slice DA dl.length dcap, .slice SA sl.length scap] w (RetE w (resV dl sl t)) := by
  have hmm := @run_makeMap Try.prog
  have hsw := fun s => (sigAt_in hA s).2.2
  have HB0 := Lib.hid (show Below w.heap.size w ((w.alloc (.cells #[.int .i64 t.op, .int .i64 t.so, .string t.nm, .int .i64 t.nu, .slice A t.ks.length cap] 24)).alloc (.cells zero5 24)) from ((Below.refl _ _).alloc (Nat.le_refl _) _).alloc (by simp) _)
  have HF0 := Lib.hid ((five_new w t (.slice A t.ks.length cap) 24).later ((Below.refl _ _).alloc (Nat.le_refl _) (.cells zero5 24)))
  have HZ0 := Lib.hid (show ((w.alloc (.cells #[.int .i64 t.op, .int .i64 t.so, .string t.nm, .int .i64 t.nu, .slice A t.ks.length cap] 24)).alloc (.cells zero5 24)).heap[w.heap.size + 1]? = some (.cells zero5 24 (0, 0)) from by have := heap_alloc_new (w.alloc (.cells #[.int .i64 t.op, .int .i64 t.so, .string t.nm, .int .i64 t.nu, .slice A t.ks.length cap] 24)) (.cells zero5 24); rwa [World.size_alloc] at this)
  have HL := Lib.hid hL
  have HFi := Lib.hid hfine
  have HD := Lib.hid hD
  have HS := Lib.hid hS
  have HA := Lib.hid hA
  have hdl' := hdl
  have hsl' := hsl
  unfold maxLen at hdl' hsl'
  clear hL hfine hD hS hA
  unfold resV
  cases hli : limB (preN 1 t)
  case false =>
    rw [if_pos rfl]
    have Hli := Lib.hid hli
    clear hli
    go_enter Try.func42, Try.ntmps42
    have B0 := HB0.out
    have F0 := HF0.out
    have Z0 := HZ0.out
    obtain ⟨a0, a1, a2, a3, a4⟩ := id F0
    have z0 := cell_row Z0 (i := 0) rfl
    have z1 := cell_row Z0 (i := 1) rfl
    have z2 := cell_row Z0 (i := 2) rfl
    have z3 := cell_row Z0 (i := 3) rfl
    have z4 := cell_row Z0 (i := 4) rfl
    have f0 := frozen_of_row _ (w.heap.size + 1) 0 _ _ Z0
    have f1 := frozen_of_row _ (w.heap.size + 1) 1 _ _ Z0
    have f2 := frozen_of_row _ (w.heap.size + 1) 2 _ _ Z0
    have f3 := frozen_of_row _ (w.heap.size + 1) 3 _ _ Z0
    have f4 := frozen_of_row _ (w.heap.size + 1) 4 _ _ Z0
    go_wp2_with fail
    refine (limits_any t _ _ _ (HL.out.later B0) HFi.out).mono ?_
    rintro e w1 ⟨rfl, hb⟩
    rw [Hli.out]
    have B1 := B0.trans (hb.mono B0.size)
    have F1 := F0.later hb
    have Z1 := (hb.block (w.heap.size + 1) (Array.getElem?_eq_some_iff.1 Z0).1).trans Z0
    clear hb a0 a1 a2 a3 a4 z0 z1 z2 z3 z4 f0 f1 f2 f3 f4 F0 Z0 B0
    obtain ⟨a0, a1, a2, a3, a4⟩ := id F1
    have z0 := cell_row Z1 (i := 0) rfl
    have z1 := cell_row Z1 (i := 1) rfl
    have z2 := cell_row Z1 (i := 2) rfl
    have z3 := cell_row Z1 (i := 3) rfl
    have z4 := cell_row Z1 (i := 4) rfl
    have f0 := frozen_of_row w1 (w.heap.size + 1) 0 _ _ Z1
    have f1 := frozen_of_row w1 (w.heap.size + 1) 1 _ _ Z1
    have f2 := frozen_of_row w1 (w.heap.size + 1) 2 _ _ Z1
    have f3 := frozen_of_row w1 (w.heap.size + 1) 3 _ _ Z1
    have f4 := frozen_of_row w1 (w.heap.size + 1) 4 _ _ Z1
    have Hfin := Lib.hid (set5_same (.int .i64 0) (.int .i64 0) (.string ⟨#[]⟩) (.int .i64 0) (.slice none 0 0) Z1)
    have HBf := Lib.hid (Below.set5 B1 (b := w.heap.size + 1) (by omega) (.int .i64 0) (.int .i64 0) (.string ⟨#[]⟩) (.int .i64 0) (.slice none 0 0))
    clear Z1
    go_wp2_with fail
    have hf := Hfin.out
    have y0 := cell_row hf (i := 0) rfl
    have y1 := cell_row hf (i := 1) rfl
    have y2 := cell_row hf (i := 2) rfl
    have y3 := cell_row hf (i := 3) rfl
    have y4 := cell_row hf (i := 4) rfl
    refine bodyPost_ret (v := .tuple #[.agg zero5, .int .i64 2]) ?_ rfl ⟨none, 0, rfl, lies_zero _, fine_zero, HBf.out⟩
    clear hf Hfin HBf
    simp [results, Try.f42, go_sem, y0, y1, y2, y3, y4]
  rw [if_neg (by simp)]
  have Hli := Lib.hid hli
  clear hli
  cases hna : allNamed dl sl t
  case false =>
    rw [if_pos rfl]
    have Hna := Lib.hid hna
    clear hna
    go_enter Try.func42, Try.ntmps42
    have B0 := HB0.out
    have F0 := HF0.out
    have Z0 := HZ0.out
    obtain ⟨a0, a1, a2, a3, a4⟩ := id F0
    have z0 := cell_row Z0 (i := 0) rfl
    have z1 := cell_row Z0 (i := 1) rfl
    have z2 := cell_row Z0 (i := 2) rfl
    have z3 := cell_row Z0 (i := 3) rfl
    have z4 := cell_row Z0 (i := 4) rfl
    have f0 := frozen_of_row _ (w.heap.size + 1) 0 _ _ Z0
    have f1 := frozen_of_row _ (w.heap.size + 1) 1 _ _ Z0
    have f2 := frozen_of_row _ (w.heap.size + 1) 2 _ _ Z0
    have f3 := frozen_of_row _ (w.heap.size + 1) 3 _ _ Z0
    have f4 := frozen_of_row _ (w.heap.size + 1) 4 _ _ Z0
    go_wp2_with fail
    refine (limits_any t _ _ _ (HL.out.later B0) HFi.out).mono ?_
    rintro e w1 ⟨rfl, hb⟩
    rw [Hli.out]
    have B1 := B0.trans (hb.mono B0.size)
    have F1 := F0.later hb
    have Z1 := (hb.block (w.heap.size + 1) (Array.getElem?_eq_some_iff.1 Z0).1).trans Z0
    clear hb a0 a1 a2 a3 a4 z0 z1 z2 z3 z4 f0 f1 f2 f3 f4 F0 Z0 B0

    have hz1 : w.heap.size + 1 < w1.heap.size := (Array.getElem?_eq_some_iff.1 Z1).1
    have B2 : Below w1.heap.size w1 (((w1.alloc (.map #[] 0)).alloc (.map #[] 0)).alloc (.cells #[.map (some w1.heap.size), .map (some (w1.heap.size + 1))] 79)) := (((Below.refl _ _).alloc (Nat.le_refl _) _).alloc (by simp) _).alloc (by simp; omega) _
    have HB2 := Lib.hid B2
    have HM1 := Lib.hid (show NameMap (((w1.alloc (.map #[] 0)).alloc (.map #[] 0)).alloc (.cells #[.map (some w1.heap.size), .map (some (w1.heap.size + 1))] 79)) w1.heap.size (fD (dl.take 0)) from by
      rw [List.take_zero, fD_nil]
      exact NameMap.nil (((((Below.refl _ _).alloc (Nat.le_refl _) _).alloc (by simp) _).block w1.heap.size (by simp)).trans (heap_alloc_new w1 _)))
    have HM2 := Lib.hid (show (((w1.alloc (.map #[] 0)).alloc (.map #[] 0)).alloc (.cells #[.map (some w1.heap.size), .map (some (w1.heap.size + 1))] 79)).heap[w1.heap.size + 1]? = some (.map #[] 0) from (((Below.refl _ _).alloc (Nat.le_refl _) _).block _ (by simp)).trans (by have := heap_alloc_new (w1.alloc (.map #[] 0)) (.map #[] 0); rwa [World.size_alloc] at this))
    have HMB := Lib.hid (show (((w1.alloc (.map #[] 0)).alloc (.map #[] 0)).alloc (.cells #[.map (some w1.heap.size), .map (some (w1.heap.size + 1))] 79)).heap[w1.heap.size + 1 + 1]? = some (.cells #[.map (some w1.heap.size), .map (some (w1.heap.size + 1))] 79 (0, 0)) from by have := heap_alloc_new ((w1.alloc (.map #[] 0)).alloc (.map #[] 0)) (.cells #[.map (some w1.heap.size), .map (some (w1.heap.size + 1))] 79); rwa [World.size_alloc, World.size_alloc] at this)
    have HS2 := Lib.hid (show w1.heap.size + 1 + 1 + 1 ≤ (((w1.alloc (.map #[] 0)).alloc (.map #[] 0)).alloc (.cells #[.map (some w1.heap.size), .map (some (w1.heap.size + 1))] 79)).heap.size by simp)
    have HF1 := Lib.hid F1
    have HZ1 := Lib.hid Z1
    have HB1 := Lib.hid B1
    clear B2 F1 Z1 B1
    go_wp2_with fail
    generalize (((w1.alloc (.map #[] 0)).alloc (.map #[] 0)).alloc (.cells #[.map (some w1.heap.size), .map (some (w1.heap.size + 1))] 79)) = W2 at *
    go_loopw [23] (fun i wr => ∃ k : Nat, k ≤ dl.length ∧ i = .int .i64 k ∧ Hid (NameMap wr w1.heap.size (fD (dl.take k))) ∧ Hid (wr.heap[w1.heap.size + 1]? = some (.map #[] 0)) ∧ Hid (wr.heap[w1.heap.size + 1 + 1]? = some (.cells #[.map (some w1.heap.size), .map (some (w1.heap.size + 1))] 79 (0, 0))) ∧ Hid (Below w1.heap.size w1 wr) ∧ Hid (w1.heap.size + 1 + 1 + 1 ≤ wr.heap.size)) (fun i _ => dl.length - (intOf i).toNat)
    case atStart => exact ⟨0, Nat.zero_le _, rfl, HM1.out, HM2.out, HMB.out, HB2.out, HS2.out⟩
    case round =>
      obtain ⟨k, hk, rfl, hm1, hm2, hmb, hbr, hszr⟩ := hrel
      clear HM1 HM2 HMB HB2 HS2
      have hs := hszr.out
      have hs' : w1.heap.size + 1 + 1 < wr.heap.size := by omega
      have hBw : Below w.heap.size w wr := HB1.out.trans (hbr.out.mono HB1.out.size)
      have c0 := cell_row hmb.out (i := 0) rfl
      have c1 := cell_row hmb.out (i := 1) rfl
      by_cases hlt : k < dl.length
      · obtain ⟨db, do', hda, hdc⟩ := HD.out.later hBw
        obtain rfl := hda (by omega)
        obtain ⟨d0, d1⟩ := hdc k hlt
        have hst := Lib.hid (fD_step dl hlt)
        generalize dl[k] = d at *
        clear hda hdc
        have hal : ∀ O, Below wr.heap.size wr (wr.alloc O) := fun O => (Below.refl _ _).alloc (Nat.le_refl _) O
        have KP := Lib.hid (fun O => keepI_any w1.heap.size (fD (dl.take k)) d.1 d.2 (wr.alloc O) (hm1.out.later (hal O)))
        have KB := Lib.hid (fun (O : Obj) j (hj : j < wr.heap.size) => (hal O).block j hj)
        have KS := Lib.hid (fun O => (hal O).size)
        have KBel := Lib.hid (fun O => hbr.out.trans ((hal O).mono (by omega)))
        clear hal
        go_wp2_with fail
        refine (KP.out _).mono ?_
        rintro e w2 ⟨rfl, hn2, hb2, hs2, ho2⟩
        have N1 := Lib.hid (show NameMap w2 w1.heap.size (fD (dl.take (k + 1))) by rw [← hst.out]; exact hn2)
        have N2 := Lib.hid (((ho2 (w1.heap.size + 1) (by have := KS.out (.cells #[.string d.1, .int .i64 d.2] 58); omega) (by omega)).trans (KB.out _ _ (by omega))).trans hm2.out)
        have N3 := Lib.hid (((ho2 (w1.heap.size + 1 + 1) (by have := KS.out (.cells #[.string d.1, .int .i64 d.2] 58); omega) (by omega)).trans (KB.out _ _ (by omega))).trans hmb.out)
        have N4 := Lib.hid ((KBel.out (.cells #[.string d.1, .int .i64 d.2] 58)).trans hb2)
        have N5 := Lib.hid (show w1.heap.size + 1 + 1 + 1 ≤ w2.heap.size by have := KS.out (.cells #[.string d.1, .int .i64 d.2] 58); omega)
        clear hn2 hb2 hs2 ho2 KP KB KS KBel c0 c1 d0 d1
        go_wp2_with fail
        go_roundw
        case rel => exact ⟨k + 1, by omega, by go_num, N1.out, N2.out, N3.out, N4.out, N5.out⟩
        case measure => simp [intOf]; omega
      · have hmA := Lib.hid (show NameMap wr w1.heap.size (fD dl) by have := hm1.out; rwa [List.take_of_length_le (by omega)] at this)
        have hmB := Lib.hid (show NameMap wr (w1.heap.size + 1) (fS (sl.take 0)) from by rw [List.take_zero, fS_nil]; exact NameMap.nil hm2.out)
        clear hm1 hm2 c0 c1
        go_wp2_with fail
        generalize wr = W3 at *
        go_loopw [37] (fun i wr => ∃ k : Nat, k ≤ sl.length ∧ i = .int .i64 k ∧ Hid (NameMap wr w1.heap.size (fD dl)) ∧ Hid (NameMap wr (w1.heap.size + 1) (fS (sl.take k))) ∧ Hid (wr.heap[w1.heap.size + 1 + 1]? = some (.cells #[.map (some w1.heap.size), .map (some (w1.heap.size + 1))] 79 (0, 0))) ∧ Hid (Below w1.heap.size w1 wr) ∧ Hid (w1.heap.size + 1 + 1 + 1 ≤ wr.heap.size)) (fun i _ => sl.length - (intOf i).toNat)
        case atStart => exact ⟨0, Nat.zero_le _, rfl, hmA.out, hmB.out, hmb.out, hbr.out, hszr.out⟩
        case round =>
          clear hmA hmB hmb hbr hszr hs hs' hBw
          obtain ⟨k, hk, rfl, hm1, hm2, hmb, hbr, hszr⟩ := hrel
          have hs := hszr.out
          have hs' : w1.heap.size + 1 + 1 < wr.heap.size := by omega
          have hBw : Below w.heap.size w wr := HB1.out.trans (hbr.out.mono HB1.out.size)
          have c0 := cell_row hmb.out (i := 0) rfl
          have c1 := cell_row hmb.out (i := 1) rfl
          by_cases hlt : k < sl.length
          · obtain ⟨db, do', hda, hdc⟩ := HS.out.later hBw
            obtain rfl := hda (by omega)
            obtain ⟨d0, d1, d2⟩ := hdc k hlt
            have hst := Lib.hid (fS_step sl hlt)
            generalize sl[k] = d at *
            clear hda hdc
            have hal : ∀ O, Below wr.heap.size wr (wr.alloc O) := fun O => (Below.refl _ _).alloc (Nat.le_refl _) O
            have KP := Lib.hid (fun O => keepS_any (w1.heap.size + 1) (fS (sl.take k)) (fun s v h => fS_form s v h) d.1.nm d (wr.alloc O) (hm2.out.later (hal O)))
            have KB := Lib.hid (fun (O : Obj) j (hj : j < wr.heap.size) => (hal O).block j hj)
            have KS := Lib.hid (fun O => (hal O).size)
            have KBel := Lib.hid (fun O => hbr.out.trans ((hal O).mono (by omega)))
            clear hal
            go_wp2_with fail
            refine (KP.out _).mono ?_
            rintro e w2 ⟨rfl, hn2, hb2, hs2, ho2⟩
            have N1 := Lib.hid (hm1.out.kept ((ho2 w1.heap.size (by have := KS.out (.cells #[.string d.1.nm, .slice d.2.1 d.1.args.length d.2.2, .int .i64 d.1.so] 83); omega) (by omega)).trans (KB.out _ _ (by omega))))
            have N2 := Lib.hid (show NameMap w2 (w1.heap.size + 1) (fS (sl.take (k + 1))) by rw [← hst.out]; exact hn2)
            have N3 := Lib.hid (((ho2 (w1.heap.size + 1 + 1) (by have := KS.out (.cells #[.string d.1.nm, .slice d.2.1 d.1.args.length d.2.2, .int .i64 d.1.so] 83); omega) (by omega)).trans (KB.out _ _ (by omega))).trans hmb.out)
            have N4 := Lib.hid ((KBel.out (.cells #[.string d.1.nm, .slice d.2.1 d.1.args.length d.2.2, .int .i64 d.1.so] 83)).trans (hb2.mono (by omega)))
            have N5 := Lib.hid (show w1.heap.size + 1 + 1 + 1 ≤ w2.heap.size by have := KS.out (.cells #[.string d.1.nm, .slice d.2.1 d.1.args.length d.2.2, .int .i64 d.1.so] 83); omega)
            clear hn2 hb2 hs2 ho2 KP KB KS KBel c0 c1 d0 d1 d2
            go_wp2_with fail
            go_roundw
            case rel => exact ⟨k + 1, by omega, by go_num, N1.out, N2.out, N3.out, N4.out, N5.out⟩
            case measure => simp [intOf]; omega
          · have hmA := Lib.hid hm1.out
            have hmB := Lib.hid (show NameMap wr (w1.heap.size + 1) (fS sl) by have := hm2.out; rwa [List.take_of_length_le (by omega)] at this)
            have F2 := HF1.out.later (hbr.out)
            have Z2 := ((hbr.out).block (w.heap.size + 1) hz1).trans HZ1.out
            have B2 := hBw
            clear hm1 hm2 HF1 HZ1
            obtain ⟨a0, a1, a2, a3, a4⟩ := id F2
            have hbm : Below wr.heap.size wr wr := Below.refl _ _
            have M2 := hmb.out
            have NA2 := hmA
            have NB2 := hmB
            clear hmA hmB hmb hbm
            have z0 := cell_row Z2 (i := 0) rfl
            have z1 := cell_row Z2 (i := 1) rfl
            have z2 := cell_row Z2 (i := 2) rfl
            have z3 := cell_row Z2 (i := 3) rfl
            have z4 := cell_row Z2 (i := 4) rfl
            have f0 := frozen_of_row wr (w.heap.size + 1) 0 _ _ Z2
            have f1 := frozen_of_row wr (w.heap.size + 1) 1 _ _ Z2
            have f2 := frozen_of_row wr (w.heap.size + 1) 2 _ _ Z2
            have f3 := frozen_of_row wr (w.heap.size + 1) 3 _ _ Z2
            have f4 := frozen_of_row wr (w.heap.size + 1) 4 _ _ Z2
            go_wp2_with fail
            refine (allNamed_any w1.heap.size (w1.heap.size + 1) dl sl t A cap wr (HL.out.later B2) HFi.out NA2.out NB2.out).mono ?_
            rintro e w3 ⟨rfl, hb⟩
            rw [Hna.out]
            have B3 := B2.trans (hb.mono B2.size)
            have F3 := F2.later hb
            have Z3 := (hb.block (w.heap.size + 1) (Array.getElem?_eq_some_iff.1 Z2).1).trans Z2
            have M3 := (hb.block (w1.heap.size + 1 + 1) (Array.getElem?_eq_some_iff.1 M2).1).trans M2
            have NA3 := Lib.hid (NA2.out.later hb)
            have NB3 := Lib.hid (NB2.out.later hb)
            clear hb a0 a1 a2 a3 a4 c0 c1 z0 z1 z2 z3 z4 f0 f1 f2 f3 f4 F2 Z2 M2 NA2 NB2
            obtain ⟨a0, a1, a2, a3, a4⟩ := id F3
            have c0 := cell_row M3 (i := 0) rfl
            have c1 := cell_row M3 (i := 1) rfl
            have z0 := cell_row Z3 (i := 0) rfl
            have z1 := cell_row Z3 (i := 1) rfl
            have z2 := cell_row Z3 (i := 2) rfl
            have z3 := cell_row Z3 (i := 3) rfl
            have z4 := cell_row Z3 (i := 4) rfl
            have f0 := frozen_of_row w3 (w.heap.size + 1) 0 _ _ Z3
            have f1 := frozen_of_row w3 (w.heap.size + 1) 1 _ _ Z3
            have f2 := frozen_of_row w3 (w.heap.size + 1) 2 _ _ Z3
            have f3 := frozen_of_row w3 (w.heap.size + 1) 3 _ _ Z3
            have f4 := frozen_of_row w3 (w.heap.size + 1) 4 _ _ Z3
            have Hfin := Lib.hid (set5_same (.int .i64 0) (.int .i64 0) (.string ⟨#[]⟩) (.int .i64 0) (.slice none 0 0) Z3)
            have HBf := Lib.hid (Below.set5 B3 (b := w.heap.size + 1) (by omega) (.int .i64 0) (.int .i64 0) (.string ⟨#[]⟩) (.int .i64 0) (.slice none 0 0))
            clear Z3
            go_wp2_with fail
            have hf := Hfin.out
            have y0 := cell_row hf (i := 0) rfl
            have y1 := cell_row hf (i := 1) rfl
            have y2 := cell_row hf (i := 2) rfl
            have y3 := cell_row hf (i := 3) rfl
            have y4 := cell_row hf (i := 4) rfl
            refine bodyPost_ret (v := .tuple #[.agg zero5, .int .i64 4]) ?_ rfl ⟨none, 0, rfl, lies_zero _, fine_zero, HBf.out⟩
            clear hf Hfin HBf
            simp [results, Try.f42, go_sem, y0, y1, y2, y3, y4]
  rw [if_neg (by simp)]
  have Hna := Lib.hid hna
  clear hna
  by_cases hck : checkV (resG false dl sl t) 0 = 0
  case neg =>
    rw [if_pos (.inl hck)]
    have hck' : (checkV (resG false dl sl t) 0 == 0) = false := by simpa using hck
    have hck'' : (checkV (resG false dl sl t) 0 != 0) = true := by simpa using hck
    clear hck
    go_enter Try.func42, Try.ntmps42
    have B0 := HB0.out
    have F0 := HF0.out
    have Z0 := HZ0.out
    obtain ⟨a0, a1, a2, a3, a4⟩ := id F0
    have z0 := cell_row Z0 (i := 0) rfl
    have z1 := cell_row Z0 (i := 1) rfl
    have z2 := cell_row Z0 (i := 2) rfl
    have z3 := cell_row Z0 (i := 3) rfl
    have z4 := cell_row Z0 (i := 4) rfl
    have f0 := frozen_of_row _ (w.heap.size + 1) 0 _ _ Z0
    have f1 := frozen_of_row _ (w.heap.size + 1) 1 _ _ Z0
    have f2 := frozen_of_row _ (w.heap.size + 1) 2 _ _ Z0
    have f3 := frozen_of_row _ (w.heap.size + 1) 3 _ _ Z0
    have f4 := frozen_of_row _ (w.heap.size + 1) 4 _ _ Z0
    go_wp2_with fail
    refine (limits_any t _ _ _ (HL.out.later B0) HFi.out).mono ?_
    rintro e w1 ⟨rfl, hb⟩
    rw [Hli.out]
    have B1 := B0.trans (hb.mono B0.size)
    have F1 := F0.later hb
    have Z1 := (hb.block (w.heap.size + 1) (Array.getElem?_eq_some_iff.1 Z0).1).trans Z0
    clear hb a0 a1 a2 a3 a4 z0 z1 z2 z3 z4 f0 f1 f2 f3 f4 F0 Z0 B0

    have hz1 : w.heap.size + 1 < w1.heap.size := (Array.getElem?_eq_some_iff.1 Z1).1
    have B2 : Below w1.heap.size w1 (((w1.alloc (.map #[] 0)).alloc (.map #[] 0)).alloc (.cells #[.map (some w1.heap.size), .map (some (w1.heap.size + 1))] 79)) := (((Below.refl _ _).alloc (Nat.le_refl _) _).alloc (by simp) _).alloc (by simp; omega) _
    have HB2 := Lib.hid B2
    have HM1 := Lib.hid (show NameMap (((w1.alloc (.map #[] 0)).alloc (.map #[] 0)).alloc (.cells #[.map (some w1.heap.size), .map (some (w1.heap.size + 1))] 79)) w1.heap.size (fD (dl.take 0)) from by
      rw [List.take_zero, fD_nil]
      exact NameMap.nil (((((Below.refl _ _).alloc (Nat.le_refl _) _).alloc (by simp) _).block w1.heap.size (by simp)).trans (heap_alloc_new w1 _)))
    have HM2 := Lib.hid (show (((w1.alloc (.map #[] 0)).alloc (.map #[] 0)).alloc (.cells #[.map (some w1.heap.size), .map (some (w1.heap.size + 1))] 79)).heap[w1.heap.size + 1]? = some (.map #[] 0) from (((Below.refl _ _).alloc (Nat.le_refl _) _).block _ (by simp)).trans (by have := heap_alloc_new (w1.alloc (.map #[] 0)) (.map #[] 0); rwa [World.size_alloc] at this))
    have HMB := Lib.hid (show (((w1.alloc (.map #[] 0)).alloc (.map #[] 0)).alloc (.cells #[.map (some w1.heap.size), .map (some (w1.heap.size + 1))] 79)).heap[w1.heap.size + 1 + 1]? = some (.cells #[.map (some w1.heap.size), .map (some (w1.heap.size + 1))] 79 (0, 0)) from by have := heap_alloc_new ((w1.alloc (.map #[] 0)).alloc (.map #[] 0)) (.cells #[.map (some w1.heap.size), .map (some (w1.heap.size + 1))] 79); rwa [World.size_alloc, World.size_alloc] at this)
    have HS2 := Lib.hid (show w1.heap.size + 1 + 1 + 1 ≤ (((w1.alloc (.map #[] 0)).alloc (.map #[] 0)).alloc (.cells #[.map (some w1.heap.size), .map (some (w1.heap.size + 1))] 79)).heap.size by simp)
    have HF1 := Lib.hid F1
    have HZ1 := Lib.hid Z1
    have HB1 := Lib.hid B1
    clear B2 F1 Z1 B1
    go_wp2_with fail
    generalize (((w1.alloc (.map #[] 0)).alloc (.map #[] 0)).alloc (.cells #[.map (some w1.heap.size), .map (some (w1.heap.size + 1))] 79)) = W2 at *
    go_loopw [23] (fun i wr => ∃ k : Nat, k ≤ dl.length ∧ i = .int .i64 k ∧ Hid (NameMap wr w1.heap.size (fD (dl.take k))) ∧ Hid (wr.heap[w1.heap.size + 1]? = some (.map #[] 0)) ∧ Hid (wr.heap[w1.heap.size + 1 + 1]? = some (.cells #[.map (some w1.heap.size), .map (some (w1.heap.size + 1))] 79 (0, 0))) ∧ Hid (Below w1.heap.size w1 wr) ∧ Hid (w1.heap.size + 1 + 1 + 1 ≤ wr.heap.size)) (fun i _ => dl.length - (intOf i).toNat)
    case atStart => exact ⟨0, Nat.zero_le _, rfl, HM1.out, HM2.out, HMB.out, HB2.out, HS2.out⟩
    case round =>
      obtain ⟨k, hk, rfl, hm1, hm2, hmb, hbr, hszr⟩ := hrel
      clear HM1 HM2 HMB HB2 HS2
      have hs := hszr.out
      have hs' : w1.heap.size + 1 + 1 < wr.heap.size := by omega
      have hBw : Below w.heap.size w wr := HB1.out.trans (hbr.out.mono HB1.out.size)
      have c0 := cell_row hmb.out (i := 0) rfl
      have c1 := cell_row hmb.out (i := 1) rfl
      by_cases hlt : k < dl.length
      · obtain ⟨db, do', hda, hdc⟩ := HD.out.later hBw
        obtain rfl := hda (by omega)
        obtain ⟨d0, d1⟩ := hdc k hlt
        have hst := Lib.hid (fD_step dl hlt)
        generalize dl[k] = d at *
        clear hda hdc
        have hal : ∀ O, Below wr.heap.size wr (wr.alloc O) := fun O => (Below.refl _ _).alloc (Nat.le_refl _) O
        have KP := Lib.hid (fun O => keepI_any w1.heap.size (fD (dl.take k)) d.1 d.2 (wr.alloc O) (hm1.out.later (hal O)))
        have KB := Lib.hid (fun (O : Obj) j (hj : j < wr.heap.size) => (hal O).block j hj)
        have KS := Lib.hid (fun O => (hal O).size)
        have KBel := Lib.hid (fun O => hbr.out.trans ((hal O).mono (by omega)))
        clear hal
        go_wp2_with fail
        refine (KP.out _).mono ?_
        rintro e w2 ⟨rfl, hn2, hb2, hs2, ho2⟩
        have N1 := Lib.hid (show NameMap w2 w1.heap.size (fD (dl.take (k + 1))) by rw [← hst.out]; exact hn2)
        have N2 := Lib.hid (((ho2 (w1.heap.size + 1) (by have := KS.out (.cells #[.string d.1, .int .i64 d.2] 58); omega) (by omega)).trans (KB.out _ _ (by omega))).trans hm2.out)
        have N3 := Lib.hid (((ho2 (w1.heap.size + 1 + 1) (by have := KS.out (.cells #[.string d.1, .int .i64 d.2] 58); omega) (by omega)).trans (KB.out _ _ (by omega))).trans hmb.out)
        have N4 := Lib.hid ((KBel.out (.cells #[.string d.1, .int .i64 d.2] 58)).trans hb2)
        have N5 := Lib.hid (show w1.heap.size + 1 + 1 + 1 ≤ w2.heap.size by have := KS.out (.cells #[.string d.1, .int .i64 d.2] 58); omega)
        clear hn2 hb2 hs2 ho2 KP KB KS KBel c0 c1 d0 d1
        go_wp2_with fail
        go_roundw
        case rel => exact ⟨k + 1, by omega, by go_num, N1.out, N2.out, N3.out, N4.out, N5.out⟩
        case measure => simp [intOf]; omega
      · have hmA := Lib.hid (show NameMap wr w1.heap.size (fD dl) by have := hm1.out; rwa [List.take_of_length_le (by omega)] at this)
        have hmB := Lib.hid (show NameMap wr (w1.heap.size + 1) (fS (sl.take 0)) from by rw [List.take_zero, fS_nil]; exact NameMap.nil hm2.out)
        clear hm1 hm2 c0 c1
        go_wp2_with fail
        generalize wr = W3 at *
        go_loopw [37] (fun i wr => ∃ k : Nat, k ≤ sl.length ∧ i = .int .i64 k ∧ Hid (NameMap wr w1.heap.size (fD dl)) ∧ Hid (NameMap wr (w1.heap.size + 1) (fS (sl.take k))) ∧ Hid (wr.heap[w1.heap.size + 1 + 1]? = some (.cells #[.map (some w1.heap.size), .map (some (w1.heap.size + 1))] 79 (0, 0))) ∧ Hid (Below w1.heap.size w1 wr) ∧ Hid (w1.heap.size + 1 + 1 + 1 ≤ wr.heap.size)) (fun i _ => sl.length - (intOf i).toNat)
        case atStart => exact ⟨0, Nat.zero_le _, rfl, hmA.out, hmB.out, hmb.out, hbr.out, hszr.out⟩
        case round =>
          clear hmA hmB hmb hbr hszr hs hs' hBw
          obtain ⟨k, hk, rfl, hm1, hm2, hmb, hbr, hszr⟩ := hrel
          have hs := hszr.out
          have hs' : w1.heap.size + 1 + 1 < wr.heap.size := by omega
          have hBw : Below w.heap.size w wr := HB1.out.trans (hbr.out.mono HB1.out.size)
          have c0 := cell_row hmb.out (i := 0) rfl
          have c1 := cell_row hmb.out (i := 1) rfl
          by_cases hlt : k < sl.length
          · obtain ⟨db, do', hda, hdc⟩ := HS.out.later hBw
            obtain rfl := hda (by omega)
            obtain ⟨d0, d1, d2⟩ := hdc k hlt
            have hst := Lib.hid (fS_step sl hlt)
            generalize sl[k] = d at *
            clear hda hdc
            have hal : ∀ O, Below wr.heap.size wr (wr.alloc O) := fun O => (Below.refl _ _).alloc (Nat.le_refl _) O
            have KP := Lib.hid (fun O => keepS_any (w1.heap.size + 1) (fS (sl.take k)) (fun s v h => fS_form s v h) d.1.nm d (wr.alloc O) (hm2.out.later (hal O)))
            have KB := Lib.hid (fun (O : Obj) j (hj : j < wr.heap.size) => (hal O).block j hj)
            have KS := Lib.hid (fun O => (hal O).size)
            have KBel := Lib.hid (fun O => hbr.out.trans ((hal O).mono (by omega)))
            clear hal
            go_wp2_with fail
            refine (KP.out _).mono ?_
            rintro e w2 ⟨rfl, hn2, hb2, hs2, ho2⟩
            have N1 := Lib.hid (hm1.out.kept ((ho2 w1.heap.size (by have := KS.out (.cells #[.string d.1.nm, .slice d.2.1 d.1.args.length d.2.2, .int .i64 d.1.so] 83); omega) (by omega)).trans (KB.out _ _ (by omega))))
            have N2 := Lib.hid (show NameMap w2 (w1.heap.size + 1) (fS (sl.take (k + 1))) by rw [← hst.out]; exact hn2)
            have N3 := Lib.hid (((ho2 (w1.heap.size + 1 + 1) (by have := KS.out (.cells #[.string d.1.nm, .slice d.2.1 d.1.args.length d.2.2, .int .i64 d.1.so] 83); omega) (by omega)).trans (KB.out _ _ (by omega))).trans hmb.out)
            have N4 := Lib.hid ((KBel.out (.cells #[.string d.1.nm, .slice d.2.1 d.1.args.length d.2.2, .int .i64 d.1.so] 83)).trans (hb2.mono (by omega)))
            have N5 := Lib.hid (show w1.heap.size + 1 + 1 + 1 ≤ w2.heap.size by have := KS.out (.cells #[.string d.1.nm, .slice d.2.1 d.1.args.length d.2.2, .int .i64 d.1.so] 83); omega)
            clear hn2 hb2 hs2 ho2 KP KB KS KBel c0 c1 d0 d1 d2
            go_wp2_with fail
            go_roundw
            case rel => exact ⟨k + 1, by omega, by go_num, N1.out, N2.out, N3.out, N4.out, N5.out⟩
            case measure => simp [intOf]; omega
          · have hmA := Lib.hid hm1.out
            have hmB := Lib.hid (show NameMap wr (w1.heap.size + 1) (fS sl) by have := hm2.out; rwa [List.take_of_length_le (by omega)] at this)
            have F2 := HF1.out.later (hbr.out)
            have Z2 := ((hbr.out).block (w.heap.size + 1) hz1).trans HZ1.out
            have B2 := hBw
            clear hm1 hm2 HF1 HZ1
            obtain ⟨a0, a1, a2, a3, a4⟩ := id F2
            have hbm : Below wr.heap.size wr wr := Below.refl _ _
            have M2 := hmb.out
            have NA2 := hmA
            have NB2 := hmB
            clear hmA hmB hmb hbm
            have z0 := cell_row Z2 (i := 0) rfl
            have z1 := cell_row Z2 (i := 1) rfl
            have z2 := cell_row Z2 (i := 2) rfl
            have z3 := cell_row Z2 (i := 3) rfl
            have z4 := cell_row Z2 (i := 4) rfl
            have f0 := frozen_of_row wr (w.heap.size + 1) 0 _ _ Z2
            have f1 := frozen_of_row wr (w.heap.size + 1) 1 _ _ Z2
            have f2 := frozen_of_row wr (w.heap.size + 1) 2 _ _ Z2
            have f3 := frozen_of_row wr (w.heap.size + 1) 3 _ _ Z2
            have f4 := frozen_of_row wr (w.heap.size + 1) 4 _ _ Z2
            go_wp2_with fail
            refine (allNamed_any w1.heap.size (w1.heap.size + 1) dl sl t A cap wr (HL.out.later B2) HFi.out NA2.out NB2.out).mono ?_
            rintro e w3 ⟨rfl, hb⟩
            rw [Hna.out]
            have B3 := B2.trans (hb.mono B2.size)
            have F3 := F2.later hb
            have Z3 := (hb.block (w.heap.size + 1) (Array.getElem?_eq_some_iff.1 Z2).1).trans Z2
            have M3 := (hb.block (w1.heap.size + 1 + 1) (Array.getElem?_eq_some_iff.1 M2).1).trans M2
            have NA3 := Lib.hid (NA2.out.later hb)
            have NB3 := Lib.hid (NB2.out.later hb)
            clear hb a0 a1 a2 a3 a4 c0 c1 z0 z1 z2 z3 z4 f0 f1 f2 f3 f4 F2 Z2 M2 NA2 NB2
            obtain ⟨a0, a1, a2, a3, a4⟩ := id F3
            have c0 := cell_row M3 (i := 0) rfl
            have c1 := cell_row M3 (i := 1) rfl
            have z0 := cell_row Z3 (i := 0) rfl
            have z1 := cell_row Z3 (i := 1) rfl
            have z2 := cell_row Z3 (i := 2) rfl
            have z3 := cell_row Z3 (i := 3) rfl
            have z4 := cell_row Z3 (i := 4) rfl
            have f0 := frozen_of_row w3 (w.heap.size + 1) 0 _ _ Z3
            have f1 := frozen_of_row w3 (w.heap.size + 1) 1 _ _ Z3
            have f2 := frozen_of_row w3 (w.heap.size + 1) 2 _ _ Z3
            have f3 := frozen_of_row w3 (w.heap.size + 1) 3 _ _ Z3
            have f4 := frozen_of_row w3 (w.heap.size + 1) 4 _ _ Z3
            go_wp2_with fail
            refine (sorted_any w1.heap.size (w1.heap.size + 1) dl sl hdw hsw t _ _ _ (HL.out.later B3) HFi.out (short_cnt hcnt) NA3.out NB3.out).mono ?_
            rintro e w5 ⟨A5, c5, rfl, hrob, hFu, hb⟩
            have hs3 : w.heap.size + 1 < w3.heap.size := (Array.getElem?_eq_some_iff.1 Z3).1
            have hs3' : w1.heap.size + 1 + 1 < w3.heap.size := (Array.getElem?_eq_some_iff.1 M3).1
            have B5' := B3.trans (hb.mono B3.size)
            have Z5' := (hb.block (w.heap.size + 1) hs3).trans Z3
            have M5' := (hb.block (w1.heap.size + 1 + 1) hs3').trans M3
            have NB5' := NB3.out.later hb
            clear hb a0 a1 a2 a3 a4 c0 c1 z0 z1 z2 z3 z4 f0 f1 f2 f3 f4 F3 Z3 M3 NA3 NB3
            generalize resG false dl sl t = u at *
            have hal := (Below.refl w5.heap.size w5).alloc (Nat.le_refl _) (.cells #[.int .i64 u.op, .int .i64 u.so, .string u.nm, .int .i64 u.nu, .slice A5 u.ks.length c5] 24)
            have B5 := B5'.alloc B5'.size (.cells #[.int .i64 u.op, .int .i64 u.so, .string u.nm, .int .i64 u.nu, .slice A5 u.ks.length c5] 24)
            have Z5 := (hal.block (w.heap.size + 1) (Array.getElem?_eq_some_iff.1 Z5').1).trans Z5'
            have M5 := (hal.block (w1.heap.size + 1 + 1) (Array.getElem?_eq_some_iff.1 M5').1).trans M5'
            have F5 := five_new w5 u (.slice A5 u.ks.length c5) 24
            have HR5 := Lib.hid (hrob.later hal)
            have NB5 := Lib.hid (NB5'.later hal)
            have hzlt : w.heap.size + 1 < w5.heap.size := (Array.getElem?_eq_some_iff.1 Z5').1
            clear hal B5' Z5' M5' NB5' hrob
            go_wp2_with fail
            refine (check_any u 0 A5 c5 _ HR5.out.lies hFu).mono ?_
            rintro e w6 ⟨rfl, hb⟩
            have B6 := B5.trans (hb.mono B5.size)
            have F6 := F5.later hb
            have Z6 := (hb.block (w.heap.size + 1) (Array.getElem?_eq_some_iff.1 Z5).1).trans Z5
            have M6 := (hb.block (w1.heap.size + 1 + 1) (Array.getElem?_eq_some_iff.1 M5).1).trans M5
            have HR6 := Lib.hid (HR5.out.later hb)
            have NB6 := Lib.hid (NB5.out.later hb)
            clear hb F5 Z5 M5 HR5 NB5
            obtain ⟨a0, a1, a2, a3, a4⟩ := id F6
            have c0 := cell_row M6 (i := 0) rfl
            have c1 := cell_row M6 (i := 1) rfl
            have z0 := cell_row Z6 (i := 0) rfl
            have z1 := cell_row Z6 (i := 1) rfl
            have z2 := cell_row Z6 (i := 2) rfl
            have z3 := cell_row Z6 (i := 3) rfl
            have z4 := cell_row Z6 (i := 4) rfl
            have f0 := frozen_of_row w6 (w.heap.size + 1) 0 _ _ Z6
            have f1 := frozen_of_row w6 (w.heap.size + 1) 1 _ _ Z6
            have f2 := frozen_of_row w6 (w.heap.size + 1) 2 _ _ Z6
            have f3 := frozen_of_row w6 (w.heap.size + 1) 3 _ _ Z6
            have f4 := frozen_of_row w6 (w.heap.size + 1) 4 _ _ Z6
            have Hfin := Lib.hid (set5_same (.int .i64 0) (.int .i64 0) (.string ⟨#[]⟩) (.int .i64 0) (.slice none 0 0) Z6)
            have HBf := Lib.hid (Below.set5 B6 (b := w.heap.size + 1) (by omega) (.int .i64 0) (.int .i64 0) (.string ⟨#[]⟩) (.int .i64 0) (.slice none 0 0))
            clear Z6
            go_wp2_with fail
            have hf := Hfin.out
            have y0 := cell_row hf (i := 0) rfl
            have y1 := cell_row hf (i := 1) rfl
            have y2 := cell_row hf (i := 2) rfl
            have y3 := cell_row hf (i := 3) rfl
            have y4 := cell_row hf (i := 4) rfl
            refine bodyPost_ret (v := .tuple #[.agg zero5, .int .i64 3]) ?_ rfl ⟨none, 0, rfl, lies_zero _, fine_zero, HBf.out⟩
            clear hf Hfin HBf
            simp [results, Try.f42, go_sem, y0, y1, y2, y3, y4]
  have hck' : (checkV (resG false dl sl t) 0 == 0) = true := by simpa using hck
  have hck'' : (checkV (resG false dl sl t) 0 != 0) = false := by simpa using hck
  have Hck := Lib.hid hck
  cases hf : fitB sl (resG false dl sl t)
  case false =>
    rw [if_pos (.inr rfl)]
    have Hf := Lib.hid hf
    clear hf hck
    go_enter Try.func42, Try.ntmps42
    have B0 := HB0.out
    have F0 := HF0.out
    have Z0 := HZ0.out
    obtain ⟨a0, a1, a2, a3, a4⟩ := id F0
    have z0 := cell_row Z0 (i := 0) rfl
    have z1 := cell_row Z0 (i := 1) rfl
    have z2 := cell_row Z0 (i := 2) rfl
    have z3 := cell_row Z0 (i := 3) rfl
    have z4 := cell_row Z0 (i := 4) rfl
    have f0 := frozen_of_row _ (w.heap.size + 1) 0 _ _ Z0
    have f1 := frozen_of_row _ (w.heap.size + 1) 1 _ _ Z0
    have f2 := frozen_of_row _ (w.heap.size + 1) 2 _ _ Z0
    have f3 := frozen_of_row _ (w.heap.size + 1) 3 _ _ Z0
    have f4 := frozen_of_row _ (w.heap.size + 1) 4 _ _ Z0
    go_wp2_with fail
    refine (limits_any t _ _ _ (HL.out.later B0) HFi.out).mono ?_
    rintro e w1 ⟨rfl, hb⟩
    rw [Hli.out]
    have B1 := B0.trans (hb.mono B0.size)
    have F1 := F0.later hb
    have Z1 := (hb.block (w.heap.size + 1) (Array.getElem?_eq_some_iff.1 Z0).1).trans Z0
    clear hb a0 a1 a2 a3 a4 z0 z1 z2 z3 z4 f0 f1 f2 f3 f4 F0 Z0 B0

    have hz1 : w.heap.size + 1 < w1.heap.size := (Array.getElem?_eq_some_iff.1 Z1).1
    have B2 : Below w1.heap.size w1 (((w1.alloc (.map #[] 0)).alloc (.map #[] 0)).alloc (.cells #[.map (some w1.heap.size), .map (some (w1.heap.size + 1))] 79)) := (((Below.refl _ _).alloc (Nat.le_refl _) _).alloc (by simp) _).alloc (by simp; omega) _
    have HB2 := Lib.hid B2
    have HM1 := Lib.hid (show NameMap (((w1.alloc (.map #[] 0)).alloc (.map #[] 0)).alloc (.cells #[.map (some w1.heap.size), .map (some (w1.heap.size + 1))] 79)) w1.heap.size (fD (dl.take 0)) from by
      rw [List.take_zero, fD_nil]
      exact NameMap.nil (((((Below.refl _ _).alloc (Nat.le_refl _) _).alloc (by simp) _).block w1.heap.size (by simp)).trans (heap_alloc_new w1 _)))
    have HM2 := Lib.hid (show (((w1.alloc (.map #[] 0)).alloc (.map #[] 0)).alloc (.cells #[.map (some w1.heap.size), .map (some (w1.heap.size + 1))] 79)).heap[w1.heap.size + 1]? = some (.map #[] 0) from (((Below.refl _ _).alloc (Nat.le_refl _) _).block _ (by simp)).trans (by have := heap_alloc_new (w1.alloc (.map #[] 0)) (.map #[] 0); rwa [World.size_alloc] at this))
    have HMB := Lib.hid (show (((w1.alloc (.map #[] 0)).alloc (.map #[] 0)).alloc (.cells #[.map (some w1.heap.size), .map (some (w1.heap.size + 1))] 79)).heap[w1.heap.size + 1 + 1]? = some (.cells #[.map (some w1.heap.size), .map (some (w1.heap.size + 1))] 79 (0, 0)) from by have := heap_alloc_new ((w1.alloc (.map #[] 0)).alloc (.map #[] 0)) (.cells #[.map (some w1.heap.size), .map (some (w1.heap.size + 1))] 79); rwa [World.size_alloc, World.size_alloc] at this)
    have HS2 := Lib.hid (show w1.heap.size + 1 + 1 + 1 ≤ (((w1.alloc (.map #[] 0)).alloc (.map #[] 0)).alloc (.cells #[.map (some w1.heap.size), .map (some (w1.heap.size + 1))] 79)).heap.size by simp)
    have HF1 := Lib.hid F1
    have HZ1 := Lib.hid Z1
    have HB1 := Lib.hid B1
    clear B2 F1 Z1 B1
    go_wp2_with fail
    generalize (((w1.alloc (.map #[] 0)).alloc (.map #[] 0)).alloc (.cells #[.map (some w1.heap.size), .map (some (w1.heap.size + 1))] 79)) = W2 at *
    go_loopw [23] (fun i wr => ∃ k : Nat, k ≤ dl.length ∧ i = .int .i64 k ∧ Hid (NameMap wr w1.heap.size (fD (dl.take k))) ∧ Hid (wr.heap[w1.heap.size + 1]? = some (.map #[] 0)) ∧ Hid (wr.heap[w1.heap.size + 1 + 1]? = some (.cells #[.map (some w1.heap.size), .map (some (w1.heap.size + 1))] 79 (0, 0))) ∧ Hid (Below w1.heap.size w1 wr) ∧ Hid (w1.heap.size + 1 + 1 + 1 ≤ wr.heap.size)) (fun i _ => dl.length - (intOf i).toNat)
    case atStart => exact ⟨0, Nat.zero_le _, rfl, HM1.out, HM2.out, HMB.out, HB2.out, HS2.out⟩
    case round =>
      obtain ⟨k, hk, rfl, hm1, hm2, hmb, hbr, hszr⟩ := hrel
      clear HM1 HM2 HMB HB2 HS2
      have hs := hszr.out
      have hs' : w1.heap.size + 1 + 1 < wr.heap.size := by omega
      have hBw : Below w.heap.size w wr := HB1.out.trans (hbr.out.mono HB1.out.size)
      have c0 := cell_row hmb.out (i := 0) rfl
      have c1 := cell_row hmb.out (i := 1) rfl
      by_cases hlt : k < dl.length
      · obtain ⟨db, do', hda, hdc⟩ := HD.out.later hBw
        obtain rfl := hda (by omega)
        obtain ⟨d0, d1⟩ := hdc k hlt
        have hst := Lib.hid (fD_step dl hlt)
        generalize dl[k] = d at *
        clear hda hdc
        have hal : ∀ O, Below wr.heap.size wr (wr.alloc O) := fun O => (Below.refl _ _).alloc (Nat.le_refl _) O
        have KP := Lib.hid (fun O => keepI_any w1.heap.size (fD (dl.take k)) d.1 d.2 (wr.alloc O) (hm1.out.later (hal O)))
        have KB := Lib.hid (fun (O : Obj) j (hj : j < wr.heap.size) => (hal O).block j hj)
        have KS := Lib.hid (fun O => (hal O).size)
        have KBel := Lib.hid (fun O => hbr.out.trans ((hal O).mono (by omega)))
        clear hal
        go_wp2_with fail
        refine (KP.out _).mono ?_
        rintro e w2 ⟨rfl, hn2, hb2, hs2, ho2⟩
        have N1 := Lib.hid (show NameMap w2 w1.heap.size (fD (dl.take (k + 1))) by rw [← hst.out]; exact hn2)
        have N2 := Lib.hid (((ho2 (w1.heap.size + 1) (by have := KS.out (.cells #[.string d.1, .int .i64 d.2] 58); omega) (by omega)).trans (KB.out _ _ (by omega))).trans hm2.out)
        have N3 := Lib.hid (((ho2 (w1.heap.size + 1 + 1) (by have := KS.out (.cells #[.string d.1, .int .i64 d.2] 58); omega) (by omega)).trans (KB.out _ _ (by omega))).trans hmb.out)
        have N4 := Lib.hid ((KBel.out (.cells #[.string d.1, .int .i64 d.2] 58)).trans hb2)
        have N5 := Lib.hid (show w1.heap.size + 1 + 1 + 1 ≤ w2.heap.size by have := KS.out (.cells #[.string d.1, .int .i64 d.2] 58); omega)
        clear hn2 hb2 hs2 ho2 KP KB KS KBel c0 c1 d0 d1
        go_wp2_with fail
        go_roundw
        case rel => exact ⟨k + 1, by omega, by go_num, N1.out, N2.out, N3.out, N4.out, N5.out⟩
        case measure => simp [intOf]; omega
      · have hmA := Lib.hid (show NameMap wr w1.heap.size (fD dl) by have := hm1.out; rwa [List.take_of_length_le (by omega)] at this)
        have hmB := Lib.hid (show NameMap wr (w1.heap.size + 1) (fS (sl.take 0)) from by rw [List.take_zero, fS_nil]; exact NameMap.nil hm2.out)
        clear hm1 hm2 c0 c1
        go_wp2_with fail
        generalize wr = W3 at *
        go_loopw [37] (fun i wr => ∃ k : Nat, k ≤ sl.length ∧ i = .int .i64 k ∧ Hid (NameMap wr w1.heap.size (fD dl)) ∧ Hid (NameMap wr (w1.heap.size + 1) (fS (sl.take k))) ∧ Hid (wr.heap[w1.heap.size + 1 + 1]? = some (.cells #[.map (some w1.heap.size), .map (some (w1.heap.size + 1))] 79 (0, 0))) ∧ Hid (Below w1.heap.size w1 wr) ∧ Hid (w1.heap.size + 1 + 1 + 1 ≤ wr.heap.size)) (fun i _ => sl.length - (intOf i).toNat)
        case atStart => exact ⟨0, Nat.zero_le _, rfl, hmA.out, hmB.out, hmb.out, hbr.out, hszr.out⟩
        case round =>
          clear hmA hmB hmb hbr hszr hs hs' hBw
          obtain ⟨k, hk, rfl, hm1, hm2, hmb, hbr, hszr⟩ := hrel
          have hs := hszr.out
          have hs' : w1.heap.size + 1 + 1 < wr.heap.size := by omega
          have hBw : Below w.heap.size w wr := HB1.out.trans (hbr.out.mono HB1.out.size)
          have c0 := cell_row hmb.out (i := 0) rfl
          have c1 := cell_row hmb.out (i := 1) rfl
          by_cases hlt : k < sl.length
          · obtain ⟨db, do', hda, hdc⟩ := HS.out.later hBw
            obtain rfl := hda (by omega)
            obtain ⟨d0, d1, d2⟩ := hdc k hlt
            have hst := Lib.hid (fS_step sl hlt)
            generalize sl[k] = d at *
            clear hda hdc
            have hal : ∀ O, Below wr.heap.size wr (wr.alloc O) := fun O => (Below.refl _ _).alloc (Nat.le_refl _) O
            have KP := Lib.hid (fun O => keepS_any (w1.heap.size + 1) (fS (sl.take k)) (fun s v h => fS_form s v h) d.1.nm d (wr.alloc O) (hm2.out.later (hal O)))
            have KB := Lib.hid (fun (O : Obj) j (hj : j < wr.heap.size) => (hal O).block j hj)
            have KS := Lib.hid (fun O => (hal O).size)
            have KBel := Lib.hid (fun O => hbr.out.trans ((hal O).mono (by omega)))
            clear hal
            go_wp2_with fail
            refine (KP.out _).mono ?_
            rintro e w2 ⟨rfl, hn2, hb2, hs2, ho2⟩
            have N1 := Lib.hid (hm1.out.kept ((ho2 w1.heap.size (by have := KS.out (.cells #[.string d.1.nm, .slice d.2.1 d.1.args.length d.2.2, .int .i64 d.1.so] 83); omega) (by omega)).trans (KB.out _ _ (by omega))))
            have N2 := Lib.hid (show NameMap w2 (w1.heap.size + 1) (fS (sl.take (k + 1))) by rw [← hst.out]; exact hn2)
            have N3 := Lib.hid (((ho2 (w1.heap.size + 1 + 1) (by have := KS.out (.cells #[.string d.1.nm, .slice d.2.1 d.1.args.length d.2.2, .int .i64 d.1.so] 83); omega) (by omega)).trans (KB.out _ _ (by omega))).trans hmb.out)
            have N4 := Lib.hid ((KBel.out (.cells #[.string d.1.nm, .slice d.2.1 d.1.args.length d.2.2, .int .i64 d.1.so] 83)).trans (hb2.mono (by omega)))
            have N5 := Lib.hid (show w1.heap.size + 1 + 1 + 1 ≤ w2.heap.size by have := KS.out (.cells #[.string d.1.nm, .slice d.2.1 d.1.args.length d.2.2, .int .i64 d.1.so] 83); omega)
            clear hn2 hb2 hs2 ho2 KP KB KS KBel c0 c1 d0 d1 d2
            go_wp2_with fail
            go_roundw
            case rel => exact ⟨k + 1, by omega, by go_num, N1.out, N2.out, N3.out, N4.out, N5.out⟩
            case measure => simp [intOf]; omega
          · have hmA := Lib.hid hm1.out
            have hmB := Lib.hid (show NameMap wr (w1.heap.size + 1) (fS sl) by have := hm2.out; rwa [List.take_of_length_le (by omega)] at this)
            have F2 := HF1.out.later (hbr.out)
            have Z2 := ((hbr.out).block (w.heap.size + 1) hz1).trans HZ1.out
            have B2 := hBw
            clear hm1 hm2 HF1 HZ1
            obtain ⟨a0, a1, a2, a3, a4⟩ := id F2
            have hbm : Below wr.heap.size wr wr := Below.refl _ _
            have M2 := hmb.out
            have NA2 := hmA
            have NB2 := hmB
            clear hmA hmB hmb hbm
            have z0 := cell_row Z2 (i := 0) rfl
            have z1 := cell_row Z2 (i := 1) rfl
            have z2 := cell_row Z2 (i := 2) rfl
            have z3 := cell_row Z2 (i := 3) rfl
            have z4 := cell_row Z2 (i := 4) rfl
            have f0 := frozen_of_row wr (w.heap.size + 1) 0 _ _ Z2
            have f1 := frozen_of_row wr (w.heap.size + 1) 1 _ _ Z2
            have f2 := frozen_of_row wr (w.heap.size + 1) 2 _ _ Z2
            have f3 := frozen_of_row wr (w.heap.size + 1) 3 _ _ Z2
            have f4 := frozen_of_row wr (w.heap.size + 1) 4 _ _ Z2
            go_wp2_with fail
            refine (allNamed_any w1.heap.size (w1.heap.size + 1) dl sl t A cap wr (HL.out.later B2) HFi.out NA2.out NB2.out).mono ?_
            rintro e w3 ⟨rfl, hb⟩
            rw [Hna.out]
            have B3 := B2.trans (hb.mono B2.size)
            have F3 := F2.later hb
            have Z3 := (hb.block (w.heap.size + 1) (Array.getElem?_eq_some_iff.1 Z2).1).trans Z2
            have M3 := (hb.block (w1.heap.size + 1 + 1) (Array.getElem?_eq_some_iff.1 M2).1).trans M2
            have NA3 := Lib.hid (NA2.out.later hb)
            have NB3 := Lib.hid (NB2.out.later hb)
            clear hb a0 a1 a2 a3 a4 c0 c1 z0 z1 z2 z3 z4 f0 f1 f2 f3 f4 F2 Z2 M2 NA2 NB2
            obtain ⟨a0, a1, a2, a3, a4⟩ := id F3
            have c0 := cell_row M3 (i := 0) rfl
            have c1 := cell_row M3 (i := 1) rfl
            have z0 := cell_row Z3 (i := 0) rfl
            have z1 := cell_row Z3 (i := 1) rfl
            have z2 := cell_row Z3 (i := 2) rfl
            have z3 := cell_row Z3 (i := 3) rfl
            have z4 := cell_row Z3 (i := 4) rfl
            have f0 := frozen_of_row w3 (w.heap.size + 1) 0 _ _ Z3
            have f1 := frozen_of_row w3 (w.heap.size + 1) 1 _ _ Z3
            have f2 := frozen_of_row w3 (w.heap.size + 1) 2 _ _ Z3
            have f3 := frozen_of_row w3 (w.heap.size + 1) 3 _ _ Z3
            have f4 := frozen_of_row w3 (w.heap.size + 1) 4 _ _ Z3
            go_wp2_with fail
            refine (sorted_any w1.heap.size (w1.heap.size + 1) dl sl hdw hsw t _ _ _ (HL.out.later B3) HFi.out (short_cnt hcnt) NA3.out NB3.out).mono ?_
            rintro e w5 ⟨A5, c5, rfl, hrob, hFu, hb⟩
            have hs3 : w.heap.size + 1 < w3.heap.size := (Array.getElem?_eq_some_iff.1 Z3).1
            have hs3' : w1.heap.size + 1 + 1 < w3.heap.size := (Array.getElem?_eq_some_iff.1 M3).1
            have B5' := B3.trans (hb.mono B3.size)
            have Z5' := (hb.block (w.heap.size + 1) hs3).trans Z3
            have M5' := (hb.block (w1.heap.size + 1 + 1) hs3').trans M3
            have NB5' := NB3.out.later hb
            clear hb a0 a1 a2 a3 a4 c0 c1 z0 z1 z2 z3 z4 f0 f1 f2 f3 f4 F3 Z3 M3 NA3 NB3
            generalize resG false dl sl t = u at *
            have hal := (Below.refl w5.heap.size w5).alloc (Nat.le_refl _) (.cells #[.int .i64 u.op, .int .i64 u.so, .string u.nm, .int .i64 u.nu, .slice A5 u.ks.length c5] 24)
            have B5 := B5'.alloc B5'.size (.cells #[.int .i64 u.op, .int .i64 u.so, .string u.nm, .int .i64 u.nu, .slice A5 u.ks.length c5] 24)
            have Z5 := (hal.block (w.heap.size + 1) (Array.getElem?_eq_some_iff.1 Z5').1).trans Z5'
            have M5 := (hal.block (w1.heap.size + 1 + 1) (Array.getElem?_eq_some_iff.1 M5').1).trans M5'
            have F5 := five_new w5 u (.slice A5 u.ks.length c5) 24
            have HR5 := Lib.hid (hrob.later hal)
            have NB5 := Lib.hid (NB5'.later hal)
            have hzlt : w.heap.size + 1 < w5.heap.size := (Array.getElem?_eq_some_iff.1 Z5').1
            clear hal B5' Z5' M5' NB5' hrob
            go_wp2_with fail
            refine (check_any u 0 A5 c5 _ HR5.out.lies hFu).mono ?_
            rintro e w6 ⟨rfl, hb⟩
            have B6 := B5.trans (hb.mono B5.size)
            have F6 := F5.later hb
            have Z6 := (hb.block (w.heap.size + 1) (Array.getElem?_eq_some_iff.1 Z5).1).trans Z5
            have M6 := (hb.block (w1.heap.size + 1 + 1) (Array.getElem?_eq_some_iff.1 M5).1).trans M5
            have HR6 := Lib.hid (HR5.out.later hb)
            have NB6 := Lib.hid (NB5.out.later hb)
            clear hb F5 Z5 M5 HR5 NB5
            obtain ⟨a0, a1, a2, a3, a4⟩ := id F6
            have c0 := cell_row M6 (i := 0) rfl
            have c1 := cell_row M6 (i := 1) rfl
            have z0 := cell_row Z6 (i := 0) rfl
            have z1 := cell_row Z6 (i := 1) rfl
            have z2 := cell_row Z6 (i := 2) rfl
            have z3 := cell_row Z6 (i := 3) rfl
            have z4 := cell_row Z6 (i := 4) rfl
            have f0 := frozen_of_row w6 (w.heap.size + 1) 0 _ _ Z6
            have f1 := frozen_of_row w6 (w.heap.size + 1) 1 _ _ Z6
            have f2 := frozen_of_row w6 (w.heap.size + 1) 2 _ _ Z6
            have f3 := frozen_of_row w6 (w.heap.size + 1) 3 _ _ Z6
            have f4 := frozen_of_row w6 (w.heap.size + 1) 4 _ _ Z6
            go_wp2_with fail
            refine (argsFit_any w1.heap.size (w1.heap.size + 1) sl u A5 c5 w6 HR6.out.lies hFu NB6.out (HA.out.later B6)).mono ?_
            rintro e w7 ⟨rfl, hb⟩
            rw [Hf.out]
            have B7 := B6.trans (hb.mono B6.size)
            have F7 := F6.later hb
            have Z7 := (hb.block (w.heap.size + 1) (Array.getElem?_eq_some_iff.1 Z6).1).trans Z6
            have HROB := Lib.hid (HR6.out.later hb)
            clear hb a0 a1 a2 a3 a4 c0 c1 z0 z1 z2 z3 z4 f0 f1 f2 f3 f4 F6 Z6 M6 HR6 NB6
            obtain ⟨a0, a1, a2, a3, a4⟩ := id F7
            have z0 := cell_row Z7 (i := 0) rfl
            have z1 := cell_row Z7 (i := 1) rfl
            have z2 := cell_row Z7 (i := 2) rfl
            have z3 := cell_row Z7 (i := 3) rfl
            have z4 := cell_row Z7 (i := 4) rfl
            have f0 := frozen_of_row w7 (w.heap.size + 1) 0 _ _ Z7
            have f1 := frozen_of_row w7 (w.heap.size + 1) 1 _ _ Z7
            have f2 := frozen_of_row w7 (w.heap.size + 1) 2 _ _ Z7
            have f3 := frozen_of_row w7 (w.heap.size + 1) 3 _ _ Z7
            have f4 := frozen_of_row w7 (w.heap.size + 1) 4 _ _ Z7
            have Hfin := Lib.hid (set5_same (.int .i64 0) (.int .i64 0) (.string ⟨#[]⟩) (.int .i64 0) (.slice none 0 0) Z7)
            have HBf := Lib.hid (Below.set5 B7 (b := w.heap.size + 1) (by omega) (.int .i64 0) (.int .i64 0) (.string ⟨#[]⟩) (.int .i64 0) (.slice none 0 0))
            clear Z7
            go_wp2_with fail
            have hf := Hfin.out
            have y0 := cell_row hf (i := 0) rfl
            have y1 := cell_row hf (i := 1) rfl
            have y2 := cell_row hf (i := 2) rfl
            have y3 := cell_row hf (i := 3) rfl
            have y4 := cell_row hf (i := 4) rfl
            refine bodyPost_ret (v := .tuple #[.agg zero5, .int .i64 3]) ?_ rfl ⟨none, 0, rfl, lies_zero _, fine_zero, HBf.out⟩
            clear hf Hfin HBf
            simp [results, Try.f42, go_sem, y0, y1, y2, y3, y4]
  rw [if_neg (by rintro (h | h); exact h hck; cases h)]
  have Hf := Lib.hid hf
  clear hf hck
  go_enter Try.func42, Try.ntmps42
  have B0 := HB0.out
  have F0 := HF0.out
  have Z0 := HZ0.out
  obtain ⟨a0, a1, a2, a3, a4⟩ := id F0
  have z0 := cell_row Z0 (i := 0) rfl
  have z1 := cell_row Z0 (i := 1) rfl
  have z2 := cell_row Z0 (i := 2) rfl
  have z3 := cell_row Z0 (i := 3) rfl
  have z4 := cell_row Z0 (i := 4) rfl
  have f0 := frozen_of_row _ (w.heap.size + 1) 0 _ _ Z0
  have f1 := frozen_of_row _ (w.heap.size + 1) 1 _ _ Z0
  have f2 := frozen_of_row _ (w.heap.size + 1) 2 _ _ Z0
  have f3 := frozen_of_row _ (w.heap.size + 1) 3 _ _ Z0
  have f4 := frozen_of_row _ (w.heap.size + 1) 4 _ _ Z0
  go_wp2_with fail
  refine (limits_any t _ _ _ (HL.out.later B0) HFi.out).mono ?_
  rintro e w1 ⟨rfl, hb⟩
  rw [Hli.out]
  have B1 := B0.trans (hb.mono B0.size)
  have F1 := F0.later hb
  have Z1 := (hb.block (w.heap.size + 1) (Array.getElem?_eq_some_iff.1 Z0).1).trans Z0
  clear hb a0 a1 a2 a3 a4 z0 z1 z2 z3 z4 f0 f1 f2 f3 f4 F0 Z0 B0

  have hz1 : w.heap.size + 1 < w1.heap.size := (Array.getElem?_eq_some_iff.1 Z1).1
  have B2 : Below w1.heap.size w1 (((w1.alloc (.map #[] 0)).alloc (.map #[] 0)).alloc (.cells #[.map (some w1.heap.size), .map (some (w1.heap.size + 1))] 79)) := (((Below.refl _ _).alloc (Nat.le_refl _) _).alloc (by simp) _).alloc (by simp; omega) _
  have HB2 := Lib.hid B2
  have HM1 := Lib.hid (show NameMap (((w1.alloc (.map #[] 0)).alloc (.map #[] 0)).alloc (.cells #[.map (some w1.heap.size), .map (some (w1.heap.size + 1))] 79)) w1.heap.size (fD (dl.take 0)) from by
    rw [List.take_zero, fD_nil]
    exact NameMap.nil (((((Below.refl _ _).alloc (Nat.le_refl _) _).alloc (by simp) _).block w1.heap.size (by simp)).trans (heap_alloc_new w1 _)))
  have HM2 := Lib.hid (show (((w1.alloc (.map #[] 0)).alloc (.map #[] 0)).alloc (.cells #[.map (some w1.heap.size), .map (some (w1.heap.size + 1))] 79)).heap[w1.heap.size + 1]? = some (.map #[] 0) from (((Below.refl _ _).alloc (Nat.le_refl _) _).block _ (by simp)).trans (by have := heap_alloc_new (w1.alloc (.map #[] 0)) (.map #[] 0); rwa [World.size_alloc] at this))
  have HMB := Lib.hid (show (((w1.alloc (.map #[] 0)).alloc (.map #[] 0)).alloc (.cells #[.map (some w1.heap.size), .map (some (w1.heap.size + 1))] 79)).heap[w1.heap.size + 1 + 1]? = some (.cells #[.map (some w1.heap.size), .map (some (w1.heap.size + 1))] 79 (0, 0)) from by have := heap_alloc_new ((w1.alloc (.map #[] 0)).alloc (.map #[] 0)) (.cells #[.map (some w1.heap.size), .map (some (w1.heap.size + 1))] 79); rwa [World.size_alloc, World.size_alloc] at this)
  have HS2 := Lib.hid (show w1.heap.size + 1 + 1 + 1 ≤ (((w1.alloc (.map #[] 0)).alloc (.map #[] 0)).alloc (.cells #[.map (some w1.heap.size), .map (some (w1.heap.size + 1))] 79)).heap.size by simp)
  have HF1 := Lib.hid F1
  have HZ1 := Lib.hid Z1
  have HB1 := Lib.hid B1
  clear B2 F1 Z1 B1
  go_wp2_with fail
  generalize (((w1.alloc (.map #[] 0)).alloc (.map #[] 0)).alloc (.cells #[.map (some w1.heap.size), .map (some (w1.heap.size + 1))] 79)) = W2 at *
  go_loopw [23] (fun i wr => ∃ k : Nat, k ≤ dl.length ∧ i = .int .i64 k ∧ Hid (NameMap wr w1.heap.size (fD (dl.take k))) ∧ Hid (wr.heap[w1.heap.size + 1]? = some (.map #[] 0)) ∧ Hid (wr.heap[w1.heap.size + 1 + 1]? = some (.cells #[.map (some w1.heap.size), .map (some (w1.heap.size + 1))] 79 (0, 0))) ∧ Hid (Below w1.heap.size w1 wr) ∧ Hid (w1.heap.size + 1 + 1 + 1 ≤ wr.heap.size)) (fun i _ => dl.length - (intOf i).toNat)
  case atStart => exact ⟨0, Nat.zero_le _, rfl, HM1.out, HM2.out, HMB.out, HB2.out, HS2.out⟩
  case round =>
    obtain ⟨k, hk, rfl, hm1, hm2, hmb, hbr, hszr⟩ := hrel
    clear HM1 HM2 HMB HB2 HS2
    have hs := hszr.out
    have hs' : w1.heap.size + 1 + 1 < wr.heap.size := by omega
    have hBw : Below w.heap.size w wr := HB1.out.trans (hbr.out.mono HB1.out.size)
    have c0 := cell_row hmb.out (i := 0) rfl
    have c1 := cell_row hmb.out (i := 1) rfl
    by_cases hlt : k < dl.length
    · obtain ⟨db, do', hda, hdc⟩ := HD.out.later hBw
      obtain rfl := hda (by omega)
      obtain ⟨d0, d1⟩ := hdc k hlt
      have hst := Lib.hid (fD_step dl hlt)
      generalize dl[k] = d at *
      clear hda hdc
      have hal : ∀ O, Below wr.heap.size wr (wr.alloc O) := fun O => (Below.refl _ _).alloc (Nat.le_refl _) O
      have KP := Lib.hid (fun O => keepI_any w1.heap.size (fD (dl.take k)) d.1 d.2 (wr.alloc O) (hm1.out.later (hal O)))
      have KB := Lib.hid (fun (O : Obj) j (hj : j < wr.heap.size) => (hal O).block j hj)
      have KS := Lib.hid (fun O => (hal O).size)
      have KBel := Lib.hid (fun O => hbr.out.trans ((hal O).mono (by omega)))
      clear hal
      go_wp2_with fail
      refine (KP.out _).mono ?_
      rintro e w2 ⟨rfl, hn2, hb2, hs2, ho2⟩
      have N1 := Lib.hid (show NameMap w2 w1.heap.size (fD (dl.take (k + 1))) by rw [← hst.out]; exact hn2)
      have N2 := Lib.hid (((ho2 (w1.heap.size + 1) (by have := KS.out (.cells #[.string d.1, .int .i64 d.2] 58); omega) (by omega)).trans (KB.out _ _ (by omega))).trans hm2.out)
      have N3 := Lib.hid (((ho2 (w1.heap.size + 1 + 1) (by have := KS.out (.cells #[.string d.1, .int .i64 d.2] 58); omega) (by omega)).trans (KB.out _ _ (by omega))).trans hmb.out)
      have N4 := Lib.hid ((KBel.out (.cells #[.string d.1, .int .i64 d.2] 58)).trans hb2)
      have N5 := Lib.hid (show w1.heap.size + 1 + 1 + 1 ≤ w2.heap.size by have := KS.out (.cells #[.string d.1, .int .i64 d.2] 58); omega)
      clear hn2 hb2 hs2 ho2 KP KB KS KBel c0 c1 d0 d1
      go_wp2_with fail
      go_roundw
      case rel => exact ⟨k + 1, by omega, by go_num, N1.out, N2.out, N3.out, N4.out, N5.out⟩
      case measure => simp [intOf]; omega
    · have hmA := Lib.hid (show NameMap wr w1.heap.size (fD dl) by have := hm1.out; rwa [List.take_of_length_le (by omega)] at this)
      have hmB := Lib.hid (show NameMap wr (w1.heap.size + 1) (fS (sl.take 0)) from by rw [List.take_zero, fS_nil]; exact NameMap.nil hm2.out)
      clear hm1 hm2 c0 c1
      go_wp2_with fail
      generalize wr = W3 at *
      go_loopw [37] (fun i wr => ∃ k : Nat, k ≤ sl.length ∧ i = .int .i64 k ∧ Hid (NameMap wr w1.heap.size (fD dl)) ∧ Hid (NameMap wr (w1.heap.size + 1) (fS (sl.take k))) ∧ Hid (wr.heap[w1.heap.size + 1 + 1]? = some (.cells #[.map (some w1.heap.size), .map (some (w1.heap.size + 1))] 79 (0, 0))) ∧ Hid (Below w1.heap.size w1 wr) ∧ Hid (w1.heap.size + 1 + 1 + 1 ≤ wr.heap.size)) (fun i _ => sl.length - (intOf i).toNat)
      case atStart => exact ⟨0, Nat.zero_le _, rfl, hmA.out, hmB.out, hmb.out, hbr.out, hszr.out⟩
      case round =>
        clear hmA hmB hmb hbr hszr hs hs' hBw
        obtain ⟨k, hk, rfl, hm1, hm2, hmb, hbr, hszr⟩ := hrel
        have hs := hszr.out
        have hs' : w1.heap.size + 1 + 1 < wr.heap.size := by omega
        have hBw : Below w.heap.size w wr := HB1.out.trans (hbr.out.mono HB1.out.size)
        have c0 := cell_row hmb.out (i := 0) rfl
        have c1 := cell_row hmb.out (i := 1) rfl
        by_cases hlt : k < sl.length
        · obtain ⟨db, do', hda, hdc⟩ := HS.out.later hBw
          obtain rfl := hda (by omega)
          obtain ⟨d0, d1, d2⟩ := hdc k hlt
          have hst := Lib.hid (fS_step sl hlt)
          generalize sl[k] = d at *
          clear hda hdc
          have hal : ∀ O, Below wr.heap.size wr (wr.alloc O) := fun O => (Below.refl _ _).alloc (Nat.le_refl _) O
          have KP := Lib.hid (fun O => keepS_any (w1.heap.size + 1) (fS (sl.take k)) (fun s v h => fS_form s v h) d.1.nm d (wr.alloc O) (hm2.out.later (hal O)))
          have KB := Lib.hid (fun (O : Obj) j (hj : j < wr.heap.size) => (hal O).block j hj)
          have KS := Lib.hid (fun O => (hal O).size)
          have KBel := Lib.hid (fun O => hbr.out.trans ((hal O).mono (by omega)))
          clear hal
          go_wp2_with fail
          refine (KP.out _).mono ?_
          rintro e w2 ⟨rfl, hn2, hb2, hs2, ho2⟩
          have N1 := Lib.hid (hm1.out.kept ((ho2 w1.heap.size (by have := KS.out (.cells #[.string d.1.nm, .slice d.2.1 d.1.args.length d.2.2, .int .i64 d.1.so] 83); omega) (by omega)).trans (KB.out _ _ (by omega))))
          have N2 := Lib.hid (show NameMap w2 (w1.heap.size + 1) (fS (sl.take (k + 1))) by rw [← hst.out]; exact hn2)
          have N3 := Lib.hid (((ho2 (w1.heap.size + 1 + 1) (by have := KS.out (.cells #[.string d.1.nm, .slice d.2.1 d.1.args.length d.2.2, .int .i64 d.1.so] 83); omega) (by omega)).trans (KB.out _ _ (by omega))).trans hmb.out)
          have N4 := Lib.hid ((KBel.out (.cells #[.string d.1.nm, .slice d.2.1 d.1.args.length d.2.2, .int .i64 d.1.so] 83)).trans (hb2.mono (by omega)))
          have N5 := Lib.hid (show w1.heap.size + 1 + 1 + 1 ≤ w2.heap.size by have := KS.out (.cells #[.string d.1.nm, .slice d.2.1 d.1.args.length d.2.2, .int .i64 d.1.so] 83); omega)
          clear hn2 hb2 hs2 ho2 KP KB KS KBel c0 c1 d0 d1 d2
          go_wp2_with fail
          go_roundw
          case rel => exact ⟨k + 1, by omega, by go_num, N1.out, N2.out, N3.out, N4.out, N5.out⟩
          case measure => simp [intOf]; omega
        · have hmA := Lib.hid hm1.out
          have hmB := Lib.hid (show NameMap wr (w1.heap.size + 1) (fS sl) by have := hm2.out; rwa [List.take_of_length_le (by omega)] at this)
          have F2 := HF1.out.later (hbr.out)
          have Z2 := ((hbr.out).block (w.heap.size + 1) hz1).trans HZ1.out
          have B2 := hBw
          clear hm1 hm2 HF1 HZ1
          obtain ⟨a0, a1, a2, a3, a4⟩ := id F2
          have hbm : Below wr.heap.size wr wr := Below.refl _ _
          have M2 := hmb.out
          have NA2 := hmA
          have NB2 := hmB
          clear hmA hmB hmb hbm
          have z0 := cell_row Z2 (i := 0) rfl
          have z1 := cell_row Z2 (i := 1) rfl
          have z2 := cell_row Z2 (i := 2) rfl
          have z3 := cell_row Z2 (i := 3) rfl
          have z4 := cell_row Z2 (i := 4) rfl
          have f0 := frozen_of_row wr (w.heap.size + 1) 0 _ _ Z2
          have f1 := frozen_of_row wr (w.heap.size + 1) 1 _ _ Z2
          have f2 := frozen_of_row wr (w.heap.size + 1) 2 _ _ Z2
          have f3 := frozen_of_row wr (w.heap.size + 1) 3 _ _ Z2
          have f4 := frozen_of_row wr (w.heap.size + 1) 4 _ _ Z2
          go_wp2_with fail
          refine (allNamed_any w1.heap.size (w1.heap.size + 1) dl sl t A cap wr (HL.out.later B2) HFi.out NA2.out NB2.out).mono ?_
          rintro e w3 ⟨rfl, hb⟩
          rw [Hna.out]
          have B3 := B2.trans (hb.mono B2.size)
          have F3 := F2.later hb
          have Z3 := (hb.block (w.heap.size + 1) (Array.getElem?_eq_some_iff.1 Z2).1).trans Z2
          have M3 := (hb.block (w1.heap.size + 1 + 1) (Array.getElem?_eq_some_iff.1 M2).1).trans M2
          have NA3 := Lib.hid (NA2.out.later hb)
          have NB3 := Lib.hid (NB2.out.later hb)
          clear hb a0 a1 a2 a3 a4 c0 c1 z0 z1 z2 z3 z4 f0 f1 f2 f3 f4 F2 Z2 M2 NA2 NB2
          obtain ⟨a0, a1, a2, a3, a4⟩ := id F3
          have c0 := cell_row M3 (i := 0) rfl
          have c1 := cell_row M3 (i := 1) rfl
          have z0 := cell_row Z3 (i := 0) rfl
          have z1 := cell_row Z3 (i := 1) rfl
          have z2 := cell_row Z3 (i := 2) rfl
          have z3 := cell_row Z3 (i := 3) rfl
          have z4 := cell_row Z3 (i := 4) rfl
          have f0 := frozen_of_row w3 (w.heap.size + 1) 0 _ _ Z3
          have f1 := frozen_of_row w3 (w.heap.size + 1) 1 _ _ Z3
          have f2 := frozen_of_row w3 (w.heap.size + 1) 2 _ _ Z3
          have f3 := frozen_of_row w3 (w.heap.size + 1) 3 _ _ Z3
          have f4 := frozen_of_row w3 (w.heap.size + 1) 4 _ _ Z3
          go_wp2_with fail
          refine (sorted_any w1.heap.size (w1.heap.size + 1) dl sl hdw hsw t _ _ _ (HL.out.later B3) HFi.out (short_cnt hcnt) NA3.out NB3.out).mono ?_
          rintro e w5 ⟨A5, c5, rfl, hrob, hFu, hb⟩
          have hs3 : w.heap.size + 1 < w3.heap.size := (Array.getElem?_eq_some_iff.1 Z3).1
          have hs3' : w1.heap.size + 1 + 1 < w3.heap.size := (Array.getElem?_eq_some_iff.1 M3).1
          have B5' := B3.trans (hb.mono B3.size)
          have Z5' := (hb.block (w.heap.size + 1) hs3).trans Z3
          have M5' := (hb.block (w1.heap.size + 1 + 1) hs3').trans M3
          have NB5' := NB3.out.later hb
          clear hb a0 a1 a2 a3 a4 c0 c1 z0 z1 z2 z3 z4 f0 f1 f2 f3 f4 F3 Z3 M3 NA3 NB3
          generalize resG false dl sl t = u at *
          have hal := (Below.refl w5.heap.size w5).alloc (Nat.le_refl _) (.cells #[.int .i64 u.op, .int .i64 u.so, .string u.nm, .int .i64 u.nu, .slice A5 u.ks.length c5] 24)
          have B5 := B5'.alloc B5'.size (.cells #[.int .i64 u.op, .int .i64 u.so, .string u.nm, .int .i64 u.nu, .slice A5 u.ks.length c5] 24)
          have Z5 := (hal.block (w.heap.size + 1) (Array.getElem?_eq_some_iff.1 Z5').1).trans Z5'
          have M5 := (hal.block (w1.heap.size + 1 + 1) (Array.getElem?_eq_some_iff.1 M5').1).trans M5'
          have F5 := five_new w5 u (.slice A5 u.ks.length c5) 24
          have HR5 := Lib.hid (hrob.later hal)
          have NB5 := Lib.hid (NB5'.later hal)
          have hzlt : w.heap.size + 1 < w5.heap.size := (Array.getElem?_eq_some_iff.1 Z5').1
          clear hal B5' Z5' M5' NB5' hrob
          go_wp2_with fail
          refine (check_any u 0 A5 c5 _ HR5.out.lies hFu).mono ?_
          rintro e w6 ⟨rfl, hb⟩
          have B6 := B5.trans (hb.mono B5.size)
          have F6 := F5.later hb
          have Z6 := (hb.block (w.heap.size + 1) (Array.getElem?_eq_some_iff.1 Z5).1).trans Z5
          have M6 := (hb.block (w1.heap.size + 1 + 1) (Array.getElem?_eq_some_iff.1 M5).1).trans M5
          have HR6 := Lib.hid (HR5.out.later hb)
          have NB6 := Lib.hid (NB5.out.later hb)
          clear hb F5 Z5 M5 HR5 NB5
          obtain ⟨a0, a1, a2, a3, a4⟩ := id F6
          have c0 := cell_row M6 (i := 0) rfl
          have c1 := cell_row M6 (i := 1) rfl
          have z0 := cell_row Z6 (i := 0) rfl
          have z1 := cell_row Z6 (i := 1) rfl
          have z2 := cell_row Z6 (i := 2) rfl
          have z3 := cell_row Z6 (i := 3) rfl
          have z4 := cell_row Z6 (i := 4) rfl
          have f0 := frozen_of_row w6 (w.heap.size + 1) 0 _ _ Z6
          have f1 := frozen_of_row w6 (w.heap.size + 1) 1 _ _ Z6
          have f2 := frozen_of_row w6 (w.heap.size + 1) 2 _ _ Z6
          have f3 := frozen_of_row w6 (w.heap.size + 1) 3 _ _ Z6
          have f4 := frozen_of_row w6 (w.heap.size + 1) 4 _ _ Z6
          go_wp2_with fail
          refine (argsFit_any w1.heap.size (w1.heap.size + 1) sl u A5 c5 w6 HR6.out.lies hFu NB6.out (HA.out.later B6)).mono ?_
          rintro e w7 ⟨rfl, hb⟩
          rw [Hf.out]
          have B7 := B6.trans (hb.mono B6.size)
          have F7 := F6.later hb
          have Z7 := (hb.block (w.heap.size + 1) (Array.getElem?_eq_some_iff.1 Z6).1).trans Z6
          have HROB := Lib.hid (HR6.out.later hb)
          clear hb a0 a1 a2 a3 a4 c0 c1 z0 z1 z2 z3 z4 f0 f1 f2 f3 f4 F6 Z6 M6 HR6 NB6
          obtain ⟨a0, a1, a2, a3, a4⟩ := id F7
          have z0 := cell_row Z7 (i := 0) rfl
          have z1 := cell_row Z7 (i := 1) rfl
          have z2 := cell_row Z7 (i := 2) rfl
          have z3 := cell_row Z7 (i := 3) rfl
          have z4 := cell_row Z7 (i := 4) rfl
          have f0 := frozen_of_row w7 (w.heap.size + 1) 0 _ _ Z7
          have f1 := frozen_of_row w7 (w.heap.size + 1) 1 _ _ Z7
          have f2 := frozen_of_row w7 (w.heap.size + 1) 2 _ _ Z7
          have f3 := frozen_of_row w7 (w.heap.size + 1) 3 _ _ Z7
          have f4 := frozen_of_row w7 (w.heap.size + 1) 4 _ _ Z7
          have hfin := set5_same (.int .i64 u.op) (.int .i64 u.so) (.string u.nm) (.int .i64 u.nu) (.slice A5 u.ks.length c5) Z7
          have Hfin := Lib.hid hfin
          have HBf := Lib.hid (Below.set5 B7 (b := w.heap.size + 1) (by omega) (.int .i64 u.op) (.int .i64 u.so) (.string u.nm) (.int .i64 u.nu) (.slice A5 u.ks.length c5))
          have HLf := Lib.hid (HROB.out.set5 (b := w.heap.size + 1) (n1 := w.heap.size) (by omega) (by omega) (.int .i64 u.op) (.int .i64 u.so) (.string u.nm) (.int .i64 u.nu) (.slice A5 u.ks.length c5)).lies
          clear hfin Z7
          go_wp2_with fail
          have hf := Hfin.out
          have y0 := cell_row hf (i := 0) rfl
          have y1 := cell_row hf (i := 1) rfl
          have y2 := cell_row hf (i := 2) rfl
          have y3 := cell_row hf (i := 3) rfl
          have y4 := cell_row hf (i := 4) rfl
          refine bodyPost_ret (v := .tuple #[nv u.op u.so u.nm u.nu (.slice A5 u.ks.length c5), .int .i64 0]) ?_ rfl ⟨A5, c5, rfl, HLf.out, hFu, HBf.out⟩
          clear hf Hfin HBf HLf
          simp [results, Try.f42, go_sem, y0, y1, y2, y3, y4]
end Go.Proofs.Ytpjokapkoeclpaa
