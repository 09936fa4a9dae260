/-
  What the document's own Uniform returns; conditions: the tree lies in memory and has few nodes.
-/
import Derived.Test.YtmeeombadkgneaaGreatZRefVars
import Derived.Test.YtmeeombadkgneaaGreatZUni
namespace Go.Proofs.YtmeeombadkgneaaGreat
open Go.RowKit Go.Shelf

attribute [local go_sem] Oper.semAt_some
/-- Whether no two neighbours of a list of declarations have one name. -/
def apartL (dl : List (ByteArray × Int)) : Prop := ∀ i (h : i + 1 < dl.length), dl[i].1.toList ≠ dl[i + 1].1.toList
/-- What the document's Uniform returns. -/
noncomputable def refUniB (t : Nd) : Bool := @decide (apartL (gathL [] t) ∧ ∀ d ∈ gathL [] t, conB d.1 t = false) (Classical.propDecidable _)
theorem refUniB_false {t : Nd} (h : ¬ (apartL (gathL [] t) ∧ ∀ d ∈ gathL [] t, conB d.1 t = false)) : refUniB t = false := @decide_eq_false _ (Classical.propDecidable _) h
theorem refUniB_true {t : Nd} (h : apartL (gathL [] t) ∧ ∀ d ∈ gathL [] t, conB d.1 t = false) : refUniB t = true := @decide_eq_true _ (Classical.propDecidable _) h

set_option maxRecDepth 100000 in
set_option maxHeartbeats 2000000 in
theorem refUniform_any (t : Nd) (A : Option Addr) (cap : Nat) (w : World) (hL : Lies w A cap t.ks) (hcnt : (nodesOf t).length ≤ 1048576) :
    Calls Tryz.prog 101 #[nv t.op t.so t.nm t.nu (.slice A t.ks.length cap)] w fun e w' => e = .returned (.bool (refUniB t)) ∧ Below w.heap.size w w' := by
  have HB1 := Lib.hid (show Below w.heap.size w (w.alloc (.cells #[.int .i64 t.op, .int .i64 t.so, .string t.nm, .int .i64 t.nu, .slice A t.ks.length cap] 44)) from (Below.refl _ _).alloc (Nat.le_refl _) _)
  have H5 := Lib.hid (five_new w t (.slice A t.ks.length cap) 44)
  have hF := Lib.hid (fun h => refUniB_false (t := t) h)
  have hT := Lib.hid (fun h => refUniB_true (t := t) h)
  have hlen : (gathL [] t).length ≤ 1048576 := Nat.le_trans (gathL_len _ _) (by simpa using hcnt)
  have HL := Lib.hid hL
  have HV := Lib.hid (fun w hL => refVars_any t A cap w hL hcnt)
  clear hL
  generalize refUniB t = R at *
  generalize gathL [] t = dl at *
  go_enter Tryz.func101, Tryz.ntmps101
  go_wp2_with fail
  refine (HV.out _ (HL.out.later HB1.out)).mono ?_
  rintro e w1 ⟨LA, lc, rfl, hD, hb⟩
  have HB2 := Lib.hid (HB1.out.trans (hb.mono (by simp)))
  have H5' := Lib.hid (H5.out.later hb)
  have HD := Lib.hid hD
  clear hb hD HB1 H5
  go_wp2_with fail
  go_loopw [4] (fun i wr => ∃ j : Nat, i = .int .i64 ((j : Int) + 1) ∧ (j ≤ dl.length) ∧ Hid (∀ m (h : m + 1 < dl.length), m < j → dl[m].1.toList ≠ dl[m + 1].1.toList) ∧ Below w.heap.size w wr ∧ Hid (Below w1.heap.size w1 wr)) (fun i _ => dl.length + 1 - (intOf i).toNat)
  case atStart => exact ⟨0, rfl, Nat.zero_le _, fun m _ hm => absurd hm (by omega), HB2.out, Lib.hid (Below.refl _ _)⟩
  case round =>
    obtain ⟨j, rfl, hj, hap, hBr, hbx⟩ := hrel
    by_cases hlt : j + 1 < dl.length
    · obtain ⟨b, hA, hDc⟩ := HD.out.later hbx.out
      obtain rfl := hA (by omega)
      obtain ⟨p0, _⟩ := hDc j (by omega)
      obtain ⟨q0, _⟩ := hDc (j + 1) hlt
      have hno := Lib.hid (fun (e : dl[j].1.toList = dl[j + 1].1.toList) => hF.out (fun h => h.1 j hlt e))
      have hsn := Lib.hid (fun (e : dl[j].1.toList ≠ dl[j + 1].1.toList) => (show Hid (∀ m (h : m + 1 < dl.length), m < j + 1 → dl[m].1.toList ≠ dl[m + 1].1.toList) from fun m hm hmj => by
        by_cases e' : m = j
        · subst e'; exact e
        · exact hap.out m hm (by omega)))
      generalize dl[j].1 = na at *
      generalize dl[j + 1].1 = nb at *
      clear hDc hap
      cases he : na.toList == nb.toList
      case true =>
        have Hr := Lib.hid (hno.out (by simpa using he))
        go_wp2_with fail
        go_quiet (fail)
        go_wp2_with fail
        go_ret
        exact ⟨by rw [Hr.out]; rfl, below_drewN hBr _⟩
      case false =>
        have Hsn := hsn.out (by simpa using he)
        have HBx := Lib.hid hbx.out
        clear hsn hno hbx
        go_wp2_with fail
        go_quiet (fail)
        go_wp2_with fail
        go_roundw
        case rel => exact ⟨j + 1, by go_num, by omega, Hsn, below_drewN hBr _, Lib.hid (below_drewN HBx.out _)⟩
        case measure => simp [intOf]; omega
    · have Hap := Lib.hid (show apartL dl from fun m hm => hap.out m hm (by omega))
      clear hap
      go_wp2_with fail
      go_loopw [29] (fun i wy => ∃ k : Nat, k ≤ dl.length ∧ i = .int .i64 k ∧ Hid (∀ m (h : m < dl.length), m < k → conB dl[m].1 t = false) ∧ Below w.heap.size w wy ∧ Hid (Below w1.heap.size w1 wy)) (fun i _ => dl.length - (intOf i).toNat)
      case atStart => exact ⟨0, Nat.zero_le _, rfl, fun m _ hm => absurd hm (by omega), hBr, hbx⟩
      case round =>
        clear hbx hBr hj
        obtain ⟨k, hk, rfl, hcc, hBr, hbx⟩ := hrel
        by_cases hlt2 : k < dl.length
        · obtain ⟨b, hA, hDc⟩ := HD.out.later hbx.out
          obtain rfl := hA (by omega)
          obtain ⟨p0, p1⟩ := hDc k hlt2
          obtain ⟨a0, a1, a2, a3, a4⟩ := H5'.out.later hbx.out
          have hsz := hBr.size
          have hszw : w.heap.size < wr.heap.size := by have := World.block_lt_of_cell? _ _ a0; exact this
          have hno := Lib.hid (fun (e : conB dl[k].1 t = true) => hF.out (fun h => by have := h.2 _ (List.getElem_mem hlt2); rw [e] at this; cases this))
          have hsn := Lib.hid (fun (e : conB dl[k].1 t = false) => (show Hid (∀ m (h : m < dl.length), m < k + 1 → conB dl[m].1 t = false) from fun m hm hmj => by
            by_cases e' : m = k
            · subst e'; exact e
            · exact hcc.out m hm (by omega)))
          have hLy := Lib.hid (HL.out.later hBr)
          have HBr := Lib.hid hBr
          generalize dl[k] = x at *
          clear hDc hcc hA hlt
          cases hq : conB x.1 t
          case true =>
            have Hq := Lib.hid hq
            have Hr := Lib.hid (hno.out hq)
            clear hq hno hsn
            go_wp2_with fail
            refine (constant_any x.1 t _ _ _ (hLy.out.later ((Below.refl _ _).alloc (Nat.le_refl _) _))).mono ?_
            rintro e w2 ⟨rfl, hb2⟩
            rw [Hq.out]
            have hB2 := Lib.hid (HBr.out.trans ((((Below.refl _ wr).alloc (Nat.le_refl _) _).trans (hb2.mono (by simp))).mono hsz))
            clear hb2
            go_wp2_with fail
            go_ret
            exact ⟨by rw [Hr.out]; rfl, hB2.out⟩
          case false =>
            have Hq := Lib.hid hq
            have Hsn := hsn.out hq
            clear hq hno
            go_wp2_with fail
            refine (constant_any x.1 t _ _ _ (hLy.out.later ((Below.refl _ _).alloc (Nat.le_refl _) _))).mono ?_
            rintro e w2 ⟨rfl, hb2⟩
            rw [Hq.out]
            have hb3 : Below wr.heap.size wr w2 := ((Below.refl _ _).alloc (Nat.le_refl _) _).trans (hb2.mono (by simp))
            have hB2 := Lib.hid (HBr.out.trans (hb3.mono hsz))
            have hB3 := Lib.hid (hbx.out.trans (hb3.mono hbx.out.size))
            clear hb2 hb3
            go_wp2_with fail
            go_roundw
            case rel => exact ⟨k + 1, by omega, by go_num, Hsn, hB2.out, hB3⟩
            case measure => simp [intOf]; omega
        · have Hr := Lib.hid (hT.out ⟨Hap.out, fun d hd => by
            obtain ⟨m, hm, rfl⟩ := List.getElem_of_mem hd
            exact hcc.out m hm (by omega)⟩)
          go_wp2_with fail
          go_ret
          exact ⟨by rw [Hr.out]; rfl, hBr⟩
end Go.Proofs.YtmeeombadkgneaaGreat
