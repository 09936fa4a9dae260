/-
  What tableOf returns of a model: the model's entries in their order where the model is valid, none where it is not; conditions: the model lies in memory.
-/
import Derived.Test.YtmeeombadkgneaaGreatZVa23
namespace Go.Proofs.YtmeeombadkgneaaGreat
open Go.Proofs Go.RowKit Go.Shelf Go.Sort Go.Lib

attribute [local go_sem] Oper.semAt_some
def TableV (l : List EA) (w : World) (v : Value) : Prop :=
  (validM l = false ∧ v = .tuple #[.slice none 0 0, .bool false]) ∨ (validM l = true ∧ ∃ (t : List EA) (A' : Option Addr) (c : Nat), v = .tuple #[.slice A' t.length c, .bool true] ∧ LiesM w A' t ∧ t.Perm l ∧ Asc t)
theorem tableV_no {l : List EA} {w : World} (h : validM l = false) : TableV l w (.tuple #[.slice none 0 0, .bool false]) := .inl ⟨h, rfl⟩
theorem tableV_none {w : World} {A : Option Addr} {c : Nat} : TableV [] w (.tuple #[.slice A 0 c, .bool true]) :=
  .inr ⟨(validM_iff []).2 ⟨by simp, by simp, List.Pairwise.nil⟩, [], A, c, rfl, ⟨by simp, ⟨0, 0, fun h => absurd h (by simp), fun i h => absurd h (by simp)⟩, fun i h => absurd h (by simp)⟩, List.Perm.refl _, List.Pairwise.nil⟩
set_option maxRecDepth 100000 in
set_option maxHeartbeats 8000000 in
/-- The walk's last part: the loop over the table in its order. -/
theorem tableOf_any (l : List EA) (A : Option Addr) (cap : Nat) (w : World) (hL : LiesM w A l) : Calls Tryz.prog 42 #[.slice A l.length cap] w fun e w' => (∃ v, e = .returned v ∧ TableV l w' v) ∧ RowKit.Below w.heap.size w w' := by
  have hn := hL.len
  unfold maxLen at hn
  have HL := Lib.hid hL
  clear hL
  by_cases h2 : l.length ≤ 2000
  case neg =>
    have d2 : decide (2000 < (l.length : Int)) = true := decide_eq_true (by omega)
    have Hr := Lib.hid (validM_long h2)
    clear h2
    go_enter Tryz.func42, Tryz.ntmps42
    go_wp2_with fail
    go_ret2
    exact ⟨⟨_, rfl, tableV_no Hr.out⟩, RowKit.Below.refl _ _⟩
  have d2 : decide (2000 < (l.length : Int)) = false := decide_eq_false (by omega)
  have H2 := Lib.hid h2
  clear h2
  go_enter Tryz.func42, Tryz.ntmps42
  go_wp2_with fail
  clear d2
  go_loopw [13] (fun i wr => ∃ k : Nat, k ≤ l.length ∧ i = .int .i64 k ∧ Hid (∀ j (h : j < l.length), j < k → validE l[j] = true) ∧ Hid (RowKit.Below w.heap.size w wr)) (fun i _ => l.length - (intOf i).toNat)
  case atStart => exact ⟨0, Nat.zero_le _, rfl, fun j hj hjk => absurd hjk (by omega), RowKit.Below.refl _ _⟩
  case round =>
    obtain ⟨k, hk, rfl, hj, hB⟩ := hrel
    by_cases hlt : k < l.length
    · obtain ⟨b, o, ha, hc⟩ := (HL.out.later hB.out).at_
      have ha := ha (by omega)
      obtain ⟨c0, c1, c2, c3, c4, c5, c6⟩ := hc k hlt
      have L1 := Lib.hid ((HL.out.each k hlt).later hB.out)
      have hy := Lib.hid (fun (e' : validE l[k] = true) => (show Hid (∀ j (h : j < l.length), j < k + 1 → validE l[j] = true) from fun j h h2 => by
        by_cases e2 : j = k
        · subst e2; exact e'
        · exact hj.out j h (by omega)))
      have hno := Lib.hid (fun (e' : validE l[k] = false) => show validM l = false by
        rw [Bool.eq_false_iff, Ne, validM_iff]
        rintro ⟨_, h, _⟩
        rw [h _ (List.getElem_mem hlt)] at e'
        cases e')
      generalize hx : l[k] = x at *
      have G1 := Lib.hid ((RowKit.Below.refl wr.heap.size wr).alloc (Nat.le_refl _) (boxE x 29))
      clear hj hc hx
      rw [ha] at *
      cases hb : validE x
      case false =>
        have Hr := Lib.hid (hno.out hb)
        have Hb := Lib.hid hb
        clear hb hy hno
        go_wp2_with fail
        refine (validE_any x _ (L1.out.later G1.out)).mono ?_
        rintro en w2 ⟨rfl, b2⟩
        rw [Hb.out]
        have B2 := Lib.hid (hB.out.trans ((G1.out.trans (b2.mono G1.out.size)).mono hB.out.size))
        clear b2 c0 c1 c2 c3 c4 c5 c6
        go_wp2_with fail
        go_ret2
        exact ⟨⟨_, rfl, tableV_no Hr.out⟩, B2.out⟩
      case true =>
        have Hn := hy.out hb
        have Hb := Lib.hid hb
        clear hb hy hno
        go_wp2_with fail
        refine (validE_any x _ (L1.out.later G1.out)).mono ?_
        rintro en w2 ⟨rfl, b2⟩
        rw [Hb.out]
        have B2 := Lib.hid (hB.out.trans ((G1.out.trans (b2.mono G1.out.size)).mono hB.out.size))
        clear b2 c0 c1 c2 c3 c4 c5 c6
        go_wp2_with fail
        go_roundw
        case rel => exact ⟨k + 1, by omega, by go_num, Hn, B2.out⟩
        case measure => simp [intOf]; omega
    · have HV := Lib.hid (show ∀ x ∈ l, validE x = true from fun x hx => by
        obtain ⟨i, hi, rfl⟩ := List.getElem_of_mem hx
        exact hj.out i hi (by omega))
      have HM := Lib.hid (HL.out.later hB.out)
      generalize wr = wo at *
      clear hj HL
      by_cases h0 : 0 < l.length
      case neg =>
        obtain rfl : l = [] := List.eq_nil_of_length_eq_zero (by omega)
        clear HM HV
        cases A with
        | none =>
          go_wp2_with fail
          refine (cloneE_none _ _ _).mono ?_
          rintro e w1 ⟨rfl, rfl⟩
          go_wp2_with fail
          refine (sortNone_any _ _ _ _).mono ?_
          rintro e w2 ⟨rfl, rfl⟩
          go_wp2_with fail
          refine wp_loop_rounds 1 ?_
          rw [rounds_succ]
          go_wp2_with fail
          go_ret2
          exact ⟨⟨_, rfl, tableV_none⟩, hB.out⟩
        | some a =>
          go_wp2_with fail
          refine (cloneE_zero a _ _).mono ?_
          rintro e w1 ⟨⟨A', c', rfl⟩, b1⟩
          go_wp2_with fail
          refine (sortNone_any _ _ _ _).mono ?_
          rintro e w2 ⟨rfl, rfl⟩
          go_wp2_with fail
          refine wp_loop_rounds 1 ?_
          rw [rounds_succ]
          go_wp2_with fail
          go_ret2
          exact ⟨⟨_, rfl, tableV_none⟩, hB.out.trans (b1.mono hB.out.size)⟩
      case pos =>
        go_wp2_with fail
        refine (cloneE_any l A cap _ HM.out h0 H2.out).mono ?_
        rintro e w1 ⟨g, c, rfl, hg, hg2, hH, hb⟩
        have hsz := elems_size HM.out
        have hs := sortE_any g 0 c (elems HM.out) hb hg hH hg2 (by have := H2.out; rw [hsz]; omega)
        rw [hsz] at hs
        have HH := Lib.hid hH
        have HG := Lib.hid hg
        have HG2 := Lib.hid hg2
        have Hb := Lib.hid hb
        have HS := Lib.hid hs
        have HSZ := Lib.hid hsz
        clear hH hg hg2 hb hs hsz
        go_wp2_with fail
        refine HS.out.mono ?_
        rintro e w2 ⟨rfl, d', n, os, hp, hso, hw⟩
        have ht : (tbl d').Perm l := by
          have := tbl_perm HSZ.out.symm hp
          rwa [tbl_elems] at this
        have hts : ∀ i j (hij : i < j) (h : j < (tbl d').length), cmpE ((tbl d')[i]'(Nat.lt_trans hij h)) ((tbl d')[j]'h) ≤ 0 := tbl_sorted (show l.length = d'.size by rw [hp.1]; exact HSZ.out.symm) hso
        have hbw := below_sort encEn 7 g 0 n d' os Hb.out HG.out
        have hlie := lies_tbl hbw (holdsK_sortWorldK encEn 7 w1 g 0 n (elems HM.out) d' os HG2.out HH.out (by rw [hp.1])) (by rw [hp.1, HSZ.out]; exact H2.out)
        rw [← hw] at hbw hlie
        have HT := Lib.hid ht
        have HTS := Lib.hid hts
        have HLI := Lib.hid hlie
        have HB := Lib.hid (hB.out.trans (hbw.mono hB.out.size))
        have HLEN := Lib.hid ht.length_eq
        generalize tbl d' = t at *
        generalize (some ⟨g, 0, none⟩ : Option Addr) = A' at *
        clear ht hts hlie hbw hw hso hp HH HG HG2 Hb HS HSZ HM hB
        go_wp2_with fail
        go_loopw [7] (fun i wr => ∃ m : Nat, i = .int .i64 ((m : Int) + 1) ∧ Hid (m + 1 ≤ l.length) ∧ Hid (∀ j (h : j + 1 < t.length), j < m → cmpE t[j] t[j + 1] ≠ 0) ∧ Hid (RowKit.Below w2.heap.size w2 wr)) (fun i _ => l.length - (intOf i).toNat)
        case atStart => exact ⟨0, rfl, (show 0 + 1 ≤ l.length from h0), fun j _ h => absurd h (by omega), RowKit.Below.refl _ _⟩
        case round =>
          obtain ⟨m, rfl, hml, hj, hB⟩ := hrel
          by_cases hlt : m + 1 < l.length
          · have hd : decide ((m : Int) + 1 < (l.length : Int)) = true := decide_eq_true (by omega)
            have hw1 : IntKind.i64.wrap ((m : Int) + 1 - 1) = m := by simp [IntKind.wrap, IntKind.bits, IntKind.signed]; omega
            have hw2 : IntKind.i64.wrap (m : Int) = m := by simp [IntKind.wrap, IntKind.bits, IntKind.signed]; omega
            have hml1 : m < l.length := by omega
            have h1 : m + 1 < t.length := by rw [HLEN.out]; exact hlt
            have h3 := HLI.out.later hB.out
            obtain ⟨b, o, ha, hc⟩ := h3.at_
            have ha := ha (by omega)
            obtain ⟨c0, c1, c2, c3, c4, c5, c6⟩ := hc m (by omega)
            obtain ⟨e0, e1, e2, e3, e4, e5, e6⟩ := hc (m + 1) h1
            have hdr : RowKit.Below wr.heap.size wr wr.drew := ⟨rfl, rfl, rfl, Nat.le_refl _, fun _ _ => rfl⟩
            have LX := Lib.hid ((h3.each m (by omega)).later hdr)
            have LY := Lib.hid ((h3.each (m + 1) h1).later hdr)
            have HB2 := Lib.hid (hB.out.drew)
            have hy := Lib.hid (fun (e : cmpE t[m] t[m + 1] ≠ 0) => show Hid (∀ j (h : j + 1 < t.length), j < m + 1 → cmpE t[j] t[j + 1] ≠ 0) from fun j h hjk => by
              by_cases e' : j = m
              · subst e'; exact e
              · exact hj.out j h (by omega))
            have hno := Lib.hid (fun (e : cmpE t[m] t[m + 1] = 0) => table_no HT.out m h1 e)
            generalize t[m] = x at *
            generalize t[m + 1] = y at *
            clear hj hc h3 h1 hdr HLI HTS HT HV HLEN
            rw [ha] at *
            by_cases hz : cmpE x y = 0
            · have Hr := Lib.hid (hno.out hz)
              have Hz := Lib.hid hz
              clear hy hno hz
              go_wp2_with fail
              go_region_with ((go_at_call 34; ((with_reducible refine (compareE_any x y _ LX.out LY.out).mono ?_); rintro e w4 ⟨rfl, b4⟩; rw [Hz.out]; have B4 := Lib.hid (HB2.out.trans (b4.mono HB2.out.size)); clear b4)))
              all_goals
                clear c0 c1 c2 c3 c4 c5 c6 e0 e1 e2 e3 e4 e5 e6
                go_wp2_with fail
                go_ret2
                exact ⟨⟨_, rfl, tableV_no Hr.out⟩, HB.out.trans (B4.out.mono HB.out.size)⟩
            · have Hn := hy.out hz
              have hz' : (cmpE x y == 0) = false := by simp [hz]
              clear hy hno hz
              go_wp2_with fail
              go_region_with ((go_at_call 34; ((with_reducible refine (compareE_any x y _ LX.out LY.out).mono ?_); rintro e w4 ⟨rfl, b4⟩; have B4 := Lib.hid (HB2.out.trans (b4.mono HB2.out.size)); clear b4)))
              all_goals
                clear c0 c1 c2 c3 c4 c5 c6 e0 e1 e2 e3 e4 e5 e6 hw1 hw2
                go_wp2_with fail
                go_roundw
                case rel => exact ⟨m + 1, by go_num, (show m + 1 + 1 ≤ l.length by omega), Hn, B4.out⟩
                case measure => simp [intOf]; omega
          · have hd : decide ((m : Int) + 1 < (l.length : Int)) = false := decide_eq_false (by omega)
            have hasc := asc_of HTS.out fun j h => hj.out j h (by have := HLEN.out; omega)
            have HR := Lib.hid (show TableV l wr (.tuple #[.slice A' l.length c, .bool true]) from .inr ⟨table_yes HT.out H2.out HV.out hasc, t, A', c, by rw [HLEN.out], HLI.out.later hB.out, HT.out, hasc⟩)
            clear hasc HTS HT HV HLI HLEN hj
            go_wp2_with fail
            go_ret2
            exact ⟨⟨_, rfl, HR.out⟩, HB.out.trans (hB.out.mono HB.out.size)⟩
end Go.Proofs.YtmeeombadkgneaaGreat
