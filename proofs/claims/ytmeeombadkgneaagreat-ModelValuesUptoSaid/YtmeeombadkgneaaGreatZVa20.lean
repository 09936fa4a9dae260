/-
  What tiny returns of a value; conditions: none.
  What brief returns of an entry; conditions: the entry's arguments lie in memory.
  What short returns of a model; conditions: the model lies in memory.
-/
import Derived.Test.YtmeeombadkgneaaGreatZVa16
namespace Go.Proofs.YtmeeombadkgneaaGreat
open Go.Proofs Go.RowKit Go.Shelf Go.Sort Go.Lib

attribute [local go_sem] Oper.semAt_some
def tinyV (v : Vl) : Bool := decide (v.st.length ≤ 250) && (decide (v.ix.length ≤ 250) && decide (v.xs.length ≤ 250))
set_option maxRecDepth 100000 in
set_option maxHeartbeats 4000000 in
theorem tiny_any (x : VA) (w : World) : Calls Tryz.prog 30 #[vv x] w fun e w' => e = .returned (.bool (tinyV x.v)) ∧ RowKit.Below w.heap.size w w' := by
  have X := fiveV_new w x 27
  have HB := Lib.hid (show RowKit.Below w.heap.size w (w.alloc (boxV x 27)) from (RowKit.Below.refl _ _).alloc (Nat.le_refl _) _)
  obtain ⟨x0, x1, x2, x3, x4⟩ := X
  by_cases h1 : x.v.st.length ≤ 250
  case neg =>
    have Hr := Lib.hid (show tinyV x.v = false by rw [tinyV, decide_eq_false h1]; rfl)
    have d1 : decide ((x.v.st.length : Int) ≤ 250) = false := decide_eq_false (by omega)
    clear h1
    go_enter Tryz.func30, Tryz.ntmps30
    go_wp2_with fail
    go_ret
    exact ⟨by rw [Hr.out]; rfl, HB.out⟩
  have d1 : decide ((x.v.st.length : Int) ≤ 250) = true := decide_eq_true (by omega)
  by_cases h2 : x.v.ix.length ≤ 250
  case neg =>
    have Hr := Lib.hid (show tinyV x.v = false by rw [tinyV, decide_eq_true h1, decide_eq_false h2]; rfl)
    have d2 : decide ((x.v.ix.length : Int) ≤ 250) = false := decide_eq_false (by omega)
    clear h1 h2
    go_enter Tryz.func30, Tryz.ntmps30
    go_wp2_with fail
    go_ret
    exact ⟨by rw [Hr.out]; rfl, HB.out⟩
  have d2 : decide ((x.v.ix.length : Int) ≤ 250) = true := decide_eq_true (by omega)
  have Hr := Lib.hid (show tinyV x.v = decide ((x.v.xs.length : Int) ≤ 250) by rw [tinyV, decide_eq_true h1, decide_eq_true h2, Bool.true_and, Bool.true_and]; exact decide_eq_decide.2 (by omega))
  clear h1 h2
  go_enter Tryz.func30, Tryz.ntmps30
  go_wp2_with fail
  go_ret
  exact ⟨by rw [Hr.out]; rfl, HB.out⟩
end Go.Proofs.YtmeeombadkgneaaGreat
namespace Go.Proofs.YtmeeombadkgneaaGreat
open Go.RowKit Go.Shelf

attribute [local go_sem] Oper.semAt_some
def briefE (e : EA) : Bool := decide (e.args.length ≤ 10) && (tinyV e.val.v && e.args.all fun x => tinyV x.v)
set_option maxRecDepth 100000 in
set_option maxHeartbeats 4000000 in
theorem brief_any (e : EA) (w : World) (hL : LiesE w e) : Calls Tryz.prog 8 #[ev e] w fun en w' => en = .returned (.bool (briefE e)) ∧ Below w.heap.size w w' := by
  obtain ⟨W, hW⟩ : ∃ W, w.alloc (boxE e 29) = W := ⟨_, rfl⟩
  have X := sevenE_new w e 29
  have HB : Below w.heap.size w W := by rw [← hW]; exact (Below.refl _ _).alloc (Nat.le_refl _) _
  rw [hW] at X
  have KX := Lib.hid (fun (W' : World) (h : Below W.heap.size W W') => X.later h)
  have HL := Lib.hid (hL.later HB)
  have HW := Lib.hid hW
  have HB := Lib.hid HB
  have hn := hL.args.len
  unfold maxLen at hn
  have HV := Lib.hid (show briefE e = (decide (e.args.length ≤ 10) && (tinyV e.val.v && e.args.all fun x => tinyV x.v)) from rfl)
  obtain ⟨x0, x1, x2, x3, x4, x5, x6⟩ := X
  simp only [Nat.zero_add] at x0 x1 x2 x3 x4 x5 x6
  clear hL hW
  by_cases hl8 : e.args.length ≤ 10
  case neg =>
    have d8 : decide (10 < (e.args.length : Int)) = true := decide_eq_true (by omega)
    have Hr : Hid (briefE e = false) := by show _ = _; rw [HV.out, decide_eq_false hl8]; simp
    clear HV hl8
    go_enter Tryz.func8, Tryz.ntmps8
    go_wp2_with fail
    rw [HW.out]
    go_wp2_with fail
    go_ret
    exact ⟨by rw [Hr.out]; rfl, HB.out⟩
  have d8 : decide (10 < (e.args.length : Int)) = false := decide_eq_false (by omega)
  have HV := Lib.hid (show briefE e = (tinyV e.val.v && e.args.all fun x => tinyV x.v) by rw [HV.out, decide_eq_true hl8]; simp)
  clear hl8
  go_enter Tryz.func8, Tryz.ntmps8
  go_wp2_with fail
  rw [HW.out]
  refine (tiny_any e.val _).mono ?_
  rintro en w1 ⟨rfl, b1⟩
  have B1 := Lib.hid b1
  clear b1 x0 x1 x2 x3 x4 x5 x6 d8
  obtain ⟨x0, x1, x2, x3, x4, x5, x6⟩ := KX.out _ B1.out
  simp only [Nat.zero_add] at x0 x1 x2 x3 x4 x5 x6
  cases hc : tinyV e.val.v
  case false =>
    have Hr := Lib.hid (show briefE e = false by rw [HV.out, hc]; rfl)
    clear hc HV
    go_wp2_with fail
    go_ret
    exact ⟨by rw [Hr.out]; rfl, HB.out.trans (B1.out.mono HB.out.size)⟩
  have HV := Lib.hid (show briefE e = e.args.all fun x => tinyV x.v by rw [HV.out, hc]; rfl)
  clear hc
  have HA := Lib.hid (HL.out.args.later B1.out)
  generalize e.args = l at *
  clear HL
  go_wp2_with fail
  go_loopw [18] (fun i wr => ∃ k : Nat, k ≤ l.length ∧ i = .int .i64 k ∧ Hid (∀ j (h : j < l.length), j < k → tinyV l[j].v = true) ∧ Hid (Below w1.heap.size w1 wr)) (fun i _ => l.length - (intOf i).toNat)
  case atStart => exact ⟨0, Nat.zero_le _, rfl, fun j hj hjk => absurd hjk (by omega), Below.refl _ _⟩
  case round =>
    obtain ⟨k, hk, rfl, hj, hBr⟩ := hrel
    by_cases hlt : k < l.length
    · obtain ⟨b, o, ha, hc⟩ := (HA.out.later hBr.out).at_
      have ha := ha (by omega)
      obtain ⟨c0, c1, c2, c3, c4⟩ := hc k hlt
      have hal := Lib.hid (fun O => (Below.refl wr.heap.size wr).alloc (Nat.le_refl _) O)
      have hy := Lib.hid (fun (e' : tinyV l[k].v = true) => (show Hid (∀ j (h : j < l.length), j < k + 1 → tinyV l[j].v = true) from fun j h h2 => by
        by_cases e2 : j = k
        · subst e2; exact e'
        · exact hj.out j h (by omega)))
      have hno := Lib.hid (fun (e' : tinyV l[k].v = false) => show briefE e = false by rw [HV.out, List.all_eq_false]; exact ⟨l[k], List.getElem_mem hlt, by rw [e']; simp⟩)
      generalize l[k] = x at *
      clear hj hc HA HV x0 x1 x2 x3 x4 x5 x6
      rw [ha] at *
      cases hb : tinyV x.v
      case false =>
        have Hr := Lib.hid (hno.out hb)
        have Hb := Lib.hid hb
        clear hb hy hno
        go_wp2_with fail
        refine (tiny_any x _).mono ?_
        rintro en w2 ⟨rfl, b2⟩
        rw [Hb.out]
        have B2 := Lib.hid (hBr.out.trans (((hal.out (boxV x 27)).trans (b2.mono (hal.out (boxV x 27)).size)).mono hBr.out.size))
        clear b2 c0 c1 c2 c3 c4
        go_wp2_with fail
        go_ret
        exact ⟨by rw [Hr.out]; rfl, HB.out.trans ((B1.out.trans (B2.out.mono B1.out.size)).mono HB.out.size)⟩
      case true =>
        have Hn := hy.out hb
        have Hb := Lib.hid hb
        clear hb hy hno
        go_wp2_with fail
        refine (tiny_any x _).mono ?_
        rintro en w2 ⟨rfl, b2⟩
        rw [Hb.out]
        have B2 := Lib.hid (hBr.out.trans (((hal.out (boxV x 27)).trans (b2.mono (hal.out (boxV x 27)).size)).mono hBr.out.size))
        clear b2 c0 c1 c2 c3 c4
        go_wp2_with fail
        go_roundw
        case rel => exact ⟨k + 1, by omega, by go_num, Hn, B2.out⟩
        case measure => simp [intOf]; omega
    · have Hr := Lib.hid (show briefE e = true by
        rw [HV.out, List.all_eq_true]
        intro y hy
        obtain ⟨i, hi, rfl⟩ := List.getElem_of_mem hy
        exact hj.out i hi (by omega))
      clear hj HA HV x0 x1 x2 x3 x4 x5 x6
      go_wp2_with fail
      go_ret
      exact ⟨by rw [Hr.out]; rfl, HB.out.trans ((B1.out.trans (hBr.out.mono B1.out.size)).mono HB.out.size)⟩
end Go.Proofs.YtmeeombadkgneaaGreat
namespace Go.Proofs.YtmeeombadkgneaaGreat
open Go.RowKit Go.Shelf

attribute [local go_sem] Oper.semAt_some
def shortM (l : List EA) : Bool := decide (l.length ≤ 60) && l.all briefE
set_option maxRecDepth 100000 in
set_option maxHeartbeats 8000000 in
theorem short_any (l : List EA) (A : Option Addr) (cap : Nat) (w : World) (hL : LiesM w A l) : Calls Tryz.prog 7 #[.slice A l.length cap] w fun e w' => e = .returned (.bool (shortM l)) ∧ Below w.heap.size w w' := by
  have hn := hL.len
  unfold maxLen at hn
  have HL := Lib.hid hL
  clear hL
  by_cases h2 : l.length ≤ 60
  case neg =>
    have d2 : decide (60 < (l.length : Int)) = true := decide_eq_true (by omega)
    have Hr := Lib.hid (show shortM l = false by rw [shortM, decide_eq_false h2]; rfl)
    clear h2
    go_enter Tryz.func7, Tryz.ntmps7
    go_wp2_with fail
    go_ret
    exact ⟨by rw [Hr.out]; rfl, Below.refl _ _⟩
  have d2 : decide (60 < (l.length : Int)) = false := decide_eq_false (by omega)
  have HV := Lib.hid (show shortM l = l.all briefE by rw [shortM, decide_eq_true h2]; rfl)
  clear h2
  go_enter Tryz.func7, Tryz.ntmps7
  go_wp2_with fail
  clear d2
  go_loopw [10] (fun i wr => ∃ k : Nat, k ≤ l.length ∧ i = .int .i64 k ∧ Hid (∀ j (h : j < l.length), j < k → briefE l[j] = true) ∧ Hid (Below w.heap.size w wr)) (fun i _ => l.length - (intOf i).toNat)
  case atStart => exact ⟨0, Nat.zero_le _, rfl, fun j hj hjk => absurd hjk (by omega), Below.refl _ _⟩
  case round =>
    obtain ⟨k, hk, rfl, hj, hB⟩ := hrel
    by_cases hlt : k < l.length
    · obtain ⟨b, o, ha, hc⟩ := (HL.out.later hB.out).at_
      have ha := ha (by omega)
      obtain ⟨c0, c1, c2, c3, c4, c5, c6⟩ := hc k hlt
      have L1 := Lib.hid ((HL.out.each k hlt).later hB.out)
      have hy := Lib.hid (fun (e' : briefE l[k] = true) => (show Hid (∀ j (h : j < l.length), j < k + 1 → briefE l[j] = true) from fun j h h2 => by
        by_cases e2 : j = k
        · subst e2; exact e'
        · exact hj.out j h (by omega)))
      have hno := Lib.hid (fun (e' : briefE l[k] = false) => show shortM l = false by rw [HV.out, List.all_eq_false]; exact ⟨l[k], List.getElem_mem hlt, by rw [e']; simp⟩)
      generalize hx : l[k] = x at *
      have G1 := Lib.hid ((Below.refl wr.heap.size wr).alloc (Nat.le_refl _) (boxE x 29))
      clear hj hc hx HV
      rw [ha] at *
      cases hb : briefE x
      case false =>
        have Hr := Lib.hid (hno.out hb)
        have Hb := Lib.hid hb
        clear hb hy hno
        go_wp2_with fail
        refine (brief_any x _ (L1.out.later G1.out)).mono ?_
        rintro en w2 ⟨rfl, b2⟩
        rw [Hb.out]
        have B2 := Lib.hid (hB.out.trans ((G1.out.trans (b2.mono G1.out.size)).mono hB.out.size))
        clear b2 c0 c1 c2 c3 c4 c5 c6
        go_wp2_with fail
        go_ret
        exact ⟨by rw [Hr.out]; rfl, B2.out⟩
      case true =>
        have Hn := hy.out hb
        have Hb := Lib.hid hb
        clear hb hy hno
        go_wp2_with fail
        refine (brief_any x _ (L1.out.later G1.out)).mono ?_
        rintro en w2 ⟨rfl, b2⟩
        rw [Hb.out]
        have B2 := Lib.hid (hB.out.trans ((G1.out.trans (b2.mono G1.out.size)).mono hB.out.size))
        clear b2 c0 c1 c2 c3 c4 c5 c6
        go_wp2_with fail
        go_roundw
        case rel => exact ⟨k + 1, by omega, by go_num, Hn, B2.out⟩
        case measure => simp [intOf]; omega
    · have Hr := Lib.hid (show shortM l = true by
        rw [HV.out, List.all_eq_true]
        intro y hy
        obtain ⟨i, hi, rfl⟩ := List.getElem_of_mem hy
        exact hj.out i hi (by omega))
      clear hj HL HV
      go_wp2_with fail
      go_ret
      exact ⟨by rw [Hr.out]; rfl, hB.out⟩
end Go.Proofs.YtmeeombadkgneaaGreat
