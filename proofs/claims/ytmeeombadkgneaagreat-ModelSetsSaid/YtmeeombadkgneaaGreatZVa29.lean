/-
  What Valid returns of a model, and what IndexFunc returns where Set calls it; conditions: the model and the entry lie in memory.
-/
import Derived.Test.YtmeeombadkgneaaGreatZVa26
import Derived.Test.YtmeeombadkgneaaGreatZVa27
namespace Go.Proofs.YtmeeombadkgneaaGreat
open Go.Proofs Go.RowKit Go.Shelf Go.Sort Go.Lib

attribute [local go_sem] Oper.semAt_some
set_option maxRecDepth 100000 in
set_option maxHeartbeats 4000000 in
theorem validM_any (l : List EA) (A : Option Addr) (cap : Nat) (w : World) (hL : LiesM w A l) : Calls Tryz.prog 15 #[.slice A l.length cap] w fun e w' => e = .returned (.bool (validM l)) ∧ RowKit.Below w.heap.size w w' := by
  have HL := Lib.hid hL
  clear hL
  go_enter Tryz.func15, Tryz.ntmps15
  go_wp2_with fail
  refine (tableOf_any l A cap _ HL.out).mono ?_
  rintro e w1 ⟨⟨v, rfl, hv⟩, b1⟩
  have B1 := Lib.hid b1
  clear b1
  rcases hv with ⟨hv, rfl⟩ | ⟨hv, t, A', c, rfl, _, _, _⟩
  · have HV := Lib.hid hv
    clear hv
    go_wp2_with fail
    go_ret
    exact ⟨by rw [HV.out]; rfl, B1.out⟩
  · have HV := Lib.hid hv
    clear hv
    go_wp2_with fail
    go_ret
    exact ⟨by rw [HV.out]; rfl, B1.out⟩
/-- The first entry of a model that is of an entry's place, or -1. -/
def IdxM (l : List EA) (y : EA) (r : Int) : Prop :=
  (∃ (k : Nat) (h : k < l.length), r = (k : Int) ∧ placeB l[k] y = true ∧ ∀ j (hj : j < k), placeB (l[j]'(by omega)) y = false) ∨ (r = -1 ∧ ∀ j (h : j < l.length), placeB l[j] y = false)
theorem seek_place (x y : EA) : decide (cmpE x y = 0) = placeB x y := by
  rw [← place_eq]
  exact rfl
set_option maxRecDepth 100000 in
set_option maxHeartbeats 8000000 in
theorem index_any (l : List EA) (y : EA) (b0 : Nat) (A : Option Addr) (cap : Nat) (w : World) (hL : LiesM w A l) (hy : LiesE w y) (hs : SevenE w b0 0 y) (hl : l.length ≤ 2000) :
    Calls Tryz.prog 32 #[.slice A l.length cap, .func (.func 33) #[] #[.pointer (some ⟨b0, 0, none⟩)]] w fun e w' => (∃ r : Int, e = .returned (.int .i64 r) ∧ IdxM l y r) ∧ RowKit.Below w.heap.size w w' := by
  have HL := Lib.hid hL
  have HY := Lib.hid hy
  have HS := Lib.hid hs
  clear hL hy hs
  go_enter Tryz.func32, Tryz.ntmps32
  go_wp2_with fail
  go_loopw [8] (fun i wr => ∃ k : Nat, k ≤ l.length ∧ i = .int .i64 k ∧ Hid (∀ j (h : j < l.length), j < k → placeB l[j] y = false) ∧ Hid (RowKit.Below w.heap.size w wr)) (fun i _ => l.length - (intOf i).toNat)
  case atStart => exact ⟨0, Nat.zero_le _, rfl, fun j hj hjk => absurd hjk (by omega), RowKit.Below.refl _ _⟩
  case round =>
    obtain ⟨k, hk, rfl, hj, hB⟩ := hrel
    by_cases hlt : k < l.length
    · obtain ⟨b, o, ha, hc⟩ := (HL.out.later hB.out).at_
      have ha := ha (by omega)
      obtain ⟨c0, c1, c2, c3, c4, c5, c6⟩ := hc k hlt
      have L1 := Lib.hid ((HL.out.each k hlt).later hB.out)
      have L2 := Lib.hid (HY.out.later hB.out)
      have S1 := Lib.hid (HS.out.later hB.out)
      have hno := Lib.hid (fun (e' : placeB l[k] y = false) => (show Hid (∀ j (h : j < l.length), j < k + 1 → placeB l[j] y = false) from fun j h h2 => by
        by_cases e2 : j = k
        · subst e2; exact e'
        · exact hj.out j h (by omega)))
      have hyes := Lib.hid (fun (e' : placeB l[k] y = true) => (show IdxM l y (k : Int) from .inl ⟨k, hlt, rfl, e', fun j hj' => hj.out j (by omega) hj'⟩))
      have hsp := seek_place l[k] y
      generalize hx : l[k] = x at *
      clear hj hc hx
      rw [ha] at *
      cases hb : placeB x y
      case false =>
        have Hn := hno.out hb
        have Hb := Lib.hid (hsp.trans hb)
        clear hb hno hyes hsp
        go_wp2_with fail
        refine (seek_any x y b0 _ L1.out L2.out S1.out).mono ?_
        rintro en w2 ⟨rfl, b2⟩
        rw [Hb.out]
        have B2 := Lib.hid (hB.out.trans (b2.mono hB.out.size))
        clear b2 c0 c1 c2 c3 c4 c5 c6
        go_wp2_with fail
        go_roundw
        case rel => exact ⟨k + 1, by omega, by go_num, Hn, B2.out⟩
        case measure => simp [intOf]; omega
      case true =>
        have Hr := Lib.hid (hyes.out hb)
        have Hb := Lib.hid (hsp.trans hb)
        clear hb hno hyes hsp
        go_wp2_with fail
        refine (seek_any x y b0 _ L1.out L2.out S1.out).mono ?_
        rintro en w2 ⟨rfl, b2⟩
        rw [Hb.out]
        have B2 := Lib.hid (hB.out.trans (b2.mono hB.out.size))
        clear b2 c0 c1 c2 c3 c4 c5 c6
        go_wp2_with fail
        go_ret
        exact ⟨⟨_, rfl, Hr.out⟩, B2.out⟩
    · have Hr := Lib.hid (show IdxM l y (-1) from .inr ⟨rfl, fun j h => hj.out j h (by omega)⟩)
      clear hj HL
      go_wp2_with fail
      go_ret
      exact ⟨⟨_, rfl, Hr.out⟩, hB.out⟩
end Go.Proofs.YtmeeombadkgneaaGreat
