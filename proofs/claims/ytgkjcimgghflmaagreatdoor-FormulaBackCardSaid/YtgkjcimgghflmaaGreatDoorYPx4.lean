/-
  What the law's check of a small text returns: true; conditions: the program's tables hold what its text lays.
-/
import Derived.Test.YtgkjcimgghflmaaGreatDoorYPx0
import Derived.Test.YtgkjcimgghflmaaGreatDoorYPrn
import Derived.Test.YtgkjcimgghflmaaGreatDoorYRefCheck
namespace Go.Proofs.YtgkjcimgghflmaaGreatDoor
open Go.RowKit Go.Shelf
attribute [local go_sem] Oper.semAt_some
def s6 : ByteArray := ⟨#[120, 32, 60, 61, 32, 49]⟩
def t6 : Nd := twoN 38 (.mk 1 0 (bs [120]) 0 []) (intN 1)
theorem pw6 : PW s6 209 = .ok t6 6 := by kernel_rfl
theorem lim6 : limB (preN 1 t6) = true := by kernel_rfl
theorem txt6x : txt (.mk 1 0 (bs [120]) 0 []) = [120] := by
  rw [txt_eq]; rfl
theorem txt6i : txt (intN 1) = [49] := by
  rw [txt_eq]
  show Lib.itoa 1 = [49]
  simp only [Lib.itoa]
  show Lib.decDigits 1 = [49]
  rw [Lib.decDigits]
  rfl
theorem txt6 : txt t6 = [40, 120, 32, 60, 61, 32, 49, 41] := by
  rw [txt_eq]
  show txtW t6 [txt (.mk 1 0 (bs [120]) 0 []), txt (intN 1)] = _
  rw [txt6x, txt6i]
  rfl
open Classical in
theorem pr6x : prB (.mk 1 0 (bs [120]) 0 []) = true := by
  rw [prB_eq]
  have : frmB (.mk 1 0 (bs [120]) 0 []) = true := by unfold frmB; exact decide_eq_true ⟨by unfold fldOk; rw [if_pos (.inl rfl)]; exact ⟨by kernel_rfl, rfl, by decide, by decide⟩, .inl ⟨.inl rfl, rfl⟩⟩
  rw [this]; rfl
open Classical in
theorem pr6i : prB (intN 1) = true := by
  rw [prB_eq]
  have : frmB (intN 1) = true := by unfold frmB; exact decide_eq_true ⟨by unfold fldOk; rw [if_neg (by decide)]; exact ⟨by kernel_rfl, rfl, by rw [if_pos (.inl rfl)]; decide⟩, .inl ⟨.inr (.inl rfl), rfl⟩⟩
  rw [this]; rfl
open Classical in
theorem pr6 : prB t6 = true := by
  rw [prB_eq]
  have : frmB t6 = true := by unfold frmB; exact decide_eq_true ⟨by unfold fldOk; rw [if_neg (by decide)]; exact ⟨by kernel_rfl, rfl, by rw [if_neg (by decide)]; rfl⟩, by unfold cntOk; decide⟩
  rw [this]
  show (true && (prB (.mk 1 0 (bs [120]) 0 []) && (prB (intN 1) && true))) = true
  rw [pr6x, pr6i]; rfl
theorem prt6 : bs (prtS t6) = ⟨#[40, 120, 32, 60, 61, 32, 49, 41]⟩ ∧ prtE t6 = 0 := by
  unfold prtS prtE
  rw [lim6, pr6, txt6]
  exact ⟨rfl, rfl⟩
theorem par6 : parR s6 = .ok t6 6 := by
  unfold parR
  rw [if_neg (by decide)]
  show (match PW s6 209 with | .ok t b => if limB (preN 1 t) = true then PR.ok t b else .err 2 0 | r => r) = _
  rw [pw6]
  show (if limB (preN 1 t6) = true then PR.ok t6 6 else .err 2 0) = _
  rw [lim6]; rfl
set_option maxRecDepth 100000 in
set_option maxHeartbeats 4000000 in
/-- The law's check of a small text. -/
theorem awake_any (W : World) (hT : Tabs W) (hS : SigTab W) (hP : PowTab W) : Calls Tryz.prog 6 #[] W fun e w' => e = .returned (.bool true) ∧ Below W.heap.size W w' := by
  have cp := parse_any s6 W hT hS
  rw [par6] at cp
  have cq := Lib.hid (fun (A : Option Addr) (cap : Nat) (w : World) (hb : Below W.heap.size W w) (hL : Lies w A cap t6.ks) (hf : Fine t6) => print_any t6 A cap w hL hf (hT.later hb) (hP.later hb))
  have hz := prt6
  generalize bs (prtS t6) = z at *
  generalize prtE t6 = ze at *
  obtain ⟨rfl, rfl⟩ := hz
  clear hT hS hP
  unfold s6 at cp
  go_enter Tryz.func6, Tryz.ntmps6
  go_wp2_with fail
  refine cp.mono ?_
  rintro e w1 ⟨A, cap, rfl, hr, hf, hb⟩
  have hB := (Below.refl w1.heap.size w1).alloc (Nat.le_refl _) (.cells #[.int .i64 t6.op, .int .i64 t6.so, .string t6.nm, .int .i64 t6.nu, .slice A t6.ks.length cap] 27)
  have X := five_new w1 t6 (.slice A t6.ks.length cap) 27
  have cr := cq.out A cap _ (hb.trans (hB.mono hb.size)) (hr.later hB).lies hf
  have HB := Lib.hid (hb.trans (hB.mono hb.size))
  clear cp cq hr hf hb hB
  go_upto_region 2 with fail
  generalize w1.alloc (.cells #[.int .i64 t6.op, .int .i64 t6.so, .string t6.nm, .int .i64 t6.nu, .slice A t6.ks.length cap] 27) = w2 at *
  generalize w1.heap.size = n1 at *
  obtain ⟨x0, x1, x2, x3, x4⟩ := X
  go_wp2_with fail
  refine cr.mono ?_
  rintro e w3 ⟨rfl, b3⟩
  clear cr
  have HB3 := Lib.hid (HB.out.trans (b3.mono HB.out.size))
  clear b3 HB
  go_wp2_with fail
  go_ret
  exact ⟨rfl, HB3.out⟩
end Go.Proofs.YtgkjcimgghflmaaGreatDoor
