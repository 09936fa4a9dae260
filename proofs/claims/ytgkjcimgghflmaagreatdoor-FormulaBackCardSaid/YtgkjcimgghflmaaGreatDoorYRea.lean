/-
  What the program's Read and the document's own Read return: Parse's error, or what Resolve returns; conditions: the lists lie in memory, the text is short, and the program's tables hold what its text lays.
-/
import Derived.RegionTactic
import Derived.BigRegion
import Derived.Deep.Cut
import Derived.OwnWalk
import Derived.Lib.LazyBuf
import Derived.Test.YtgkjcimgghflmaaGreatDoorYRm3
import Derived.Test.YtgkjcimgghflmaaGreatDoorYRl3
import Derived.Test.YtgkjcimgghflmaaGreatDoorYRl5
import Derived.Test.YtgkjcimgghflmaaGreatDoorYRpr
import Derived.Test.YtgkjcimgghflmaaGreatDoorYPx0
import Derived.Test.YtgkjcimgghflmaaGreatDoorYRefCheck
import Derived.Test.YtgkjcimgghflmaaGreatDoorYSigs
import Derived.Test.YtgkjcimgghflmaaGreatDoorYFresh
import Derived.Test.YtgkjcimgghflmaaGreatDoorYRd
namespace Go.Proofs.YtgkjcimgghflmaaGreatDoor
open Go.RowKit Go.Shelf Go.WideMaps
attribute [local go_sem] Oper.semAt_some
set_option maxRecDepth 100000 in
set_option maxHeartbeats 2000000 in
theorem refEqual_any (t u : Nd) (A A' : Option Addr) (cap cap' : Nat) (w : World) (hL : Lies w A cap t.ks) (hL' : Lies w A' cap' u.ks) :
    Calls Tryz.prog 9 #[nv t.op t.so t.nm t.nu (.slice A t.ks.length cap), nv u.op u.so u.nm u.nu (.slice A' u.ks.length cap')] w fun e w' => e = .returned (.bool (cmpN t u == 0)) ∧ Below w.heap.size w w' := by
  have HL := Lib.hid hL
  have HL' := Lib.hid hL'
  have HB : ∀ O O', Below w.heap.size w ((w.alloc O).alloc O') := fun O O' => ((Below.refl _ _).alloc (Nat.le_refl _) _).alloc (by simp) _
  clear hL hL'
  go_enter Tryz.func9, Tryz.ntmps9
  go_wp2_with fail
  refine (refCompare_any t u _ _ _ _ _ (HL.out.later (HB _ _)) (HL'.out.later (HB _ _))).mono ?_
  rintro e w1 ⟨rfl, hb1⟩
  have hB1 : Below w.heap.size w w1 := (HB _ _).trans (hb1.mono (by simp; omega))
  clear hb1
  go_wp2_with fail
  go_ret
  exact ⟨rfl, hB1⟩
end Go.Proofs.YtgkjcimgghflmaaGreatDoor
