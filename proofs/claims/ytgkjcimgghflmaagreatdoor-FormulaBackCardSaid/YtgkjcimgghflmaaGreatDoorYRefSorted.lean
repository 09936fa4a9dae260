/-
  What the document's own Levels and constant return; conditions: the tree lies in memory.
-/
import Derived.Lib.QuietBelow
import Derived.BigQuiet
import Derived.Test.YtgkjcimgghflmaaGreatDoorYFns
import Derived.Test.YtgkjcimgghflmaaGreatDoorYLoops
namespace Go.Proofs.YtgkjcimgghflmaaGreatDoor
open Go.RowKit Go.Shelf
attribute [local go_sem] Oper.semAt_some
/-- All nodes of a tree, without levels. -/
def nodesOf (t : Nd) : List Nd := (preN 1 t).map Prod.snd
theorem preN_snd (t : Nd) : ∀ lv lv', (preN lv t).map Prod.snd = (preN lv' t).map Prod.snd := by
  induction t using Nd.ind with
  | h t ih =>
  intro lv lv'
  have hs : ∀ (l : List Nd), (∀ i (hi : i < l.length), ∀ lv lv', (preN lv l[i]).map Prod.snd = (preN lv' l[i]).map Prod.snd) → ∀ lv lv', (preNs lv l).map Prod.snd = (preNs lv' l).map Prod.snd := by
    intro l
    induction l with
    | nil => intro _ lv lv'; rfl
    | cons x xs ihx =>
      intro h lv lv'
      have h0 : (preN lv x).map Prod.snd = (preN lv' x).map Prod.snd := h 0 (by simp) lv lv'
      have h1 := ihx (fun i hi => h (i + 1) (by simp; omega)) lv lv'
      rw [preNs, preNs, List.map_append, List.map_append, h0, h1]
  rw [preN_eq, preN_eq, List.map_cons, List.map_cons, hs t.ks ih (wrap64 (lv + 1)) (wrap64 (lv' + 1))]
theorem preNs_snd (l : List Nd) (lv : Int) : (preNs lv l).map Prod.snd = l.flatMap nodesOf := by
  induction l with
  | nil => rfl
  | cons x xs ih => rw [preNs, List.map_append, ih, List.flatMap_cons, preN_snd x lv 1, nodesOf]
theorem nodesOf_eq (t : Nd) : nodesOf t = t :: t.ks.flatMap nodesOf := by
  rw [nodesOf, preN_eq, List.map_cons, preNs_snd]
end Go.Proofs.YtgkjcimgghflmaaGreatDoor
namespace Go.Proofs.YtgkjcimgghflmaaGreatDoor
open Go.RowKit Go.Shelf
attribute [local go_sem] Oper.semAt_some
/-- The number of levels as the document counts it. -/
def levW : Nd → Int
  | .mk _ _ _ _ ks => wrap64 (ks.attach.foldl (fun s k => max s (levW k.1)) 0 + 1)
termination_by t => SizeOf.sizeOf t
decreasing_by
  have := List.sizeOf_lt_of_mem k.2
  simp only [Nd.mk.sizeOf_spec]
  omega
def levL (s : Int) (ks : List Nd) : Int := ks.foldl (fun s k => max s (levW k)) s
theorem levW_eq (t : Nd) : levW t = wrap64 (levL 0 t.ks + 1) := by
  cases t
  rw [levW, levL]
  simp only [Nd.ks]
  rw [List.foldl_attach (f := fun s k => max s (levW k))]
theorem levL_snoc (s : Int) (ks : List Nd) (k : Nat) (hk : k < ks.length) : levL s (ks.take (k + 1)) = max (levL s (ks.take k)) (levW ks[k]) := by
  rw [levL, levL, List.take_succ_eq_append_getElem hk, List.foldl_append]
  rfl
set_option maxHeartbeats 1000000 in
theorem refLevels_any (t : Nd) : ∀ (A : Option Addr) (cap : Nat) (w : World), Lies w A cap t.ks →
    Calls Tryz.prog 15 #[nv t.op t.so t.nm t.nu (.slice A t.ks.length cap)] w fun e w' => e = .returned (.int .i64 (levW t)) ∧ Below w.heap.size w w' := by
  induction t using Nd.ind with
  | h t ih =>
  intro A cap w hL
  have HW := Lib.hid (levW_eq t)
  have hn := hL.len
  unfold maxLen at hn
  have IH := Lib.hid ih
  clear ih
  have HL := Lib.hid hL
  clear hL
  generalize levW t = R at *
  generalize t.ks = ks at *
  go_enter Tryz.func15, Tryz.ntmps15
  go_wp2_with fail
  go_loopw [3, 9] (fun s i wr => ∃ k : Nat, k ≤ ks.length ∧ i = .int .i64 k ∧ s = .int .i64 (levL 0 (ks.take k)) ∧ Below w.heap.size w wr) (fun _ i wr => ks.length - (intOf i).toNat)
  case atStart => exact ⟨0, Nat.zero_le _, rfl, rfl, (Below.refl _ _).alloc (Nat.le_refl _) _⟩
  case round =>
    obtain ⟨k, hk, rfl, rfl, hB⟩ := hrel
    by_cases hlt : k < ks.length
    · obtain ⟨b, o, A', C', rfl, h5, hK⟩ := HL.out.kid hlt
      have HS := Lib.hid (levL_snoc 0 ks k hlt)
      have c := Lib.hid (IH.out k hlt A' C')
      have h5' := h5.later hB
      have hK' := Lib.hid (hK.later hB)
      generalize ks[k] = q at *
      obtain ⟨a0, a1, a2, a3, a4⟩ := h5'
      clear h5 hK IH HL
      go_wp2_with fail
      refine (c.out _ (hK'.out.later ((Below.refl _ _).alloc (Nat.le_refl _) _))).mono ?_
      rintro e w1 ⟨rfl, hb1⟩
      have hB1 : Below w.heap.size w w1 := (hB.alloc hB.size _).trans (hb1.mono (by have := hB.size; simp; omega))
      clear hb1
      go_wp2_with fail
      go_roundw
      case rel => exact ⟨k + 1, by omega, by go_num, by rw [HS.out, Int.max_def]; congr 1 <;> (split <;> split <;> omega), hB1⟩
      case measure => simp [intOf]; omega
    · go_wp2_with fail
      go_ret
      refine ⟨?_, hB⟩
      rw [HW.out, List.take_of_length_le (by omega)]
      rfl
end Go.Proofs.YtgkjcimgghflmaaGreatDoor
