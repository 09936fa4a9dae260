/-
  What the document's own comparing of two nodes, the law's counting and logic's Equal return; conditions: none but that the trees lie in memory.
-/
import Derived.Test.YtmeeombadkgneaaGreatZBase
namespace Go.Proofs.YtmeeombadkgneaaGreat
open Go.RowKit

theorem less_self : ∀ l : List UInt8, Op.bytesLess l l = false
  | [] => rfl
  | a :: l => by rw [Op.bytesLess, less_self l]; simp

theorem cmpI_ne {a b : Int} (h : a ≠ b) : cmpI a b ≠ 0 := by
  unfold cmpI
  split
  · decide
  · split
    · decide
    · omega
theorem cmpI_self (a : Int) : cmpI a a = 0 := by simp [cmpI]
theorem cmpI_of_eq {a b : Int} (h : a = b) : cmpI a b = 0 := by rw [h, cmpI_self]

set_option maxHeartbeats 2000000 in
set_option maxRecDepth 100000 in
theorem refCompare_any (t : Nd) : ∀ (u : Nd) (A A' : Option Addr) (cap cap' : Nat) (w : World), Lies w A cap t.ks → Lies w A' cap' u.ks →
    Calls Tryz.prog 105 #[nv t.op t.so t.nm t.nu (.slice A t.ks.length cap), nv u.op u.so u.nm u.nu (.slice A' u.ks.length cap')] w fun e w' => e = .returned (.int .i64 (cmpN t u)) ∧ Below w.heap.size w w' := by
  induction t using Nd.ind with
  | h t ih =>
  intro u A A' cap cap' w hL hL'
  rw [cmpN_eq]
  have hn := hL.len
  have hn' := hL'.len
  unfold maxLen at hn hn'
  have IH := Lib.hid ih
  clear ih
  have HL := Lib.hid hL
  have HL' := Lib.hid hL'
  clear hL hL'
  generalize t.ks = ks at *
  generalize u.ks = ks' at *
  have HB : ∀ O O', Below w.heap.size w ((w.alloc O).alloc O') := fun O O' => ((Below.refl _ _).alloc (Nat.le_refl _) _).alloc (by simp) _
  by_cases h0 : t.op = u.op
  case neg =>
    have hc := beq_eq_false_iff_ne.2 (cmpI_ne h0)
    rw [if_pos h0]
    clear h0
    go_enter Tryz.func105, Tryz.ntmps105
    go_wp2_with (go_at_call 136; refine (sign_any _ _ _).mono ?_; rintro e w' ⟨rfl, rfl⟩)
    go_loopw [5, 6] (fun c i wr => c = .int .i64 (cmpI t.op u.op) ∧ Below w.heap.size w wr) (fun _ _ _ => 0)
    case atStart => exact ⟨rfl, HB _ _⟩
    case round =>
      obtain ⟨rfl, hB⟩ := hrel
      go_wp2_with fail
      go_ret
      exact ⟨rfl, hB⟩
  rw [if_neg (by simpa using h0)]
  have e0 := cmpI_of_eq h0
  clear h0
  by_cases h1 : t.so = u.so
  case neg =>
    have hc := beq_eq_false_iff_ne.2 (cmpI_ne h1)
    rw [if_pos h1]
    clear h1
    go_enter Tryz.func105, Tryz.ntmps105
    go_wp2_with (go_at_call 136; refine (sign_any _ _ _).mono ?_; rintro e w' ⟨rfl, rfl⟩)
    go_loopw [5, 6] (fun c i wr => c = .int .i64 (cmpI t.so u.so) ∧ Below w.heap.size w wr) (fun _ _ _ => 0)
    case atStart => exact ⟨rfl, HB _ _⟩
    case round =>
      obtain ⟨rfl, hB⟩ := hrel
      go_wp2_with fail
      go_ret
      exact ⟨rfl, hB⟩
  rw [if_neg (by simpa using h1)]
  have e1 := cmpI_of_eq h1
  clear h1
  by_cases h2 : t.nm.toList = u.nm.toList
  case neg =>
    have h2' : (t.nm.toList == u.nm.toList) = false := by simpa using h2
    rw [if_pos h2]
    clear h2
    unfold cmpS
    by_cases hl : Op.bytesLess t.nm.toList u.nm.toList = true
    · rw [if_pos hl]
      go_enter Tryz.func105, Tryz.ntmps105
      go_wp2_with (go_at_call 136; refine (sign_any _ _ _).mono ?_; rintro e w' ⟨rfl, rfl⟩)
      go_loopw [5, 6] (fun c i wr => c = .int .i64 (-1) ∧ Below w.heap.size w wr) (fun _ _ _ => 0)
      case atStart => exact ⟨rfl, HB _ _⟩
      case round =>
        obtain ⟨rfl, hB⟩ := hrel
        go_wp2_with fail
        go_ret
        exact ⟨rfl, hB⟩
    · have hl' : Op.bytesLess t.nm.toList u.nm.toList = false := by simpa using hl
      rw [if_neg hl, if_neg (by simpa using h2')]
      clear hl
      go_enter Tryz.func105, Tryz.ntmps105
      go_wp2_with (go_at_call 136; refine (sign_any _ _ _).mono ?_; rintro e w' ⟨rfl, rfl⟩)
      go_loopw [5, 6] (fun c i wr => c = .int .i64 (1) ∧ Below w.heap.size w wr) (fun _ _ _ => 0)
      case atStart => exact ⟨rfl, HB _ _⟩
      case round =>
        obtain ⟨rfl, hB⟩ := hrel
        go_wp2_with fail
        go_ret
        exact ⟨rfl, hB⟩
  have h2' : (t.nm.toList == u.nm.toList) = true := by simpa using h2
  have h2l : Op.bytesLess t.nm.toList u.nm.toList = false := by rw [h2, less_self]
  rw [if_neg (by simpa using h2)]
  clear h2
  by_cases h3 : t.nu = u.nu
  case neg =>
    have hc := beq_eq_false_iff_ne.2 (cmpI_ne h3)
    rw [if_pos h3]
    clear h3
    go_enter Tryz.func105, Tryz.ntmps105
    go_wp2_with (go_at_call 136; refine (sign_any _ _ _).mono ?_; rintro e w' ⟨rfl, rfl⟩)
    go_loopw [5, 6] (fun c i wr => c = .int .i64 (cmpI t.nu u.nu) ∧ Below w.heap.size w wr) (fun _ _ _ => 0)
    case atStart => exact ⟨rfl, HB _ _⟩
    case round =>
      obtain ⟨rfl, hB⟩ := hrel
      go_wp2_with fail
      go_ret
      exact ⟨rfl, hB⟩
  rw [if_neg (by simpa using h3)]
  have e3 := cmpI_of_eq h3
  clear h3
  by_cases h4 : ks.length = ks'.length
  case neg =>
    have hc := beq_eq_false_iff_ne.2 (cmpI_ne (a := ks.length) (b := ks'.length) (by omega))
    rw [if_pos h4]
    clear h4
    go_enter Tryz.func105, Tryz.ntmps105
    go_wp2_with (go_at_call 136; refine (sign_any _ _ _).mono ?_; rintro e w' ⟨rfl, rfl⟩)
    go_loopw [5, 6] (fun c i wr => c = .int .i64 (cmpI ks.length ks'.length) ∧ Below w.heap.size w wr) (fun _ _ _ => 0)
    case atStart => exact ⟨rfl, HB _ _⟩
    case round =>
      obtain ⟨rfl, hB⟩ := hrel
      go_wp2_with fail
      go_ret
      exact ⟨rfl, hB⟩
  rw [if_neg (by simpa using h4)]
  have e4 : cmpI ks.length ks'.length = 0 := cmpI_of_eq (by omega)
  have E4 := Lib.hid h4
  clear h4
  go_enter Tryz.func105, Tryz.ntmps105
  go_wp2_with (go_at_call 136; refine (sign_any _ _ _).mono ?_; rintro e w' ⟨rfl, rfl⟩)
  go_loopw [5, 6] (fun c i wr => ∃ (k : Nat) (z : Int), k ≤ ks.length ∧ c = .int .i64 z ∧ i = .int .i64 k ∧ Hid (cmpNs ks ks' = if z ≠ 0 then z else cmpNs (ks.drop k) (ks'.drop k)) ∧ Below (w.heap.size + 2) ((w.alloc (.cells #[.int .i64 t.op, .int .i64 t.so, .string t.nm, .int .i64 t.nu, .slice A ks.length cap] 44)).alloc (.cells #[.int .i64 u.op, .int .i64 u.so, .string u.nm, .int .i64 u.nu, .slice A' ks'.length cap'] 44)) wr) (fun _ i wr => ks.length - (intOf i).toNat)
  case atStart => exact ⟨0, 0, Nat.zero_le _, rfl, rfl, by simp [Hid], Below.refl _ _⟩
  case round =>
    obtain ⟨k, z, hk, rfl, rfl, hd, hB⟩ := hrel
    have b1 : wr.cell? ⟨w.heap.size, 4, none⟩ = some (.slice A ks.length cap) := (hB.cell (by simp)).trans (by simp [go_sem])
    have b2 : wr.cell? ⟨w.heap.size + 1, 4, none⟩ = some (.slice A' ks'.length cap') := (hB.cell (by simp)).trans (by simp [go_sem])
    have hBw : Below w.heap.size w wr := (HB _ _).trans (hB.mono (by omega))
    by_cases hz : z = 0
    case neg =>
      have hz' : (z == 0) = false := by simpa using hz
      have hz2 := Lib.hid hz
      clear hz
      go_wp2_with fail
      go_ret
      exact ⟨by rw [hd.out, if_pos hz2.out]; rfl, hBw⟩
    subst hz
    by_cases hlt : k < ks.length
    · have hlt' : k < ks'.length := by have := E4.out; omega
      obtain ⟨b, o, B1, C1, rfl, h5, hK⟩ := HL.out.kid hlt
      obtain ⟨b', o', B1', C1', rfl, h5', hK'⟩ := HL'.out.kid hlt'
      have HS := Lib.hid (cmpNs_drop hlt hlt')
      have c := Lib.hid (IH.out k hlt ks'[k] B1 B1' C1 C1')
      have g5 := h5.later hBw
      have gK := Lib.hid (hK.later hBw)
      have g5' := h5'.later hBw
      have gK' := Lib.hid (hK'.later hBw)
      generalize ks[k] = q at *
      generalize ks'[k] = q' at *
      obtain ⟨a0, a1, a2, a3, a4⟩ := g5
      obtain ⟨a0', a1', a2', a3', a4'⟩ := g5'
      clear h5 hK h5' hK' IH HL HL'
      have hBd : Below w.heap.size w wr.drew := hBw.drew
      go_wp2_with fail
      go_still_tail 10, (by kernel_rfl)
      change wpList _ _ _ _ _ wr.drew
      go_wp2_with fail
      refine (c.out _ (gK.out.later ((Below.refl _ _).drew)) (gK'.out.later ((Below.refl _ _).drew))).mono ?_
      rintro e w1 ⟨rfl, hb1⟩
      have hsz2 : w.heap.size + 2 ≤ wr.drew.heap.size := by
        have := hB.size
        simp at this ⊢
        omega
      have hB1 : Below (w.heap.size + 2) ((w.alloc (.cells #[.int .i64 t.op, .int .i64 t.so, .string t.nm, .int .i64 t.nu, .slice (some ⟨b, o, none⟩) ks.length cap] 44)).alloc (.cells #[.int .i64 u.op, .int .i64 u.so, .string u.nm, .int .i64 u.nu, .slice (some ⟨b', o', none⟩) ks'.length cap'] 44)) w1 :=
        (hB.drew).trans (hb1.mono hsz2)
      clear hb1 c gK gK'
      go_wp2_with fail
      go_roundw
      case rel => exact ⟨k + 1, cmpN q q', by omega, rfl, by go_num, by rw [hd.out, if_neg (by simp), HS.out]; exact rfl, hB1⟩
      case measure => simp [intOf]; omega
    · go_wp2_with fail
      go_ret
      exact ⟨by rw [hd.out, if_neg (by simp), List.drop_of_length_le (by omega), cmpNs.eq_2 _ _ (by simp)]; rfl, hBw⟩

/-- What is left of a number when the sizes of nodes are taken from it, as the code counts. -/
def leftOf (m : Int) (ns : List Nd) : Int := ns.foldl (fun s k => wrap64 (s - sizeW k)) m
theorem leftOf_snoc (m : Int) (ks : List Nd) (k : Nat) (hk : k < ks.length) : leftOf m (ks.take (k + 1)) = wrap64 (leftOf m (ks.take k) - sizeW ks[k]) := by
  rw [leftOf, leftOf, List.take_succ_eq_append_getElem hk, List.foldl_append]
  rfl

end Go.Proofs.YtmeeombadkgneaaGreat
