/-
  What the document's has, at and truth return; conditions: the lists lie in memory, indices are ascending.
-/
import Derived.Test.YtmeeombadkgneaaGreatZEv1
namespace Go.Proofs.YtmeeombadkgneaaGreat
open Go.Proofs Go.RowKit Go.Shelf Go.Sort Go.Lib

attribute [local go_sem] Oper.semAt_some
set_option maxRecDepth 100000 in
set_option maxHeartbeats 4000000 in
theorem refHas_any (l : List Int) (n : Int) (A : Option Addr) (cap : Nat) (w : World) (hS : Ints w A l) (hl : l.length ≤ 100000) :
    Calls Tryz.prog 153 #[.slice A l.length cap, .int .i64 n] w fun e w' => e = .returned (.bool (decide (n ∈ l))) ∧ w = w' := by
  have HS := Lib.hid hS
  clear hS
  go_enter Tryz.func153, Tryz.ntmps153
  go_wp2_with fail
  go_loopw [9] (fun i wr => ∃ k : Nat, k ≤ l.length ∧ i = .int .i64 k ∧ Hid (∀ j (h : j < l.length), j < k → l[j] ≠ n) ∧ w = wr) (fun i _ => l.length - (intOf i).toNat)
  case atStart => exact ⟨0, Nat.zero_le _, rfl, fun j hj hjk => absurd hjk (by omega), rfl⟩
  case round =>
    obtain ⟨k, hk, rfl, hj, rfl⟩ := hrel
    by_cases hlt : k < l.length
    · obtain ⟨b, o, ha, hc⟩ := HS.out
      have ha := ha (by omega)
      have c0 := hc k hlt
      have hy := Lib.hid (fun (e : l[k] ≠ n) => (show Hid (∀ j (h : j < l.length), j < k + 1 → l[j] ≠ n) from fun j h h2 => by
        by_cases e' : j = k
        · subst e'; exact e
        · exact hj.out j h (by omega)))
      have hm := Lib.hid (fun (e : l[k] = n) => (show n ∈ l by rw [← e]; exact List.getElem_mem hlt))
      generalize l[k] = x at *
      clear hj hc
      rw [ha] at *
      by_cases hx : x = n
      · have hx' : (x == n) = true := by simp [hx]
        have Hr := Lib.hid (decide_eq_true (hm.out hx))
        clear hy hm hx
        go_wp2_with fail
        go_ret
        exact ⟨by rw [Hr.out]; rfl, rfl⟩
      · have hx' : (x == n) = false := by simp [hx]
        have Hn := hy.out hx
        clear hy hm hx
        go_wp2_with fail
        go_roundw
        case rel => exact ⟨k + 1, by omega, by go_num, Hn, by first | trivial | rfl⟩
        case measure => simp [intOf]; omega
    · have Hr := Lib.hid (show decide (n ∈ l) = false from decide_eq_false (fun hm => by
        obtain ⟨j, hj2, e⟩ := List.getElem_of_mem hm
        exact hj.out j hj2 (by omega) e))
      clear hj HS
      go_wp2_with fail
      go_ret
      exact ⟨by rw [Hr.out]; rfl, rfl⟩
theorem atI_hit {ix xs : List Int} {n : Int} (ha : AscI ix) (hlen : xs.length = ix.length) {k : Nat} (hk : k < ix.length) (e : ix[k] = n) : atI ix xs n = xs[k]'(by omega) := by
  have hm : n ∈ ix := by rw [← e]; exact List.getElem_mem hk
  have hp : plI ix n = k := plI_split n (by omega)
    (fun t ht htk => by rw [← e]; exact List.pairwise_iff_getElem.1 ha t k ht hk htk)
    (fun t ht htk => by
      by_cases h : k = t
      · subst h; omega
      · have := List.pairwise_iff_getElem.1 ha k t hk ht (by omega); omega)
  unfold atI
  rw [if_pos hm, hp, List.getD_eq_getElem?_getD, List.getElem?_eq_getElem (by omega)]
  rfl
set_option maxRecDepth 100000 in
set_option maxHeartbeats 4000000 in
theorem refAt_any (x : VA) (n : Int) (w : World) (hx : LiesV w x) (hl : x.v.ix.length ≤ 100000) (ha : AscI x.v.ix) (hlen : x.v.xs.length = x.v.ix.length) :
    Calls Tryz.prog 133 #[vv x, .int .i64 n] w fun e w' => e = .returned (.int .i64 (atI x.v.ix x.v.xs n)) ∧ Below w.heap.size w w' := by
  obtain ⟨W, hW⟩ : ∃ W, w.alloc (boxV x 27) = W := ⟨_, rfl⟩
  have HB := Lib.hid (show Below w.heap.size w W by rw [← hW]; exact (Below.refl _ _).alloc (Nat.le_refl _) _)
  have hrow : W.heap[w.heap.size]? = some (boxV x 27) := by rw [← hW]; exact heap_alloc_new _ _
  obtain ⟨z0, z1, z2, z3, z4, f0, f1, f2, f3, f4⟩ := boxT_facts hrow
  have HX := Lib.hid (hx.later HB.out)
  have HA := Lib.hid (show ∀ (k : Nat) (hk : k < x.v.ix.length) (h3 : k < x.v.xs.length), x.v.ix[k] = n → atI x.v.ix x.v.xs n = x.v.xs[k]'h3 from fun k hk h3 e => atI_hit ha hlen hk e)
  have HLEN := Lib.hid hlen
  have HW := Lib.hid hW
  have HN := Lib.hid (show (∀ j (h : j < x.v.ix.length), x.v.ix[j] ≠ n) → atI x.v.ix x.v.xs n = 0 from fun h => by
    unfold atI
    rw [if_neg (fun hm => by obtain ⟨j, hj, e⟩ := List.getElem_of_mem hm; exact h j hj e)])
  clear hx ha hlen hW hrow
  go_enter Tryz.func133, Tryz.ntmps133
  go_upto_region 1 with fail
  rw [HW.out]
  go_wp2_with fail
  go_loopw [10] (fun i wr => ∃ k : Nat, k ≤ x.v.ix.length ∧ i = .int .i64 k ∧ Hid (∀ j (h : j < x.v.ix.length), j < k → x.v.ix[j] ≠ n) ∧ W = wr) (fun i _ => x.v.ix.length - (intOf i).toNat)
  case atStart => exact ⟨0, Nat.zero_le _, rfl, fun j hj hjk => absurd hjk (by omega), rfl⟩
  case round =>
    obtain ⟨k, hk, rfl, hj, rfl⟩ := hrel
    by_cases hlt : k < x.v.ix.length
    · obtain ⟨b, o, hb, hc⟩ := HX.out.ix
      have hb := hb (by omega)
      have c0 := hc k hlt
      have h3 : k < x.v.xs.length := by rw [HLEN.out]; exact hlt
      obtain ⟨b3, o3, hb3, hc3⟩ := HX.out.xs
      have hb3 := hb3 (by omega)
      have d0 := hc3 k h3
      have hy := Lib.hid (fun (e : x.v.ix[k] ≠ n) => (show Hid (∀ j (h : j < x.v.ix.length), j < k + 1 → x.v.ix[j] ≠ n) from fun j h h2 => by
        by_cases e' : j = k
        · subst e'; exact e
        · exact hj.out j h (by omega)))
      have hat := Lib.hid (HA.out k hlt h3)
      generalize x.v.ix[k] = q at *
      generalize x.v.xs[k] = r at *
      clear hj hc hc3 HA HN
      rw [hb] at z3
      rw [hb3] at z4
      by_cases hx : q = n
      · have hx' : (q == n) = true := by simp [hx]
        have Hr := Lib.hid (hat.out hx)
        clear hy hat hx
        go_wp2_with fail
        go_ret
        exact ⟨by rw [Hr.out]; rfl, HB.out⟩
      · have hx' : (q == n) = false := by simp [hx]
        have Hn := hy.out hx
        clear hy hat hx
        go_wp2_with fail
        go_roundw
        case rel => exact ⟨k + 1, by omega, by go_num, Hn, by first | trivial | rfl⟩
        case measure => simp [intOf]; omega
    · have Hr := Lib.hid (HN.out fun j h => hj.out j h (by omega))
      clear hj HX HA HN
      go_wp2_with fail
      go_ret
      exact ⟨by rw [Hr.out]; rfl, HB.out⟩
set_option maxRecDepth 100000 in
set_option maxHeartbeats 4000000 in
theorem refTruth_yes (w : World) : Calls Tryz.prog 155 #[.bool true] w fun e w' => e = .returned (pv 2 1) ∧ Below w.heap.size w w' := by
  go_enter Tryz.func155, Tryz.ntmps155
  go_wp2_with fail
  exact bodyPost_ret (v := pv 2 1) (by simp [results, Tryz.results155, go_sem]) rfl ⟨rfl, (Below.refl _ _).alloc (Nat.le_refl _) _⟩
set_option maxRecDepth 100000 in
set_option maxHeartbeats 4000000 in
theorem refTruth_no (w : World) : Calls Tryz.prog 155 #[.bool false] w fun e w' => e = .returned (pv 2 0) ∧ Below w.heap.size w w' := by
  go_enter Tryz.func155, Tryz.ntmps155
  go_wp2_with fail
  exact bodyPost_ret (v := pv 2 0) (by simp [results, Tryz.results155, go_sem]) rfl ⟨rfl, (Below.refl _ _).alloc (Nat.le_refl _) _⟩
end Go.Proofs.YtmeeombadkgneaaGreat
