/-
  What product returns; conditions: the factors are within their bounds.
-/
import Derived.Test.YtmeeombadkgneaaGreatZEv1
namespace Go.Proofs.YtmeeombadkgneaaGreat
open Go.Proofs Go.RowKit Go.Shelf Go.Sort Go.Lib

attribute [local go_sem] Oper.semAt_some
/-- A product that fits, or a number that is too great. -/
def mulI (a b : Int) : Int := if -9223372036854775808 ≤ a * b ∧ a * b ≤ 9223372036854775807 then a * b else 9223372036854775807
theorem wrap64_in {n : Int} (h1 : -9223372036854775808 ≤ n) (h2 : n ≤ 9223372036854775807) : wrap64 n = n := by unfold wrap64; omega
/-- The test of a product: it tells whether the product fits. -/
theorem mul_test {a b p : Int} (h0 : a ≠ 0) (ha1 : -1000000000000 ≤ a) (ha2 : a ≤ 1000000000000) (hb1 : -1152921504606846976 ≤ b) (hb2 : b ≤ 1152921504606846976) (hp : IntKind.i64.wrap (a * b) = p) :
    ((wrap64 (p.tdiv a) != b) = true ∧ mulI a b = 9223372036854775807) ∨ ((wrap64 (p.tdiv a) != b) = false ∧ mulI a b = p) := by
  by_cases hf : -9223372036854775808 ≤ a * b ∧ a * b ≤ 9223372036854775807
  · right
    have hpe : p = a * b := by rw [← hp]; simp [IntKind.wrap, IntKind.bits, IntKind.signed]; omega
    refine ⟨?_, by unfold mulI; rw [if_pos hf, hpe]⟩
    rw [hpe, Int.mul_tdiv_cancel_left b h0, wrap64_in (by omega) (by omega)]
    simp
  · left
    refine ⟨?_, by unfold mulI; rw [if_neg hf]⟩
    rw [bne_iff_ne]
    intro hq
    have hpr : -9223372036854775808 ≤ p ∧ p ≤ 9223372036854775807 ∧ ∃ k : Int, a * b = p + k * 18446744073709551616 := by
      have h := hp
      simp [IntKind.wrap, IntKind.bits, IntKind.signed] at h
      refine ⟨by omega, by omega, (a * b + 9223372036854775808) / 18446744073709551616, by omega⟩
    obtain ⟨hp1, hp2, k, hk⟩ := hpr
    have hqa : (p.tdiv a).natAbs ≤ 9223372036854775808 := by
      rw [Int.natAbs_tdiv]
      exact Nat.le_trans (Nat.div_le_self p.natAbs a.natAbs) (by omega)
    have hqb : p.tdiv a = b := by
      by_cases e : p.tdiv a = 9223372036854775808
      · rw [e] at hq
        have : wrap64 9223372036854775808 = -9223372036854775808 := by unfold wrap64; omega
        omega
      · rw [wrap64_in (by omega) (by omega)] at hq
        exact hq
    have hdm := Int.mul_tdiv_add_tmod p a
    rw [hqb] at hdm
    have hr : (p.tmod a).natAbs < a.natAbs := by
      rw [Int.natAbs_tmod]
      exact Nat.mod_lt _ (by omega)
    omega
set_option maxRecDepth 100000 in
set_option maxHeartbeats 4000000 in
theorem product_any (a b : Int) (w : World) (ha1 : -1000000000000 ≤ a) (ha2 : a ≤ 1000000000000) (hb1 : -1152921504606846976 ≤ b) (hb2 : b ≤ 1152921504606846976) :
    Calls Tryz.prog 147 #[.int .i64 a, .int .i64 b] w fun e w' => e = .returned (.int .i64 (mulI a b)) ∧ w = w' := by
  by_cases h0 : a = 0
  · subst h0
    have e0 : mulI 0 b = 0 := by unfold mulI; simp
    have e1 : IntKind.i64.wrap 0 = 0 := by decide
    go_enter Tryz.func147, Tryz.ntmps147
    go_wp2_with fail
    go_ret
    exact ⟨by rw [e0]; first | rfl | (simp [e1]), rfl⟩
  have hne : (a != 0) = true := by simp [h0]
  have heq0 : (a == 0) = false := by simp [h0]
  have ht := mul_test h0 ha1 ha2 hb1 hb2 rfl
  generalize hp : IntKind.i64.wrap (a * b) = p at *
  clear ha1 ha2 hb1 hb2
  rcases ht with ⟨h1, h2⟩ | ⟨h1, h2⟩
  · have H2 := Lib.hid h2
    clear h2
    go_enter Tryz.func147, Tryz.ntmps147
    go_wp2_with fail
    go_ret
    exact ⟨by rw [H2.out]; rfl, rfl⟩
  · have H2 := Lib.hid h2
    clear h2
    go_enter Tryz.func147, Tryz.ntmps147
    go_wp2_with fail
    go_ret
    exact ⟨by rw [H2.out]; rfl, rfl⟩
end Go.Proofs.YtmeeombadkgneaaGreat
