/-
  What awake, the law's check of a small formula, returns: true; conditions: none.
-/
import Derived.Test.YtpjokapkoeclpaaVarsOne
namespace Go.Proofs.Ytpjokapkoeclpaa
open Go.RowKit Go.Shelf

def nX : ByteArray := ⟨#[120]⟩
def nE : ByteArray := ⟨#[]⟩
def tX : Nd := .mk 1 1 nX 0 []
def tOne : Nd := .mk 2 0 nE 1 []
/-- The formula x <= 1. -/
def tLe : Nd := .mk 38 0 nE 0 [tX, tOne]

theorem pre_le : preN 1 tLe = [(1, tLe), (2, tX), (2, tOne)] := by
  simp [tLe, tX, tOne, preN, preNs, wrap64]
theorem ok_le : ((preN 1 tLe).all fun p => okN p.2) = true := by
  rw [pre_le]
  decide +kernel
theorem uni_le : uniB ((preN 1 tLe).map Prod.snd) = true := by
  rw [pre_le]
  refine uniB_true ?_
  intro y hy z hz h
  simp only [List.map_cons, List.map_nil, List.mem_cons, List.not_mem_nil, or_false] at hy hz
  rcases hy with rfl | rfl | rfl <;> rcases hz with rfl | rfl | rfl <;> simp [conflict, isVar, isCon, tLe, tX, tOne, Nd.op, Nd.ks, Nd.so] at h
theorem lim_le : limB (preN 1 tLe) = true := by
  rw [pre_le]
  decide +kernel
theorem check_le : checkV tLe 2 = 0 := by
  unfold checkV
  rw [lim_le, ok_le, uni_le]
  decide
theorem cnt_le : cntW (preN 1 tLe).length = 3 := by
  rw [pre_le]
  decide +kernel
theorem any_le : anyVar ((preN 1 tLe).map Prod.snd) = true := by
  rw [pre_le]
  decide +kernel
theorem pv_le : ∀ p ∈ preN 1 tLe, PV nX 1 p.2 := by
  rw [pre_le]
  intro p hp
  simp only [List.mem_cons, List.not_mem_nil, or_false] at hp
  rcases hp with rfl | rfl | rfl <;> simp [PV, tLe, tX, tOne, Nd.op, Nd.nm, Nd.so]
theorem fine_le : Fine tLe := ⟨by decide, by decide, by decide, by decide⟩
theorem fine_x : Fine tX := ⟨by decide, by decide, by decide, by decide⟩
theorem fine_one : Fine tOne := ⟨by decide, by decide, by decide, by decide⟩

set_option maxRecDepth 100000 in
set_option maxHeartbeats 1000000 in
theorem awake_any (w : World) : Calls Try.prog 8 #[] w fun e w' => e = .returned (.bool true) ∧ Below w.heap.size w w' := by
  obtain ⟨W, hW⟩ : ∃ W, ((w.alloc (.cells #[.int .i64 1, .int .i64 1, .string ⟨#[120]⟩, .int .i64 0, .slice none 0 0] 24)).alloc (.cells #[.int .i64 1, .int .i64 1, .string ⟨#[120]⟩, .int .i64 0, .slice none 0 0, .int .i64 2, .int .i64 0, .string ⟨#[]⟩, .int .i64 1, .slice none 0 0] 24)).alloc (.cells #[.int .i64 38, .int .i64 0, .string ⟨#[]⟩, .int .i64 0, .slice (some ⟨w.heap.size + 1, 0, none⟩) 2 2] 24) = W := ⟨_, rfl⟩
  have hB : Below w.heap.size w W := by
    rw [← hW]
    exact (((Below.refl _ w).alloc (Nat.le_refl _) _).alloc (by simp) _).alloc (by simp; omega) _
  have leaf : ∀ W', Lies W' none 0 [] := fun W' => .mk none 0 [] (by simp) 0 0 (fun _ => none) (fun _ => 0) (fun h => by simp at h) (fun i h => by simp at h) (fun i h => by simp at h) (fun i h => by simp at h)
  have hL : Lies W (some ⟨w.heap.size + 1, 0, none⟩) 2 tLe.ks := by
    refine .mk _ _ _ (by decide) (w.heap.size + 1) 0 (fun _ => none) (fun _ => 0) (fun _ => rfl) ?_ ?_ ?_
    · intro i hi
      obtain rfl | rfl : i = 0 ∨ i = 1 := by have : tLe.ks.length = 2 := rfl; omega
      · show Five W (w.heap.size + 1) (0 + 0 * 5) tX (.slice none 0 0)
        rw [← hW]
        exact ⟨by simp [go_sem]; rfl, by simp [go_sem]; rfl, by simp [go_sem]; rfl, by simp [go_sem]; rfl, by simp [go_sem]⟩
      · show Five W (w.heap.size + 1) (0 + 1 * 5) tOne (.slice none 0 0)
        rw [← hW]
        exact ⟨by simp [go_sem]; rfl, by simp [go_sem]; rfl, by simp [go_sem]; rfl, by simp [go_sem]; rfl, by simp [go_sem]⟩
    · intro i hi
      obtain rfl | rfl : i = 0 ∨ i = 1 := by have : tLe.ks.length = 2 := rfl; omega
      · exact leaf W
      · exact leaf W
    · intro i hi
      obtain rfl | rfl : i = 0 ∨ i = 1 := by have : tLe.ks.length = 2 := rfl; omega
      · exact fine_x
      · exact fine_one
  have hF : Five W (w.heap.size + 1 + 1) 0 tLe (.slice (some ⟨w.heap.size + 1, 0, none⟩) 2 2) := by
    rw [← hW]
    exact ⟨by simp [go_sem]; rfl, by simp [go_sem]; rfl, by simp [go_sem]; rfl, by simp [go_sem]; rfl, by simp [go_sem]⟩
  have cells : ∀ W', Five W' (w.heap.size + 1 + 1) 0 tLe (.slice (some ⟨w.heap.size + 1, 0, none⟩) 2 2) → W'.cell? ⟨w.heap.size + 1 + 1, 0, none⟩ = some (.int .i64 38) ∧ W'.cell? ⟨w.heap.size + 1 + 1, 1, none⟩ = some (.int .i64 0) ∧ W'.cell? ⟨w.heap.size + 1 + 1, 2, none⟩ = some (.string ⟨#[]⟩) ∧ W'.cell? ⟨w.heap.size + 1 + 1, 3, none⟩ = some (.int .i64 0) ∧ W'.cell? ⟨w.heap.size + 1 + 1, 4, none⟩ = some (.slice (some ⟨w.heap.size + 1, 0, none⟩) 2 2) :=
    fun W' h => ⟨h.c0, h.c1, h.c2, h.c3, h.c4⟩
  have HL := Lib.hid hL
  have HF := Lib.hid hF
  have HC := Lib.hid cells
  have HB := Lib.hid hB
  have HW := Lib.hid hW
  clear hL hF cells hB hW leaf
  go_enter Try.func8, Try.ntmps8
  go_wp2_with fail
  rw [HW.out]
  have hc := check_any tLe 2 _ _ _ HL.out fine_le
  rw [check_le] at hc
  refine hc.mono ?_
  clear hc
  rintro e w1 ⟨rfl, hb1⟩
  have B1 := Lib.hid hb1
  obtain ⟨a0, a1, a2, a3, a4⟩ := HC.out _ (HF.out.later hb1)
  clear hb1
  go_wp2_with fail
  have hc := size_any tLe _ _ _ (HL.out.later B1.out) fine_le
  rw [cnt_le] at hc
  refine hc.mono ?_
  clear hc
  rintro e w2 ⟨rfl, hb2⟩
  have B2 := Lib.hid (B1.out.trans (hb2.mono B1.out.size))
  clear hb2 a0 a1 a2 a3 a4
  obtain ⟨a0, a1, a2, a3, a4⟩ := HC.out _ (HF.out.later B2.out)
  go_wp2_with fail
  have hc := vars_one tLe nX 1 _ _ _ (HL.out.later B2.out) fine_le pv_le
  rw [any_le] at hc
  refine hc.mono ?_
  clear hc
  rintro e w3 ⟨⟨A', cap', rfl⟩, hb3⟩
  have B3 := Lib.hid (B2.out.trans (hb3.mono B2.out.size))
  clear hb3 a0 a1 a2 a3 a4
  go_wp2_with fail
  go_ret
  exact ⟨rfl, HB.out.trans (B3.out.mono HB.out.size)⟩
end Go.Proofs.Ytpjokapkoeclpaa
