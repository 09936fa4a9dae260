/-
  What package logic's Conjuncts returns: the parts that And joins, but no True, copied; conditions: the tree lies in memory and has few nodes.
-/
import Derived.Test.YtbadegimohdfeaaRoundAny
import Derived.Test.YtbadegimohdfeaaApps
namespace Go.Proofs.Ytbadegimohdfeaa
open Go.RowKit Go.Shelf

attribute [local go_sem] Oper.semAt_some
theorem Lies.congr {W1 W2 : World} (h : ∀ a v, W1.cell? a = some v → W2.cell? a = some v) {A : Option Addr} {cap : Nat} {ks : List Nd} (hL : Lies W1 A cap ks) : Lies W2 A cap ks := by
  induction hL with
  | mk A cap ks hcap b o A' C' hA h5 hk hf ih => exact .mk A cap ks hcap b o A' C' hA (fun i hi => ⟨h _ _ (h5 i hi).c0, h _ _ (h5 i hi).c1, h _ _ (h5 i hi).c2, h _ _ (h5 i hi).c3, h _ _ (h5 i hi).c4⟩) (fun i hi => ih i hi) hf
/-- Something that holds no cells has changed. -/
theorem Rob.kept {n0 : Nat} {w w' : World} {row row' : Option Nat} {A : Option Addr} {cap : Nat} {ks : List Nd} (h : Rob n0 w row A cap ks) (hg : w.grownBy w' row') (hr : ∀ r, row' = some r → ∃ o : Obj, w.heap[r]? = some o ∧ o.isCells = false) : Rob n0 w' row A cap ks := by
  intro W hW
  cases row' with
  | none => exact h W fun k h1 h2 h3 => (hW k h1 (Nat.lt_of_lt_of_le h2 hg.size) h3).trans (hg.block k h2 (by simp))
  | some r =>
    obtain ⟨o, ho, hc⟩ := hr r rfl
    have hrw := (Array.getElem?_eq_some_iff.1 ho).1
    by_cases hcase : n0 ≤ r ∧ some r ≠ row ∧ r < W.heap.size
    · have hL := h (W.putObj r o) (fun k h1 h2 h3 => by
        by_cases e : k = r
        · subst e
          rw [ho]
          simp [World.putObj, hcase.2.2]
        · exact (World.putObj_heap_other e).trans ((hW k h1 (Nat.lt_of_lt_of_le h2 hg.size) h3).trans (hg.block k h2 (fun q => e (by cases q; rfl)))))
      refine hL.congr fun a v ha => ?_
      by_cases e : a.block = r
      · have : (W.putObj r o).heap[a.block]? = some o := by rw [e]; simp [World.putObj, hcase.2.2]
        unfold World.cell? at ha
        rw [this] at ha
        cases o <;> simp [Obj.isCells] at hc ha
      · exact (World.cell?_of_block (w := W) (w' := W.putObj r o) (World.putObj_heap_other e)).symm.trans ha
    · refine h W fun k h1 h2 h3 => ?_
      by_cases e : k = r
      · subst e
        have h4 := hW k h1 (Nat.lt_of_lt_of_le h2 hg.size) h3
        have : k < w'.heap.size := Nat.lt_of_lt_of_le h2 hg.size
        rw [Array.getElem?_eq_getElem this] at h4
        exact absurd ⟨h1, h3, (Array.getElem?_eq_some_iff.1 h4).1⟩ hcase
      · exact (hW k h1 (Nat.lt_of_lt_of_le h2 hg.size) h3).trans (hg.block k h2 (fun q => e (by cases q; rfl)))
theorem Grows.kept {n0 : Nat} {w w' : World} {v : Value} {xs : List NdA} {row' : Option Nat} (h : Grows n0 w v xs) (hg : w.grownBy w' row') (hr : ∀ r, row' = some r → ∃ o : Obj, w.heap[r]? = some o ∧ o.isCells = false) : Grows n0 w' v xs :=
  ⟨ownsRow_kept h.row hg hr, fun x hx => (h.kids x hx).kept hg hr, h.fine⟩

theorem Rob.setRow {n0 : Nat} {w : World} {row : Option Nat} {A : Option Addr} {cap : Nat} {ks : List Nd} (h : Rob n0 w row A cap ks) {p : Addr} (hp : p.block < n0) (u : Value) : Rob n0 (w.setCell p u) row A cap ks :=
  fun W hW => h W fun k h1 h2 h3 => (hW k h1 (by simpa [World.setCell] using h2) h3).trans (heap_setCell_other w p k u (by omega))

def conjOf {w0 : World} (pre : List (ElS w0)) : List Nd := (pre.map (·.1.t)).filter (fun y => y.op != 30)
theorem conjOf_snoc {w0 : World} (pre : List (ElS w0)) (x : ElS w0) : conjOf (pre ++ [x]) = if x.1.t.op = 30 then conjOf pre else conjOf pre ++ [x.1.t] := by
  unfold conjOf
  rw [List.map_append, List.filter_append]
  by_cases h : x.1.t.op = 30
  · rw [if_pos h]; simp [h]
  · rw [if_neg h]; simp [h]
theorem conjOf_len {w0 : World} (pre : List (ElS w0)) : (conjOf pre).length ≤ pre.length := by
  unfold conjOf
  exact Nat.le_trans (List.length_filter_le _ _) (by simp)
/-- The row of copies in the variable in block N. -/
def CopiesAt (N base : Nat) (ks : List Nd) (W : World) : Prop := ∃ v xs, W.cell? ⟨N, 0, none⟩ = some v ∧ W.frozen? ⟨N, 0, none⟩ = false ∧ Grows base W v xs ∧ xs.map (·.1) = ks
theorem CopiesAt.kept {N base : Nat} {ks : List Nd} {A B : World} {row : Option Nat} (h : CopiesAt N base ks A) (hg : A.grownBy B row) (hr : ∀ r, row = some r → ∃ o : Obj, A.heap[r]? = some o ∧ o.isCells = false) : CopiesAt N base ks B := by
  obtain ⟨v, xs, h1, h2, h3, h4⟩ := h
  exact ⟨v, xs, cell_kept h1 hg hr, (frozen_kept h1 hg hr).trans h2, h3.kept hg hr, h4⟩

theorem setCell_comm (w : World) (p q : Addr) (u v : Value) (h : p.block ≠ q.block) : (w.setCell p u).setCell q v = (w.setCell q v).setCell p u := by
  unfold World.setCell
  simp only
  congr 1
  apply Array.ext
  · simp
  · intro k h1 h2
    simp only [Array.getElem_modify]
    by_cases e1 : p.block = k
    · by_cases e2 : q.block = k
      · exact absurd (e1.trans e2.symm) h
      · simp [e1, e2]
    · by_cases e2 : q.block = k
      · simp [e1, e2]
      · simp [e1, e2]
theorem setAt_comm (w : World) (b o : Nat) (c0 c1 c2 c3 c4 : Value) (p : Addr) (v : Value) (h : p.block ≠ b) : setAt (w.setCell p v) b o c0 c1 c2 c3 c4 = (setAt w b o c0 c1 c2 c3 c4).setCell p v := by
  unfold setAt
  rw [setCell_comm w p ⟨b, o, none⟩ v c0 h, setCell_comm _ p ⟨b, o + 1, none⟩ v c1 h, setCell_comm _ p ⟨b, o + 2, none⟩ v c2 h, setCell_comm _ p ⟨b, o + 3, none⟩ v c3 h, setCell_comm _ p ⟨b, o + 4, none⟩ v c4 h]

/-- A zero node has been put behind a row, and a copy will be stored there. -/
def StepAt (N m₀ base : Nat) (w W Wp : World) (v : Value) (ys : List NdA) (x : NdA) (zb g cap : Nat) (Wa : World) : Prop :=
  ((Builtin.append_ #[22, 22] 22 #[v, .slice (some ⟨zb, 0, none⟩) 1 1]).run Try.prog Wp = .ok (.slice (some ⟨g, 0, none⟩) (ys.length + 1) cap) Wa) ∧
  (∀ j, j < 5 → (Wa.cell? ⟨g, ys.length * 5 + j, none⟩).isSome = true) ∧ (∀ j, Wa.frozen? ⟨g, j, none⟩ = false) ∧ Wa.cell? ⟨N, 0, none⟩ = some v ∧ Wa.frozen? ⟨N, 0, none⟩ = false ∧ g ≠ N ∧
  ∀ W9, W9 = (setAt Wa g (ys.length * 5) (.int .i64 x.1.op) (.int .i64 x.1.so) (.string x.1.nm) (.int .i64 x.1.nu) (.slice x.2.1 x.1.ks.length x.2.2)).setCell ⟨N, 0, none⟩ (.slice (some ⟨g, 0, none⟩) (ys.length + 1) cap) →
    KeepsFrom m₀ W W9 ∧ KpO N w.heap.size m₀ W W9 ∧ CopiesAt N base (ys.map (·.1) ++ [x.1]) W9 ∧ Below w.heap.size w W9

set_option maxHeartbeats 1000000 in
theorem copies_step {N m₀ base : Nat} {w W Wp : World} {v : Value} {ys : List NdA} {x : NdA} {zb : Nat} (hB : Below w.heap.size w W) (hNw : w.heap.size ≤ N) (hNm : N < m₀) (hNb : N < base) (hbW : base ≤ W.heap.size)
    (hr : W.cell? ⟨N, 0, none⟩ = some v) (hf : W.frozen? ⟨N, 0, none⟩ = false) (hg : Grows base W v ys) (hWp : Below W.heap.size W Wp) (hzb : Wp.heap[zb]? = some (.cells zero5 24 (0, 0))) (hrob : Rob W.heap.size Wp none x.2.1 x.2.2 x.1.ks) (hfx : Fine x.1) (hl : ys.length ≤ 1048576) :
    ∃ g cap Wa, StepAt N m₀ base w W Wp v ys x zb g cap Wa := by
  obtain ⟨i0, hi, hz0, hz1, hz2⟩ := info_parts info24
  have hgp := hg.later hWp
  have hnews : ∀ j u, zero5.toList[j]? = some u → Wp.cell? ((⟨zb, 0, none⟩ : Addr).add j) = some u := fun j u hj => by
    rw [Addr.add_lit]
    rw [Array.getElem?_toList] at hj
    simp [World.cell?, hzb, hj]
  obtain ⟨v', Wa, hrun, hown, hgrow, _, hor⟩ := run_append_own_at (P := Try.prog) Wp base 22 22 24 i0 _ 5 64 Try.underlying22 hi hz0 hz1 hz2 rfl (by decide) v ys.length (flatN ys) hgp.row ⟨zb, 0, none⟩ 1 1 zero5.toList rfl hnews (by simp [Value.oneCell']) (by unfold maxLen; omega) (by omega) (Nat.le_trans hbW hWp.size)
  rcases hown.2 with ⟨_, h0⟩ | ⟨g, cap, cur, rfl, hbg, hgg, hnc, hcm, hcs, htk⟩
  · omega
  have hlf := flatN_len ys
  have hgN : g ≠ N := by omega
  have hNW := World.block_lt_of_cell? _ _ hr
  have hNWp : N < Wp.heap.size := Nat.lt_of_lt_of_le hNW hWp.size
  have hoN : some N ≠ v.ownBlock := fun e => by have := (ownsRow_own hg.row e.symm).1; omega
  have hNa : Wa.heap[N]? = W.heap[N]? := (hgrow.block N hNWp hoN).trans (hWp.block N hNW)
  have hgr : W.grownBy Wa v.ownBlock := grownBy_trans (grownBy_of_below hWp _) hgrow
  have hgown : some g = v.ownBlock ∨ W.heap.size ≤ g := by
    rcases hor with h | h
    · exact .inl h
    · simp only [Value.ownBlock, Option.some.injEq] at h
      exact .inr (by have := hWp.size; omega)
  refine ⟨g, cap, Wa, hrun, fun j hj => ?_, fun j => by simp [World.frozen?, hgg], (World.cell?_of_block (w := W) (w' := Wa) (a := ⟨N, 0, none⟩) hNa).trans hr, (World.frozen?_of_block (w := W) (w' := Wa) (a := ⟨N, 0, none⟩) hNa).trans hf, hgN, ?_⟩
  · have : ys.length * 5 + j < cur.size := by rw [hcs]; omega
    simp [World.cell?, hgg, this]
  rintro W9 rfl
  generalize hWs : setAt Wa g (ys.length * 5) (.int .i64 x.1.op) (.int .i64 x.1.so) (.string x.1.nm) (.int .i64 x.1.nu) (.slice x.2.1 x.1.ks.length x.2.2) = Ws
  have hso : ∀ k, k ≠ g → Ws.heap[k]? = Wa.heap[k]? := fun k hk => by rw [← hWs]; exact setAt_other _ _ _ _ _ hk
  have hss : Ws.heap.size = Wa.heap.size := by rw [← hWs]; exact setAt_size _ _ _ _ _ _ _ _
  have hsg : Ws.heap[g]? = some (.cells (((((cur.setIfInBounds (ys.length * 5) (.int .i64 x.1.op)).setIfInBounds (ys.length * 5 + 1) (.int .i64 x.1.so)).setIfInBounds (ys.length * 5 + 2) (.string x.1.nm)).setIfInBounds (ys.length * 5 + 3) (.int .i64 x.1.nu)).setIfInBounds (ys.length * 5 + 4) (.slice x.2.1 x.1.ks.length x.2.2)) 24 (0, 0)) := by
    rw [← hWs]; exact setAt_same _ _ _ _ _ hgg
  have hrow : Ws.ownsRow base 24 5 (.slice (some ⟨g, 0, none⟩) (ys.length + 1) cap) (ys ++ [x]).length (flatN (ys ++ [x])) := by
    refine ⟨flatN_len _, .inr ⟨g, cap, _, by simp, hbg, hsg, by simpa using hnc, hcm, by simpa using hcs, ?_⟩⟩
    have hs' : cur.toList.length = cap * 5 := by rw [Array.length_toList]; exact hcs
    have htk' : cur.toList.take (ys.length * 5) = flatN ys := by
      have := congrArg (List.take (ys.length * 5)) htk
      rw [List.take_take, Nat.min_eq_left (by omega), List.take_left' hlf] at this
      exact this
    rw [flatN_snoc, ← htk', List.length_append]
    simp only [Array.toList_setIfInBounds, List.length_singleton]
    rw [Nat.add_mul, Nat.one_mul, take_set5 _ _ (by rw [hs']; omega)]
    rfl
  have hgs : W.grownBy Ws v.ownBlock := ⟨by rw [← hWs]; exact hgr.os, by rw [← hWs]; exact hgr.tape, by rw [← hWs]; exact hgr.output, by rw [hss]; exact hgr.size, fun k hk hkr => (hso k (fun e => by
    subst e
    rcases hgown with h | h
    · exact hkr h
    · omega)).trans (hgr.block k hk hkr)⟩
  obtain ⟨k1, k2, k3, k4, k5, k6⟩ := round_kept hB hNw hNm hNb hr hf hg.row hrow hgs (hor.imp id (fun h => ⟨g, rfl, by
    simp only [Value.ownBlock, Option.some.injEq] at h
    have := hWp.size
    omega⟩))
  refine ⟨k1, k2, ⟨_, ys ++ [x], k3, k4, ⟨k5, fun y hy => ?_, fun y hy => ?_⟩, by rw [List.map_append]; rfl⟩, k6⟩
  · have rob : ∀ {A : Option Addr} {c : Nat} {ks : List Nd}, Rob base Wp v.ownBlock A c ks → Rob base (Ws.setCell ⟨N, 0, none⟩ (.slice (some ⟨g, 0, none⟩) (ys.length + 1) cap)) (some g) A c ks := fun hq => by
      have h1 : Rob base Wa (some g) _ _ _ := hq.grown hgrow (hor.imp id id)
      have h2 : Rob base Ws (some g) _ _ _ := fun W' hW' => h1 W' fun k a b c => (hW' k a (by rw [hss]; exact b) c).trans (hso k (fun e => c (by rw [e])))
      exact h2.setRow (p := ⟨N, 0, none⟩) hNb _
    rcases List.mem_append.1 hy with hy | hy
    · exact rob (hgp.kids y hy)
    · simp at hy
      subst hy
      exact rob (hrob.newNone (fun r e => (ownsRow_own hg.row e).2.1) hbW)
  · rcases List.mem_append.1 hy with hy | hy
    · exact hg.fine y hy
    · simp at hy
      subst hy
      exact hfx
end Go.Proofs.Ytbadegimohdfeaa
