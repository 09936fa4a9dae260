/-
  What the document's own Conjuncts returns; conditions: the tree lies in memory and has few nodes.
-/
import Derived.Test.YtbadegimohdfeaaParts
import Derived.Test.YtbadegimohdfeaaPut
namespace Go.Proofs.Ytbadegimohdfeaa
open Go.RowKit Go.Shelf

attribute [local go_sem] Oper.semAt_some
/-- The parts, but no True. -/
def conjR (t : Nd) : List Nd := (partsL t).filter fun y => y.op != 30
theorem conjR_true {t : Nd} (h : t.op = 30) : conjR t = [] := by
  unfold conjR
  rw [partsL_one (by rw [h]; decide)]
  simp [h]
theorem conjR_one {t : Nd} (h : t.op ≠ 30) (h' : t.op ≠ 33) : conjR t = [t] := by
  unfold conjR
  rw [partsL_one h']
  simp [h]
theorem conjR_and {t : Nd} (h : t.op = 33) : conjR t = t.ks.flatMap conjR := by
  unfold conjR
  rw [partsL_and h, List.filter_flatMap]
theorem conjR_len (t : Nd) : (conjR t).length ≤ (nodesOf t).length := by
  induction t using Nd.ind with
  | h t ih =>
  by_cases h : t.op = 33
  · rw [conjR_and h, nodesOf_eq, List.length_cons, List.length_flatMap, List.length_flatMap]
    have : ∀ l : List Nd, (∀ k ∈ l, (conjR k).length ≤ (nodesOf k).length) → (l.map fun k => (conjR k).length).sum ≤ (l.map fun k => (nodesOf k).length).sum := by
      intro l
      induction l with
      | nil => intro _; simp
      | cons x xs ihx =>
        intro hk
        have h1 := hk x (by simp)
        have h2 := ihx (fun k hk' => hk k (by simp [hk']))
        simp only [List.map_cons, List.sum_cons]
        omega
    have := this t.ks (fun k hk => by
      obtain ⟨i, hi, rfl⟩ := List.getElem_of_mem hk
      exact ih i hi)
    omega
  · have h1 : (conjR t).length ≤ 1 := by
      unfold conjR
      rw [partsL_one h]
      exact Nat.le_trans (List.length_filter_le _ _) (by simp)
    have h2 : 1 ≤ (nodesOf t).length := by rw [nodesOf_eq]; simp
    omega

/-- A function returns a row of nodes of its own, and their kids lie in new memory. -/
def RetG (w : World) (ks : List Nd) (e : Ending) (w' : World) : Prop := ∃ v xs, e = .returned v ∧ Grows w.heap.size w' v xs ∧ xs.map (·.1) = ks ∧ Below w.heap.size w w'
theorem ownsRow_lower {w : World} {b b' : Nat} {E : TypeId} {k : Nat} {v : Value} {n : Nat} {xs : List Value} (h : w.ownsRow b E k v n xs) (hb : b' ≤ b) : w.ownsRow b' E k v n xs :=
  ⟨h.1, h.2.imp id (fun ⟨g, cap, cur, hv, h1, rest⟩ => ⟨g, cap, cur, hv, Nat.le_trans hb h1, rest⟩)⟩
theorem Grows.lower {n0 n1 : Nat} {w : World} {v : Value} {xs : List NdA} (h : Grows n0 w v xs) (hn : n1 ≤ n0) : Grows n1 w v xs :=
  ⟨ownsRow_lower h.row hn, fun x hx => (h.kids x hx).lower hn, h.fine⟩
/-- What the blocks from n2 on hold has not changed. -/
def Held (n2 : Nat) (w3 w : World) : Prop := ∀ k, n2 ≤ k → k < w3.heap.size → w.heap[k]? = w3.heap[k]?
theorem Held.below {n2 : Nat} {w3 w w' : World} (h : Held n2 w3 w) (hs : w3.heap.size ≤ w.heap.size) (hb : Below w.heap.size w w') : Held n2 w3 w' :=
  fun k h1 h2 => (hb.block k (by omega)).trans (h k h1 h2)
theorem Held.grown {n2 : Nat} {w3 w w' : World} {row : Option Nat} (h : Held n2 w3 w) (hs : w3.heap.size ≤ w.heap.size) (hg : w.grownBy w' row) (hr : ∀ r, row = some r → r < n2 ∨ w3.heap.size ≤ r) : Held n2 w3 w' :=
  fun k h1 h2 => (hg.block k (by omega) (fun e => by have := hr k e.symm; omega)).trans (h k h1 h2)
/-- An element of a row that is held. -/
theorem Held.elem {n2 n0 : Nat} {w3 w : World} {v2 : Value} {xs2 : List NdA} (h : Held n2 w3 w) (hg : Grows n2 w3 v2 xs2) (hn : n0 ≤ n2) (hs : w3.heap.size ≤ w.heap.size) {row : Option Nat} (hr : ∀ r, row = some r → r < n2 ∨ w3.heap.size ≤ r) {x : NdA} (hx : x ∈ xs2) : Rob n0 w row x.2.1 x.2.2 x.1.ks :=
  fun W hW => hg.kids x hx W fun k h1 h2 _ => (hW k (by omega) (by omega) (fun e => by have := hr k e.symm; omega)).trans (h k h1 h2)

theorem row_cells5 {w : World} {n0 : Nat} {A : Option Addr} {len c : Nat} {xs : List NdA} (h : w.ownsRow n0 24 5 (.slice A len c) xs.length (flatN xs)) {n : Nat} (hn : n < xs.length) :
    ∃ g, A = some ⟨g, 0, none⟩ ∧ n0 ≤ g ∧ g < w.heap.size ∧ ∀ W : World, W.heap[g]? = w.heap[g]? → Five W g (n * 5) xs[n].1 (.slice xs[n].2.1 xs[n].1.ks.length xs[n].2.2) := by
  rcases h.2 with ⟨_, h0⟩ | ⟨g, cap, cur, hv, h1, h2, _, _, _, h6⟩
  · omega
  · cases hv
    refine ⟨g, rfl, h1, (Array.getElem?_eq_some_iff.1 h2).1, fun W hW => ?_⟩
    have hc : ∀ j, j < 5 → W.cell? ⟨g, n * 5 + j, none⟩ = (cells5 xs[n])[j]? := fun j hj => by
      have := flatN_at xs n hn j hj
      rw [← h6, List.getElem?_take_of_lt (by omega)] at this
      rw [← this]
      simp [World.cell?, hW.trans h2]
    exact ⟨hc 0 (by omega), hc 1 (by omega), hc 2 (by omega), hc 3 (by omega), hc 4 (by omega)⟩

set_option maxRecDepth 100000 in
set_option maxHeartbeats 4000000 in
theorem refConj_any (t : Nd) : ∀ (A : Option Addr) (cap : Nat) (w : World), Lies w A cap t.ks → Fine t → Short t → (nodesOf t).length ≤ 1048576 →
    Calls Try.prog 30 #[nv t.op t.so t.nm t.nu (.slice A t.ks.length cap)] w (RetG w (conjR t)) := by
  induction t using Nd.ind with
  | h t ih =>
  intro A cap w hL hfine hsh hcnt
  have HB1 : Below w.heap.size w (w.alloc (boxO t (.slice A t.ks.length cap))) := (Below.refl _ _).alloc (Nat.le_refl _) _
  have HL := Lib.hid hL
  have HBx := Lib.hid HB1
  by_cases h0 : t.op = 30
  · have Hr := Lib.hid (conjR_true h0)
    have h0' : (t.op == 30) = true := by simpa using h0
    clear h0 hL ih
    rw [Hr.out]
    go_enter Try.func30, Try.ntmps30
    go_wp2_with fail
    go_ret
    exact ⟨.slice none 0 0, [], rfl, Grows.nil _ _, rfl, HBx.out⟩
  by_cases h1 : t.op = 33
  case neg =>
    have Hr := Lib.hid (conjR_one h0 h1)
    have h0' : (t.op == 30) = false := by simpa using h0
    have h1' : (t.op != 33) = true := by simpa using h1
    have S := Lib.hid (same_any t A cap _ (hL.later HB1) hfine hsh)
    clear h0 h1 hL ih HB1
    rw [Hr.out]
    go_enter Try.func30, Try.ntmps30
    go_wp2_with fail
    refine S.out.mono ?_
    rintro e w1 ⟨A2, c2, rfl, hrob, hFu, hb⟩
    have HR := Lib.hid hrob
    have HB := Lib.hid (HBx.out.trans (hb.mono HBx.out.size))
    have hs1 := HB.out.size
    have hs2 := hb.size
    clear hrob hb
    go_wp2_with fail
    go_ret
    refine ⟨.slice (some ⟨w1.heap.size, 0, none⟩) 1 1, [(t, A2, c2)], rfl, ⟨ownsRow_lower (ownsRow_one w1 (t, A2, c2)) hs1, fun x hx => ?_, fun x hx => ?_⟩, rfl, HB.out.alloc HB.out.size _⟩
    · simp at hx
      subst hx
      exact fun W hW => HR.out W (fun k h1 h2 _ => (hW k (by simp at h1; omega) (by simp; omega) (fun e => by simp [Value.ownBlock] at e; omega)).trans (Below.heap_alloc _ _ _ h2))
    · simp at hx
      subst hx
      exact hFu
  have Hr := Lib.hid (conjR_and h1)
  have h0' : (t.op == 30) = false := by simpa using h0
  have h1' : (t.op != 33) = false := by simpa using h1
  clear h0 h1
  have hn := hL.len
  unfold maxLen at hn
  have IH := Lib.hid ih
  have HSH := Lib.hid hsh
  have hw0 : (w.alloc (boxO t (.slice A t.ks.length cap))).heap.size = w.heap.size + 1 := by simp
  obtain ⟨i0, hi, hz0, hz1, hz2⟩ := info_parts info24
  have I0 := Lib.hid hi
  have Z0 := Lib.hid hz0
  have Z1 := Lib.hid hz1
  have Z2 := Lib.hid hz2
  have hfl : ∀ k, k ≤ t.ks.length → ((t.ks.take k).flatMap conjR).length ≤ 1048576 := fun k hk => by
    have h1 := conjR_len t
    rw [Hr.out] at h1
    have h2 : ((t.ks.take k).flatMap conjR).length ≤ (t.ks.flatMap conjR).length := by
      rw [← List.take_append_drop k t.ks, List.flatMap_append, List.length_append]
      simp only [List.take_append_drop]
      omega
    omega
  have hkc : ∀ i (hi : i < t.ks.length), (nodesOf t.ks[i]).length ≤ 1048576 := fun i hi => by
    have := cnt_kid (List.getElem_mem hi)
    unfold cnt at this
    omega
  have HFL := Lib.hid hfl
  have HKC := Lib.hid hkc
  clear hi hz0 hz1 hz2 ih hsh hL hfl hkc
  go_enter Try.func30, Try.ntmps30
  go_wp2_with fail
  generalize w.alloc (boxO t (.slice A t.ks.length cap)) = W0 at *
  go_loopw [3, 20] (fun o i wr => ∃ k : Nat, k ≤ t.ks.length ∧ i = .int .i64 k ∧ Hid (∃ xs, Grows (w.heap.size + 1) wr o xs ∧ xs.map (·.1) = (t.ks.take k).flatMap conjR) ∧ Below W0.heap.size W0 wr) (fun _ i _ => t.ks.length - (intOf i).toNat)
  case atStart => exact ⟨0, Nat.zero_le _, rfl, ⟨[], Grows.nil _ _, rfl⟩, Below.refl _ _⟩
  case round =>
    obtain ⟨k, hk, rfl, ⟨xs, hG, hxs⟩, hB⟩ := hrel
    have hBw : Below w.heap.size w wr := HBx.out.trans (hB.mono (by omega))
    have HG := Lib.hid hG
    have HXS := Lib.hid hxs
    have hszr := hB.size
    have HBr := Lib.hid hB
    have HBW := Lib.hid hBw
    clear hG hxs hB
    by_cases hlt : k < t.ks.length
    · obtain ⟨b, o', A', C', rfl, g5, hK⟩ := HL.out.kid hlt
      obtain ⟨a0, a1, a2, a3, a4⟩ := g5.later hBw
      have c := Lib.hid (IH.out k hlt A' C' (wr.alloc (boxO t.ks[k] (.slice A' t.ks[k].ks.length C'))) (hK.later (hBw.alloc hBw.size _)) (HL.out.fine hlt) (HSH.out.kid hlt) (HKC.out k hlt))
      have htk := Lib.hid (show (t.ks.take (k + 1)).flatMap conjR = (t.ks.take k).flatMap conjR ++ conjR t.ks[k] from by rw [List.take_succ_eq_append_getElem hlt, List.flatMap_append]; simp)
      have hfk := HFL.out (k + 1) (by omega)
      rw [htk.out, List.length_append, ← HXS.out, List.length_map] at hfk
      generalize t.ks[k] = q at *
      clear g5 hK hBw
      go_wp2_with fail
      refine c.out.mono ?_
      rintro e w3 ⟨v2, xs2, rfl, hG2, hx2, hb3⟩
      have hs3 := hb3.size
      simp only [World.size_alloc] at hs3
      have hl2 : xs2.length = (conjR q).length := by rw [← hx2, List.length_map]
      rw [World.size_alloc] at hG2
      have hvv : ∃ A2 c2, v2 = .slice A2 xs2.length c2 := by
        rcases hG2.row.2 with ⟨h1, h2⟩ | ⟨g, c, cur, h1, _⟩
        · exact ⟨none, 0, by rw [h1, h2]⟩
        · exact ⟨_, _, h1⟩
      obtain ⟨A2, c2, rfl⟩ := hvv
      have hb4 : Below wr.heap.size wr w3 := ((Below.refl _ _).alloc (Nat.le_refl _) _).trans (hb3.mono (by simp))
      have HG2 := Lib.hid hG2
      have HX2 := Lib.hid hx2
      have HG3 := Lib.hid (HG.out.later hb4)
      have HB3 := Lib.hid (HBr.out.trans (hb4.mono hszr))
      have hown3 : Hid (∀ r, u3.ownBlock = some r → r < wr.heap.size + 1 ∨ w3.heap.size ≤ r) := fun r e => .inl (by have := (HG.out.row.lt r e).2; omega)
      have hlw : W0.heap.size ≤ w3.heap.size := by omega
      clear hG2 hx2 hb3 hb4 a0 a1 a2 a3 a4 c
      go_wp2_with fail
      generalize wr = w1 at *
      generalize u3 = vo at *
      go_loopw [3, 27] (fun o j wi => ∃ n : Nat, n ≤ xs2.length ∧ j = .int .i64 n ∧ Hid (Grows (w.heap.size + 1) wi o (xs ++ xs2.take n) ∧ Held (w1.heap.size + 1) w3 wi ∧ (∀ r, o.ownBlock = some r → r < w1.heap.size + 1 ∨ w3.heap.size ≤ r)) ∧ w3.heap.size ≤ wi.heap.size ∧ Below W0.heap.size W0 wi) (fun _ j _ => xs2.length - (intOf j).toNat)
      case atStart => exact ⟨0, Nat.zero_le _, rfl, ⟨by simpa using HG3.out, fun k _ _ => rfl, hown3.out⟩, Nat.le_refl _, HB3.out⟩
      case round =>
        obtain ⟨n, hn', rfl, hst, hsi, hBi⟩ := hrel
        have hnf : xs.length + xs2.length ≤ 1048576 := by omega
        by_cases hnl : n < xs2.length
        · obtain ⟨g2, rfl, hg2, hg2', hcell⟩ := row_cells5 HG2.out.row hnl
          obtain ⟨hGi, hHe, hOw⟩ := hst
          obtain ⟨a0, a1, a2, a3, a4⟩ := hcell wr (hHe g2 hg2 hg2')
          have hlen : (xs ++ xs2.take n).length = xs.length + n := by rw [List.length_append, List.length_take]; omega
          have hfx := HG2.out.fine xs2[n] (List.getElem_mem hnl)
          have htk2 := Lib.hid (show xs ++ xs2.take (n + 1) = (xs ++ xs2.take n) ++ [xs2[n]] from by rw [List.take_succ_eq_append_getElem hnl, List.append_assoc])
          have hbp : ∀ O O', Below wr.heap.size wr ((wr.alloc O).alloc O') := fun O O' => ((Below.refl _ _).alloc (Nat.le_refl _) _).alloc (by simp) _
          have hro := fun O O' => (hHe.below hsi (hbp O O')).elem HG2.out (n0 := w.heap.size + 1) (by omega) (Nat.le_trans hsi (hbp O O').size) hOw (List.getElem_mem hnl)
          have hHO := fun O O' => (hHe.below hsi (hbp O O'))
          have HRO := Lib.hid hro
          have HHO := Lib.hid hHO
          have HOW := Lib.hid hOw
          have HGI := Lib.hid hGi
          have HBP := Lib.hid hbp
          have HBI := Lib.hid hBi
          have hsI := hBi.size
          generalize hxs2 : xs2[n] = x at *
          generalize hzs : xs ++ xs2.take n = zs at *
          have HGP := Lib.hid (fun O O' => HGI.out.later (HBP.out O O'))
          have NX := Lib.hid (news5 (wr.alloc (boxO x.1 (.slice x.2.1 x.1.ks.length x.2.2))) x (wr.heap.size + 1) (by simp))
          have L1 := Lib.hid (show zs.length + 1 ≤ maxLen by unfold maxLen; omega)
          have L2 := Lib.hid (show (zs.length + 1) * 64 ≤ 140737488355328 by omega)
          have SZ := Lib.hid (show ∀ O O', w.heap.size + 1 ≤ ((wr.alloc O).alloc O').heap.size from fun O O' => by rw [World.size_alloc, World.size_alloc]; omega)
          clear hcell hGi hHe hOw hro hHO hbp hBi
          go_wp2_with (at_builtin; refine wpList_append_own_at _ rfl _ _ 22 rfl (w.heap.size + 1) 24 i0 _ 5 64 Try.underlying22 I0.out Z0.out Z1.out Z2.out rfl (by decide) u3 zs.length (flatN zs) rfl (HGP.out _ _).row ⟨wr.heap.size + 1, 0, none⟩ 1 1 (cells5 x) rfl rfl NX.out (cells5_one _) L1.out L2.out (SZ.out _ _) ?_; intro v9 w9 hown9 hgrow9 _ hor9)
          have HST : Hid (Grows (w.heap.size + 1) w9 v9 (zs ++ [x]) ∧ Held (w1.heap.size + 1) w3 w9 ∧ (∀ r, v9.ownBlock = some r → r < w1.heap.size + 1 ∨ w3.heap.size ≤ r)) := by
            refine ⟨(HGP.out _ _).add (HRO.out _ _) hfx hown9 hgrow9 hor9, (HHO.out _ _).grown (Nat.le_trans hsi (HBP.out _ _).size) hgrow9 HOW.out, fun r e => ?_⟩
            rcases hor9 with h | h
            · exact HOW.out r (h.symm.trans e)
            · rw [h] at e
              cases e
              exact .inr (by simp only [World.size_alloc]; omega)
          have hs9 := hgrow9.size
          simp only [World.size_alloc] at hs9
          have HB9 : Hid (Below W0.heap.size W0 w9) := ((HBI.out.alloc hsI _).alloc (by simp; omega) _).grown hgrow9 (by simp; omega) (fun r e => by have := (HGI.out.row.lt r e).1; omega)
          clear hown9 hgrow9 hor9
          go_roundw
          case rel => exact ⟨n + 1, by omega, by go_num, by rw [htk2.out]; exact HST.out, by omega, HB9.out⟩
          case measure => simp [intOf]; omega
        · obtain ⟨hGi, hHe, hOw⟩ := hst
          rw [List.take_of_length_le (by omega)] at hGi
          have HGI := Lib.hid hGi
          have hmap := Lib.hid (show (xs ++ xs2).map (·.1) = (t.ks.take (k + 1)).flatMap conjR from by rw [List.map_append, HXS.out, HX2.out, htk.out])
          have HBI := Lib.hid hBi
          clear hGi hHe hOw hBi
          go_wp2_with fail
          go_roundw
          case rel => exact ⟨k + 1, by omega, by go_num, ⟨_, HGI.out, hmap.out⟩, HBI.out⟩
          case measure => simp [intOf]; omega
    · rw [List.take_of_length_le (by omega)] at HXS
      go_wp2_with fail
      go_ret
      exact ⟨_, xs, rfl, HG.out.lower (by omega), HXS.out.trans Hr.out.symm, HBW.out⟩
end Go.Proofs.Ytbadegimohdfeaa
