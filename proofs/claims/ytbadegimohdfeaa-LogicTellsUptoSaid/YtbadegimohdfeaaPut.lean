/-
  What the document's own Put and Apps return; conditions: the tree lies in memory and has few nodes.
-/
import Derived.Test.YtbadegimohdfeaaRefTell
namespace Go.Proofs.Ytbadegimohdfeaa
open Go.RowKit Go.Shelf

attribute [local go_sem] Oper.semAt_some
def stP (d : Nd) : List Nd × Bool → Nd → List Nd × Bool
  | (o, true), x => (o ++ [x], true)
  | (o, false), x => if cmpN d x = 0 then (o ++ [x], true) else if cmpN d x < 0 then (o ++ [d] ++ [x], true) else (o ++ [x], false)
def foldP (d : Nd) (l : List Nd) : List Nd × Bool := l.foldl (stP d) ([], false)
theorem foldP_snoc (d : Nd) (l : List Nd) {k : Nat} (h : k < l.length) : foldP d (l.take (k + 1)) = stP d (foldP d (l.take k)) l[k] := by
  rw [List.take_succ_eq_append_getElem h, foldP, List.foldl_append]; rfl
theorem stP_t (d : Nd) (o : List Nd) (x : Nd) : stP d (o, true) x = (o ++ [x], true) := rfl
theorem stP_e {d : Nd} (o : List Nd) {x : Nd} (h : cmpN d x = 0) : stP d (o, false) x = (o ++ [x], true) := by rw [stP, if_pos h]
theorem stP_a {d : Nd} (o : List Nd) {x : Nd} (h : ¬ cmpN d x = 0) (h' : cmpN d x < 0) : stP d (o, false) x = (o ++ [d] ++ [x], true) := by rw [stP, if_neg h, if_pos h']
theorem stP_n {d : Nd} (o : List Nd) {x : Nd} (h : ¬ cmpN d x = 0) (h' : ¬ cmpN d x < 0) : stP d (o, false) x = (o ++ [x], false) := by rw [stP, if_neg h, if_neg h']
theorem foldP_true (d : Nd) (l : List Nd) : ∀ o, l.foldl (stP d) (o, true) = (o ++ l, true) := by
  induction l with
  | nil => intro o; simp
  | cons x xs ih => intro o; rw [List.foldl_cons, stP_t, ih]; simp
theorem foldP_false (d : Nd) (l : List Nd) : ∀ o, (if (l.foldl (stP d) (o, false)).2 = true then (l.foldl (stP d) (o, false)).1 else (l.foldl (stP d) (o, false)).1 ++ [d]) = o ++ insN d l := by
  induction l with
  | nil => intro o; rfl
  | cons x xs ih =>
    intro o
    have hneg := (cmp_all d).1 x
    rw [List.foldl_cons, insN, insL]
    by_cases h1 : cmpN d x = 0
    · rw [stP_e _ h1, foldP_true, if_pos rfl, if_pos (by simp; omega)]; simp
    · by_cases h2 : cmpN d x < 0
      · rw [stP_a _ h1 h2, foldP_true, if_pos rfl, if_neg (by simp; omega), if_pos (by simp; omega)]; simp
      · rw [stP_n _ h1 h2, ih, if_neg (by simp; omega), if_neg (by simp; omega)]; simp [insN]
theorem putP_ins (d : Nd) (l : List Nd) : (if (foldP d l).2 = true then (foldP d l).1 else (foldP d l).1 ++ [d]) = insN d l := by
  have := foldP_false d l []
  rwa [List.nil_append] at this

/-- A row of nodes whose kids lay in memory before. -/
def RowK (w : World) (base : Nat) (W : World) (v : Value) (ks : List Nd) : Prop :=
  ∃ xs : List NdA, W.ownsRow base 24 5 v xs.length (flatN xs) ∧ xs.map (·.1) = ks ∧ ∀ x ∈ xs, Lies w x.2.1 x.2.2 x.1.ks ∧ Fine x.1
/-- What a function that returns a list of nodes returns. -/
def RetK (w : World) (ks : List Nd) (e : Ending) (w' : World) : Prop := ∃ A cap, e = .returned (.slice A ks.length cap) ∧ Lies w' A cap ks ∧ Below w.heap.size w w'
theorem RowK.ret {w W : World} {base : Nat} {v : Value} {ks : List Nd} (h : RowK w base W v ks) (hb : Below w.heap.size w W) (hl : ks.length ≤ 1048577) : ∃ A cap, v = .slice A ks.length cap ∧ Lies W A cap ks := by
  obtain ⟨xs, h1, h2, h3⟩ := h
  have hl' : xs.length = ks.length := by rw [← h2, List.length_map]
  have := lies_of_row h1 (fun x hx => ⟨(h3 x hx).1.later hb, (h3 x hx).2⟩) (by unfold maxLen; omega)
  rwa [h2] at this
theorem RowK.later {w W W' : World} {base : Nat} {v : Value} {ks : List Nd} (h : RowK w base W v ks) (hb : Below W.heap.size W W') : RowK w base W' v ks := by
  obtain ⟨xs, h1, h2, h3⟩ := h
  exact ⟨xs, ownsRow_below h1 hb, h2, h3⟩

set_option maxRecDepth 100000 in
set_option maxHeartbeats 4000000 in
theorem put_any (l : List Nd) (d : Nd) (A DA : Option Addr) (cap dc : Nat) (w : World) (hL : Lies w A cap l) (hl : l.length ≤ 1048576) (hd : Lies w DA dc d.ks) (hf : Fine d) :
    Calls Try.prog 85 #[.slice A l.length cap, nv d.op d.so d.nm d.nu (.slice DA d.ks.length dc)] w (RetK w (insN d l)) := by
  have HB : Below w.heap.size w (w.alloc (boxO d (.slice DA d.ks.length dc))) := (Below.refl _ _).alloc (Nat.le_refl _) _
  obtain ⟨i0, hi, hz0, hz1, hz2⟩ := info_parts info24
  have I0 := Lib.hid hi
  have Z0 := Lib.hid hz0
  have Z1 := Lib.hid hz1
  have Z2 := Lib.hid hz2
  have HL := Lib.hid hL
  have HD := Lib.hid hd
  have HF := Lib.hid hf
  have H5 := Lib.hid (five_new w d (.slice DA d.ks.length dc) 24)
  have HBx := Lib.hid HB
  clear hi hz0 hz1 hz2 hL hd hf HB
  go_enter Try.func85, Try.ntmps85
  go_wp2_with fail
  have hwz : (w.alloc (boxO d (.slice DA d.ks.length dc))).heap.size = w.heap.size + 1 := by simp
  generalize w.alloc (boxO d (.slice DA d.ks.length dc)) = W0 at *
  go_loopw [5, 6, 12] (fun o dn i wr => ∃ k : Nat, k ≤ l.length ∧ i = .int .i64 k ∧ Hid ((foldP d (l.take k)).1.length ≤ k + 1 ∧ ((foldP d (l.take k)).2 = false → (foldP d (l.take k)).1.length ≤ k)) ∧ dn = .bool (foldP d (l.take k)).2 ∧ Hid (RowK w (w.heap.size + 1) wr o (foldP d (l.take k)).1) ∧ Below (w.heap.size + 1) W0 wr) (fun _ _ i _ => l.length - (intOf i).toNat)
  case atStart => exact ⟨0, Nat.zero_le _, rfl, ⟨Nat.zero_le _, fun _ => Nat.le_refl _⟩, rfl, ⟨[], World.ownsRow_nil _ _ _ _, rfl, fun x h => by simp at h⟩, Below.refl _ _⟩
  case round =>
    obtain ⟨k, hk, rfl, hkl, rfl, hown, hB⟩ := hrel
    have hBw : Below w.heap.size w wr := HBx.out.trans (hB.mono (by omega))
    obtain ⟨d0, d1, d2, d3, d4⟩ := H5.out.later (hB.mono (by omega))
    have hsz : w.heap.size + 1 ≤ wr.heap.size := by have := hB.size; omega
    have hsz' : w.heap.size < wr.heap.size := by omega
    by_cases hlt : k < l.length
    · have hs := Lib.hid (foldP_snoc d l hlt)
      obtain ⟨b, o', A', C', rfl, g5, hK⟩ := HL.out.kid hlt
      have HFx := Lib.hid (HL.out.fine hlt)
      obtain ⟨a0, a1, a2, a3, a4⟩ := g5.later hBw
      generalize l[k] = x at *
      have c := Lib.hid (fun W h1 h2 => refCompare_any d x DA A' dc C' W h1 h2)
      have HKx := Lib.hid hK
      have hcmp0 := fun (o : List Nd) (h : cmpN d x = 0) => stP_e (d := d) o h
      have hcmpa := fun (o : List Nd) (h : ¬ cmpN d x = 0) (h' : cmpN d x < 0) => stP_a (d := d) o h h'
      have hcmpn := fun (o : List Nd) (h : ¬ cmpN d x = 0) (h' : ¬ cmpN d x < 0) => stP_n (d := d) o h h'
      have H0 := Lib.hid hcmp0
      have HA := Lib.hid hcmpa
      have HN := Lib.hid hcmpn
      have HTT := Lib.hid (fun o => stP_t d o x)
      generalize cmpN d x = y at *
      generalize foldP d (l.take k) = s at *
      obtain ⟨o, dn⟩ := s
      obtain ⟨hk1, hk2⟩ := hkl
      obtain ⟨xs, hrow, hxs, hxk⟩ := hown
      simp only at hk1 hk2 hxs
      have hlen : xs.length = o.length := by rw [← hxs, List.length_map]
      have hk2 := Lib.hid hk2
      have Hown := Lib.hid hrow
      have Hg := Lib.hid hrow.lt
      have HXK := Lib.hid hxk
      have HXS := Lib.hid hxs
      have HBr := Lib.hid hB
      have HBW := Lib.hid hBw
      clear hcmp0 hcmpa hcmpn g5 hK hrow hxk hxs hB hBw
      have L1 := Lib.hid (show xs.length + 1 ≤ maxLen by unfold maxLen; omega)
      have L2 := Lib.hid (show (xs.length + 1) * 64 ≤ 140737488355328 by omega)
      have CX := Lib.hid (c.out _ (HD.out.later (HBW.out.alloc HBW.out.size (boxO x (.slice A' x.ks.length C')))) (HKx.out.later (HBW.out.alloc HBW.out.size (boxO x (.slice A' x.ks.length C')))))
      have X5 := Lib.hid (five_new wr x (.slice A' x.ks.length C') 24)
      have D5 := Lib.hid (H5.out.later ((HBr.out.mono (by omega)).alloc (by omega) (boxO x (.slice A' x.ks.length C'))))
      go_wp2_with fail
      refine CX.out.mono ?_
      rintro e w2 ⟨rfl, hbA⟩
      have hszA := hbA.size
      simp only [World.size_alloc] at hszA
      have p5 := D5.out.later hbA
      have q5 := X5.out.later hbA
      have e0 := p5.c0
      have e1 := p5.c1
      have e2 := p5.c2
      have e3 := p5.c3
      have e4 := p5.c4
      have f0 := q5.c0
      have f1 := q5.c1
      have f2 := q5.c2
      have f3 := q5.c3
      have f4 := q5.c4
      simp only [Nat.zero_add] at e1 e2 e3 e4 f1 f2 f3 f4
      have HO2 := Lib.hid (ownsRow_below (ownsRow_alloc Hown.out _) hbA)
      have HB2 := Lib.hid ((HBr.out.alloc hsz _).trans (hbA.mono (by simp; omega)))
      have HBW2 := Lib.hid ((HBW.out.alloc HBW.out.size _).trans (hbA.mono (by simp; omega)))
      clear hbA d0 d1 d2 d3 d4 a0 a1 a2 a3 a4 p5 q5 CX X5 D5
      have HO3 := Lib.hid (fun O => ownsRow_alloc HO2.out O)
      have NX := Lib.hid (news5 w2 (x, A', C') w2.heap.size rfl)
      have ND := Lib.hid (news5 w2 (d, DA, dc) w2.heap.size rfl)
      have SZ := Lib.hid (show ∀ O, w.heap.size + 1 ≤ (w2.alloc O).heap.size from fun O => by rw [World.size_alloc]; omega)
      cases dn
      case true =>
        cases hy0 : y == 0
        case true =>
          go_wp2_with (at_builtin; refine wpList_append_own_at _ rfl _ _ 22 rfl (w.heap.size + 1) 24 i0 _ 5 64 Try.underlying22 I0.out Z0.out Z1.out Z2.out rfl (by decide) u5 xs.length (flatN xs) rfl (HO3.out _) ⟨w2.heap.size, 0, none⟩ 1 1 (cells5 (x, A', C')) rfl rfl NX.out (cells5_one _) L1.out L2.out (SZ.out _) ?_; intro v1 w1 hown1 hgrow1 _ _)
          have hBn : Below (w.heap.size + 1) W0 w1 := (HB2.out.alloc (by omega) _).grown hgrow1 (by simp; omega) (fun k e => (Hg.out k e).1)
          go_roundw
          case rel =>
            refine ⟨k + 1, by omega, by go_num, ?_⟩
            rw [hs.out, HTT.out o]
            exact ⟨⟨by simp; omega, fun h => by cases h⟩, rfl, ⟨xs ++ [(x, A', C')], by rw [flatN_snoc, List.length_append]; exact hown1, by rw [List.map_append, HXS.out]; rfl, fun z hz => by
              rcases List.mem_append.1 hz with hz | hz
              · exact HXK.out z hz
              · simp at hz; subst hz; exact ⟨HKx.out, HFx.out⟩⟩, hBn⟩
          case measure => simp [intOf]; omega

        case false =>
          go_wp2_with (at_builtin; refine wpList_append_own_at _ rfl _ _ 22 rfl (w.heap.size + 1) 24 i0 _ 5 64 Try.underlying22 I0.out Z0.out Z1.out Z2.out rfl (by decide) u5 xs.length (flatN xs) rfl (HO3.out _) ⟨w2.heap.size, 0, none⟩ 1 1 (cells5 (x, A', C')) rfl rfl NX.out (cells5_one _) L1.out L2.out (SZ.out _) ?_; intro v1 w1 hown1 hgrow1 _ _)
          have hBn : Below (w.heap.size + 1) W0 w1 := (HB2.out.alloc (by omega) _).grown hgrow1 (by simp; omega) (fun k e => (Hg.out k e).1)
          go_roundw
          case rel =>
            refine ⟨k + 1, by omega, by go_num, ?_⟩
            rw [hs.out, HTT.out o]
            exact ⟨⟨by simp; omega, fun h => by cases h⟩, rfl, ⟨xs ++ [(x, A', C')], by rw [flatN_snoc, List.length_append]; exact hown1, by rw [List.map_append, HXS.out]; rfl, fun z hz => by
              rcases List.mem_append.1 hz with hz | hz
              · exact HXK.out z hz
              · simp at hz; subst hz; exact ⟨HKx.out, HFx.out⟩⟩, hBn⟩
          case measure => simp [intOf]; omega

      case false =>
        have hk3 := hk2.out rfl
        by_cases hy0 : y = 0
        case pos =>
          have hy0' : (y == 0) = true := by simpa using hy0
          have HY := Lib.hid hy0
          clear hy0
          go_wp2_with (at_builtin; refine wpList_append_own_at _ rfl _ _ 22 rfl (w.heap.size + 1) 24 i0 _ 5 64 Try.underlying22 I0.out Z0.out Z1.out Z2.out rfl (by decide) u5 xs.length (flatN xs) rfl (HO3.out _) ⟨w2.heap.size, 0, none⟩ 1 1 (cells5 (x, A', C')) rfl rfl NX.out (cells5_one _) L1.out L2.out (SZ.out _) ?_; intro v1 w1 hown1 hgrow1 _ _)
          have hBn : Below (w.heap.size + 1) W0 w1 := (HB2.out.alloc (by omega) _).grown hgrow1 (by simp; omega) (fun k e => (Hg.out k e).1)
          go_roundw
          case rel =>
            refine ⟨k + 1, by omega, by go_num, ?_⟩
            rw [hs.out, H0.out o HY.out]
            exact ⟨⟨by simp; omega, fun h => by cases h⟩, rfl, ⟨xs ++ [(x, A', C')], by rw [flatN_snoc, List.length_append]; exact hown1, by rw [List.map_append, HXS.out]; rfl, fun z hz => by
              rcases List.mem_append.1 hz with hz | hz
              · exact HXK.out z hz
              · simp at hz; subst hz; exact ⟨HKx.out, HFx.out⟩⟩, hBn⟩
          case measure => simp [intOf]; omega

        have hy0' : (y == 0) = false := by simpa using hy0
        by_cases hy1 : y < 0
        case pos =>
          have L3 := Lib.hid (show xs.length + 1 + 1 ≤ maxLen by unfold maxLen; omega)
          have L4 := Lib.hid (show (xs.length + 1 + 1) * 64 ≤ 140737488355328 by omega)
          have hwA : wr.heap.size < w2.heap.size := by omega
          have NE : ∀ _ : Unit, some wr.heap.size ≠ u5.ownBlock := fun _ e => by have := (Hg.out _ e.symm).2; omega
          go_wp2_with (first | (at_builtin; refine wpList_append_own_at _ rfl _ _ 22 rfl (w.heap.size + 1) 24 i0 _ 5 64 Try.underlying22 I0.out Z0.out Z1.out Z2.out rfl (by decide) u5 xs.length (flatN xs) rfl (HO3.out _) ⟨w2.heap.size, 0, none⟩ 1 1 (cells5 (d, DA, dc)) rfl rfl ND.out (cells5_one _) L1.out L2.out (SZ.out _) ?_; intro v1 w1 hown1 hgrow1 _ _; have g0 := hgrow1.cell ((World.cell?_alloc_past _ _ _ hwA).trans f0) (NE ()); have g1 := hgrow1.cell ((World.cell?_alloc_past _ _ _ hwA).trans f1) (NE ()); have g2 := hgrow1.cell ((World.cell?_alloc_past _ _ _ hwA).trans f2) (NE ()); have g3 := hgrow1.cell ((World.cell?_alloc_past _ _ _ hwA).trans f3) (NE ()); have g4 := hgrow1.cell ((World.cell?_alloc_past _ _ _ hwA).trans f4) (NE ()); have Hg1 := Lib.hid hown1.lt; have hsz1 := hgrow1.size; rw [World.size_alloc] at hsz1; have hsz2 : wr.heap.size < w1.heap.size := (by omega); have Hgrow1 := Lib.hid hgrow1; have Hown1 := Lib.hid (fun O => ownsRow_alloc hown1 O); have NX1 := Lib.hid (news5 w1 (x, A', C') w1.heap.size rfl); have SZ1 := Lib.hid (show ∀ O, w.heap.size + 1 ≤ (w1.alloc O).heap.size from fun O => by rw [World.size_alloc]; omega); clear hgrow1 hown1 f0 f1 f2 f3 f4 e0 e1 e2 e3 e4) | (at_builtin; refine wpList_append_own_at _ rfl _ _ 22 rfl (w.heap.size + 1) 24 i0 _ 5 64 Try.underlying22 I0.out Z0.out Z1.out Z2.out rfl (by decide) v1 (xs.length + 1) _ rfl (Hown1.out _) ⟨w1.heap.size, 0, none⟩ 1 1 (cells5 (x, A', C')) rfl rfl NX1.out (cells5_one _) L3.out L4.out (SZ1.out _) ?_; intro v3 w3 hown3 hgrow3 _ _))
          have hBn : Below (w.heap.size + 1) W0 w3 := ((((HB2.out.alloc (by omega) _).grown Hgrow1.out (by simp; omega) (fun k e => (Hg.out k e).1)).alloc (by omega) _).grown hgrow3 (by rw [World.size_alloc]; omega) (fun k e => (Hg1.out k e).1))
          go_roundw
          case rel =>
            refine ⟨k + 1, by omega, by go_num, ?_⟩
            rw [hs.out, HA.out o hy0 hy1]
            exact ⟨⟨by simp; omega, fun h => by cases h⟩, rfl, ⟨xs ++ [(d, DA, dc)] ++ [(x, A', C')], by rw [flatN_snoc, flatN_snoc, List.length_append, List.length_append]; exact hown3, by rw [List.map_append, List.map_append, HXS.out]; rfl, fun z hz => by
              rcases List.mem_append.1 hz with hz | hz
              · rcases List.mem_append.1 hz with hz | hz
                · exact HXK.out z hz
                · simp at hz; subst hz; exact ⟨HD.out, HF.out⟩
              · simp at hz; subst hz; exact ⟨HKx.out, HFx.out⟩⟩, hBn⟩
          case measure => simp [intOf]; omega

        case neg =>
          go_wp2_with (at_builtin; refine wpList_append_own_at _ rfl _ _ 22 rfl (w.heap.size + 1) 24 i0 _ 5 64 Try.underlying22 I0.out Z0.out Z1.out Z2.out rfl (by decide) u5 xs.length (flatN xs) rfl (HO3.out _) ⟨w2.heap.size, 0, none⟩ 1 1 (cells5 (x, A', C')) rfl rfl NX.out (cells5_one _) L1.out L2.out (SZ.out _) ?_; intro v1 w1 hown1 hgrow1 _ _)
          have hBn : Below (w.heap.size + 1) W0 w1 := (HB2.out.alloc (by omega) _).grown hgrow1 (by simp; omega) (fun k e => (Hg.out k e).1)
          go_roundw
          case rel =>
            refine ⟨k + 1, by omega, by go_num, ?_⟩
            rw [hs.out, HN.out o hy0 hy1]
            exact ⟨⟨by simp; omega, fun _ => by simp; omega⟩, rfl, ⟨xs ++ [(x, A', C')], by rw [flatN_snoc, List.length_append]; exact hown1, by rw [List.map_append, HXS.out]; rfl, fun z hz => by
              rcases List.mem_append.1 hz with hz | hz
              · exact HXK.out z hz
              · simp at hz; subst hz; exact ⟨HKx.out, HFx.out⟩⟩, hBn⟩
          case measure => simp [intOf]; omega

    · rw [List.take_of_length_le (by omega)] at hkl hown
      have hfd : foldP d (l.take k) = foldP d l := by rw [List.take_of_length_le (by omega)]
      rw [hfd]
      have hput := putP_ins d l
      generalize foldP d l = s at *
      obtain ⟨o, dn⟩ := s
      obtain ⟨hk1, hk2⟩ := hkl
      simp only at hk1 hk2 hput
      have HRK := Lib.hid hown.out
      obtain ⟨xs, hrow, hxs, hxk⟩ := hown
      simp only at hxs
      have hlen : xs.length = o.length := by rw [← hxs, List.length_map]
      have Hput := Lib.hid hput
      have Hown := Lib.hid hrow
      have Hg := Lib.hid hrow.lt
      have HXK := Lib.hid hxk
      have HXS := Lib.hid hxs
      have HBr := Lib.hid hBw
      have L1 := Lib.hid (show xs.length + 1 ≤ maxLen by unfold maxLen; omega)
      have L2 := Lib.hid (show (xs.length + 1) * 64 ≤ 140737488355328 by omega)
      have hk2 := Lib.hid hk2
      clear hfd hput hrow hxs hxk hB hBw
      cases dn
      case true =>
        have hput := Lib.hid (show insN d l = o from (Hput.out.symm.trans (if_pos rfl)))
        clear Hput
        obtain ⟨A9, c9, rfl, hl9⟩ := HRK.out.ret HBr.out (by show o.length ≤ _; omega)
        have HL9 := Lib.hid hl9
        clear hl9 d0 d1 d2 d3 d4
        go_wp2_with fail
        go_ret
        rw [hput.out]
        exact ⟨A9, c9, rfl, HL9.out, HBr.out⟩
      case false =>
        have hk3 := hk2.out rfl
        have hput := Lib.hid (show insN d l = o ++ [d] from (Hput.out.symm.trans (if_neg (by simp))))
        clear Hput
        have ND := Lib.hid (news5 wr (d, DA, dc) wr.heap.size rfl)
        have HO3 := Lib.hid (fun O => ownsRow_alloc Hown.out O)
        have SZ := Lib.hid (show ∀ O, w.heap.size + 1 ≤ (wr.alloc O).heap.size from fun O => by rw [World.size_alloc]; omega)
        simp only [Nat.zero_add] at d1 d2 d3 d4
        go_wp2_with (at_builtin; refine wpList_append_own_at _ rfl _ _ 22 rfl (w.heap.size + 1) 24 i0 _ 5 64 Try.underlying22 I0.out Z0.out Z1.out Z2.out rfl (by decide) u5 xs.length (flatN xs) rfl (HO3.out _) ⟨wr.heap.size, 0, none⟩ 1 1 (cells5 (d, DA, dc)) rfl rfl ND.out (cells5_one _) L1.out L2.out (SZ.out _) ?_; intro v1 w1 hown1 hgrow1 _ _; have hBn : Hid (Below w.heap.size w w1) := (HBr.out.alloc (by omega) _).grown hgrow1 (by rw [World.size_alloc]; omega) (fun k e => by have := (Hg.out k e).1; omega); have HRK1 : RowK w (w.heap.size + 1) w1 v1 (o ++ [d]) := ⟨xs ++ [(d, DA, dc)], by rw [flatN_snoc, List.length_append]; exact hown1, by rw [List.map_append, HXS.out]; rfl, fun z hz => by
          rcases List.mem_append.1 hz with hz | hz
          · exact HXK.out z hz
          · simp at hz; subst hz; exact ⟨HD.out, HF.out⟩⟩; obtain ⟨A9, c9, rfl, hl9⟩ := HRK1.ret hBn.out (by rw [List.length_append]; show o.length + 1 ≤ _; omega); have HL9 := Lib.hid hl9; clear hl9 HRK1 hown1 hgrow1)
        go_ret
        rw [hput.out]
        exact ⟨A9, c9, by rw [List.length_append]; rfl, HL9.out, hBn.out⟩
end Go.Proofs.Ytbadegimohdfeaa
