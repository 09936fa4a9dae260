/-
  What the document's own Same returns: the same tree in new memory; conditions: the tree lies in memory and none of its lists is too long to be grown.
-/
import Derived.Test.YtmeeombadkgneaaGreatZFresh
import Derived.Test.YtmeeombadkgneaaGreatZRefPut
namespace Go.Proofs.YtmeeombadkgneaaGreat
open Go.RowKit Go.Shelf

attribute [local go_sem] Oper.semAt_some
/-- No list of kids is too long to be grown. -/
def Short (t : Nd) : Prop := ∀ y ∈ nodesOf t, y.ks.length ≤ 2199023255488
theorem Short.self {t : Nd} (h : Short t) : t.ks.length ≤ 2199023255488 := h t (by rw [nodesOf_eq]; simp)
theorem Short.kid {t : Nd} (h : Short t) {i : Nat} (hi : i < t.ks.length) : Short t.ks[i] := fun y hy => h y (by
  rw [nodesOf_eq]
  exact List.mem_cons_of_mem _ (List.mem_flatMap.2 ⟨_, List.getElem_mem hi, hy⟩))

theorem info44 : (Tryz.prog.info? 44).map (fun i => (i.zero, i.size, i.bytes)) = some (some (.agg #[.int .i64 0, .int .i64 0, .string ⟨#[]⟩, .int .i64 0, .slice none 0 0]), 5, 64) := by kernel_rfl

theorem Grows.set {n0 : Nat} {w : World} {v : Value} {xs : List NdA} (h : Grows n0 w v xs) {p : Addr} (hp : p.block < n0) (u : Value) : Grows n0 (w.setCell p u) v xs :=
  ⟨ownsRow_setCell_below h.row hp u, fun x hx W hW => h.kids x hx W fun k h1 h2 h3 => (hW k h1 (by simpa [World.setCell] using h2) h3).trans (heap_setCell_other w p k u (by omega)), h.fine⟩

abbrev zero5 : Array Value := #[.int .i64 0, .int .i64 0, .string ⟨#[]⟩, .int .i64 0, .slice none 0 0]
/-- In the midst of a tree's making: the node's own cells in block rb, with the list of kids that grows; the result's cells in block zb. -/
structure GAt (w : World) (n0 rb zb : Nat) (t : Nd) (outs : List Nd) (wr : World) (v : Value) (xs : List NdA) : Prop where
  outs : xs.map (·.1) = outs
  grows : Grows n0 wr v xs
  rbox : wr.heap[rb]? = some (.cells #[.int .i64 t.op, .int .i64 t.so, .string t.nm, .int .i64 t.nu, v] 44 (0, 0))
  zbox : wr.heap[zb]? = some (.cells zero5 44 (0, 0))
  below : Below w.heap.size w wr
def GInv (w : World) (n0 rb zb : Nat) (t : Nd) (outs : List Nd) (wr : World) : Prop := ∃ v xs, GAt w n0 rb zb t outs wr v xs

theorem cell_row {w : World} {g i : Nat} {cs : Array Value} {t : TypeId} {v : Value} (h : w.heap[g]? = some (.cells cs t (0, 0))) (hv : cs[i]? = some v) : w.cell? ⟨g, i, none⟩ = some v := by
  simpa [World.cell?, h] using hv

/-- The five cells of a block are written anew. -/
abbrev set5 (w : World) (b : Nat) (c0 c1 c2 c3 c4 : Value) : World := ((((w.setCell ⟨b, 0, none⟩ c0).setCell ⟨b, 1, none⟩ c1).setCell ⟨b, 2, none⟩ c2).setCell ⟨b, 3, none⟩ c3).setCell ⟨b, 4, none⟩ c4
theorem set5_same {w : World} {b : Nat} {d0 d1 d2 d3 d4 : Value} (c0 c1 c2 c3 c4 : Value) (h : w.heap[b]? = some (.cells #[d0, d1, d2, d3, d4] 44 (0, 0))) : (set5 w b c0 c1 c2 c3 c4).heap[b]? = some (.cells #[c0, c1, c2, c3, c4] 44 (0, 0)) := by
  have h0 := heap_setCell_same w b 0 _ _ c0 h
  have h1 := heap_setCell_same _ b 1 _ _ c1 h0
  have h2 := heap_setCell_same _ b 2 _ _ c2 h1
  have h3 := heap_setCell_same _ b 3 _ _ c3 h2
  have h4 := heap_setCell_same _ b 4 _ _ c4 h3
  exact h4
theorem set5_other {w : World} {b : Nat} (c0 c1 c2 c3 c4 : Value) {k : Nat} (h : k ≠ b) : (set5 w b c0 c1 c2 c3 c4).heap[k]? = w.heap[k]? := by
  rw [set5, heap_setCell_other _ _ _ _ h, heap_setCell_other _ _ _ _ h, heap_setCell_other _ _ _ _ h, heap_setCell_other _ _ _ _ h, heap_setCell_other _ _ _ _ h]
theorem set5_size (w : World) (b : Nat) (c0 c1 c2 c3 c4 : Value) : (set5 w b c0 c1 c2 c3 c4).heap.size = w.heap.size := by simp [set5, World.setCell]
theorem Below.set5 {B : Nat} {a w : World} (h : Below B a w) {b : Nat} (hb : B ≤ b) (c0 c1 c2 c3 c4 : Value) : Below B a (set5 w b c0 c1 c2 c3 c4) :=
  ((((h.setCell (p := ⟨b, 0, none⟩) hb c0).setCell (p := ⟨b, 1, none⟩) hb c1).setCell (p := ⟨b, 2, none⟩) hb c2).setCell (p := ⟨b, 3, none⟩) hb c3).setCell (p := ⟨b, 4, none⟩) hb c4
theorem Rob.set5 {n0 n1 : Nat} {w : World} {A : Option Addr} {cap : Nat} {ks : List Nd} (h : Rob n0 w none A cap ks) {b : Nat} (hb : b < n0) (hn : n1 ≤ n0) (c0 c1 c2 c3 c4 : Value) : Rob n1 (set5 w b c0 c1 c2 c3 c4) none A cap ks :=
  fun W hW => h W fun k h1 h2 h3 => (hW k (by omega) (by rw [set5_size]; exact h2) h3).trans (set5_other c0 c1 c2 c3 c4 (by omega))

theorem GAt.later {w : World} {n0 rb zb : Nat} {t : Nd} {outs : List Nd} {wr w' : World} {v : Value} {xs : List NdA} (h : GAt w n0 rb zb t outs wr v xs) (hb : Below wr.heap.size wr w') : GAt w n0 rb zb t outs w' v xs :=
  ⟨h.outs, h.grows.later hb, (hb.block _ (Array.getElem?_eq_some_iff.1 h.rbox).1).trans h.rbox, (hb.block _ (Array.getElem?_eq_some_iff.1 h.zbox).1).trans h.zbox, h.below.trans (hb.mono h.below.size)⟩

theorem GAt.step {w : World} {n0 rb zb : Nat} {t : Nd} {outs : List Nd} {wr w3 : World} {v v' : Value} {xs : List NdA} {x : NdA} (h : GAt w n0 rb zb t outs wr v xs) (h1 : zb < rb) (h2 : rb < n0) (hw : w.heap.size ≤ zb)
    (hx : Rob n0 wr v.ownBlock x.2.1 x.2.2 x.1.ks) (hf : Fine x.1)
    (hown : w3.ownsRow n0 44 5 v' (xs.length + 1) (flatN xs ++ cells5 x)) (hg : wr.grownBy w3 v.ownBlock) (hr : v'.ownBlock = v.ownBlock ∨ v'.ownBlock = some wr.heap.size) :
    GAt w n0 rb zb t (outs ++ [x.1]) (w3.setCell ⟨rb, 4, none⟩ v') v' (xs ++ [x]) := by
  have ho := h.grows.row.lt
  have hrb : w3.heap[rb]? = _ := (hg.block rb (Array.getElem?_eq_some_iff.1 h.rbox).1 (fun e => by have := (ho _ e.symm).1; omega)).trans h.rbox
  have hzb : w3.heap[zb]? = _ := (hg.block zb (Array.getElem?_eq_some_iff.1 h.zbox).1 (fun e => by have := (ho _ e.symm).1; omega)).trans h.zbox
  refine ⟨by rw [List.map_append, h.outs]; rfl, (h.grows.add hx hf hown hg hr).set (p := ⟨rb, 4, none⟩) h2 _, ?_, ?_, ?_⟩
  · rw [heap_setCell_same _ _ _ _ _ _ hrb]; rfl
  · rw [heap_setCell_other _ _ _ _ (by simp; omega)]; exact hzb
  · exact (h.below.grown hg h.below.size (fun k e => by have := (ho k e).1; omega)).setCell (p := ⟨rb, 4, none⟩) (by simp; omega) _

theorem news5 (W : World) (x : NdA) (bk : Nat) (hb : bk = W.heap.size) :
    ∀ (j : Nat) (u : Value), (cells5 x)[j]? = some u → (W.alloc (.cells #[.int .i64 x.1.op, .int .i64 x.1.so, .string x.1.nm, .int .i64 x.1.nu, .slice x.2.1 x.1.ks.length x.2.2] 44)).cell? ((⟨bk, 0, none⟩ : Addr).add j) = some u := by
  subst hb
  intro j u hj
  match j, hj with
  | 0, hj => simp [cells5] at hj; subst hj; simp [go_sem]
  | 1, hj => simp [cells5] at hj; subst hj; simp [go_sem]
  | 2, hj => simp [cells5] at hj; subst hj; simp [go_sem]
  | 3, hj => simp [cells5] at hj; subst hj; simp [go_sem]
  | 4, hj => simp [cells5] at hj; subst hj; simp [go_sem]

set_option maxRecDepth 100000 in
set_option maxHeartbeats 4000000 in
theorem same_any (t : Nd) : ∀ (A : Option Addr) (cap : Nat) (w : World), Lies w A cap t.ks → Fine t → Short t →
    Calls Tryz.prog 80 #[nv t.op t.so t.nm t.nu (.slice A t.ks.length cap)] w (RetN w t) := by
  induction t using Nd.ind with
  | h t ih =>
  intro A cap w hL hfine hsh
  have HB1 : Below w.heap.size w (w.alloc (.cells #[.int .i64 t.op, .int .i64 t.so, .string t.nm, .int .i64 t.nu, .slice A t.ks.length cap] 44)) := (Below.refl _ _).alloc (Nat.le_refl _) _
  obtain ⟨i0, hi, hz0, hz1, hz2⟩ := info_parts info44
  have I0 := Lib.hid hi
  have Z0 := Lib.hid hz0
  have Z1 := Lib.hid hz1
  have Z2 := Lib.hid hz2
  clear hi hz0 hz1 hz2
  have hn := hL.len
  unfold maxLen at hn
  have HL := Lib.hid hL
  have IH := Lib.hid ih
  have HF := Lib.hid hfine
  have HSh := Lib.hid hsh
  clear hL ih hfine hsh
  have HB1 := Lib.hid HB1
  go_enter Tryz.func80, Tryz.ntmps80
  go_wp2_with fail
  have G0 : GInv w (w.heap.size + 1 + 1 + 1) (w.heap.size + 1 + 1) (w.heap.size + 1) t [] (((w.alloc (.cells #[.int .i64 t.op, .int .i64 t.so, .string t.nm, .int .i64 t.nu, .slice A t.ks.length cap] 44)).alloc (.cells zero5 44)).alloc (.cells #[.int .i64 t.op, .int .i64 t.so, .string t.nm, .int .i64 t.nu, .slice none 0 0] 44)) :=
    ⟨_, [], rfl, Grows.nil _ _, by have := heap_alloc_new ((w.alloc (.cells #[.int .i64 t.op, .int .i64 t.so, .string t.nm, .int .i64 t.nu, .slice A t.ks.length cap] 44)).alloc (.cells zero5 44)) (.cells #[.int .i64 t.op, .int .i64 t.so, .string t.nm, .int .i64 t.nu, .slice none 0 0] 44); rwa [World.size_alloc, World.size_alloc] at this, (((Below.refl _ _).alloc (Nat.le_refl _) _).block _ (by simp)).trans (by have := heap_alloc_new (w.alloc (.cells #[.int .i64 t.op, .int .i64 t.so, .string t.nm, .int .i64 t.nu, .slice A t.ks.length cap] 44)) (.cells zero5 44); rwa [World.size_alloc] at this), ((HB1.out.alloc (by simp) _).alloc (by simp; omega) _)⟩
  generalize (((w.alloc (.cells #[.int .i64 t.op, .int .i64 t.so, .string t.nm, .int .i64 t.nu, .slice A t.ks.length cap] 44)).alloc (.cells zero5 44)).alloc (.cells #[.int .i64 t.op, .int .i64 t.so, .string t.nm, .int .i64 t.nu, .slice none 0 0] 44)) = W0 at *
  go_loopw [19] (fun i wr => ∃ k : Nat, k ≤ t.ks.length ∧ i = .int .i64 k ∧ Hid (GInv w (w.heap.size + 1 + 1 + 1) (w.heap.size + 1 + 1) (w.heap.size + 1) t (t.ks.take k) wr)) (fun i _ => t.ks.length - (intOf i).toNat)
  case atStart => exact ⟨0, Nat.zero_le _, rfl, G0⟩
  case round =>
    obtain ⟨k, hk, rfl, v, xs, hG⟩ := hrel
    have HG := Lib.hid hG
    have c4 := cell_row hG.rbox (i := 4) rfl
    have hBr := hG.below
    have hlen : xs.length = k := by
      have := congrArg List.length hG.outs
      simpa [Nat.min_eq_left hk] using this
    clear hG
    by_cases hlt : k < t.ks.length
    · obtain ⟨b, o, A', C', rfl, g5, hK⟩ := HL.out.kid hlt
      have hFk := HL.out.fine hlt
      obtain ⟨a0, a1, a2, a3, a4⟩ := g5.later hBr
      have c := Lib.hid (fun w hL => IH.out k hlt A' C' w hL hFk (HSh.out.kid hlt))
      have hK' := Lib.hid (hK.later hBr)
      have htk := Lib.hid (show t.ks.take (k + 1) = t.ks.take k ++ [t.ks[k]] from List.take_succ_eq_append_getElem hlt)
      have hsz := hBr.size
      have hself := HSh.out.self
      generalize t.ks[k] = q at *
      clear g5 hK IH HL
      go_wp2_with fail
      refine (c.out _ (hK'.out.later ((Below.refl _ _).alloc (Nat.le_refl _) _))).mono ?_
      rintro e w2 ⟨A2, C2, rfl, hrob, _, hb2⟩
      have hb3 : Below wr.heap.size wr w2 := ((Below.refl _ _).alloc (Nat.le_refl _) _).trans (hb2.mono (by simp))
      have HG2 := Lib.hid (HG.out.later hb3)
      have hR : Rob (w.heap.size + 1 + 1 + 1) w2 v.ownBlock A2 C2 q.ks := hrob.newNone (fun g hg => by have := (HG.out.grows.row.lt g hg).2; simp; omega) (by have := (Array.getElem?_eq_some_iff.1 HG.out.rbox).1; simp; omega)
      have HR := Lib.hid hR
      have d4 := cell_row HG2.out.rbox (i := 4) rfl
      have hsz2 : w.heap.size + 1 + 1 + 1 ≤ w2.heap.size := by have := (Array.getElem?_eq_some_iff.1 HG2.out.rbox).1; omega
      have hsz3 : w.heap.size + 1 + 1 < w2.heap.size := by omega
      have SZ := Lib.hid (show ∀ O O', w.heap.size + 1 + 1 + 1 ≤ ((w2.alloc O).alloc O').heap.size from fun O O' => by rw [World.size_alloc, World.size_alloc]; omega)
      have NX := Lib.hid (fun O => news5 (w2.alloc O) (q, A2, C2) (w2.heap.size + 1) (by rw [World.size_alloc]))
      have BB := Lib.hid (show ∀ O O', Below w2.heap.size w2 ((w2.alloc O).alloc O') from fun O O' => ((Below.refl _ _).alloc (Nat.le_refl _) _).alloc (by rw [World.size_alloc]; omega) _)
      have HO := Lib.hid (fun O O' => ownsRow_below HG2.out.grows.row (BB.out O O'))
      have L1 := Lib.hid (show xs.length + 1 ≤ maxLen by unfold maxLen; omega)
      have L2 := Lib.hid (show (xs.length + 1) * 64 ≤ 140737488355328 by omega)
      clear hb2 hb3 hrob hR a0 a1 a2 a3 a4 c4 HG
      go_wp2_with (at_builtin; refine wpList_append_own_at _ rfl _ _ 42 rfl (w.heap.size + 1 + 1 + 1) 44 i0 _ 5 64 Tryz.underlying42 I0.out Z0.out Z1.out Z2.out rfl (by decide) v xs.length (flatN xs) rfl (HO.out _ _) ⟨w2.heap.size + 1, 0, none⟩ 1 1 (cells5 (q, A2, C2)) rfl rfl (NX.out _) (by simp [cells5, Value.oneCell']) L1.out L2.out (SZ.out _ _) ?_; intro v' w3 hown3 hgrow3 _ hor; obtain ⟨g3, cap3, rfl⟩ := ownsRow_succ hown3; have HST := Lib.hid ((HG2.out.later (BB.out _ _)).step (x := (q, A2, C2)) (by omega) (by omega) (by omega) (HR.out.later (BB.out _ _)) hFk hown3 hgrow3 hor); have hb := hgrow3.block (w.heap.size + 1 + 1) (Nat.lt_of_lt_of_le hsz3 (BB.out _ _).size) (fun e => absurd ((HG2.out.grows.row.lt _ e.symm).1) (by omega)); have hb' := hb.trans (((BB.out _ _).block _ hsz3).trans HG2.out.rbox); have e4 := cell_row hb' (i := 4) rfl; have f4 := frozen_of_row w3 (w.heap.size + 1 + 1) 4 _ _ hb'; clear hb hb' hown3 hgrow3 hor)
      go_roundw
      case rel => exact ⟨k + 1, by omega, by go_num, by rw [htk.out]; have := HST.out; rw [hlen] at this; exact ⟨_, _, this⟩⟩
      case measure => simp [intOf]; omega
    · have hG := HG.out
      obtain ⟨A3, cap3, rfl, hrob⟩ := hG.grows.rob (by unfold maxLen; omega)
      have hr := hG.rbox
      have b0 := cell_row hr (i := 0) rfl
      have b1 := cell_row hr (i := 1) rfl
      have b2 := cell_row hr (i := 2) rfl
      have b3 := cell_row hr (i := 3) rfl
      have hz := hG.zbox
      have z0 := cell_row hz (i := 0) rfl
      have z1 := cell_row hz (i := 1) rfl
      have z2 := cell_row hz (i := 2) rfl
      have z3 := cell_row hz (i := 3) rfl
      have z4 := cell_row hz (i := 4) rfl
      have f0 := frozen_of_row wr (w.heap.size + 1) 0 _ _ hz
      have f1 := frozen_of_row wr (w.heap.size + 1) 1 _ _ hz
      have f2 := frozen_of_row wr (w.heap.size + 1) 2 _ _ hz
      have f3 := frozen_of_row wr (w.heap.size + 1) 3 _ _ hz
      have f4 := frozen_of_row wr (w.heap.size + 1) 4 _ _ hz
      have hfin := set5_same (.int .i64 t.op) (.int .i64 t.so) (.string t.nm) (.int .i64 t.nu) (.slice A3 k cap3) hz
      have hk' : t.ks.length = k := by omega
      have houts : xs.map (·.1) = t.ks := hG.outs.trans (List.take_of_length_le (by omega))
      have HRob := Lib.hid hrob
      have Hfin := Lib.hid hfin
      clear hr hz hG hrob hfin
      go_wp2_with fail
      have hf := Hfin.out
      have y0 := cell_row hf (i := 0) rfl
      have y1 := cell_row hf (i := 1) rfl
      have y2 := cell_row hf (i := 2) rfl
      have y3 := cell_row hf (i := 3) rfl
      have y4 := cell_row hf (i := 4) rfl
      refine bodyPost_ret (v := nv t.op t.so t.nm t.nu (.slice A3 k cap3)) ?_ rfl ⟨A3, cap3, by rw [hk'], ?_, HF.out, Below.set5 hBr (by omega) _ _ _ _ _⟩
      · clear hf Hfin HRob
        simp [results, Tryz.f80, go_sem, y0, y1, y2, y3, y4]
      · have := HRob.out
        rw [houts] at this
        exact this.set5 (by omega) (by omega) _ _ _ _ _
end Go.Proofs.YtmeeombadkgneaaGreat
