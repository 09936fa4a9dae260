/-
  An application without arguments, and a word, in the phrase prim of the document's own parser; conditions: the text is no longer than a string can be, and what is called within answers as it is asked to.
-/
import Derived.Test.YtgkjcimgghflmaaGreatDoorZRm0
import Derived.Test.YtgkjcimgghflmaaGreatDoorZPw0
import Derived.Test.YtgkjcimgghflmaaGreatDoorZRl0
namespace Go.Proofs.YtgkjcimgghflmaaGreatDoor
set_option maxRecDepth 100000
set_option maxHeartbeats 8000000
open Go.RowKit Go.Shelf
attribute [local go_sem] Oper.semAt_some
structure KD (p : Nat) (W : World) (nb : Nat) (op : Int) (nm : ByteArray) (v : Value) (xs : List NdA) (w : World) : Prop where
 cx : CarryX p W W.heap.size w
 gt : W.heap.size < nb
 box : w.heap[nb]? = some (.cells #[.int .i64 op, .int .i64 0, .string nm, .int .i64 0, v] 27 (0, 0))
 gr : Grows (nb + 1) w v xs
theorem KD.step {p : Nat} {W : World} {nb : Nat} {op : Int} {nm : ByteArray} {v : Value} {xs : List NdA} {w w' : World} (h : KD p W nb op nm v xs w) (hf : Fr p w w') : KD p W nb op nm v xs w' :=
 have := h.cx.px
 have := h.gt
 ⟨h.cx.step hf, h.gt, hf.at h.box (by omega), h.gr.fr hf (by omega)⟩
theorem KD.lt {p : Nat} {W : World} {nb : Nat} {op : Int} {nm : ByteArray} {v : Value} {xs : List NdA} {w : World} (h : KD p W nb op nm v xs w) : nb < w.heap.size := (Array.getElem?_eq_some_iff.1 h.box).1
theorem PSt.other {W W' : World} {p : Nat} {s : ByteArray} {a : Nat} {o e : Int} {wh : Nat} (h : PSt W p s a o e wh) (hk : W'.heap[p]? = W.heap[p]?) : PSt W' p s a o e wh := hk.trans h
theorem KD.grown {p : Nat} {W : World} {nb : Nat} {op : Int} {nm : ByteArray} {v v' : Value} {xs : List NdA} {w w' : World} {x : NdA} (h : KD p W nb op nm v xs w) (hx : Rob (nb + 1) w v.ownBlock x.2.1 x.2.2 x.1.ks) (hf : Fine x.1)
  (hown : w'.ownsRow (nb + 1) 27 5 v' (xs.length + 1) (flatN xs ++ cells5 x)) (hg : w.grownBy w' v.ownBlock) (hr : v'.ownBlock = v.ownBlock ∨ v'.ownBlock = some w.heap.size) :
  w'.heap[nb]? = some (.cells #[.int .i64 op, .int .i64 0, .string nm, .int .i64 0, v] 27 (0, 0)) ∧ KD p W nb op nm v' (xs ++ [x]) (w'.setCell ⟨nb, 4, none⟩ v') ∧ (w'.setCell ⟨nb, 4, none⟩ v').heap[p]? = w.heap[p]? := by
 have hlt := h.gr.row.lt
 have hl := h.lt
 have hgt := h.gt
 have hb : Below (nb + 1) w w' := (Below.refl _ w).grown hg (Nat.succ_le_of_lt hl) (fun k e => (hlt k e).1)
 have hpx := h.cx.px
 have hb2 : w'.heap[nb]? = some (.cells #[.int .i64 op, .int .i64 0, .string nm, .int .i64 0, v] 27 (0, 0)) := (hb.block _ (by omega)).trans h.box
 refine ⟨hb2, ⟨⟨(h.cx.fr.lower hb (by omega)).setCell' _ (by simp; omega) _, hpx, rfl, ?_⟩, hgt, ?_, (h.gr.add hx hf hown hg hr).set (p := ⟨nb, 4, none⟩) (by simp) _⟩, (heap_setCell_other _ _ _ _ (by simp; omega)).trans (hb.block p (by omega))⟩
 ·rw [heap_setCell_other _ _ _ _ (by simp; omega)]; exact (hb.block _ (by omega)).trans h.cx.box
 ·rw [heap_setCell_same _ _ _ _ _ _ hb2]; rfl
theorem open_dead (p : Nat) (s : ByteArray) (a : Nat) (o e : Int) (wh : Nat) (W : World) (h : PSt W p s a o e wh) (h0 : 0 ≤ o) (h1 : o ≤ 1000) (he : e ≠ 0) :
  Calls Tryz.prog 38 #[.pointer (some ⟨p, 0, none⟩)] W fun r W' => r = .returned (.tuple #[]) ∧ PSt W' p s a (o + 1) e wh ∧ Fr p W W' := by
 obtain ⟨c0, c1, c2, c3, c4, f1, f2, f3, f4⟩ := h.cells
 have H := Lib.hid h
 have he0 : (e == 0) = false := by simpa using he
 clear h he
 by_cases hd : 90 < o + 1
 ·go_enter Tryz.func38, Tryz.ntmps38
  go_wp2_with fail
  go_end0
  exact ⟨rfl, H.out.set2 (o + 1), Fr.set _ 2 _⟩
 ·go_enter Tryz.func38, Tryz.ntmps38
  go_wp2_with fail
  go_end0
  exact ⟨rfl, H.out.set2 (o + 1), Fr.set _ 2 _⟩
abbrev Moves (F : Nat) (args : Array Value) (p : Nat) (s : ByteArray) (a1 : Nat) (o1 e1 : Int) (wh1 : Nat) (W : World) : Prop :=
 Calls Tryz.prog F args W fun r W' => r = .returned (.tuple #[]) ∧ PSt W' p s a1 o1 e1 wh1 ∧ Fr p W W'
theorem dword_any (op : Int) (n : Nat) (hn : 1 ≤ n) (hn3 : n ≤ 3) (p : Nat) (s : ByteArray) (a : Nat) (o : Int) (W : World) (h : PSt W p s a o 0 0) (hop : (Lit.int .i64 op).wf = true)
  (a1 : Nat) (o1 e1 : Int) (wh1 : Nat) (a2 : Nat) (o2 e2 : Int) (wh2 : Nat) (N : List Nd → Nat → Int → Int → Nat → Prop) (Z : Nd → Nat → Int → Int → Nat → Prop)
  (cw : ∀ W', PSt W' p s a o 0 0 → Moves 164 #[.pointer (some ⟨p, 0, none⟩), .string ⟨#[40]⟩] p s a1 o1 e1 wh1 W')
  (co : ∀ W', PSt W' p s a1 o1 e1 wh1 → Moves 38 #[.pointer (some ⟨p, 0, none⟩)] p s a2 o2 e2 wh2 W')
  (h0 : N [] a2 o2 e2 wh2)
  (hlen : ∀ ks a o e wh, N ks a o e wh → ks.length ≤ n)
  (hround : ∀ ks a o wh, N ks a o 0 wh → ks.length < n → ∃ a1 o1 e1 wh1 Zf, (ks ≠ [] → ∀ W', PSt W' p s a o 0 wh → Moves 164 #[.pointer (some ⟨p, 0, none⟩), .string ⟨#[44]⟩] p s a1 o1 e1 wh1 W') ∧ (ks = [] → a1 = a ∧ o1 = o ∧ e1 = 0 ∧ wh1 = wh) ∧
   (∀ W', PSt W' p s a1 o1 e1 wh1 → Calls Tryz.prog 21 #[.pointer (some ⟨p, 0, none⟩)] W' (Ret1 p s Zf W')) ∧ ∀ u a3 o3 e3 wh3, Zf u a3 o3 e3 wh3 → N (ks ++ [u]) a3 o3 e3 wh3)
  (hend : ∀ ks a o e wh, N ks a o e wh → (e ≠ 0 ∨ ks.length = n) → ∃ a1 o1 e1 wh1, (∀ W', PSt W' p s a o e wh → Moves 164 #[.pointer (some ⟨p, 0, none⟩), .string ⟨#[41]⟩] p s a1 o1 e1 wh1 W') ∧ Z (.mk op 0 noNm 0 ks) a1 (wrap64 (o1 - 1)) e1 wh1) :
  Calls Tryz.prog 166 #[.pointer (some ⟨p, 0, none⟩), .int .i64 op, .int .i64 n] W (Ret1 p s Z W) := by
 have CX := Lib.hid (CarryX.start h)
 have HP := Lib.hid (h.alloc (.cells zero5 27))
 have CW := Lib.hid cw
 have CO := Lib.hid co
 have H0 := Lib.hid h0
 have HLen := Lib.hid hlen
 have HRound := Lib.hid hround
 have HEnd := Lib.hid hend
 have HOP := Lib.hid hop
 obtain ⟨i0, hi, hz0, hz1, hz2⟩ := info_partsP info27
 have I0 := Lib.hid hi
 have Z0 := Lib.hid hz0
 have Z1 := Lib.hid hz1
 have Z2 := Lib.hid hz2
 clear h cw co h0 hlen hround hend hop hi hz0 hz1 hz2
 go_enter Tryz.func166, Tryz.ntmps166
 have hs1 : (W.alloc (.cells zero5 27)).heap.size = W.heap.size + 1 := by simp
 go_upto_region 2 with fail
 generalize W.alloc (.cells zero5 27) = w1 at *
 have hB := (Below.refl w1.heap.size w1).alloc (Nat.le_refl _) (.cells #[.int .i64 op, .int .i64 0, .string noNm, .int .i64 0, .slice none 0 0] 27)
 have K1 := Lib.hid (show KD p W w1.heap.size op noNm (.slice none 0 0) [] (w1.alloc (.cells #[.int .i64 op, .int .i64 0, .string noNm, .int .i64 0, .slice none 0 0] 27)) from
  ⟨CX.out.step (Fr.of hB), (Array.getElem?_eq_some_iff.1 CX.out.box).1, World.alloc_heap_new _ _, Grows.nil _ _⟩)
 have P1 := Lib.hid (HP.out.later hB)
 rw [hs1] at K1
 clear hB CX HP hs1
 change Code.wp _ _ _ _ (w1.alloc (.cells #[.int .i64 op, .int .i64 0, .string noNm, .int .i64 0, .slice none 0 0] 27))
 generalize w1.alloc (.cells #[.int .i64 op, .int .i64 0, .string noNm, .int .i64 0, .slice none 0 0] 27) = w2 at *
 go_wp2_with fail
 refine (CW.out _ P1.out).mono ?_
 rintro e w3 ⟨rfl, hp3, f3⟩
 have P3 := Lib.hid hp3
 have K3 := Lib.hid (K1.out.step f3)
 clear hp3 f3 K1 P1 CW
 go_wp2_with fail
 refine (CO.out _ P3.out).mono ?_
 rintro e w4 ⟨rfl, hp4, f4⟩
 have P4 := Lib.hid hp4
 have K4 := Lib.hid (K3.out.step f4)
 clear hp4 f4 K3 P3 CO
 go_wp2_with fail
 go_loopw [8] (fun i wr => ∃ (k a' : Nat) (o' e' : Int) (wh' : Nat) (v : Value) (xs : List NdA), k ≤ n ∧ i = .int .i64 k ∧ xs.length = k ∧ Hid (KD p W (W.heap.size + 1) op noNm v xs wr) ∧ Hid (PSt wr p s a' o' e' wh') ∧ Hid (N (xs.map (·.1)) a' o' e' wh')) (fun i _ => n - (intOf i).toNat)
 case atStart => exact ⟨0, a2, o2, e2, wh2, .slice none 0 0, [], by omega, rfl, rfl, K4, P4, H0⟩
 case round =>
  clear K4 P4 H0
  obtain ⟨k, a', o', e', wh', v, xs, hk, rfl, hlen, K, P, HN⟩ := hrel
  obtain ⟨c0, c1, c2, c3, c4, _, f2, _, _⟩ := P.out.cells
  obtain ⟨A0, d0, rfl⟩ : ∃ A0 d0, v = .slice A0 xs.length d0 := by
   rcases K.out.gr.row.2 with ⟨hv, hx⟩ | ⟨g, cap, cur, hv, _⟩
   ·exact ⟨none, 0, by rw [hv, hx]⟩
   ·exact ⟨_, _, hv⟩
  by_cases hgo : k < n ∧ e' = 0
  ·obtain ⟨hlt, rfl⟩ := hgo
   obtain ⟨a3, o3, e3, wh3, Zf, hc1, hc2, hc3, hc4⟩ := HRound.out _ _ _ _ HN.out (by rw [List.length_map, hlen]; exact hlt)
   have C1 := Lib.hid hc1
   have C3 := Lib.hid hc3
   have C4 := Lib.hid hc4
   by_cases hk0 : k = 0
   ·subst hk0
    obtain ⟨rfl, rfl, rfl, rfl⟩ := hc2 (by rw [List.length_eq_zero_iff.1 hlen]; rfl)
    have HL := Lib.hid hlen
    have hbig : xs.length ≤ 3 := by omega
    clear HRound HEnd HLen hc1 hc2 hc3 hc4 C1 HN hlen
    go_wp2_with fail
    have KX := K
    have PX := P
    clear K P
    refine (C3.out _ PX.out).mono ?_
    clear C3
    rintro e w8 ⟨u, B, cb, a8, o8, e8, wh8, rfl, hr8, hf8, hfr8, hs8, hz8⟩
    have hB := (Below.refl w8.heap.size w8).alloc (Nat.le_refl _) (boxN u B cb)
    have hlt3 := KX.out.gr.row.lt
    have UR := Lib.hid ((hr8.newNone (n0 := W.heap.size + 1 + 1) (row := (Value.slice A0 xs.length d0).ownBlock) (fun g hg => (hlt3 g hg).2) (Nat.succ_le_of_lt KX.out.lt)).laterR hB)
    have UB := Lib.hid (World.alloc_heap_new w8 (boxN u B cb))
    have K9 := Lib.hid ((KX.out.step hfr8).step (Fr.of hB))
    have P9 := Lib.hid (hs8.later hB)
    have HF8 := Lib.hid hf8
    have HN9 := Lib.hid (C4.out _ _ _ _ _ hz8)
    clear hB hlt3 hr8 hf8 hfr8 hs8 hz8 C4 KX PX
    go_upto_region 10 with fail
    ·generalize w8.alloc (boxN u B cb) = w9 at *
     generalize w8.heap.size = ub at *
     obtain ⟨u0, u1, u2, u3', u4', _, _, _, _, _⟩ := box_facts UB.out
     obtain ⟨n0, n1, n2, n3, n4, g0, g1, g2, g3, g4⟩ := box_facts K9.out.box
     have HO := Lib.hid (fun O => ownsRow_alloc K9.out.gr.row O)
     have NX := Lib.hid (news5 w9 (u, B, cb) w9.heap.size rfl)
     have SZ := Lib.hid (show ∀ O, W.heap.size + 1 + 1 ≤ (w9.alloc O).heap.size from fun O => by rw [World.size_alloc]; have := K9.out.lt; omega)
     have BB := Lib.hid (fun O => (Below.refl w9.heap.size w9).alloc (Nat.le_refl _) O)
     have L1 := Lib.hid (show xs.length + 1 ≤ maxLen by unfold maxLen; omega)
     have L2 := Lib.hid (show (xs.length + 1) * 64 ≤ 140737488355328 by omega)
     go_wp2_with (at_builtin; refine wpList_append_own_at _ rfl _ _ 25 rfl (W.heap.size + 1 + 1) 27 i0 _ 5 64 Tryz.underlying25 I0.out Z0.out Z1.out Z2.out rfl (by decide) (.slice A0 xs.length d0) xs.length (flatN xs) rfl (HO.out _) ⟨w9.heap.size, 0, none⟩ 1 1 (cells5 (u, B, cb)) rfl rfl NX.out (cells5_oneP _) L1.out L2.out (SZ.out _) ?_; intro v' w10 hown hgrow _ hor; obtain ⟨g10, cap10, rfl⟩ := ownsRow_succ hown; have K10 := Lib.hid ((K9.out.step (Fr.of (BB.out _))).grown (x := (u, B, cb)) (UR.out.laterR (BB.out _)) HF8.out hown hgrow hor); have P10 := Lib.hid ((P9.out.later (BB.out _)).other K10.out.2.2); obtain ⟨n0, n1, n2, n3, n4, g0, g1, g2, g3, g4⟩ := box_facts K10.out.1; clear hown hgrow hor)
     go_roundw
     case rel => exact ⟨1, a8, o8, e8, wh8, _, xs ++ [(u, B, cb)], by omega, by go_num, by rw [List.length_append, HL.out]; rfl, Lib.hid K10.out.2.1, P10, by rw [List.map_append]; exact HN9⟩
     case measure => simp [intOf]; omega
   ·have hne : xs.map (·.1) ≠ [] := fun e => hk0 (by rw [← hlen, ← List.length_map (·.1), e]; rfl)
    have hgt : (0 : Int) < k := by omega
    have hbig : xs.length ≤ 3 := by omega
    have HL := Lib.hid hlen
    have ct := C1.out hne _ P.out
    clear HRound HEnd HLen hc1 hc2 hc3 hc4 C1 HN hlen hne
    go_wp2_with fail
    refine ct.mono ?_
    rintro e w5 ⟨rfl, h5, f5⟩
    have KX := Lib.hid (K.out.step f5)
    have PX := Lib.hid h5
    clear ct h5 f5 K P
    go_wp2_with fail
    refine (C3.out _ PX.out).mono ?_
    clear C3
    rintro e w8 ⟨u, B, cb, a8, o8, e8, wh8, rfl, hr8, hf8, hfr8, hs8, hz8⟩
    have hB := (Below.refl w8.heap.size w8).alloc (Nat.le_refl _) (boxN u B cb)
    have hlt3 := KX.out.gr.row.lt
    have UR := Lib.hid ((hr8.newNone (n0 := W.heap.size + 1 + 1) (row := (Value.slice A0 xs.length d0).ownBlock) (fun g hg => (hlt3 g hg).2) (Nat.succ_le_of_lt KX.out.lt)).laterR hB)
    have UB := Lib.hid (World.alloc_heap_new w8 (boxN u B cb))
    have K9 := Lib.hid ((KX.out.step hfr8).step (Fr.of hB))
    have P9 := Lib.hid (hs8.later hB)
    have HF8 := Lib.hid hf8
    have HN9 := Lib.hid (C4.out _ _ _ _ _ hz8)
    clear hB hlt3 hr8 hf8 hfr8 hs8 hz8 C4 KX PX
    go_upto_region 10 with fail
    ·generalize w8.alloc (boxN u B cb) = w9 at *
     generalize w8.heap.size = ub at *
     obtain ⟨u0, u1, u2, u3', u4', _, _, _, _, _⟩ := box_facts UB.out
     obtain ⟨n0, n1, n2, n3, n4, g0, g1, g2, g3, g4⟩ := box_facts K9.out.box
     have HO := Lib.hid (fun O => ownsRow_alloc K9.out.gr.row O)
     have NX := Lib.hid (news5 w9 (u, B, cb) w9.heap.size rfl)
     have SZ := Lib.hid (show ∀ O, W.heap.size + 1 + 1 ≤ (w9.alloc O).heap.size from fun O => by rw [World.size_alloc]; have := K9.out.lt; omega)
     have BB := Lib.hid (fun O => (Below.refl w9.heap.size w9).alloc (Nat.le_refl _) O)
     have L1 := Lib.hid (show xs.length + 1 ≤ maxLen by unfold maxLen; omega)
     have L2 := Lib.hid (show (xs.length + 1) * 64 ≤ 140737488355328 by omega)
     go_wp2_with (at_builtin; refine wpList_append_own_at _ rfl _ _ 25 rfl (W.heap.size + 1 + 1) 27 i0 _ 5 64 Tryz.underlying25 I0.out Z0.out Z1.out Z2.out rfl (by decide) (.slice A0 xs.length d0) xs.length (flatN xs) rfl (HO.out _) ⟨w9.heap.size, 0, none⟩ 1 1 (cells5 (u, B, cb)) rfl rfl NX.out (cells5_oneP _) L1.out L2.out (SZ.out _) ?_; intro v' w10 hown hgrow _ hor; obtain ⟨g10, cap10, rfl⟩ := ownsRow_succ hown; have K10 := Lib.hid ((K9.out.step (Fr.of (BB.out _))).grown (x := (u, B, cb)) (UR.out.laterR (BB.out _)) HF8.out hown hgrow hor); have P10 := Lib.hid ((P9.out.later (BB.out _)).other K10.out.2.2); obtain ⟨n0, n1, n2, n3, n4, g0, g1, g2, g3, g4⟩ := box_facts K10.out.1; clear hown hgrow hor)
     go_roundw
     case rel => exact ⟨k + 1, a8, o8, e8, wh8, _, xs ++ [(u, B, cb)], by omega, by go_num, by rw [List.length_append, HL.out]; rfl, Lib.hid K10.out.2.1, P10, by rw [List.map_append]; exact HN9⟩
     case measure => simp [intOf]; omega
  ·have hbig : xs.length ≤ 3 := by omega
   obtain ⟨a4, o4, e4, wh4, hc4, hz4⟩ := HEnd.out _ _ _ _ _ HN.out (by
    rw [List.length_map, hlen]
    by_cases he : e' = 0
    ·exact .inr (by have : ¬ k < n := fun h => hgo ⟨h, he⟩; omega)
    ·exact .inl he)
   have C4 := hc4 wr P.out
   have HZ4 := Lib.hid hz4
   clear HRound HEnd HLen hc4 hz4 HN hlen
   by_cases hk2 : k < n
   ·have he0 : (e' == 0) = false := by simpa using fun e => hgo ⟨hk2, e⟩
    clear hgo
    go_wp2_with fail
    refine C4.mono ?_
    rintro e w5 ⟨rfl, h5, f5⟩
    have FS : Fr p w5 (w5.setCell ⟨p, 2, none⟩ (.int .i64 (wrap64 (o4 - 1)))) := Fr.set w5 2 (.int .i64 (wrap64 (o4 - 1)))
    have K6 := Lib.hid ((K.out.step f5).step FS)
    have P6 := Lib.hid (h5.set2 (wrap64 (o4 - 1)))
    obtain ⟨q0, q1, q2, q3, q4, g1, g2, g3, g4⟩ := h5.cells
    clear f5 h5 FS C4 K P
    go_upto_region 13 with fail
    clear q0 q1 q2 q3 q4 g1 g2 g3 g4
    generalize (w5.setCell ⟨p, 2, none⟩ (.int .i64 (wrap64 (o4 - 1)))) = w6 at *
    obtain ⟨D, cd, hv, hrob⟩ := K6.out.gr.rob (by unfold maxLen; omega)
    have RB := Lib.hid hrob
    have hv1 := Lib.hid hv
    clear hv hrob
    obtain ⟨n0, n1, n2, n3, n4, _, _, _, _, _⟩ := box_facts K6.out.box
    obtain ⟨z0, z1, z2, z3, z4, f0, f1, f2, f3, f4⟩ := box_facts K6.out.cx.box
    go_wp2_with fail
    have hv := hv1.out
    simp only [Value.slice.injEq] at hv
    obtain ⟨rfl, _, rfl⟩ := hv
    have hx := K6.out.cx
    have ho := HOP.out
    have hkl : ((xs.map (·.1)).length : Nat) = xs.length := List.length_map _
    exact bodyPost_ret (res27 Tryz.results166 _ _ W.heap.size _ _ _ _ _ rfl (set5_same _ _ _ _ _ hx.box)) rfl
     ⟨.mk op 0 noNm 0 (xs.map (·.1)), A0, d0, a4, wrap64 (o4 - 1), e4, wh4, by rw [show (Nd.mk op 0 noNm 0 (xs.map (·.1))).ks.length = xs.length from hkl]; rfl, (RB.out.lower (n0 := W.heap.size + 1) (by omega)).set5 (by omega) (by omega) _ _ _ _ _, fine_op ho, hx.fr.set5 (Nat.le_refl _) _ _ _ _ _, P6.out.set5 (by have := hx.px; omega) _ _ _ _ _, HZ4.out⟩
   ·clear hgo
    go_wp2_with fail
    refine C4.mono ?_
    rintro e w5 ⟨rfl, h5, f5⟩
    have FS : Fr p w5 (w5.setCell ⟨p, 2, none⟩ (.int .i64 (wrap64 (o4 - 1)))) := Fr.set w5 2 (.int .i64 (wrap64 (o4 - 1)))
    have K6 := Lib.hid ((K.out.step f5).step FS)
    have P6 := Lib.hid (h5.set2 (wrap64 (o4 - 1)))
    obtain ⟨q0, q1, q2, q3, q4, g1, g2, g3, g4⟩ := h5.cells
    clear f5 h5 FS C4 K P
    go_upto_region 13 with fail
    clear q0 q1 q2 q3 q4 g1 g2 g3 g4
    generalize (w5.setCell ⟨p, 2, none⟩ (.int .i64 (wrap64 (o4 - 1)))) = w6 at *
    obtain ⟨D, cd, hv, hrob⟩ := K6.out.gr.rob (by unfold maxLen; omega)
    have RB := Lib.hid hrob
    have hv1 := Lib.hid hv
    clear hv hrob
    obtain ⟨n0, n1, n2, n3, n4, _, _, _, _, _⟩ := box_facts K6.out.box
    obtain ⟨z0, z1, z2, z3, z4, f0, f1, f2, f3, f4⟩ := box_facts K6.out.cx.box
    go_wp2_with fail
    have hv := hv1.out
    simp only [Value.slice.injEq] at hv
    obtain ⟨rfl, _, rfl⟩ := hv
    have hx := K6.out.cx
    have ho := HOP.out
    have hkl : ((xs.map (·.1)).length : Nat) = xs.length := List.length_map _
    exact bodyPost_ret (res27 Tryz.results166 _ _ W.heap.size _ _ _ _ _ rfl (set5_same _ _ _ _ _ hx.box)) rfl
     ⟨.mk op 0 noNm 0 (xs.map (·.1)), A0, d0, a4, wrap64 (o4 - 1), e4, wh4, by rw [show (Nd.mk op 0 noNm 0 (xs.map (·.1))).ks.length = xs.length from hkl]; rfl, (RB.out.lower (n0 := W.heap.size + 1) (by omega)).set5 (by omega) (by omega) _ _ _ _ _, fine_op ho, hx.fr.set5 (Nat.le_refl _) _ _ _ _ _, P6.out.set5 (by have := hx.px; omega) _ _ _ _ _, HZ4.out⟩
end Go.Proofs.YtgkjcimgghflmaaGreatDoor
namespace Go.Proofs.YtgkjcimgghflmaaGreatDoor
set_option maxRecDepth 100000
set_option maxHeartbeats 8000000
open Go.RowKit Go.Shelf
attribute [local go_sem] Oper.semAt_some
theorem dapp_any (p : Nat) (s : ByteArray) (a : Nat) (o : Int) (W : World) (h : PSt W p s a o 0 0) (hs : s.size ≤ 9223372036854775000) (ha : a ≤ s.size) (hk : noKey (T s a)) (hw : wordA (T s a) = none) (hnm : nameB (bs (T s a)) = true)
  (nm : ByteArray) (hnmd : nm = bs (T s a)) (hop : T s (nxt s a) = [40]) (hlen : (T s a).length ≤ maxLen)
  (o2 e2 : Int) (wh2 : Nat) (N L : List Nd → Nat → Int → Int → Nat → Prop) (Z : Nd → Nat → Int → Int → Nat → Prop)
  (co : ∀ W', PSt W' p s (nxt s (nxt s a)) o 0 0 → Moves 38 #[.pointer (some ⟨p, 0, none⟩)] p s (nxt s (nxt s a)) o2 e2 wh2 W')
  (hno : ∀ W', PSt W' p s (nxt s (nxt s a)) o2 e2 wh2 → Calls Tryz.prog 37 #[.pointer (some ⟨p, 0, none⟩), .string ⟨#[41]⟩] W' fun r W'' => r = .returned (.bool false) ∧ Below W'.heap.size W' W'')
  (h0 : N [] (nxt s (nxt s a)) o2 e2 wh2)
  (hN8 : ∀ ks a o e wh, N ks a o e wh → ks.length ≤ 8)
  (hround : ∀ ks a o e wh, N ks a o e wh → ∃ e1 wh1 Zf, (ks.length = 8 → ∀ W', PSt W' p s a o e wh → Moves 22 #[.pointer (some ⟨p, 0, none⟩)] p s a o e1 wh1 W') ∧ (ks.length ≠ 8 → e1 = e ∧ wh1 = wh) ∧
   (∀ W', PSt W' p s a o e1 wh1 → Calls Tryz.prog 21 #[.pointer (some ⟨p, 0, none⟩)] W' (Ret1 p s Zf W')) ∧ ∀ u a3 o3 e3 wh3, Zf u a3 o3 e3 wh3 → (e3 ≠ 0 → L (ks ++ [u]) a3 o3 e3 wh3) ∧
    (e3 = 0 → (∃ a4, (∀ W', PSt W' p s a3 o3 0 wh3 → Calls Tryz.prog 37 #[.pointer (some ⟨p, 0, none⟩), .string ⟨#[44]⟩] W' fun r W'' => r = .returned (.bool true) ∧ PSt W'' p s a4 o3 0 wh3 ∧ Fr p W' W'') ∧ N (ks ++ [u]) a4 o3 0 wh3 ∧ a < a4 ∧ a4 ≤ s.size) ∨
     ((∀ W', PSt W' p s a3 o3 0 wh3 → Calls Tryz.prog 37 #[.pointer (some ⟨p, 0, none⟩), .string ⟨#[44]⟩] W' fun r W'' => r = .returned (.bool false) ∧ Below W'.heap.size W' W'') ∧ L (ks ++ [u]) a3 o3 0 wh3)))
  (hend : ∀ ks a o e wh, L ks a o e wh → ∃ a1 o1 e1 wh1, (∀ W', PSt W' p s a o e wh → Moves 164 #[.pointer (some ⟨p, 0, none⟩), .string ⟨#[41]⟩] p s a1 o1 e1 wh1 W') ∧ Z (.mk 3 0 nm 0 ks) a1 (wrap64 (o1 - 1)) e1 wh1) :
  Calls Tryz.prog 160 #[.pointer (some ⟨p, 0, none⟩)] W (Ret1 p s Z W) := by
 have CX := Lib.hid (CarryX.start h)
 have HP := Lib.hid (h.alloc (.cells zero5 27))
 have CO := Lib.hid co
 have CNo := Lib.hid hno
 have H0 := Lib.hid h0
 have HN8 := Lib.hid hN8
 have HRound := Lib.hid hround
 have HEnd := Lib.hid hend
 obtain ⟨i0, hi, hz0, hz1, hz2⟩ := info_partsP info27
 have I0 := Lib.hid hi
 have Z0 := Lib.hid hz0
 have Z1 := Lib.hid hz1
 have Z2 := Lib.hid hz2
 have cn := next_any p s a o 0 0 _ HP.out ha hs
 rw [show nT s a 0 = T s a from if_pos rfl] at cn
 have hk0 : ((bs (T s a)).toList == [40]) = false := by rw [bs_toList]; simpa using hk.1
 have hk1 : ((bs (T s a)).toList == [116, 114, 117, 101]) = false := by rw [bs_toList]; simpa using hk.2.1
 have hk2 : ((bs (T s a)).toList == [102, 97, 108, 115, 101]) = false := by rw [bs_toList]; simpa using hk.2.2.1
 have hk3 : ((bs (T s a)).toList == [101, 109, 112, 116, 121]) = false := by rw [bs_toList]; simpa using hk.2.2.2
 have KT := Lib.hid (fun w => taking_no (T s a) hw w)
 have HNm := Lib.hid hnm
 have cp := Lib.hid (fun (W' : World) (hb : Below (W.alloc (.cells zero5 27)).heap.size (W.alloc (.cells zero5 27)) W') => pass_live p s a o 0 W' (HP.out.later hb) ha hs)
 have hn2 := (nxt_le ha).2
 have ct := Lib.hid (fun (W' : World) (hp : PSt W' p s (nxt s a) o 0 0) => take_yes [40] p s (nxt s a) o 0 W' hp hn2 hs hop)
 rw [show bs [40] = ⟨#[40]⟩ from rfl] at ct
 have HF := Lib.hid (show ∀ ks, Fine (.mk 3 0 (bs (T s a)) 0 ks) from fun ks => ⟨by show (bs (T s a)).size ≤ maxLen; simpa [bs, ByteArray.size] using hlen, by show (Lit.int .i64 3).wf = true; decide, by show (Lit.int .i64 0).wf = true; decide, by show (Lit.int .i64 0).wf = true; decide⟩)
 rw [← hnmd] at cn hk0 hk1 hk2 hk3 KT HNm HF
 have HSZ := Lib.hid hs
 clear h co hno h0 hN8 hround hend hi hz0 hz1 hz2 hs hk hw hnm hop hlen hn2 ha hnmd
 generalize nxt s (nxt s a) = b2 at *
 go_enter Tryz.func160, Tryz.ntmps160
 go_wp2_with fail
 refine cn.mono ?_
 rintro e w1 ⟨rfl, b1⟩
 have B1 := Lib.hid b1
 clear b1 cn
 go_wp2_with fail
 refine (KT.out _).mono ?_
 rintro e w2 ⟨rfl, rfl⟩
 clear KT
 go_wp2_with fail
 refine (refName_any _ _).mono ?_
 rintro e w3 ⟨rfl, b2'⟩
 rw [HNm.out]
 have B2 := Lib.hid (B1.out.trans (b2'.mono B1.out.size))
 have CX1 := Lib.hid (CX.out.step (Fr.of B2.out))
 have c2 := cp.out _ B2.out
 clear b2' cp HNm
 go_wp2_with fail
 refine c2.mono ?_
 rintro e w4 ⟨rfl, h1, f1⟩
 have CX2 := Lib.hid (CX1.out.step f1)
 have c3 := ct.out _ h1
 clear h1 f1 c2 ct
 go_wp2_with fail
 refine c3.mono ?_
 rintro e w5 ⟨rfl, h5, f5⟩
 have CX3 := Lib.hid (CX2.out.step f5)
 have c4 := CO.out _ h5
 clear h5 f5 c3 CO
 go_wp2_with fail
 refine c4.mono ?_
 rintro e w6 ⟨rfl, h6, f6⟩
 have CX4 := Lib.hid (CX3.out.step f6)
 have P6 := Lib.hid h6
 clear h6 f6 c4
 have hB := (Below.refl w6.heap.size w6).alloc (Nat.le_refl _) (.cells #[.int .i64 3, .int .i64 0, .string nm, .int .i64 0, .slice none 0 0] 27)
 have K7 := Lib.hid (show KD p W w6.heap.size 3 nm (.slice none 0 0) [] (w6.alloc (.cells #[.int .i64 3, .int .i64 0, .string nm, .int .i64 0, .slice none 0 0] 27)) from
  ⟨CX4.out.step (Fr.of hB), (Array.getElem?_eq_some_iff.1 CX4.out.box).1, World.alloc_heap_new _ _, Grows.nil _ _⟩)
 have P7 := Lib.hid (P6.out.later hB)
 clear hB CX4 P6 CX3 CX2 CX1 CX HP B1 B2
 go_upto_region 30 with fail
 generalize w6.alloc (.cells #[.int .i64 3, .int .i64 0, .string nm, .int .i64 0, .slice none 0 0] 27) = w7 at *
 generalize w6.heap.size = nb at *
 go_wp2_with fail
 refine (CNo.out _ P7.out).mono ?_
 rintro e w8 ⟨rfl, b8⟩
 have K8 := Lib.hid (K7.out.step (Fr.of b8))
 have P8 := Lib.hid (P7.out.later b8)
 clear b8 K7 P7 CNo
 go_wp2_with fail
 go_loopw [8] (fun _ wr => ∃ (a' : Nat) (o' e' : Int) (wh' : Nat) (v : Value) (xs : List NdA), Hid (KD p W nb 3 nm v xs wr) ∧ Hid (PSt wr p s a' o' e' wh') ∧ Hid (N (xs.map (·.1)) a' o' e' wh')) (fun _ wr => s.size - atOf p wr)
 case atStart => exact ⟨b2, o2, e2, wh2, .slice none 0 0, [], K8, P8, H0⟩
 case round =>
  clear K8 P8 H0
  obtain ⟨a', o', e', wh', v, xs, K, P, HN⟩ := hrel
  have hpos := P.out.atOf
  have h8 := HN8.out _ _ _ _ _ HN.out
  rw [List.length_map] at h8
  obtain ⟨A0, d0, rfl⟩ : ∃ A0 d0, v = .slice A0 xs.length d0 := by
   rcases K.out.gr.row.2 with ⟨hv, hx⟩ | ⟨g, cap, cur, hv, _⟩
   ·exact ⟨none, 0, by rw [hv, hx]⟩
   ·exact ⟨_, _, hv⟩
  obtain ⟨e1, wh1, Zf, hc1, hc2, hc3, hc4⟩ := HRound.out _ _ _ _ _ HN.out
  rw [List.length_map] at hc1 hc2
  have C3 := Lib.hid hc3
  have C4 := Lib.hid hc4
  obtain ⟨m0, m1, m2, m3, m4, _, _, _, _, _⟩ := box_facts K.out.box
  by_cases hful : xs.length = 8
  ·have he8 : ((xs.length : Int) == 8) = true := by simp; omega
   have ct := hc1 hful _ P.out
   clear hc1 hc2 hc3 hc4 HRound HN8 HN hful
   go_wp2_with fail
   refine ct.mono ?_
   rintro e w9 ⟨rfl, h9, f9⟩
   have KX := Lib.hid (K.out.step f9)
   have PX := Lib.hid h9
   clear ct h9 f9 K P m0 m1 m2 m3 m4
   go_wp2_with fail
   refine (C3.out _ PX.out).mono ?_
   clear C3
   rintro e w10 ⟨u, B, cb, a8, o8, er8, wh8, rfl, hr8, hf8, hfr8, hs8, hz8⟩
   have hB := (Below.refl w10.heap.size w10).alloc (Nat.le_refl _) (boxN u B cb)
   have hlt3 := KX.out.gr.row.lt
   have UR := Lib.hid ((hr8.newNone (n0 := nb + 1) (row := (Value.slice A0 xs.length d0).ownBlock) (fun g hg => (hlt3 g hg).2) (Nat.succ_le_of_lt KX.out.lt)).laterR hB)
   have UB := Lib.hid (World.alloc_heap_new w10 (boxN u B cb))
   have K9 := Lib.hid ((KX.out.step hfr8).step (Fr.of hB))
   have P9 := Lib.hid (hs8.later hB)
   have HF8 := Lib.hid hf8
   have HZ8 := Lib.hid (C4.out _ _ _ _ _ hz8)
   clear hB hlt3 hr8 hf8 hfr8 hs8 hz8 C4 KX PX
   go_upto_region 34 with fail
   ·generalize w10.alloc (boxN u B cb) = w11 at *
    generalize w10.heap.size = ub at *
    obtain ⟨u0, u1, u2, u3', u4', _, _, _, _, _⟩ := box_facts UB.out
    obtain ⟨n0, n1, n2, n3, n4, g0, g1, g2, g3, g4⟩ := box_facts K9.out.box
    have HO := Lib.hid (fun O => ownsRow_alloc K9.out.gr.row O)
    have NX := Lib.hid (news5 w11 (u, B, cb) w11.heap.size rfl)
    have SZ := Lib.hid (show ∀ O, nb + 1 ≤ (w11.alloc O).heap.size from fun O => by rw [World.size_alloc]; have := K9.out.lt; omega)
    have BB := Lib.hid (fun O => (Below.refl w11.heap.size w11).alloc (Nat.le_refl _) O)
    have L1 := Lib.hid (show xs.length + 1 ≤ maxLen by unfold maxLen; omega)
    have L2 := Lib.hid (show (xs.length + 1) * 64 ≤ 140737488355328 by omega)
    by_cases hz : er8 = 0
    ·subst hz
     rcases HZ8.out.2 rfl with ⟨a4, hct, hN4, hlt4, hle4⟩ | ⟨hct, hL4⟩
     ·have HC6 := Lib.hid hct
      have HN4 := Lib.hid hN4
      clear hct hN4 HZ8
      go_wp2_with (at_builtin; refine wpList_append_own_at _ rfl _ _ 25 rfl (nb + 1) 27 i0 _ 5 64 Tryz.underlying25 I0.out Z0.out Z1.out Z2.out rfl (by decide) (.slice A0 xs.length d0) xs.length (flatN xs) rfl (HO.out _) ⟨w11.heap.size, 0, none⟩ 1 1 (cells5 (u, B, cb)) rfl rfl NX.out (cells5_oneP _) L1.out L2.out (SZ.out _) ?_; intro v' w12 hown hgrow _ hor; obtain ⟨g12, cap12, rfl⟩ := ownsRow_succ hown; have K10 := Lib.hid ((K9.out.step (Fr.of (BB.out _))).grown (x := (u, B, cb)) (UR.out.laterR (BB.out _)) HF8.out hown hgrow hor); have P10 := Lib.hid ((P9.out.later (BB.out _)).other K10.out.2.2); obtain ⟨n0, n1, n2, n3, n4, g0, g1, g2, g3, g4⟩ := box_facts K10.out.1; obtain ⟨q0, q1, q2, q3, q4, _, _, _, _⟩ := P10.out.cells; clear hown hgrow hor)
      have KY := Lib.hid K10.out.2.1
      have PY := P10
      clear K10 P10 n0 n1 n2 n3 n4 g0 g1 g2 g3 g4 q0 q1 q2 q3 q4 K9 P9 UR UB HO NX SZ L1 L2 u0 u1 u2 u3' u4' BB HF8
      generalize w12.setCell ⟨nb, 4, none⟩ (.slice (some ⟨g12, 0, none⟩) (xs.length + 1) cap12) = w13 at *
      refine (HC6.out _ PY.out).mono ?_
      rintro e w14 ⟨rfl, h14, f14⟩
      have K14 := Lib.hid (KY.out.step f14)
      have P14 := Lib.hid h14
      clear h14 f14 HC6 KY PY
      go_wp2_with fail
      go_roundw
      case rel => exact ⟨a4, _, _, _, _, xs ++ [(u, B, cb)], K14, P14, by rw [List.map_append]; exact HN4⟩
      case measure =>
       have e1 := P14.out.atOf
       have : s.size - atOf p w14 < s.size - atOf p wr := by rw [e1, hpos]; omega
       exact this
     ·have HC6 := Lib.hid hct
      have HL := Lib.hid hL4
      clear hct hL4 HZ8
      obtain ⟨a5, o5, e5, wh5, hc5, hz5⟩ := HEnd.out _ _ _ _ _ HL.out
      have HC5 := Lib.hid hc5
      have HZ5 := Lib.hid hz5
      clear hc5 hz5 HL HEnd
      go_wp2_with (at_builtin; refine wpList_append_own_at _ rfl _ _ 25 rfl (nb + 1) 27 i0 _ 5 64 Tryz.underlying25 I0.out Z0.out Z1.out Z2.out rfl (by decide) (.slice A0 xs.length d0) xs.length (flatN xs) rfl (HO.out _) ⟨w11.heap.size, 0, none⟩ 1 1 (cells5 (u, B, cb)) rfl rfl NX.out (cells5_oneP _) L1.out L2.out (SZ.out _) ?_; intro v' w12 hown hgrow _ hor; obtain ⟨g12, cap12, rfl⟩ := ownsRow_succ hown; have K10 := Lib.hid ((K9.out.step (Fr.of (BB.out _))).grown (x := (u, B, cb)) (UR.out.laterR (BB.out _)) HF8.out hown hgrow hor); have P10 := Lib.hid ((P9.out.later (BB.out _)).other K10.out.2.2); obtain ⟨n0, n1, n2, n3, n4, g0, g1, g2, g3, g4⟩ := box_facts K10.out.1; obtain ⟨q0, q1, q2, q3, q4, _, _, _, _⟩ := P10.out.cells; clear hown hgrow hor)
      have KY := Lib.hid K10.out.2.1
      have PY := P10
      clear K10 P10 n0 n1 n2 n3 n4 g0 g1 g2 g3 g4 q0 q1 q2 q3 q4 K9 P9 UR UB HO NX SZ L1 L2 u0 u1 u2 u3' u4' BB HF8
      generalize w12.setCell ⟨nb, 4, none⟩ (.slice (some ⟨g12, 0, none⟩) (xs.length + 1) cap12) = w13 at *
      refine (HC6.out _ PY.out).mono ?_
      rintro e w14 ⟨rfl, b14⟩
      have KY := Lib.hid (KY.out.step (Fr.of b14))
      have PY := Lib.hid (PY.out.later b14)
      clear b14 HC6
      go_wp2_with fail
      refine (HC5.out _ PY.out).mono ?_
      rintro e w15 ⟨rfl, h5, f5⟩
      have FS : Fr p w15 (w15.setCell ⟨p, 2, none⟩ (.int .i64 (wrap64 (o5 - 1)))) := Fr.set w15 2 (.int .i64 (wrap64 (o5 - 1)))
      have K6 := Lib.hid ((KY.out.step f5).step FS)
      have P6 := Lib.hid (h5.set2 (wrap64 (o5 - 1)))
      obtain ⟨q0, q1, q2, q3, q4, g1, g2, g3, g4⟩ := h5.cells
      clear f5 h5 FS HC5 KY PY
      go_upto_region 38 with fail
      clear q0 q1 q2 q3 q4 g1 g2 g3 g4
      generalize (w15.setCell ⟨p, 2, none⟩ (.int .i64 (wrap64 (o5 - 1)))) = w16 at *
      obtain ⟨D, cd, hv, hrob⟩ := K6.out.gr.rob (by rw [List.length_append]; unfold maxLen; simp; omega)
      have RB := Lib.hid hrob
      have hv1 := Lib.hid hv
      clear hv hrob
      obtain ⟨n0, n1, n2, n3, n4, _, _, _, _, _⟩ := box_facts K6.out.box
      obtain ⟨z0, z1, z2, z3, z4, f0, f1, f2, f3, f4⟩ := box_facts K6.out.cx.box
      go_wp2_with fail
      have hv := hv1.out
      simp only [Value.slice.injEq] at hv
      obtain ⟨rfl, _, rfl⟩ := hv
      have hx := K6.out.cx
      have hgt := K6.out.gt
      have ho := HF.out ((xs ++ [(u, B, cb)]).map (·.1))
      have hkl : (((xs ++ [(u, B, cb)]).map (·.1)).length : Nat) = xs.length + 1 := by rw [List.length_map, List.length_append]; rfl
      have hzz := HZ5.out
      rw [show xs.map (·.1) ++ [u] = (xs ++ [(u, B, cb)]).map (·.1) by rw [List.map_append]; rfl] at hzz
      exact bodyPost_ret (res27 Tryz.results160 _ _ W.heap.size _ _ _ _ _ rfl (set5_same _ _ _ _ _ hx.box)) rfl
       ⟨.mk 3 0 nm 0 ((xs ++ [(u, B, cb)]).map (·.1)), some ⟨g12, 0, none⟩, cap12, a5, wrap64 (o5 - 1), e5, wh5, by rw [show (Nd.mk 3 0 nm 0 ((xs ++ [(u, B, cb)]).map (·.1))).ks.length = xs.length + 1 from hkl]; rfl, (RB.out.lower (n0 := W.heap.size + 1) (by omega)).set5 (by omega) (by omega) _ _ _ _ _, ho, hx.fr.set5 (Nat.le_refl _) _ _ _ _ _, P6.out.set5 (by have := hx.px; omega) _ _ _ _ _, hzz⟩
    ·have hz0 : (er8 == 0) = false := by simpa using hz
     have hz1 : (er8 != 0) = true := by simpa using hz
     have HL := Lib.hid (HZ8.out.1 hz)
     clear HZ8 hz
     obtain ⟨a5, o5, e5, wh5, hc5, hz5⟩ := HEnd.out _ _ _ _ _ HL.out
     have HC5 := Lib.hid hc5
     have HZ5 := Lib.hid hz5
     clear hc5 hz5 HL HEnd
     go_wp2_with (at_builtin; refine wpList_append_own_at _ rfl _ _ 25 rfl (nb + 1) 27 i0 _ 5 64 Tryz.underlying25 I0.out Z0.out Z1.out Z2.out rfl (by decide) (.slice A0 xs.length d0) xs.length (flatN xs) rfl (HO.out _) ⟨w11.heap.size, 0, none⟩ 1 1 (cells5 (u, B, cb)) rfl rfl NX.out (cells5_oneP _) L1.out L2.out (SZ.out _) ?_; intro v' w12 hown hgrow _ hor; obtain ⟨g12, cap12, rfl⟩ := ownsRow_succ hown; have K10 := Lib.hid ((K9.out.step (Fr.of (BB.out _))).grown (x := (u, B, cb)) (UR.out.laterR (BB.out _)) HF8.out hown hgrow hor); have P10 := Lib.hid ((P9.out.later (BB.out _)).other K10.out.2.2); obtain ⟨n0, n1, n2, n3, n4, g0, g1, g2, g3, g4⟩ := box_facts K10.out.1; obtain ⟨q0, q1, q2, q3, q4, _, _, _, _⟩ := P10.out.cells; clear hown hgrow hor)
     have KY := Lib.hid K10.out.2.1
     have PY := P10
     clear K10 P10 n0 n1 n2 n3 n4 g0 g1 g2 g3 g4 q0 q1 q2 q3 q4 K9 P9 UR UB HO NX SZ L1 L2 u0 u1 u2 u3' u4' BB HF8
     generalize w12.setCell ⟨nb, 4, none⟩ (.slice (some ⟨g12, 0, none⟩) (xs.length + 1) cap12) = w13 at *
     refine (HC5.out _ PY.out).mono ?_
     rintro e w15 ⟨rfl, h5, f5⟩
     have FS : Fr p w15 (w15.setCell ⟨p, 2, none⟩ (.int .i64 (wrap64 (o5 - 1)))) := Fr.set w15 2 (.int .i64 (wrap64 (o5 - 1)))
     have K6 := Lib.hid ((KY.out.step f5).step FS)
     have P6 := Lib.hid (h5.set2 (wrap64 (o5 - 1)))
     obtain ⟨q0, q1, q2, q3, q4, g1, g2, g3, g4⟩ := h5.cells
     clear f5 h5 FS HC5 KY PY
     go_upto_region 38 with fail
     clear q0 q1 q2 q3 q4 g1 g2 g3 g4
     generalize (w15.setCell ⟨p, 2, none⟩ (.int .i64 (wrap64 (o5 - 1)))) = w16 at *
     obtain ⟨D, cd, hv, hrob⟩ := K6.out.gr.rob (by rw [List.length_append]; unfold maxLen; simp; omega)
     have RB := Lib.hid hrob
     have hv1 := Lib.hid hv
     clear hv hrob
     obtain ⟨n0, n1, n2, n3, n4, _, _, _, _, _⟩ := box_facts K6.out.box
     obtain ⟨z0, z1, z2, z3, z4, f0, f1, f2, f3, f4⟩ := box_facts K6.out.cx.box
     go_wp2_with fail
     have hv := hv1.out
     simp only [Value.slice.injEq] at hv
     obtain ⟨rfl, _, rfl⟩ := hv
     have hx := K6.out.cx
     have hgt := K6.out.gt
     have ho := HF.out ((xs ++ [(u, B, cb)]).map (·.1))
     have hkl : (((xs ++ [(u, B, cb)]).map (·.1)).length : Nat) = xs.length + 1 := by rw [List.length_map, List.length_append]; rfl
     have hzz := HZ5.out
     rw [show xs.map (·.1) ++ [u] = (xs ++ [(u, B, cb)]).map (·.1) by rw [List.map_append]; rfl] at hzz
     exact bodyPost_ret (res27 Tryz.results160 _ _ W.heap.size _ _ _ _ _ rfl (set5_same _ _ _ _ _ hx.box)) rfl
      ⟨.mk 3 0 nm 0 ((xs ++ [(u, B, cb)]).map (·.1)), some ⟨g12, 0, none⟩, cap12, a5, wrap64 (o5 - 1), e5, wh5, by rw [show (Nd.mk 3 0 nm 0 ((xs ++ [(u, B, cb)]).map (·.1))).ks.length = xs.length + 1 from hkl]; rfl, (RB.out.lower (n0 := W.heap.size + 1) (by omega)).set5 (by omega) (by omega) _ _ _ _ _, ho, hx.fr.set5 (Nat.le_refl _) _ _ _ _ _, P6.out.set5 (by have := hx.px; omega) _ _ _ _ _, hzz⟩
  ·have he8 : ((xs.length : Int) == 8) = false := by simp; omega
   obtain ⟨rfl, rfl⟩ := hc2 hful
   have KX := K
   have PX := P
   clear hc1 hc2 hc3 hc4 HRound HN8 HN hful K P
   go_wp2_with fail
   refine (C3.out _ PX.out).mono ?_
   clear C3
   rintro e w10 ⟨u, B, cb, a8, o8, er8, wh8, rfl, hr8, hf8, hfr8, hs8, hz8⟩
   have hB := (Below.refl w10.heap.size w10).alloc (Nat.le_refl _) (boxN u B cb)
   have hlt3 := KX.out.gr.row.lt
   have UR := Lib.hid ((hr8.newNone (n0 := nb + 1) (row := (Value.slice A0 xs.length d0).ownBlock) (fun g hg => (hlt3 g hg).2) (Nat.succ_le_of_lt KX.out.lt)).laterR hB)
   have UB := Lib.hid (World.alloc_heap_new w10 (boxN u B cb))
   have K9 := Lib.hid ((KX.out.step hfr8).step (Fr.of hB))
   have P9 := Lib.hid (hs8.later hB)
   have HF8 := Lib.hid hf8
   have HZ8 := Lib.hid (C4.out _ _ _ _ _ hz8)
   clear hB hlt3 hr8 hf8 hfr8 hs8 hz8 C4 KX PX
   go_upto_region 34 with fail
   ·generalize w10.alloc (boxN u B cb) = w11 at *
    generalize w10.heap.size = ub at *
    obtain ⟨u0, u1, u2, u3', u4', _, _, _, _, _⟩ := box_facts UB.out
    obtain ⟨n0, n1, n2, n3, n4, g0, g1, g2, g3, g4⟩ := box_facts K9.out.box
    have HO := Lib.hid (fun O => ownsRow_alloc K9.out.gr.row O)
    have NX := Lib.hid (news5 w11 (u, B, cb) w11.heap.size rfl)
    have SZ := Lib.hid (show ∀ O, nb + 1 ≤ (w11.alloc O).heap.size from fun O => by rw [World.size_alloc]; have := K9.out.lt; omega)
    have BB := Lib.hid (fun O => (Below.refl w11.heap.size w11).alloc (Nat.le_refl _) O)
    have L1 := Lib.hid (show xs.length + 1 ≤ maxLen by unfold maxLen; omega)
    have L2 := Lib.hid (show (xs.length + 1) * 64 ≤ 140737488355328 by omega)
    by_cases hz : er8 = 0
    ·subst hz
     rcases HZ8.out.2 rfl with ⟨a4, hct, hN4, hlt4, hle4⟩ | ⟨hct, hL4⟩
     ·have HC6 := Lib.hid hct
      have HN4 := Lib.hid hN4
      clear hct hN4 HZ8
      go_wp2_with (at_builtin; refine wpList_append_own_at _ rfl _ _ 25 rfl (nb + 1) 27 i0 _ 5 64 Tryz.underlying25 I0.out Z0.out Z1.out Z2.out rfl (by decide) (.slice A0 xs.length d0) xs.length (flatN xs) rfl (HO.out _) ⟨w11.heap.size, 0, none⟩ 1 1 (cells5 (u, B, cb)) rfl rfl NX.out (cells5_oneP _) L1.out L2.out (SZ.out _) ?_; intro v' w12 hown hgrow _ hor; obtain ⟨g12, cap12, rfl⟩ := ownsRow_succ hown; have K10 := Lib.hid ((K9.out.step (Fr.of (BB.out _))).grown (x := (u, B, cb)) (UR.out.laterR (BB.out _)) HF8.out hown hgrow hor); have P10 := Lib.hid ((P9.out.later (BB.out _)).other K10.out.2.2); obtain ⟨n0, n1, n2, n3, n4, g0, g1, g2, g3, g4⟩ := box_facts K10.out.1; obtain ⟨q0, q1, q2, q3, q4, _, _, _, _⟩ := P10.out.cells; clear hown hgrow hor)
      have KY := Lib.hid K10.out.2.1
      have PY := P10
      clear K10 P10 n0 n1 n2 n3 n4 g0 g1 g2 g3 g4 q0 q1 q2 q3 q4 K9 P9 UR UB HO NX SZ L1 L2 u0 u1 u2 u3' u4' BB HF8
      generalize w12.setCell ⟨nb, 4, none⟩ (.slice (some ⟨g12, 0, none⟩) (xs.length + 1) cap12) = w13 at *
      refine (HC6.out _ PY.out).mono ?_
      rintro e w14 ⟨rfl, h14, f14⟩
      have K14 := Lib.hid (KY.out.step f14)
      have P14 := Lib.hid h14
      clear h14 f14 HC6 KY PY
      go_wp2_with fail
      go_roundw
      case rel => exact ⟨a4, _, _, _, _, xs ++ [(u, B, cb)], K14, P14, by rw [List.map_append]; exact HN4⟩
      case measure =>
       have e1 := P14.out.atOf
       have : s.size - atOf p w14 < s.size - atOf p wr := by rw [e1, hpos]; omega
       exact this
     ·have HC6 := Lib.hid hct
      have HL := Lib.hid hL4
      clear hct hL4 HZ8
      obtain ⟨a5, o5, e5, wh5, hc5, hz5⟩ := HEnd.out _ _ _ _ _ HL.out
      have HC5 := Lib.hid hc5
      have HZ5 := Lib.hid hz5
      clear hc5 hz5 HL HEnd
      go_wp2_with (at_builtin; refine wpList_append_own_at _ rfl _ _ 25 rfl (nb + 1) 27 i0 _ 5 64 Tryz.underlying25 I0.out Z0.out Z1.out Z2.out rfl (by decide) (.slice A0 xs.length d0) xs.length (flatN xs) rfl (HO.out _) ⟨w11.heap.size, 0, none⟩ 1 1 (cells5 (u, B, cb)) rfl rfl NX.out (cells5_oneP _) L1.out L2.out (SZ.out _) ?_; intro v' w12 hown hgrow _ hor; obtain ⟨g12, cap12, rfl⟩ := ownsRow_succ hown; have K10 := Lib.hid ((K9.out.step (Fr.of (BB.out _))).grown (x := (u, B, cb)) (UR.out.laterR (BB.out _)) HF8.out hown hgrow hor); have P10 := Lib.hid ((P9.out.later (BB.out _)).other K10.out.2.2); obtain ⟨n0, n1, n2, n3, n4, g0, g1, g2, g3, g4⟩ := box_facts K10.out.1; obtain ⟨q0, q1, q2, q3, q4, _, _, _, _⟩ := P10.out.cells; clear hown hgrow hor)
      have KY := Lib.hid K10.out.2.1
      have PY := P10
      clear K10 P10 n0 n1 n2 n3 n4 g0 g1 g2 g3 g4 q0 q1 q2 q3 q4 K9 P9 UR UB HO NX SZ L1 L2 u0 u1 u2 u3' u4' BB HF8
      generalize w12.setCell ⟨nb, 4, none⟩ (.slice (some ⟨g12, 0, none⟩) (xs.length + 1) cap12) = w13 at *
      refine (HC6.out _ PY.out).mono ?_
      rintro e w14 ⟨rfl, b14⟩
      have KY := Lib.hid (KY.out.step (Fr.of b14))
      have PY := Lib.hid (PY.out.later b14)
      clear b14 HC6
      go_wp2_with fail
      refine (HC5.out _ PY.out).mono ?_
      rintro e w15 ⟨rfl, h5, f5⟩
      have FS : Fr p w15 (w15.setCell ⟨p, 2, none⟩ (.int .i64 (wrap64 (o5 - 1)))) := Fr.set w15 2 (.int .i64 (wrap64 (o5 - 1)))
      have K6 := Lib.hid ((KY.out.step f5).step FS)
      have P6 := Lib.hid (h5.set2 (wrap64 (o5 - 1)))
      obtain ⟨q0, q1, q2, q3, q4, g1, g2, g3, g4⟩ := h5.cells
      clear f5 h5 FS HC5 KY PY
      go_upto_region 38 with fail
      clear q0 q1 q2 q3 q4 g1 g2 g3 g4
      generalize (w15.setCell ⟨p, 2, none⟩ (.int .i64 (wrap64 (o5 - 1)))) = w16 at *
      obtain ⟨D, cd, hv, hrob⟩ := K6.out.gr.rob (by rw [List.length_append]; unfold maxLen; simp; omega)
      have RB := Lib.hid hrob
      have hv1 := Lib.hid hv
      clear hv hrob
      obtain ⟨n0, n1, n2, n3, n4, _, _, _, _, _⟩ := box_facts K6.out.box
      obtain ⟨z0, z1, z2, z3, z4, f0, f1, f2, f3, f4⟩ := box_facts K6.out.cx.box
      go_wp2_with fail
      have hv := hv1.out
      simp only [Value.slice.injEq] at hv
      obtain ⟨rfl, _, rfl⟩ := hv
      have hx := K6.out.cx
      have hgt := K6.out.gt
      have ho := HF.out ((xs ++ [(u, B, cb)]).map (·.1))
      have hkl : (((xs ++ [(u, B, cb)]).map (·.1)).length : Nat) = xs.length + 1 := by rw [List.length_map, List.length_append]; rfl
      have hzz := HZ5.out
      rw [show xs.map (·.1) ++ [u] = (xs ++ [(u, B, cb)]).map (·.1) by rw [List.map_append]; rfl] at hzz
      exact bodyPost_ret (res27 Tryz.results160 _ _ W.heap.size _ _ _ _ _ rfl (set5_same _ _ _ _ _ hx.box)) rfl
       ⟨.mk 3 0 nm 0 ((xs ++ [(u, B, cb)]).map (·.1)), some ⟨g12, 0, none⟩, cap12, a5, wrap64 (o5 - 1), e5, wh5, by rw [show (Nd.mk 3 0 nm 0 ((xs ++ [(u, B, cb)]).map (·.1))).ks.length = xs.length + 1 from hkl]; rfl, (RB.out.lower (n0 := W.heap.size + 1) (by omega)).set5 (by omega) (by omega) _ _ _ _ _, ho, hx.fr.set5 (Nat.le_refl _) _ _ _ _ _, P6.out.set5 (by have := hx.px; omega) _ _ _ _ _, hzz⟩
    ·have hz0 : (er8 == 0) = false := by simpa using hz
     have hz1 : (er8 != 0) = true := by simpa using hz
     have HL := Lib.hid (HZ8.out.1 hz)
     clear HZ8 hz
     obtain ⟨a5, o5, e5, wh5, hc5, hz5⟩ := HEnd.out _ _ _ _ _ HL.out
     have HC5 := Lib.hid hc5
     have HZ5 := Lib.hid hz5
     clear hc5 hz5 HL HEnd
     go_wp2_with (at_builtin; refine wpList_append_own_at _ rfl _ _ 25 rfl (nb + 1) 27 i0 _ 5 64 Tryz.underlying25 I0.out Z0.out Z1.out Z2.out rfl (by decide) (.slice A0 xs.length d0) xs.length (flatN xs) rfl (HO.out _) ⟨w11.heap.size, 0, none⟩ 1 1 (cells5 (u, B, cb)) rfl rfl NX.out (cells5_oneP _) L1.out L2.out (SZ.out _) ?_; intro v' w12 hown hgrow _ hor; obtain ⟨g12, cap12, rfl⟩ := ownsRow_succ hown; have K10 := Lib.hid ((K9.out.step (Fr.of (BB.out _))).grown (x := (u, B, cb)) (UR.out.laterR (BB.out _)) HF8.out hown hgrow hor); have P10 := Lib.hid ((P9.out.later (BB.out _)).other K10.out.2.2); obtain ⟨n0, n1, n2, n3, n4, g0, g1, g2, g3, g4⟩ := box_facts K10.out.1; obtain ⟨q0, q1, q2, q3, q4, _, _, _, _⟩ := P10.out.cells; clear hown hgrow hor)
     have KY := Lib.hid K10.out.2.1
     have PY := P10
     clear K10 P10 n0 n1 n2 n3 n4 g0 g1 g2 g3 g4 q0 q1 q2 q3 q4 K9 P9 UR UB HO NX SZ L1 L2 u0 u1 u2 u3' u4' BB HF8
     generalize w12.setCell ⟨nb, 4, none⟩ (.slice (some ⟨g12, 0, none⟩) (xs.length + 1) cap12) = w13 at *
     refine (HC5.out _ PY.out).mono ?_
     rintro e w15 ⟨rfl, h5, f5⟩
     have FS : Fr p w15 (w15.setCell ⟨p, 2, none⟩ (.int .i64 (wrap64 (o5 - 1)))) := Fr.set w15 2 (.int .i64 (wrap64 (o5 - 1)))
     have K6 := Lib.hid ((KY.out.step f5).step FS)
     have P6 := Lib.hid (h5.set2 (wrap64 (o5 - 1)))
     obtain ⟨q0, q1, q2, q3, q4, g1, g2, g3, g4⟩ := h5.cells
     clear f5 h5 FS HC5 KY PY
     go_upto_region 38 with fail
     clear q0 q1 q2 q3 q4 g1 g2 g3 g4
     generalize (w15.setCell ⟨p, 2, none⟩ (.int .i64 (wrap64 (o5 - 1)))) = w16 at *
     obtain ⟨D, cd, hv, hrob⟩ := K6.out.gr.rob (by rw [List.length_append]; unfold maxLen; simp; omega)
     have RB := Lib.hid hrob
     have hv1 := Lib.hid hv
     clear hv hrob
     obtain ⟨n0, n1, n2, n3, n4, _, _, _, _, _⟩ := box_facts K6.out.box
     obtain ⟨z0, z1, z2, z3, z4, f0, f1, f2, f3, f4⟩ := box_facts K6.out.cx.box
     go_wp2_with fail
     have hv := hv1.out
     simp only [Value.slice.injEq] at hv
     obtain ⟨rfl, _, rfl⟩ := hv
     have hx := K6.out.cx
     have hgt := K6.out.gt
     have ho := HF.out ((xs ++ [(u, B, cb)]).map (·.1))
     have hkl : (((xs ++ [(u, B, cb)]).map (·.1)).length : Nat) = xs.length + 1 := by rw [List.length_map, List.length_append]; rfl
     have hzz := HZ5.out
     rw [show xs.map (·.1) ++ [u] = (xs ++ [(u, B, cb)]).map (·.1) by rw [List.map_append]; rfl] at hzz
     exact bodyPost_ret (res27 Tryz.results160 _ _ W.heap.size _ _ _ _ _ rfl (set5_same _ _ _ _ _ hx.box)) rfl
      ⟨.mk 3 0 nm 0 ((xs ++ [(u, B, cb)]).map (·.1)), some ⟨g12, 0, none⟩, cap12, a5, wrap64 (o5 - 1), e5, wh5, by rw [show (Nd.mk 3 0 nm 0 ((xs ++ [(u, B, cb)]).map (·.1))).ks.length = xs.length + 1 from hkl]; rfl, (RB.out.lower (n0 := W.heap.size + 1) (by omega)).set5 (by omega) (by omega) _ _ _ _ _, ho, hx.fr.set5 (Nat.le_refl _) _ _ _ _ _, P6.out.set5 (by have := hx.px; omega) _ _ _ _ _, hzz⟩
end Go.Proofs.YtgkjcimgghflmaaGreatDoor
namespace Go.Proofs.YtgkjcimgghflmaaGreatDoor
set_option maxRecDepth 100000
set_option maxHeartbeats 8000000
open Go.RowKit Go.Shelf
attribute [local go_sem] Oper.semAt_some
theorem dapp_none (p : Nat) (s : ByteArray) (a : Nat) (o : Int) (W : World) (h : PSt W p s a o 0 0) (hs : s.size ≤ 9223372036854775000) (ha : a ≤ s.size) (hk : noKey (T s a)) (hw : wordA (T s a) = none) (hnm : nameB (bs (T s a)) = true)
  (nm : ByteArray) (hnmd : nm = bs (T s a)) (hop : T s (nxt s a) = [40]) (hcl : T s (nxt s (nxt s a)) = [41]) (hlen : (T s a).length ≤ maxLen)
  (Z : Nd → Nat → Int → Int → Nat → Prop)
  (co : ∀ W', PSt W' p s (nxt s (nxt s a)) o 0 0 → Moves 38 #[.pointer (some ⟨p, 0, none⟩)] p s (nxt s (nxt s a)) (o + 1) 0 0 W')
  (hz : Z (.mk 3 0 nm 0 []) (nxt s (nxt s (nxt s a))) (wrap64 o) 0 0) :
  Calls Tryz.prog 160 #[.pointer (some ⟨p, 0, none⟩)] W (Ret1 p s Z W) := by
 have CX := Lib.hid (CarryX.start h)
 have HP := Lib.hid (h.alloc (.cells zero5 27))
 have CO := Lib.hid co
 have HZ := Lib.hid hz
 have cn := next_any p s a o 0 0 _ HP.out ha hs
 rw [show nT s a 0 = T s a from if_pos rfl] at cn
 have hk0 : ((bs (T s a)).toList == [40]) = false := by rw [bs_toList]; simpa using hk.1
 have hk1 : ((bs (T s a)).toList == [116, 114, 117, 101]) = false := by rw [bs_toList]; simpa using hk.2.1
 have hk2 : ((bs (T s a)).toList == [102, 97, 108, 115, 101]) = false := by rw [bs_toList]; simpa using hk.2.2.1
 have hk3 : ((bs (T s a)).toList == [101, 109, 112, 116, 121]) = false := by rw [bs_toList]; simpa using hk.2.2.2
 have KT := Lib.hid (fun w => taking_no (T s a) hw w)
 have HNm := Lib.hid hnm
 have cp := Lib.hid (fun (W' : World) (hb : Below (W.alloc (.cells zero5 27)).heap.size (W.alloc (.cells zero5 27)) W') => pass_live p s a o 0 W' (HP.out.later hb) ha hs)
 have hn2 := (nxt_le ha).2
 have ct := Lib.hid (fun (W' : World) (hp : PSt W' p s (nxt s a) o 0 0) => take_yes [40] p s (nxt s a) o 0 W' hp hn2 hs hop)
 rw [show bs [40] = ⟨#[40]⟩ from rfl] at ct
 have hn3 := (nxt_le hn2).2
 have c5 := Lib.hid (fun (W' : World) (hp : PSt W' p s (nxt s (nxt s a)) (o + 1) 0 0) => take_yes [41] p s (nxt s (nxt s a)) (o + 1) 0 W' hp hn3 hs hcl)
 rw [show bs [41] = ⟨#[41]⟩ from rfl] at c5
 have HF := Lib.hid (show ∀ ks, Fine (.mk 3 0 (bs (T s a)) 0 ks) from fun ks => ⟨by show (bs (T s a)).size ≤ maxLen; simpa [bs, ByteArray.size] using hlen, by show (Lit.int .i64 3).wf = true; decide, by show (Lit.int .i64 0).wf = true; decide, by show (Lit.int .i64 0).wf = true; decide⟩)
 rw [← hnmd] at cn hk0 hk1 hk2 hk3 KT HNm HF
 have HSZ := Lib.hid hs
 clear h co hz hs hk hw hnm hop hcl hlen hn2 hn3 ha hnmd
 generalize nxt s (nxt s a) = b2 at *
 go_enter Tryz.func160, Tryz.ntmps160
 go_wp2_with fail
 refine cn.mono ?_
 rintro e w1 ⟨rfl, b1⟩
 have B1 := Lib.hid b1
 clear b1 cn
 go_wp2_with fail
 refine (KT.out _).mono ?_
 rintro e w2 ⟨rfl, rfl⟩
 clear KT
 go_wp2_with fail
 refine (refName_any _ _).mono ?_
 rintro e w3 ⟨rfl, b2'⟩
 rw [HNm.out]
 have B2 := Lib.hid (B1.out.trans (b2'.mono B1.out.size))
 have CX1 := Lib.hid (CX.out.step (Fr.of B2.out))
 have c2 := cp.out _ B2.out
 clear b2' cp HNm
 go_wp2_with fail
 refine c2.mono ?_
 rintro e w4 ⟨rfl, h1, f1⟩
 have CX2 := Lib.hid (CX1.out.step f1)
 have c3 := ct.out _ h1
 clear h1 f1 c2 ct
 go_wp2_with fail
 refine c3.mono ?_
 rintro e w5 ⟨rfl, h5, f5⟩
 have CX3 := Lib.hid (CX2.out.step f5)
 have c4 := CO.out _ h5
 clear h5 f5 c3 CO
 go_wp2_with fail
 refine c4.mono ?_
 rintro e w6 ⟨rfl, h6, f6⟩
 have CX4 := Lib.hid (CX3.out.step f6)
 have P6 := Lib.hid h6
 clear h6 f6 c4
 have hB := (Below.refl w6.heap.size w6).alloc (Nat.le_refl _) (.cells #[.int .i64 3, .int .i64 0, .string nm, .int .i64 0, .slice none 0 0] 27)
 have K7 := Lib.hid (show KD p W w6.heap.size 3 nm (.slice none 0 0) [] (w6.alloc (.cells #[.int .i64 3, .int .i64 0, .string nm, .int .i64 0, .slice none 0 0] 27)) from
  ⟨CX4.out.step (Fr.of hB), (Array.getElem?_eq_some_iff.1 CX4.out.box).1, World.alloc_heap_new _ _, Grows.nil _ _⟩)
 have P7 := Lib.hid (P6.out.later hB)
 clear hB CX4 P6 CX3 CX2 CX1 CX HP B1 B2
 go_upto_region 30 with fail
 generalize w6.alloc (.cells #[.int .i64 3, .int .i64 0, .string nm, .int .i64 0, .slice none 0 0] 27) = w7 at *
 generalize w6.heap.size = nb at *
 go_wp2_with fail
 refine (c5.out _ P7.out).mono ?_
 rintro e w8 ⟨rfl, h8, f8⟩
 have FS : Fr p w8 (w8.setCell ⟨p, 2, none⟩ (.int .i64 (wrap64 o))) := Fr.set w8 2 (.int .i64 (wrap64 o))
 have K6 := Lib.hid ((K7.out.step f8).step FS)
 have P6 := Lib.hid (h8.set2 (wrap64 o))
 obtain ⟨q0, q1, q2, q3, q4, g1, g2, g3, g4⟩ := h8.cells
 clear f8 h8 FS c5 K7 P7
 go_upto_region 38 with fail
 clear q0 q1 q2 q3 q4 g1 g2 g3 g4
 generalize (w8.setCell ⟨p, 2, none⟩ (.int .i64 (wrap64 o))) = w16 at *
 obtain ⟨n0, n1, n2, n3, n4, _, _, _, _, _⟩ := box_facts K6.out.box
 obtain ⟨z0, z1, z2, z3, z4, f0, f1, f2, f3, f4⟩ := box_facts K6.out.cx.box
 go_wp2_with fail
 have hx := K6.out.cx
 have hgt := K6.out.gt
 have ho := HF.out []
 exact bodyPost_ret (res27 Tryz.results160 _ _ W.heap.size _ _ _ _ _ rfl (set5_same _ _ _ _ _ hx.box)) rfl
  ⟨.mk 3 0 nm 0 [], none, 0, _, wrap64 o, 0, 0, rfl, rob_none _ _ _ _, ho, hx.fr.set5 (Nat.le_refl _) _ _ _ _ _, P6.out.set5 (by have := hx.px; omega) _ _ _ _ _, HZ.out⟩
theorem dprim_word (p : Nat) (s : ByteArray) (a : Nat) (o : Int) (W : World) (h : PSt W p s a o 0 0) (hs : s.size ≤ 9223372036854775000) (ha : a ≤ s.size) (hk : noKey (T s a)) (op : Int) (n : Nat) (hw : wordA (T s a) = some (op, n)) (hop0 : op ≠ 0)
  (Z : Nd → Nat → Int → Int → Nat → Prop)
  (cw : ∀ W', PSt W' p s (nxt s a) o 0 0 → Calls Tryz.prog 166 #[.pointer (some ⟨p, 0, none⟩), .int .i64 op, .int .i64 n] W' (Ret1 p s Z W')) :
  Calls Tryz.prog 160 #[.pointer (some ⟨p, 0, none⟩)] W (Ret1 p s Z W) := by
 have CX := Lib.hid (CarryX.start h)
 have HP := Lib.hid (h.alloc (.cells zero5 27))
 have CW := Lib.hid cw
 have cn := next_any p s a o 0 0 _ HP.out ha hs
 rw [show nT s a 0 = T s a from if_pos rfl] at cn
 have hk0 : ((bs (T s a)).toList == [40]) = false := by rw [bs_toList]; simpa using hk.1
 have hk1 : ((bs (T s a)).toList == [116, 114, 117, 101]) = false := by rw [bs_toList]; simpa using hk.2.1
 have hk2 : ((bs (T s a)).toList == [102, 97, 108, 115, 101]) = false := by rw [bs_toList]; simpa using hk.2.2.1
 have hk3 : ((bs (T s a)).toList == [101, 109, 112, 116, 121]) = false := by rw [bs_toList]; simpa using hk.2.2.2
 have hop1 : (op != 0) = true := by simpa using hop0
 have KT := Lib.hid (show ∀ w, Calls Tryz.prog 165 #[.string (bs (T s a))] w fun e w' => e = .returned (.tuple #[.int .i64 op, .int .i64 n]) ∧ w = w' from fun w => by have := taking_any (T s a) w; rw [hw] at this; exact this)
 have cp := Lib.hid (fun (W' : World) (hb : Below (W.alloc (.cells zero5 27)).heap.size (W.alloc (.cells zero5 27)) W') => pass_live p s a o 0 W' (HP.out.later hb) ha hs)
 generalize bs (T s a) = st at *
 clear h hs hk hw hop0 cw ha
 go_enter Tryz.func160, Tryz.ntmps160
 go_wp2_with fail
 refine cn.mono ?_
 rintro e w1 ⟨rfl, b1⟩
 have B1 := Lib.hid b1
 clear b1 cn
 go_wp2_with fail
 refine (KT.out _).mono ?_
 rintro e w2 ⟨rfl, rfl⟩
 clear KT
 have CX1 := Lib.hid (CX.out.step (Fr.of B1.out))
 have c2 := cp.out _ B1.out
 clear cp
 go_wp2_with fail
 refine c2.mono ?_
 rintro e w4 ⟨rfl, h1, f1⟩
 have CX2 := Lib.hid (CX1.out.step f1)
 have c3 := CW.out _ h1
 clear h1 f1 c2 CW
 have hxw : W.heap.size < w4.heap.size := (Array.getElem?_eq_some_iff.1 CX2.out.box).1
 go_wp2_with fail
 refine c3.mono ?_
 rintro e w5 ⟨u, B, cb, a4, o4, er4, wh4, rfl, hr4, hf4, hfr4, hp4, hz4⟩
 have CX3 := Lib.hid (CX2.out.step hfr4)
 have UR := Lib.hid hr4
 have HF4 := Lib.hid hf4
 have HP4 := Lib.hid hp4
 have HZ4 := Lib.hid hz4
 obtain ⟨z0, z1, z2, z3, z4, f0, f1, f2, f3, f4⟩ := box_facts CX3.out.box
 clear hr4 hf4 hfr4 hp4 hz4 c3
 go_wp2_with fail
 have hx := CX3.out
 exact bodyPost_ret (res27 Tryz.results160 _ _ W.heap.size _ _ _ _ _ rfl (set5_same _ _ _ _ _ hx.box)) rfl
  ⟨u, B, cb, a4, o4, er4, wh4, rfl, UR.out.set5 hxw (by omega) _ _ _ _ _, HF4.out, hx.fr.set5 (Nat.le_refl _) _ _ _ _ _, HP4.out.set5 (by have := hx.px; omega) _ _ _ _ _, HZ4.out⟩
end Go.Proofs.YtgkjcimgghflmaaGreatDoor
