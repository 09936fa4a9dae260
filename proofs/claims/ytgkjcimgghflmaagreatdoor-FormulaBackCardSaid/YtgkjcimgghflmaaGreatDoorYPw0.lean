/-
  The arguments of an application in the program's parser: none, or phrases with commas between, eight at most; conditions: the text is no longer than a string can be, the program's tables hold what its text lays, and the phrases answer as they are asked to.
-/
import Derived.Test.YtgkjcimgghflmaaGreatDoorYPn0
import Derived.Test.YtgkjcimgghflmaaGreatDoorYFresh
namespace Go.Proofs.YtgkjcimgghflmaaGreatDoor
open Go.RowKit Go.Shelf
attribute [local go_sem] Oper.semAt_some
theorem ownsRow_fr {p : Nat} {w w' : World} {base : Nat} {e : TypeId} {size : Nat} {v : Value} {n : Nat} {xs : List Value} (h : w.ownsRow base e size v n xs) (hf : Fr p w w') (hp : p < base) : w'.ownsRow base e size v n xs := by
  refine ⟨h.1, ?_⟩
  rcases h.2 with h | ⟨g, cap, cur, hv, h1, h2, h3⟩
  · exact .inl h
  · exact .inr ⟨g, cap, cur, hv, h1, hf.at h2 (by omega), h3⟩
theorem Rob.frR {n0 p : Nat} {row : Option Nat} {w w' : World} {A : Option Addr} {cap : Nat} {ks : List Nd} (h : Rob n0 w row A cap ks) (hf : Fr p w w') (hp : p < n0) : Rob n0 w' row A cap ks :=
  fun W hW => h W fun k h1 h2 h3 => (hW k h1 (Nat.lt_of_lt_of_le h2 hf.size) h3).trans (hf.block k h2 (by omega))
theorem Grows.fr {n0 p : Nat} {w w' : World} {v : Value} {xs : List NdA} (h : Grows n0 w v xs) (hf : Fr p w w') (hp : p < n0) : Grows n0 w' v xs :=
  ⟨ownsRow_fr h.row hf hp, fun x hx => (h.kids x hx).frR hf hp, h.fine⟩
theorem Fr.lower {p n0 : Nat} {W w w' : World} (h : Fr p W w) (hb : Below n0 w w') (hn : W.heap.size ≤ n0) : Fr p W w' :=
  ⟨hb.os.trans h.os, hb.tape.trans h.tape, hb.output.trans h.output, Nat.le_trans h.size hb.size, fun k hk hp => (hb.block k (by omega)).trans (h.block k hk hp)⟩
theorem cells5_oneP (x : NdA) : ∀ u ∈ cells5 x, u.oneCell' = true := by simp [cells5, Value.oneCell']
theorem info_partsP {T : TypeId} {z : Value} {n b : Nat} (h : (Tryz.prog.info? T).map (fun i => (i.zero, i.size, i.bytes)) = some (some z, n, b)) : ∃ i, Tryz.prog.info? T = some i ∧ i.zero = some z ∧ i.size = n ∧ i.bytes = b := by
  cases hi : Tryz.prog.info? T with
  | none => rw [hi] at h; cases h
  | some i =>
    rw [hi] at h
    simp at h
    exact ⟨i, rfl, h.1, h.2.1, h.2.2⟩
/-- In the midst of a list of phrases. -/
structure KW (p : Nat) (s : ByteArray) (o : Nat) (W : World) (a : Nat) (v : Value) (xs : List NdA) (w : World) : Prop where
  cx : CX p W w
  sc : Sca w p s a (some o)
  gr : Grows (W.heap.size + 1) w v xs
theorem KW.step {p : Nat} {s : ByteArray} {o : Nat} {W : World} {a : Nat} {v : Value} {xs : List NdA} {w w' : World} (h : KW p s o W a v xs w) {a' : Nat} (hf : Fr p w w') (hs : Sca w' p s a' (some o)) : KW p s o W a' v xs w' :=
  ⟨h.cx.step hf, hs, h.gr.fr hf (by have := h.cx.px; omega)⟩
/-- A phrase more. -/
theorem KW.add {p : Nat} {s : ByteArray} {o : Nat} {W : World} {a : Nat} {v v' : Value} {xs : List NdA} {w w' : World} {x : NdA} (h : KW p s o W a v xs w) (hx : Rob (W.heap.size + 1) w v.ownBlock x.2.1 x.2.2 x.1.ks) (hf : Fine x.1)
    (hown : w'.ownsRow (W.heap.size + 1) 27 5 v' (xs.length + 1) (flatN xs ++ cells5 x)) (hg : w.grownBy w' v.ownBlock) (hr : v'.ownBlock = v.ownBlock ∨ v'.ownBlock = some w.heap.size) : KW p s o W a v' (xs ++ [x]) w' := by
  have hlt := h.gr.row.lt
  have hb : Below (W.heap.size + 1) w w' := (Below.refl _ w).grown hg (Nat.succ_le_of_lt h.cx.lt) (fun k e => (hlt k e).1)
  have hpx := h.cx.px
  exact ⟨⟨h.cx.fr.lower hb (by omega), hpx, (hb.block _ (by omega)).trans h.cx.box⟩, h.sc.other (hb.block p (by omega)), h.gr.add hx hf hown hg hr⟩
set_option maxRecDepth 100000 in
set_option maxHeartbeats 8000000 in
theorem wordArgs_any (op : Int) (n : Nat) (hn : 1 ≤ n) (hn3 : n ≤ 3) (tx : ByteArray) (wb pb : Nat) (p : Nat) (s : ByteArray) (a o : Nat) (R : PR) (J : List Nd → Nat → Prop) (W : World) (h : Sca W p s a (some o)) (hE : Env W p) (hs : s.size ≤ 9223372036854775000)
    (hop : (Lit.int .i64 op).wf = true) (hwp : wb ≠ p) (hpp : pb ≠ p) (hwb : W.heap[wb]? = some (.cells #[.string tx, .int .i64 op, .int .i64 n] 115 (0, 0))) (hpb : W.heap[pb]? = some (.cells #[.pointer (some ⟨p, 0, none⟩)] 61 (0, 0)))
    (h0 : J [] a)
    (hend : ∀ ks a', J ks a' → ks.length = n → R = want s [41] a' fun a1 => .ok (.mk op 0 noNm 0 ks) a1)
    (hfirst : ∀ a', J [] a' → ∃ r2 : PR, (∀ W', Sca W' p s a' (some o) → Env W' p → Calls Tryz.prog 32 #[.pointer (some ⟨p, 0, none⟩)] W' (Ans p s o W' r2)) ∧ Goes R (fun k a2 => J [k] a2) r2)
    (hbad : ∀ ks a', J ks a' → ks ≠ [] → ks.length < n → T s a' ≠ [44] → R = .err 20 a')
    (hnext : ∀ ks a', J ks a' → ks ≠ [] → ks.length < n → T s a' = [44] → ∃ r2 : PR, (∀ W', Sca W' p s (nxt s a') (some o) → Env W' p → Calls Tryz.prog 32 #[.pointer (some ⟨p, 0, none⟩)] W' (Ans p s o W' r2)) ∧ Goes R (fun k a2 => J (ks ++ [k]) a2) r2) :
    Calls Tryz.prog 174 #[.pointer (some ⟨wb, 0, none⟩), .pointer (some ⟨pb, 0, none⟩)] W (Ans p s o W R) := by
  have X1 := Lib.hid (CX.start h.lt)
  have S1 := Lib.hid (h.alloc (.cells zero5 27))
  have HE0 := Lib.hid hE
  have HWB := Lib.hid (fun (w : World) (hf : Fr p W w) => hf.at hwb hwp)
  have HPB := Lib.hid (fun (w : World) (hf : Fr p W w) => hf.at hpb hpp)
  have H0 := Lib.hid h0
  have HEnd := Lib.hid hend
  have HFst := Lib.hid hfirst
  have HBad := Lib.hid hbad
  have HNext := Lib.hid hnext
  have HOP := Lib.hid hop
  obtain ⟨i0, hi, hz0, hz1, hz2⟩ := info_partsP info27
  have I0 := Lib.hid hi
  have Z0 := Lib.hid hz0
  have Z1 := Lib.hid hz1
  have Z2 := Lib.hid hz2
  clear h hE hwb hpb h0 hend hfirst hbad hnext hi hz0 hz1 hz2 hop
  go_enter Tryz.func174, Tryz.ntmps174
  go_upto_region 1 with fail
  generalize W.alloc (.cells zero5 27) = w1 at *
  have b2 := cell_row (HWB.out w1 X1.out.fr) (i := 2) rfl
  go_wp2_with fail
  go_loopw [3, 4, 5, 8] (fun v _ _ i wr => ∃ (k a' : Nat) (xs : List NdA), k ≤ n ∧ i = .int .i64 k ∧ xs.length = k ∧ Hid (KW p s o W a' v xs wr) ∧ Hid (J (xs.map (·.1)) a')) (fun _ _ _ i _ => n - (intOf i).toNat)
  case atStart => exact ⟨0, a, [], by omega, rfl, rfl, ⟨X1.out, S1.out, Grows.nil _ _⟩, H0.out⟩
  case round =>
    obtain ⟨k, a', xs, hk, rfl, hlen, K, HJ⟩ := hrel
    have pc := cell_row (HPB.out wr K.out.cx.fr) (i := 0) rfl
    by_cases hlt : k < n
    · by_cases hk0 : k = 0
      · subst hk0
        obtain rfl : xs = [] := List.length_eq_zero_iff.1 hlen
        obtain ⟨r2, hc2, hg2⟩ := HFst.out a' HJ.out
        have HC2 := Lib.hid hc2
        have HG2 := Lib.hid hg2
        clear hc2 hg2 HFst HBad HNext HEnd HJ
        have k := 0
        go_wp2_with fail
        refine (HC2.out _ K.out.sc (HE0.out.fr K.out.cx.fr)).mono ?_
        cases r2 with
        | out => exact fun _ _ h => h.elim
        | err er wh =>
          rintro e w8 ⟨rfl, f8⟩
          have F8 := Lib.hid (K.out.cx.fr.trans f8)
          clear f8
          go_wp2_with fail
          exact ⟨rfl, by rw [show R = .err er wh from HG2.out]; exact ⟨rfl, F8.out⟩⟩
        | ok u a2 =>
          rintro e w8 ⟨B, cb, rfl, hr8, hf8, hfr8, hs8⟩
          have hB := (Below.refl w8.heap.size w8).alloc (Nat.le_refl _) (boxN u B cb)
          have hlt3 := K.out.gr.row.lt
          have UR := Lib.hid ((hr8.newNone (n0 := W.heap.size + 1) (row := u3.ownBlock) (fun g hg => (hlt3 g hg).2) (Nat.succ_le_of_lt K.out.cx.lt)).laterR hB)
          have UB := Lib.hid (World.alloc_heap_new w8 (boxN u B cb))
          have K9 := Lib.hid ((K.out.step hfr8 hs8).step (Fr.of hB) (hs8.later hB))
          have HF8 := Lib.hid hf8
          have HJ2 := Lib.hid (show J [u] a2 from HG2.out)
          clear hB hlt3 hr8 hf8 hfr8 hs8 HC2 HG2
          go_upto_region 8 with fail
          · generalize w8.alloc (boxN u B cb) = w9 at *
            generalize w8.heap.size = ub at *
            obtain ⟨u0, u1, u2, u3', u4, _, _, _, _, _⟩ := box_facts UB.out
            have HO := Lib.hid (fun O => ownsRow_alloc K9.out.gr.row O)
            have NX := Lib.hid (news5 w9 (u, B, cb) w9.heap.size rfl)
            have SZ := Lib.hid (show ∀ O, W.heap.size + 1 ≤ (w9.alloc O).heap.size from fun O => by rw [World.size_alloc]; have := K9.out.cx.lt; omega)
            have BB := Lib.hid (fun O => (Below.refl w9.heap.size w9).alloc (Nat.le_refl _) O)
            have L1 := Lib.hid (show ([] : List NdA).length + 1 ≤ maxLen by unfold maxLen; omega)
            have L2 := Lib.hid (show (([] : List NdA).length + 1) * 64 ≤ 140737488355328 by omega)
            go_wp2_with (at_builtin; refine wpList_append_own_at _ rfl _ _ 25 rfl (W.heap.size + 1) 27 i0 _ 5 64 Tryz.underlying25 I0.out Z0.out Z1.out Z2.out rfl (by decide) u3 ([] : List NdA).length (flatN []) rfl (HO.out _) ⟨w9.heap.size, 0, none⟩ 1 1 (cells5 (u, B, cb)) rfl rfl NX.out (cells5_oneP _) L1.out L2.out (SZ.out _) ?_; intro v' w10 hown hgrow _ hor; have K10 := Lib.hid ((K9.out.step (Fr.of (BB.out _)) (K9.out.sc.later (BB.out _))).add (x := (u, B, cb)) (UR.out.laterR (BB.out _)) HF8.out hown hgrow hor); clear hown hgrow hor)
            go_roundw
            case rel => exact ⟨1, a2, [(u, B, cb)], by omega, by go_num, rfl, K10.out, HJ2.out⟩
            case measure => simp [intOf]; omega
      · have hne : xs.map (·.1) ≠ [] := fun e => hk0 (by rw [← hlen, ← List.length_map (·.1), e]; rfl)
        have hkl : (xs.map (·.1)).length < n := by rw [List.length_map, hlen]; exact hlt
        have hgt : (0 : Int) < k := by omega
        have ec : bs [44] = ⟨#[44]⟩ := rfl
        by_cases ht : T s a' = [44]
        · obtain ⟨r2, hc2, hg2⟩ := HNext.out _ a' HJ.out hne hkl ht
          have HC2 := Lib.hid hc2
          have HG2 := Lib.hid hg2
          have ct := pexpect_yes [44] p s a' (some o) wr K.out.sc hs (HE0.out.fr K.out.cx.fr).sig ht
          rw [ec] at ct
          clear hc2 hg2 HFst HBad HNext HEnd HJ hne hkl ht ec
          go_wp2_with fail
          refine ct.mono ?_
          rintro e w5 ⟨rfl, h5, f5⟩
          have K5 := Lib.hid (K.out.step f5 h5)
          have pc := cell_row (HPB.out w5 K5.out.cx.fr) (i := 0) rfl
          clear ct h5 f5 K
          go_wp2_with fail
          refine (HC2.out _ K5.out.sc (HE0.out.fr K5.out.cx.fr)).mono ?_
          cases r2 with
          | out => exact fun _ _ h => h.elim
          | err er wh =>
            rintro e w8 ⟨rfl, f8⟩
            have F8 := Lib.hid (K5.out.cx.fr.trans f8)
            clear f8
            go_wp2_with fail
            exact ⟨rfl, by rw [show R = .err er wh from HG2.out]; exact ⟨rfl, F8.out⟩⟩
          | ok u a2 =>
            rintro e w8 ⟨B, cb, rfl, hr8, hf8, hfr8, hs8⟩
            have hB := (Below.refl w8.heap.size w8).alloc (Nat.le_refl _) (boxN u B cb)
            have hlt3 := K5.out.gr.row.lt
            have UR := Lib.hid ((hr8.newNone (n0 := W.heap.size + 1) (row := u3.ownBlock) (fun g hg => (hlt3 g hg).2) (Nat.succ_le_of_lt K5.out.cx.lt)).laterR hB)
            have UB := Lib.hid (World.alloc_heap_new w8 (boxN u B cb))
            have K9 := Lib.hid ((K5.out.step hfr8 hs8).step (Fr.of hB) (hs8.later hB))
            have HF8 := Lib.hid hf8
            have HJ2 := Lib.hid (show J (xs.map (·.1) ++ [u]) a2 from HG2.out)
            clear hB hlt3 hr8 hf8 hfr8 hs8 HC2 HG2
            go_upto_region 8 with fail
            · generalize w8.alloc (boxN u B cb) = w9 at *
              generalize w8.heap.size = ub at *
              obtain ⟨u0, u1, u2, u3', u4, _, _, _, _, _⟩ := box_facts UB.out
              have HO := Lib.hid (fun O => ownsRow_alloc K9.out.gr.row O)
              have NX := Lib.hid (news5 w9 (u, B, cb) w9.heap.size rfl)
              have SZ := Lib.hid (show ∀ O, W.heap.size + 1 ≤ (w9.alloc O).heap.size from fun O => by rw [World.size_alloc]; have := K9.out.cx.lt; omega)
              have BB := Lib.hid (fun O => (Below.refl w9.heap.size w9).alloc (Nat.le_refl _) O)
              have L1 := Lib.hid (show xs.length + 1 ≤ maxLen by unfold maxLen; omega)
              have L2 := Lib.hid (show (xs.length + 1) * 64 ≤ 140737488355328 by omega)
              go_wp2_with (at_builtin; refine wpList_append_own_at _ rfl _ _ 25 rfl (W.heap.size + 1) 27 i0 _ 5 64 Tryz.underlying25 I0.out Z0.out Z1.out Z2.out rfl (by decide) u3 xs.length (flatN xs) rfl (HO.out _) ⟨w9.heap.size, 0, none⟩ 1 1 (cells5 (u, B, cb)) rfl rfl NX.out (cells5_oneP _) L1.out L2.out (SZ.out _) ?_; intro v' w10 hown hgrow _ hor; have K10 := Lib.hid ((K9.out.step (Fr.of (BB.out _)) (K9.out.sc.later (BB.out _))).add (x := (u, B, cb)) (UR.out.laterR (BB.out _)) HF8.out hown hgrow hor); clear hown hgrow hor)
              go_roundw
              case rel => exact ⟨k + 1, a2, xs ++ [(u, B, cb)], by omega, by go_num, by rw [List.length_append, hlen]; rfl, K10.out, by rw [List.map_append]; exact HJ2.out⟩
              case measure => simp [intOf]; omega
        · have HR := Lib.hid (HBad.out _ a' HJ.out hne hkl ht)
          have ct := pexpect_no [44] p s a' (some o) wr K.out.sc hs (HE0.out.fr K.out.cx.fr).sig ht
          rw [ec] at ct
          clear HFst HBad HNext HEnd HJ hne hkl ht ec
          go_wp2_with fail
          refine ct.mono ?_
          rintro e w5 ⟨rfl, f5⟩
          have F5 := Lib.hid (K.out.cx.fr.trans f5)
          clear ct f5
          go_wp2_with fail
          exact ⟨rfl, by rw [HR.out]; exact ⟨rfl, F5.out⟩⟩
    · obtain rfl : k = n := by omega
      have HR := Lib.hid (HEnd.out _ a' HJ.out (by rw [List.length_map, hlen]))
      have ec : bs [41] = ⟨#[41]⟩ := rfl
      by_cases ht : T s a' = [41]
      · have HP := Lib.hid (show R = .ok (.mk op 0 noNm 0 (xs.map (·.1))) (nxt s a') by rw [HR.out, want, if_pos ht])
        have ct := pexpect_yes [41] p s a' (some o) wr K.out.sc hs (HE0.out.fr K.out.cx.fr).sig ht
        rw [ec] at ct
        clear HFst HBad HNext HEnd HJ ht ec HR
        go_wp2_with fail
        refine ct.mono ?_
        rintro e w5 ⟨rfl, h5, f5⟩
        have K5 := Lib.hid (K.out.step f5 h5)
        have pw1 := cell_row (HWB.out w5 K5.out.cx.fr) (i := 1) rfl
        clear ct h5 f5 K
        obtain ⟨D, cd, rfl, hrob⟩ := K5.out.gr.rob (by unfold maxLen; omega)
        have RB := Lib.hid hrob
        clear hrob
        go_wp2_with fail
        refine (node_any _ _ D _ cd _ rfl).mono ?_
        rintro e w6 ⟨rfl, b6⟩
        have X6 := Lib.hid (K5.out.cx.step (Fr.of b6))
        have S6 := Lib.hid (K5.out.sc.later b6)
        have R6 := Lib.hid (RB.out.later b6)
        clear b6 K5 RB
        obtain ⟨z0, z1, z2, z3, z4, f0, f1, f2, f3, f4⟩ := box_facts X6.out.box
        go_wp2_with fail
        have hh := pass_ret (t := .mk op 0 noNm 0 (xs.map (·.1))) (cap := cd) X6.out R6.out (fine_op HOP.out) S6.out Tryz.results174
        rw [show (Nd.mk op 0 noNm 0 (xs.map (·.1))).ks.length = _ from (List.length_map _).trans hlen] at hh
        rw [HP.out]
        exact hh _ rfl rfl
      · have HP := Lib.hid (show R = .err 20 a' by rw [HR.out, want, if_neg ht])
        have ct := pexpect_no [41] p s a' (some o) wr K.out.sc hs (HE0.out.fr K.out.cx.fr).sig ht
        rw [ec] at ct
        clear HFst HBad HNext HEnd HJ ht ec HR
        go_wp2_with fail
        refine ct.mono ?_
        rintro e w5 ⟨rfl, f5⟩
        have F5 := Lib.hid (K.out.cx.fr.trans f5)
        clear ct f5
        go_wp2_with fail
        exact ⟨rfl, by rw [HP.out]; exact ⟨rfl, F5.out⟩⟩
end Go.Proofs.YtgkjcimgghflmaaGreatDoor
namespace Go.Proofs.YtgkjcimgghflmaaGreatDoor
open Go.RowKit Go.Shelf
attribute [local go_sem] Oper.semAt_some
set_option maxRecDepth 100000 in
set_option maxHeartbeats 4000000 in
theorem insideC_live (F : Nat) (hF : Ent F) (x y : Addr) (p : Nat) (s : ByteArray) (a o : Nat) (r : PR) (W : World) (h : Sca W p s a (some o)) (hE : Env W p) (hl : ¬ 90 < o + 1)
    (hc : ∀ W', Sca W' p s a (some (o + 1 : Nat)) → Env W' p → Fr p W W' → Calls Tryz.prog F #[.pointer (some x), .pointer (some y)] W' (Ans p s (o + 1) W' r)) :
    Calls Tryz.prog 99 #[.pointer (some ⟨p, 0, none⟩), .func (.func F) #[] #[.pointer (some x), .pointer (some y)]] W (Ans p s o W r) := by
  have ha := h.le
  have X1 := Lib.hid (CX.start h.lt)
  have S1 := Lib.hid (h.alloc (.cells zero5 27))
  have E1 := Lib.hid (hE.alloc (.cells zero5 27))
  have HC := Lib.hid hc
  have h1 : ¬ (90 : Int) < o + 1 := by omega
  unfold Ent at hF
  clear h hE hc hl
  obtain ⟨c6, f6⟩ := S1.out.c6
  go_enter Tryz.func99, Tryz.ntmps99
  go_upto_region 1 with fail
  generalize W.alloc (.cells zero5 27) = w1 at *
  go_upto_region 4 with fail
  · have S2 := Lib.hid (S1.out.set6 (o + 1))
    have X2 := Lib.hid (X1.out.step (Fr.set w1 6 (.int .i64 (o + 1))))
    have E2 := Lib.hid (E1.out.fr (Fr.set w1 6 (.int .i64 (o + 1))))
    clear c6 f6 S1 X1 E1
    generalize w1.setCell ⟨p, 6, none⟩ (.int .i64 (o + 1)) = w2 at *
    have c := HC.out w2 S2.out E2.out X2.out.fr
    clear HC
    go_wp2_with fail
    refine c.mono ?_
    cases r with
    | out => exact fun _ _ h => h.elim
    | err er wh =>
      rintro e w3 ⟨rfl, f3⟩
      have F3 := Lib.hid (X2.out.fr.trans f3)
      clear f3 c
      go_wp2_with fail
      exact ⟨rfl, rfl, F3.out⟩
    | ok t a1 =>
      rintro e w3 ⟨A, cap, rfl, hr, hf, hfr, hs⟩
      have N3 := Lib.hid (NB.start X2.out hr hf hfr)
      have hB := (Below.refl w3.heap.size w3).alloc (Nat.le_refl _) (boxN t A cap)
      have X3 := Lib.hid ((X2.out.step hfr).step (Fr.of hB))
      have S3 := Lib.hid (hs.later hB)
      clear hr hf hfr hs hB c X2 S2 E2
      obtain ⟨c6, f6⟩ := S3.out.c6
      go_upto_region 5 with fail
      · generalize w3.alloc (boxN t A cap) = w4 at *
        generalize w3.heap.size = b at *
        go_upto_region 6 with fail
        · have S4 := Lib.hid (show Sca (w4.setCell ⟨p, 6, none⟩ (.int .i64 o)) p s a1 (some o) from S3.out.set6 o)
          have X4 := Lib.hid (X3.out.step (Fr.set w4 6 (.int .i64 o)))
          have N4 := Lib.hid (N3.out.step X3.out.px (Fr.set w4 6 (.int .i64 o)))
          clear c6 f6 S3 X3 N3
          generalize w4.setCell ⟨p, 6, none⟩ (.int .i64 o) = w5 at *
          obtain ⟨z0, z1, z2, z3, z4, f0, f1, f2, f3, f4⟩ := box_facts N4.out.box
          obtain ⟨y0, y1, y2, y3, y4, g0, g1, g2, g3, g4⟩ := box_facts X4.out.box
          go_wp2_with fail
          exact N4.out.ret X4.out S4.out Tryz.results99 _ rfl rfl
theorem insideC_any (F : Nat) (hF : Ent F) (x y : Addr) (p : Nat) (s : ByteArray) (a o : Nat) (r : PR) (W : World) (h : Sca W p s a (some o)) (hE : Env W p) (ho : o ≤ 90)
    (hc : ¬ 90 < o + 1 → ∀ W', Sca W' p s a (some (o + 1 : Nat)) → Env W' p → Fr p W W' → Calls Tryz.prog F #[.pointer (some x), .pointer (some y)] W' (Ans p s (o + 1) W' r)) :
    Calls Tryz.prog 99 #[.pointer (some ⟨p, 0, none⟩), .func (.func F) #[] #[.pointer (some x), .pointer (some y)]] W (Ans p s o W (opn (o + 1) r)) := by
  by_cases hl : 90 < o + 1
  · rw [opn, if_pos hl]
    exact inside_lim p s a o _ W h ho hl
  · rw [opn, if_neg hl]
    exact insideC_live F hF x y p s a o r W h hE hl (hc hl)
theorem bodyPost_imp {fn : Func} {R1 R2 : Ending → World → Prop} {act : Act} {w : World} (h : bodyPost Tryz.prog fn R1 .ret act w) (hi : ∀ e w, R1 e w → R2 e w) : bodyPost Tryz.prog fn R2 .ret act w := by
  obtain ⟨h1, v, h2, h3⟩ := h
  exact ⟨h1, v, h2, hi _ _ h3⟩
/-- What is said of a later world holds of an earlier one. -/
theorem Ans.lower {p : Nat} {s : ByteArray} {o : Nat} {W W1 : World} (hf : Fr p W W1) {r : PR} {e : Ending} {W' : World} (h : Ans p s o W1 r e W') : Ans p s o W r e W' := by
  cases r with
  | out => exact h
  | err er wh => exact ⟨h.1, hf.trans h.2⟩
  | ok t a =>
    obtain ⟨A, cap, h1, h2, h3, h4, h5⟩ := h
    exact ⟨A, cap, h1, h2.lower hf.size, h3, hf.trans h4, h5⟩
theorem ent174 : Ent 174 := fun _ _ => by simp [go_sem]
/-- The boxes of the captured parser and word. -/
def wbase (p : Nat) (tx : ByteArray) (op n : Int) (W : World) : World := (W.alloc (.cells #[.pointer (some ⟨p, 0, none⟩)] 61)).alloc (.cells #[.string tx, .int .i64 op, .int .i64 n] 115)
theorem wbase_below (p : Nat) (tx : ByteArray) (op n : Int) (W : World) : Below W.heap.size W (wbase p tx op n W) :=
  ((Below.refl W.heap.size W).alloc (Nat.le_refl _) _).alloc (by simp) _
theorem wbase_size (p : Nat) (tx : ByteArray) (op n : Int) (W : World) : (wbase p tx op n W).heap.size = W.heap.size + 1 + 1 := by simp [wbase]
theorem wbase_p (p : Nat) (tx : ByteArray) (op n : Int) (W : World) : (wbase p tx op n W).heap[W.heap.size]? = some (.cells #[.pointer (some ⟨p, 0, none⟩)] 61 (0, 0)) :=
  (Lib.alloc_old (W.alloc (.cells #[.pointer (some ⟨p, 0, none⟩)] 61)) _ _ (by simp)).trans (World.alloc_heap_new W _)
theorem wbase_w (p : Nat) (tx : ByteArray) (op n : Int) (W : World) : (wbase p tx op n W).heap[W.heap.size + 1]? = some (.cells #[.string tx, .int .i64 op, .int .i64 n] 115 (0, 0)) := by
  have := World.alloc_heap_new (W.alloc (.cells #[.pointer (some ⟨p, 0, none⟩)] 61)) (.cells #[.string tx, .int .i64 op, .int .i64 n] 115)
  rw [World.size_alloc] at this
  exact this
set_option maxRecDepth 100000 in
set_option maxHeartbeats 4000000 in
theorem worded_none (p : Nat) (s : ByteArray) (a o : Nat) (tx : ByteArray) (op : Int) (W : World) (h : Sca W p s a (some o)) (hop : (Lit.int .i64 op).wf = true) :
    Calls Tryz.prog 170 #[.pointer (some ⟨p, 0, none⟩), .agg #[.string tx, .int .i64 op, .int .i64 0]] W (Ans p s o W (.ok (leafN op) a)) := by
  have hB := wbase_below p tx op 0 W
  have FB := Lib.hid (Fr.of (p := p) hB)
  have hsz := wbase_size p tx op 0 W
  have hw := wbase_w p tx op 0 W
  have h1 := h.later hB
  have X1 := Lib.hid (CX.start h1.lt)
  have S1 := Lib.hid (h1.alloc (.cells zero5 27))
  have PW := Lib.hid (X1.out.fr.at hw (by have := h.lt; omega))
  clear hB h h1 hw
  go_enter Tryz.func170, Tryz.ntmps170
  go_upto_region 1 with fail
  change Code.wp _ _ _ _ ((wbase p tx op 0 W).alloc (.cells zero5 27))
  generalize (wbase p tx op 0 W).alloc (.cells zero5 27) = w1 at *
  generalize wbase p tx op 0 W = W1 at *
  rw [← hsz]
  clear hsz
  generalize W.heap.size = ws at *
  have c0 := cell_row PW.out (i := 0) rfl
  have c1 := cell_row PW.out (i := 1) rfl
  have c2 := cell_row PW.out (i := 2) rfl
  go_wp2_with fail
  refine (node_any op _ none 0 0 _ rfl).mono ?_
  rintro e w2 ⟨rfl, b2⟩
  have X2 := Lib.hid (X1.out.step (Fr.of b2))
  have S2 := Lib.hid (S1.out.later b2)
  clear b2 X1 S1 PW c0 c1 c2
  obtain ⟨z0, z1, z2, z3, z4, f0, f1, f2, f3, f4⟩ := box_facts X2.out.box
  go_wp2_with fail
  exact bodyPost_imp (pass_ret (t := leafN op) (A := none) (cap := 0) X2.out (rob_nil _ _) (fine_op hop) S2.out Tryz.results170 _ rfl rfl) fun _ _ => Ans.lower FB.out
set_option maxRecDepth 100000 in
set_option maxHeartbeats 4000000 in
theorem worded_bad (p : Nat) (s : ByteArray) (a o : Nat) (tx : ByteArray) (op n : Int) (hn : (n == 0) = false) (W : World) (h : Sca W p s a (some o)) (hE : Env W p) (hs : s.size ≤ 9223372036854775000) (ht : T s a ≠ [40]) :
    Calls Tryz.prog 170 #[.pointer (some ⟨p, 0, none⟩), .agg #[.string tx, .int .i64 op, .int .i64 n]] W (Ans p s o W (.err 20 a)) := by
  have hB := wbase_below p tx op n W
  have FB := Lib.hid (Fr.of (p := p) hB)
  have hsz := wbase_size p tx op n W
  have hw := wbase_w p tx op n W
  have hp := wbase_p p tx op n W
  have h1 := h.later hB
  have X1 := Lib.hid (CX.start h1.lt)
  have S1 := Lib.hid (h1.alloc (.cells zero5 27))
  have ct := pexpect_no [40] p s a (some o) _ S1.out hs ((hE.later hB).alloc (.cells zero5 27)).sig ht
  have ec : bs [40] = ⟨#[40]⟩ := rfl
  rw [ec] at ct
  have PW := Lib.hid (X1.out.fr.at hw (by have := h.lt; omega))
  have PP := Lib.hid (X1.out.fr.at hp (by have := h.lt; omega))
  clear hB h h1 hw hp hE ht ec
  go_enter Tryz.func170, Tryz.ntmps170
  go_upto_region 1 with fail
  change Code.wp _ _ _ _ ((wbase p tx op n W).alloc (.cells zero5 27))
  generalize (wbase p tx op n W).alloc (.cells zero5 27) = w1 at *
  generalize wbase p tx op n W = W1 at *
  rw [← hsz]
  clear hsz
  generalize W.heap.size = ws at *
  have c0 := cell_row PW.out (i := 0) rfl
  have c1 := cell_row PW.out (i := 1) rfl
  have c2 := cell_row PW.out (i := 2) rfl
  have c3 := cell_row PP.out (i := 0) rfl
  go_wp2_with fail
  refine ct.mono ?_
  rintro e w2 ⟨rfl, f2⟩
  have F2 := Lib.hid ((FB.out.trans X1.out.fr).trans f2)
  clear f2 ct
  go_wp2_with fail
  exact ⟨rfl, rfl, F2.out⟩
set_option maxRecDepth 100000 in
set_option maxHeartbeats 4000000 in
theorem worded_args (p : Nat) (s : ByteArray) (a o : Nat) (tx : ByteArray) (op n : Int) (hn : (n == 0) = false) (r : PR) (W : World) (h : Sca W p s a (some o)) (hE : Env W p) (hs : s.size ≤ 9223372036854775000) (ho : o ≤ 90) (ht : T s a = [40])
    (c : ¬ 90 < o + 1 → ∀ wb pb W', wb ≠ p → pb ≠ p → W'.heap[wb]? = some (.cells #[.string tx, .int .i64 op, .int .i64 n] 115 (0, 0)) → W'.heap[pb]? = some (.cells #[.pointer (some ⟨p, 0, none⟩)] 61 (0, 0)) → Sca W' p s (nxt s a) (some (o + 1 : Nat)) → Env W' p →
      Calls Tryz.prog 174 #[.pointer (some ⟨wb, 0, none⟩), .pointer (some ⟨pb, 0, none⟩)] W' (Ans p s (o + 1) W' r)) :
    Calls Tryz.prog 170 #[.pointer (some ⟨p, 0, none⟩), .agg #[.string tx, .int .i64 op, .int .i64 n]] W (Ans p s o W (opn (o + 1) r)) := by
  have hB := wbase_below p tx op n W
  have FB := Lib.hid (Fr.of (p := p) hB)
  have hsz := wbase_size p tx op n W
  have hw := wbase_w p tx op n W
  have hp := wbase_p p tx op n W
  have h1 := h.later hB
  have X1 := Lib.hid (CX.start h1.lt)
  have S1 := Lib.hid (h1.alloc (.cells zero5 27))
  have E1 := Lib.hid ((hE.later hB).alloc (.cells zero5 27))
  have ct := pexpect_yes [40] p s a (some o) _ S1.out hs E1.out.sig ht
  have ec : bs [40] = ⟨#[40]⟩ := rfl
  rw [ec] at ct
  have hpl := h.lt
  have HWP := Lib.hid (show W.heap.size + 1 ≠ p by omega)
  have HPP := Lib.hid (show W.heap.size ≠ p by omega)
  have PW := Lib.hid (X1.out.fr.at hw HWP.out)
  have PP := Lib.hid (X1.out.fr.at hp HPP.out)
  have HI := Lib.hid (fun (w2 : World) (h2 : Sca w2 p s (nxt s a) (some o)) (e2 : Env w2 p) (hw2 : w2.heap[W.heap.size + 1]? = some (.cells #[.string tx, .int .i64 op, .int .i64 n] 115 (0, 0))) (hp2 : w2.heap[W.heap.size]? = some (.cells #[.pointer (some ⟨p, 0, none⟩)] 61 (0, 0))) =>
    insideC_any 174 ent174 ⟨W.heap.size + 1, 0, none⟩ ⟨W.heap.size, 0, none⟩ p s _ o r w2 h2 e2 ho fun hl W' h' hE' hf => c hl _ _ W' HWP.out HPP.out (hf.at hw2 HWP.out) (hf.at hp2 HPP.out) h' hE')
  have hm := hmf
  generalize opn (o + 1) r = R at *
  clear hB h h1 hw hp hE ht ec c hpl
  go_enter Tryz.func170, Tryz.ntmps170
  go_upto_region 1 with fail
  change Code.wp _ _ _ _ ((wbase p tx op n W).alloc (.cells zero5 27))
  generalize (wbase p tx op n W).alloc (.cells zero5 27) = w1 at *
  generalize wbase p tx op n W = W1 at *
  rw [← hsz]
  clear hsz
  generalize W.heap.size = ws at *
  have c0 := cell_row PW.out (i := 0) rfl
  have c1 := cell_row PW.out (i := 1) rfl
  have c2 := cell_row PW.out (i := 2) rfl
  have c3 := cell_row PP.out (i := 0) rfl
  go_wp2_with fail
  refine ct.mono ?_
  rintro e w2 ⟨rfl, h2, f2⟩
  have X2 := Lib.hid (X1.out.step f2)
  have PP2 := f2.at PP.out HPP.out
  have ci := HI.out w2 h2 (E1.out.fr f2) (f2.at PW.out HWP.out) PP2
  have c3 := cell_row PP2 (i := 0) rfl
  clear f2 ct HI PP2 X1 S1 E1
  go_wp2_with fail
  refine ci.mono ?_
  clear ci
  cases R with
  | out => exact fun _ _ h => h.elim
  | err er wh =>
    rintro e w3 ⟨rfl, f3⟩
    have F3 := Lib.hid ((FB.out.trans X2.out.fr).trans f3)
    clear f3
    go_wp2_with fail
    exact ⟨rfl, rfl, F3.out⟩
  | ok t a1 =>
    rintro e w3 ⟨A, cap, rfl, hr, hf, hfr, hs3⟩
    have X3 := Lib.hid (X2.out.step hfr)
    have HR := Lib.hid (hr.lower (n0 := W1.heap.size + 1) (Nat.succ_le_of_lt X2.out.lt))
    have HF := Lib.hid hf
    have S3 := Lib.hid hs3
    clear hr hf hfr hs3 X2
    obtain ⟨z0, z1, z2, z3, z4, f0, f1, f2, f3, f4⟩ := box_facts X3.out.box
    go_wp2_with fail
    exact bodyPost_imp (pass_ret X3.out HR.out HF.out S3.out Tryz.results170 _ rfl rfl) fun _ _ => Ans.lower FB.out
end Go.Proofs.YtgkjcimgghflmaaGreatDoor
namespace Go.Proofs.YtgkjcimgghflmaaGreatDoor
open Go.RowKit Go.Shelf
attribute [local go_sem] Oper.semAt_some
def appN (ks : List Nd) : Nd := .mk 3 0 noNm 0 ks
/-- In the midst of an application: its node in a box, with the list that grows. -/
structure KA (p : Nat) (s : ByteArray) (o : Nat) (W : World) (nb : Nat) (a : Nat) (v : Value) (xs : List NdA) (w : World) : Prop where
  cx : CX p W w
  sc : Sca w p s a (some o)
  gt : W.heap.size < nb
  box : w.heap[nb]? = some (.cells #[.int .i64 3, .int .i64 0, .string noNm, .int .i64 0, v] 27 (0, 0))
  gr : Grows (nb + 1) w v xs
theorem KA.step {p : Nat} {s : ByteArray} {o : Nat} {W : World} {nb a : Nat} {v : Value} {xs : List NdA} {w w' : World} (h : KA p s o W nb a v xs w) {a' : Nat} (hf : Fr p w w') (hs : Sca w' p s a' (some o)) : KA p s o W nb a' v xs w' :=
  have := h.cx.px
  have := h.gt
  ⟨h.cx.step hf, hs, h.gt, hf.at h.box (by omega), h.gr.fr hf (by omega)⟩
theorem KA.lt {p : Nat} {s : ByteArray} {o : Nat} {W : World} {nb a : Nat} {v : Value} {xs : List NdA} {w : World} (h : KA p s o W nb a v xs w) : nb < w.heap.size := (Array.getElem?_eq_some_iff.1 h.box).1
/-- A phrase more, before it is laid in the box. -/
theorem KA.grown {p : Nat} {s : ByteArray} {o : Nat} {W : World} {nb a : Nat} {v v' : Value} {xs : List NdA} {w w' : World} {x : NdA} (h : KA p s o W nb a v xs w) (hx : Rob (nb + 1) w v.ownBlock x.2.1 x.2.2 x.1.ks) (hf : Fine x.1)
    (hown : w'.ownsRow (nb + 1) 27 5 v' (xs.length + 1) (flatN xs ++ cells5 x)) (hg : w.grownBy w' v.ownBlock) (hr : v'.ownBlock = v.ownBlock ∨ v'.ownBlock = some w.heap.size) :
    w'.heap[nb]? = some (.cells #[.int .i64 3, .int .i64 0, .string noNm, .int .i64 0, v] 27 (0, 0)) ∧ KA p s o W nb a v' (xs ++ [x]) (w'.setCell ⟨nb, 4, none⟩ v') := by
  have hlt := h.gr.row.lt
  have hl := h.lt
  have hgt := h.gt
  have hb : Below (nb + 1) w w' := (Below.refl _ w).grown hg (Nat.succ_le_of_lt hl) (fun k e => (hlt k e).1)
  have hpx := h.cx.px
  have hb2 : w'.heap[nb]? = some (.cells #[.int .i64 3, .int .i64 0, .string noNm, .int .i64 0, v] 27 (0, 0)) := (hb.block _ (by omega)).trans h.box
  refine ⟨hb2, ⟨⟨(h.cx.fr.lower hb (by omega)).setCell' _ (by simp; omega) _, hpx, ?_⟩, ?_, hgt, ?_, (h.gr.add hx hf hown hg hr).set (p := ⟨nb, 4, none⟩) (by simp) _⟩⟩
  · rw [heap_setCell_other _ _ _ _ (by simp; omega)]; exact (hb.block _ (by omega)).trans h.cx.box
  · exact (h.sc.other (hb.block p (by omega))).other (heap_setCell_other _ _ _ _ (by simp; omega))
  · rw [heap_setCell_same _ _ _ _ _ _ hb2]; rfl
/-- The application comes back. -/
theorem KA.ret {p : Nat} {s : ByteArray} {o : Nat} {W : World} {nb a : Nat} {xs : List NdA} {D : Option Addr} {cd : Nat} {v : Value} {w : World} (h : KA p s o W nb a v xs w) (hrob : Rob (nb + 1) w none D cd (xs.map (·.1))) {n : Nat} (hn : xs.length = n) (act : Act)
    (hq : act.tmps.getD 2 undef = .pointer (some ⟨W.heap.size, 0, none⟩)) (hd : act.defers = []) :
    bodyPost Tryz.prog Tryz.f171 (Ans p s o W (.ok (appN (xs.map (·.1))) a)) .ret act (set5 w W.heap.size (.int .i64 3) (.int .i64 0) (.string noNm) (.int .i64 0) (.slice D n cd)) := by
  have hh := pass_ret (t := appN (xs.map (·.1))) (cap := cd) (A := D) h.cx (hrob.lower (n0 := W.heap.size + 1) (by have := h.gt; omega)) (fine_op (by decide)) h.sc Tryz.results171 act hq hd
  rw [show (appN (xs.map (·.1))).ks.length = n from (List.length_map _).trans hn] at hh
  exact hh
set_option maxRecDepth 100000 in
set_option maxHeartbeats 8000000 in
theorem application_any (p : Nat) (s : ByteArray) (a o : Nat) (R : PR) (J : List Nd → Nat → Prop) (W : World) (h : Sca W p s a (some o)) (hE : Env W p) (hs : s.size ≤ 9223372036854775000)
    (h41 : T s a = [41] → R = .ok (appN []) (nxt s a))
    (h0 : T s a ≠ [41] → J [] a)
    (hJ8 : ∀ ks a', J ks a' → ks.length ≤ 8)
    (hfull : ∀ ks a', J ks a' → ks.length = 8 → R = .err 20 a')
    (hphr : ∀ ks a', J ks a' → ks.length ≠ 8 → ∃ r2 : PR, (∀ W', Sca W' p s a' (some o) → Env W' p → Calls Tryz.prog 32 #[.pointer (some ⟨p, 0, none⟩)] W' (Ans p s o W' r2)) ∧
      Goes R (fun k a2 => a' < a2 ∧ (T s a2 = [44] → J (ks ++ [k]) (nxt s a2)) ∧ (T s a2 ≠ [44] → R = want s [41] a2 fun a3 => .ok (appN (ks ++ [k])) a3)) r2) :
    Calls Tryz.prog 171 #[.pointer (some ⟨p, 0, none⟩)] W (Ans p s o W R) := by
  have X1 := Lib.hid (CX.start h.lt)
  have S1 := Lib.hid (h.alloc (.cells zero5 27))
  have HE0 := Lib.hid hE
  have H41 := Lib.hid h41
  have H0 := Lib.hid h0
  have HJ8 := Lib.hid hJ8
  have HFull := Lib.hid hfull
  have HPhr := Lib.hid hphr
  have HC41 := Lib.hid (show T s a = [41] ∨ T s a ≠ [41] from Classical.em _)
  obtain ⟨i0, hi, hz0, hz1, hz2⟩ := info_partsP info27
  have I0 := Lib.hid hi
  have Z0 := Lib.hid hz0
  have Z1 := Lib.hid hz1
  have Z2 := Lib.hid hz2
  clear h hE h41 h0 hJ8 hfull hphr hi hz0 hz1 hz2
  go_enter Tryz.func171, Tryz.ntmps171
  go_upto_region 1 with fail
  generalize W.alloc (.cells zero5 27) = w1 at *
  go_wp2_with fail
  refine (node_any 3 _ none 0 0 _ rfl).mono ?_
  rintro e w2 ⟨rfl, b2⟩
  have hB := (Below.refl w2.heap.size w2).alloc (Nat.le_refl _) (.cells #[.int .i64 3, .int .i64 0, .string noNm, .int .i64 0, .slice none 0 0] 27)
  have K2 := Lib.hid (show KA p s o W w2.heap.size a (.slice none 0 0) [] (w2.alloc (.cells #[.int .i64 3, .int .i64 0, .string noNm, .int .i64 0, .slice none 0 0] 27)) from
    ⟨(X1.out.step (Fr.of b2)).step (Fr.of hB), (S1.out.later b2).later hB, (X1.out.step (Fr.of b2)).lt, World.alloc_heap_new _ _, Grows.nil _ _⟩)
  clear hB b2 X1 S1
  go_upto_region 2 with fail
  generalize w2.alloc (.cells #[.int .i64 3, .int .i64 0, .string noNm, .int .i64 0, .slice none 0 0] 27) = w3 at *
  generalize w2.heap.size = nb at *
  have ec : bs [41] = ⟨#[41]⟩ := rfl
  rcases HC41.out with ht | ht
  · have HR := Lib.hid (H41.out ht)
    have ct := paccept_yes [41] p s a (some o) w3 K2.out.sc hs (HE0.out.fr K2.out.cx.fr).sig ht
    rw [ec] at ct
    clear H41 H0 HJ8 HFull HPhr HC41 ht ec
    go_wp2_with fail
    refine ct.mono ?_
    rintro e w4 ⟨rfl, h4, f4⟩
    have K4 := Lib.hid (K2.out.step f4 h4)
    clear ct h4 f4 K2
    obtain ⟨u0, u1, u2, u3, u4, _, _, _, _, _⟩ := box_facts K4.out.box
    obtain ⟨z0, z1, z2, z3, z4, f0, f1, f2, f3, f4⟩ := box_facts K4.out.cx.box
    go_wp2_with fail
    rw [HR.out]
    exact K4.out.ret (D := none) (cd := 0) (rob_nil _ _) rfl _ rfl rfl
  · have HJ0 := Lib.hid (H0.out ht)
    have ct := paccept_no [41] p s a (some o) w3 K2.out.sc hs (HE0.out.fr K2.out.cx.fr).sig ht
    rw [ec] at ct
    clear H41 H0 HC41 ht ec
    go_wp2_with fail
    refine ct.mono ?_
    rintro e w4 ⟨rfl, h4, f4⟩
    have K4 := Lib.hid (K2.out.step f4 h4)
    clear ct h4 f4 K2
    go_wp2_with fail
    go_loopw [4] (fun _ wr => ∃ (a' : Nat) (v : Value) (xs : List NdA), Hid (KA p s o W nb a' v xs wr) ∧ Hid (J (xs.map (·.1)) a')) (fun _ wr => s.size - scPos s p wr)
    case atStart => exact ⟨a, .slice none 0 0, [], K4, HJ0⟩
    case round =>
      clear K4 HJ0
      obtain ⟨a', v, xs, K, HJ⟩ := hrel
      have hpos := K.out.sc.pos
      have hle := K.out.sc.le
      have h8 := HJ8.out _ _ HJ.out
      rw [List.length_map] at h8
      obtain ⟨A0, c0, rfl⟩ : ∃ A0 c0, v = .slice A0 xs.length c0 := by
        rcases K.out.gr.row.2 with ⟨hv, hx⟩ | ⟨g, cap, cur, hv, _⟩
        · exact ⟨none, 0, by rw [hv, hx]⟩
        · exact ⟨_, _, hv⟩
      have n4 := cell_row K.out.box (i := 4) rfl
      by_cases hful : xs.length = 8
      · have he8 : ((xs.length : Int) == 8) = true := by simp; omega
        have HR := Lib.hid (HFull.out _ _ HJ.out (by rw [List.length_map]; exact hful))
        have cp := peek_any p s a' (some o) wr K.out.sc hs (HE0.out.fr K.out.cx.fr).sig
        clear HFull HPhr HJ8 HJ hful
        go_wp2_with fail
        refine cp.mono ?_
        rintro e w5 ⟨rfl, _, f5⟩
        have F5 := Lib.hid (K.out.cx.fr.trans f5)
        clear cp f5
        go_wp2_with fail
        refine (refuse_any _ _ _ _).mono ?_
        rintro e w6 ⟨rfl, b6⟩
        have F6 := Lib.hid (F5.out.trans (Fr.of b6))
        clear b6
        go_wp2_with fail
        exact ⟨rfl, by rw [HR.out]; exact ⟨rfl, F6.out⟩⟩
      · have he8 : ((xs.length : Int) == 8) = false := by simp; omega
        obtain ⟨r2, hc2, hg2⟩ := HPhr.out _ _ HJ.out (by rw [List.length_map]; exact hful)
        have HC2 := Lib.hid hc2
        have HG2 := Lib.hid hg2
        clear hc2 hg2 HFull HPhr HJ8 HJ hful
        go_wp2_with fail
        refine (HC2.out _ K.out.sc (HE0.out.fr K.out.cx.fr)).mono ?_
        cases r2 with
        | out => exact fun _ _ h => h.elim
        | err er wh =>
          rintro e w8 ⟨rfl, f8⟩
          have F8 := Lib.hid (K.out.cx.fr.trans f8)
          clear f8
          go_wp2_with fail
          exact ⟨rfl, by rw [show R = .err er wh from HG2.out]; exact ⟨rfl, F8.out⟩⟩
        | ok u a2 =>
          rintro e w8 ⟨B, cb, rfl, hr8, hf8, hfr8, hs8⟩
          have hB := (Below.refl w8.heap.size w8).alloc (Nat.le_refl _) (boxN u B cb)
          have hlt3 := K.out.gr.row.lt
          have UR := Lib.hid ((hr8.newNone (n0 := nb + 1) (row := (Value.slice A0 xs.length c0).ownBlock) (fun g hg => (hlt3 g hg).2) (Nat.succ_le_of_lt K.out.lt)).laterR hB)
          have UB := Lib.hid (World.alloc_heap_new w8 (boxN u B cb))
          have K9 := Lib.hid ((K.out.step hfr8 hs8).step (Fr.of hB) (hs8.later hB))
          have HF8 := Lib.hid hf8
          have HG3 := Lib.hid (show a' < a2 ∧ (T s a2 = [44] → J (xs.map (·.1) ++ [u]) (nxt s a2)) ∧ (T s a2 ≠ [44] → R = want s [41] a2 fun a3 => .ok (appN (xs.map (·.1) ++ [u])) a3) from HG2.out)
          clear hB hlt3 hr8 hf8 hfr8 hs8 HC2 HG2
          go_upto_region 7 with fail
          · generalize w8.alloc (boxN u B cb) = w9 at *
            generalize w8.heap.size = ub at *
            obtain ⟨u0, u1, u2, u3', u4', _, _, _, _, _⟩ := box_facts UB.out
            obtain ⟨n0, n1, n2, n3, n4, g0, g1, g2, g3, g4⟩ := box_facts K9.out.box
            have HO := Lib.hid (fun O => ownsRow_alloc K9.out.gr.row O)
            have NX := Lib.hid (news5 w9 (u, B, cb) w9.heap.size rfl)
            have SZ := Lib.hid (show ∀ O, nb + 1 ≤ (w9.alloc O).heap.size from fun O => by rw [World.size_alloc]; have := K9.out.lt; omega)
            have BB := Lib.hid (fun O => (Below.refl w9.heap.size w9).alloc (Nat.le_refl _) O)
            have L1 := Lib.hid (show xs.length + 1 ≤ maxLen by unfold maxLen; omega)
            have L2 := Lib.hid (show (xs.length + 1) * 64 ≤ 140737488355328 by omega)
            go_wp2_with (at_builtin; refine wpList_append_own_at _ rfl _ _ 25 rfl (nb + 1) 27 i0 _ 5 64 Tryz.underlying25 I0.out Z0.out Z1.out Z2.out rfl (by decide) (.slice A0 xs.length c0) xs.length (flatN xs) rfl (HO.out _) ⟨w9.heap.size, 0, none⟩ 1 1 (cells5 (u, B, cb)) rfl rfl NX.out (cells5_oneP _) L1.out L2.out (SZ.out _) ?_; intro v' w10 hown hgrow _ hor; obtain ⟨g10, cap10, rfl⟩ := ownsRow_succ hown; have K10 := Lib.hid ((K9.out.step (Fr.of (BB.out _)) (K9.out.sc.later (BB.out _))).grown (x := (u, B, cb)) (UR.out.laterR (BB.out _)) HF8.out hown hgrow hor); obtain ⟨n0, n1, n2, n3, n4, g0, g1, g2, g3, g4⟩ := box_facts K10.out.1; clear hown hgrow hor)
            have KK := Lib.hid K10.out.2
            clear K10 n0 n1 n2 n3 n4 g0 g1 g2 g3 g4 K9 UR UB HO NX SZ L1 L2 u0 u1 u2 u3' u4' BB HF8 K
            generalize w10.setCell ⟨nb, 4, none⟩ (.slice (some ⟨g10, 0, none⟩) (xs.length + 1) cap10) = w11 at *
            have EE := (HE0.out.fr KK.out.cx.fr).sig
            by_cases h44 : T s a2 = [44]
            · have HJ2 := Lib.hid (HG3.out.2.1 h44)
              have hlt2 := HG3.out.1
              have hnl := nxt_lt KK.out.sc.le h44 (by decide)
              have ct := paccept_yes [44] p s a2 (some o) w11 KK.out.sc hs EE h44
              have ec : bs [44] = ⟨#[44]⟩ := rfl
              rw [ec] at ct
              clear HG3 h44 EE ec
              refine ct.mono ?_
              rintro e w12 ⟨rfl, h12, f12⟩
              have K12 := Lib.hid (KK.out.step f12 h12)
              clear ct h12 f12 KK
              go_wp2_with fail
              go_roundw
              case rel => exact ⟨nxt s a2, _, xs ++ [(u, B, cb)], K12, by rw [List.map_append]; exact HJ2⟩
              case measure =>
                have e1 := K12.out.sc.pos
                have : s.size - scPos s p w12 < s.size - scPos s p wr := by rw [e1, hpos]; omega
                exact this
            · have HR := Lib.hid (HG3.out.2.2 h44)
              have ct := paccept_no [44] p s a2 (some o) w11 KK.out.sc hs EE h44
              have ec : bs [44] = ⟨#[44]⟩ := rfl
              rw [ec] at ct
              clear HG3 h44 EE ec
              refine ct.mono ?_
              rintro e w12 ⟨rfl, h12, f12⟩
              have K12 := Lib.hid (KK.out.step f12 h12)
              clear ct h12 f12 KK
              have EE := (HE0.out.fr K12.out.cx.fr).sig
              have ec : bs [41] = ⟨#[41]⟩ := rfl
              by_cases h41 : T s a2 = [41]
              · have HP := Lib.hid (show R = .ok (appN ((xs ++ [(u, B, cb)]).map (·.1))) (nxt s a2) by rw [HR.out, want, if_pos h41, List.map_append]; rfl)
                have cx := pexpect_yes [41] p s a2 (some o) w12 K12.out.sc hs EE h41
                rw [ec] at cx
                clear h41 EE ec HR
                go_wp2_with fail
                refine cx.mono ?_
                rintro e w13 ⟨rfl, h13, f13⟩
                have K13 := Lib.hid (K12.out.step f13 h13)
                clear cx h13 f13 K12
                obtain ⟨D, cd, hv, hrob⟩ := K13.out.gr.rob (by rw [List.length_append]; unfold maxLen; simp; omega)
                have HV := Lib.hid hv
                have RB := Lib.hid hrob
                clear hv hrob
                obtain ⟨n0, n1, n2, n3, n4, _, _, _, _, _⟩ := box_facts K13.out.box
                obtain ⟨z0, z1, z2, z3, z4, f0, f1, f2, f3, f4⟩ := box_facts K13.out.cx.box
                go_wp2_with fail
                have hv := HV.out
                simp only [Value.slice.injEq] at hv
                obtain ⟨rfl, _, rfl⟩ := hv
                rw [HP.out]
                exact K13.out.ret RB.out (by rw [List.length_append]; rfl) _ rfl rfl
              · have HP := Lib.hid (show R = .err 20 a2 by rw [HR.out, want, if_neg h41])
                have cx := pexpect_no [41] p s a2 (some o) w12 K12.out.sc hs EE h41
                rw [ec] at cx
                clear h41 EE ec HR
                go_wp2_with fail
                refine cx.mono ?_
                rintro e w13 ⟨rfl, f13⟩
                have F13 := Lib.hid (K12.out.cx.fr.trans f13)
                clear cx f13
                go_wp2_with fail
                exact ⟨rfl, by rw [HP.out]; exact ⟨rfl, F13.out⟩⟩
end Go.Proofs.YtgkjcimgghflmaaGreatDoor
