/-
  What the document's own show returns of a node that is printable: its text; conditions: the tree lies in memory and its text is short.
  What the document's own show returns of a node without a sign between two kids that is no application and no word with arguments: its text; conditions: the tree lies in memory and its text is short.
  What the document's own show returns of a multiple: its text; conditions: the tree lies in memory and its text is short.
  What the document's own show returns of an application or a word with arguments, and of every printable node: its text; conditions: the tree lies in memory and its text is short.
-/
import Derived.IntWalk
import Derived.Test.YtgkjcimgghflmaaGreatDoorZTxt
namespace Go.Proofs.YtgkjcimgghflmaaGreatDoor
open Go.RowKit Go.Shelf

attribute [local go_sem] Oper.semAt_some
theorem below_allocs {w1 W : World} (h : Below w1.heap.size w1 W) (O : Obj) : Below w1.heap.size w1 (W.alloc O) := h.alloc h.size _
theorem below_trans2 {w1 W W' : World} (h' : Below W.heap.size W W') (h : Below w1.heap.size w1 W) : Below w1.heap.size w1 W' := h.trans (h'.mono h.size)
theorem sign_two {t : Nd} (hs : sgn t.op ≠ []) (hf : cntOk t.op t.ks.length) : t.ks.length = 2 := by
  unfold cntOk at hf
  rcases hf with ⟨h, _⟩ | ⟨h, _⟩ | ⟨h, _⟩ | ⟨_, h⟩ | ⟨h, _⟩
  · exfalso; apply hs; rcases h with h | h | h | h | h <;> (rw [h]; rfl)
  · exfalso; apply hs; rw [h]; rfl
  · exfalso; apply hs; rcases h with h | h | h | h | h <;> (rw [h]; rfl)
  · exact h
  · exfalso; apply hs; rcases h with h | h <;> (rw [h]; rfl)

set_option maxRecDepth 100000 in
set_option maxHeartbeats 4000000 in
theorem show_sign (t : Nd) (hK : ∀ i (hi : i < t.ks.length), ShowOk t.ks[i]) (hs : sgn t.op ≠ []) (h2 : t.ks.length = 2) (hlen : (txt t).length ≤ 8000000) : ShowOk t := by
  intro A cap w hL
  have hn := hL.len
  unfold maxLen at hn
  have h0 : 0 < t.ks.length := by omega
  have h1 : 1 < t.ks.length := by omega
  have et : txt t = paren (txt t.ks[0] ++ (32 :: sgn t.op ++ (32 :: txt t.ks[1]))) := by
    rw [txt_eq, txtW, if_pos hs]
    have : t.ks.map txt = [txt t.ks[0], txt t.ks[1]] := by
      apply List.ext_getElem
      · simp [h2]
      · intro i _ hi
        match i, hi with
        | 0, _ => simp
        | 1, _ => simp
    rw [this]
    rfl
  have hb : btw t.op = 32 :: (sgn t.op ++ [32]) := if_neg hs
  rw [et] at hlen
  simp only [paren, List.length_cons, List.length_append, List.length_nil] at hlen
  have a1 := cat (x := [40]) (y := txt t.ks[0]) (40 :: txt t.ks[0]) rfl (by simp only [List.length_cons]; omega)
  have a2 := cat (x := 40 :: txt t.ks[0]) (y := btw t.op) (40 :: (txt t.ks[0] ++ (32 :: (sgn t.op ++ [32])))) (by rw [hb]; rfl) (by simp only [List.length_cons, List.length_append, List.length_nil]; omega)
  have a3 := cat (x := 40 :: (txt t.ks[0] ++ (32 :: (sgn t.op ++ [32])))) (y := txt t.ks[1]) (40 :: (txt t.ks[0] ++ (32 :: sgn t.op ++ (32 :: txt t.ks[1])))) (by simp) (by simp only [List.length_cons, List.length_append]; omega)
  have a4 := cat (x := 40 :: (txt t.ks[0] ++ (32 :: sgn t.op ++ (32 :: txt t.ks[1])))) (y := [41]) (paren (txt t.ks[0] ++ (32 :: sgn t.op ++ (32 :: txt t.ks[1])))) rfl (by simp only [paren, List.length_cons, List.length_append, List.length_nil]; omega)
  rw [← et] at a4
  have e40 : bs [40] = ⟨#[40]⟩ := rfl
  have e41 : bs [41] = ⟨#[41]⟩ := rfl
  rw [e40] at a1
  rw [e41] at a4
  clear e40 e41
  have hbn : (bs (btw t.op)).toList ≠ [] := by
    rw [hb, ByteArray.toList_eq]; simp [bs]
  have cb : ∀ w, Calls Tryz.prog 64 #[.int .i64 t.op] w fun e w' => e = .returned (.string (bs (btw t.op))) ∧ w = w' := between_any t.op
  clear hb hlen et
  generalize bs (btw t.op) = sb at *
  generalize bs (txt t) = st at *
  generalize bs (40 :: txt t.ks[0]) = s1 at *
  generalize bs (40 :: (txt t.ks[0] ++ (32 :: (sgn t.op ++ [32])))) = s2 at *
  generalize bs (40 :: (txt t.ks[0] ++ (32 :: sgn t.op ++ (32 :: txt t.ks[1])))) = s3 at *
  have hbe : (sb.toList == []) = false := by simpa using hbn
  obtain ⟨b, o, A0, C0, hA0, g0, L0⟩ := hL.kid h0
  obtain ⟨b', o', A1, C1, hA1, g1, L1⟩ := hL.kid h1
  obtain rfl := hA0
  obtain ⟨rfl, rfl⟩ : b = b' ∧ o = o' := by cases hA1; exact ⟨rfl, rfl⟩
  have c0 := hK 0 h0
  have c1 := hK 1 h1
  unfold ShowOk at c0 c1
  generalize hq0 : t.ks[0] = q0 at *
  generalize hq1 : t.ks[1] = q1 at *
  generalize hk : t.ks = ks at *
  clear hs hK hq0 hq1
  obtain ⟨W, hW⟩ : ∃ W, w.alloc (.cells #[.int .i64 t.op, .int .i64 t.so, .string t.nm, .int .i64 t.nu, .slice (some ⟨b, o, none⟩) ks.length cap] 27) = W := ⟨_, rfl⟩
  have X := five_new w t (.slice (some ⟨b, o, none⟩) ks.length cap) 27
  have HB : Below w.heap.size w W := by rw [← hW]; exact (Below.refl _ _).alloc (Nat.le_refl _) _
  rw [hW] at X
  have G0 := g0.later HB
  have G1 := g1.later HB
  have K0 := Lib.hid (fun W' (h : Below W.heap.size W W') => c0 _ _ _ ((L0.later HB).later h))
  have K1 := Lib.hid (fun W' (h : Below W.heap.size W W') => c1 _ _ _ ((L1.later HB).later h))
  have KF : ∀ W', Below W.heap.size W W' → Five W' w.heap.size 0 t (.slice (some ⟨b, o, none⟩) ks.length cap) ∧ Five W' b o q0 (.slice A0 q0.ks.length C0) ∧ Five W' b (o + 5) q1 (.slice A1 q1.ks.length C1) := fun W' h => ⟨X.later h, by simpa using G0.later h, by simpa using G1.later h⟩
  have HB := Lib.hid HB
  have HW := Lib.hid hW
  clear c0 c1 g0 g1 L0 L1 hL hW
  rw [h2] at HW KF ⊢
  have KS := Lib.hid (fun W' (h : Below W.heap.size W W') => (show Below W.heap.size W W' ∧ W'.cell? ⟨w.heap.size, 0, none⟩ = some (.int .i64 t.op) ∧ W'.cell? ⟨w.heap.size, 1, none⟩ = some (.int .i64 t.so) ∧ W'.cell? ⟨w.heap.size, 2, none⟩ = some (.string t.nm) ∧ W'.cell? ⟨w.heap.size, 3, none⟩ = some (.int .i64 t.nu) ∧ W'.cell? ⟨w.heap.size, 4, none⟩ = some (.slice (some ⟨b, o, none⟩) 2 cap) ∧ W'.cell? ⟨b, o, none⟩ = some (.int .i64 q0.op) ∧ W'.cell? ⟨b, o + 1, none⟩ = some (.int .i64 q0.so) ∧ W'.cell? ⟨b, o + 2, none⟩ = some (.string q0.nm) ∧ W'.cell? ⟨b, o + 3, none⟩ = some (.int .i64 q0.nu) ∧ W'.cell? ⟨b, o + 4, none⟩ = some (.slice A0 q0.ks.length C0) ∧ W'.cell? ⟨b, o + 5, none⟩ = some (.int .i64 q1.op) ∧ W'.cell? ⟨b, o + 5 + 1, none⟩ = some (.int .i64 q1.so) ∧ W'.cell? ⟨b, o + 5 + 2, none⟩ = some (.string q1.nm) ∧ W'.cell? ⟨b, o + 5 + 3, none⟩ = some (.int .i64 q1.nu) ∧ W'.cell? ⟨b, o + 5 + 4, none⟩ = some (.slice A1 q1.ks.length C1) from by
    obtain ⟨⟨x0, x1, x2, x3, x4⟩, ⟨y0, y1, y2, y3, y4⟩, ⟨z0, z1, z2, z3, z4⟩⟩ := KF W' h
    exact ⟨h, x0, x1, x2, x3, x4, y0, y1, y2, y3, y4, z0, z1, z2, z3, z4⟩))
  obtain ⟨⟨x0, x1, x2, x3, x4⟩, ⟨y0, y1, y2, y3, y4⟩, ⟨z0, z1, z2, z3, z4⟩⟩ := KF W (Below.refl _ _)
  clear KF
  have hz : (0 : Int) < (2 : Nat) := by omega
  clear h2 h0 h1 hn hA1 X G0 G1
  go_enter Tryz.func30, Tryz.ntmps30
  go_wp2_with fail
  rw [HW.out]
  refine (cb _).mono ?_
  rintro e w1 ⟨rfl, rfl⟩
  go_wp2_with fail
  go_region_held3 (fun W' => Below W.heap.size W W' ∧ W'.cell? ⟨w.heap.size, 0, none⟩ = some (.int .i64 t.op) ∧ W'.cell? ⟨w.heap.size, 1, none⟩ = some (.int .i64 t.so) ∧ W'.cell? ⟨w.heap.size, 2, none⟩ = some (.string t.nm) ∧ W'.cell? ⟨w.heap.size, 3, none⟩ = some (.int .i64 t.nu) ∧ W'.cell? ⟨w.heap.size, 4, none⟩ = some (.slice (some ⟨b, o, none⟩) 2 cap) ∧ W'.cell? ⟨b, o, none⟩ = some (.int .i64 q0.op) ∧ W'.cell? ⟨b, o + 1, none⟩ = some (.int .i64 q0.so) ∧ W'.cell? ⟨b, o + 2, none⟩ = some (.string q0.nm) ∧ W'.cell? ⟨b, o + 3, none⟩ = some (.int .i64 q0.nu) ∧ W'.cell? ⟨b, o + 4, none⟩ = some (.slice A0 q0.ks.length C0) ∧ W'.cell? ⟨b, o + 5, none⟩ = some (.int .i64 q1.op) ∧ W'.cell? ⟨b, o + 5 + 1, none⟩ = some (.int .i64 q1.so) ∧ W'.cell? ⟨b, o + 5 + 2, none⟩ = some (.string q1.nm) ∧ W'.cell? ⟨b, o + 5 + 3, none⟩ = some (.int .i64 q1.nu) ∧ W'.cell? ⟨b, o + 5 + 4, none⟩ = some (.slice A1 q1.ks.length C1))
    ((go_split_ands; refine KS.out _ ?_; first | exact (Below.refl _ _).drew | exact (below_allocs (Below.refl _ _) _).drew | (refine below_allocs ?_ _; assumption) | (exact below_trans2 (by assumption) (by assumption))))
    (first
      | (go_at_call 30; go_split_ands; ((with_reducible refine (K0.out _ (by assumption)).mono ?_); rintro e w2 ⟨rfl, b2⟩))
      | (go_at_call 30; go_split_ands; ((with_reducible refine (K1.out _ (by assumption)).mono ?_); rintro e w2 ⟨rfl, b2⟩)))
  all_goals
    go_split_ands
    have hfin : Below W.heap.size W w2 := by assumption
    go_wp2_with fail
    go_ret
    exact ⟨rfl, HB.out.trans (hfin.mono HB.out.size)⟩
end Go.Proofs.YtgkjcimgghflmaaGreatDoor
namespace Go.Proofs.YtgkjcimgghflmaaGreatDoor
open Go.RowKit Go.Shelf

attribute [local go_sem] Oper.semAt_some
theorem bs_back (b : ByteArray) : bs b.data.toList = b := by
  cases b; simp [bs]

theorem between_none {op : Int} (h : sgn op = []) (w : World) : Calls Tryz.prog 64 #[.int .i64 op] w fun e w' => e = .returned (.string ⟨#[]⟩) ∧ w = w' := by
  have := between_any op w
  rw [show btw op = [] from if_pos h] at this
  exact this

set_option maxRecDepth 100000 in
set_option maxHeartbeats 4000000 in
theorem show_leaf (t : Nd) (h : t.op = 1 ∨ t.op = 30 ∨ t.op = 31 ∨ t.op = 9) : ShowOk t := by
  intro A cap w hL
  have HB : ∀ O, Below w.heap.size w (w.alloc O) := fun O => (Below.refl _ _).alloc (Nat.le_refl _) _
  have et : bs (txt t) = if t.op = 1 then t.nm else bs (wrdS t.op) := by
    rw [txt_eq, txtW]
    rcases h with e | e | e | e <;> (rw [e]; simp [sgn, bs_back])
  clear hL
  have c1 := between_none (op := 1) rfl
  have c2 := between_none (op := 30) rfl
  have c3 := between_none (op := 31) rfl
  have c4 := between_none (op := 9) rfl
  rcases h with e | e | e | e
  all_goals
    rw [e] at et ⊢
    have ET := Lib.hid et
    clear et e
    go_enter Tryz.func30, Tryz.ntmps30
    go_wp2_with fail
    first | ((with_reducible refine (c1 _).mono ?_)) | ((with_reducible refine (c2 _).mono ?_)) | ((with_reducible refine (c3 _).mono ?_)) | ((with_reducible refine (c4 _).mono ?_))
    rintro e w1 ⟨rfl, rfl⟩
    go_wp2_with fail
    go_ret
    exact ⟨by rw [ET.out]; rfl, HB _⟩

/-- One kid: where it lies, and what show returns of it in every later world. -/
theorem one_kid {t : Nd} {A : Option Addr} {cap : Nat} {w : World} (hL : Lies w A cap t.ks) (h1 : t.ks.length = 1) (hK : ∀ i (hi : i < t.ks.length), ShowOk t.ks[i]) :
    ∃ (q : Nd) (b o : Nat) (A0 : Option Addr) (C0 : Nat), t.ks = [q] ∧ A = some ⟨b, o, none⟩ ∧ Five w b o q (.slice A0 q.ks.length C0) ∧
      Hid (∀ W', Below w.heap.size w W' → Calls Tryz.prog 30 #[nv q.op q.so q.nm q.nu (.slice A0 q.ks.length C0)] W' fun e w' => e = .returned (.string (bs (txt q))) ∧ Below W'.heap.size W' w') := by
  have h0 : 0 < t.ks.length := by omega
  obtain ⟨b, o, A0, C0, hA, g, L⟩ := hL.kid h0
  refine ⟨t.ks[0], b, o, A0, C0, ?_, hA, by simpa using g, Lib.hid fun W' h => hK 0 h0 _ _ _ (L.later h)⟩
  apply List.ext_getElem
  · simp [h1]
  · intro i _ hi
    match i, hi with
    | 0, _ => rfl

set_option maxRecDepth 100000 in
set_option maxHeartbeats 4000000 in
theorem show_not (t : Nd) (hK : ∀ i (hi : i < t.ks.length), ShowOk t.ks[i]) (h : t.op = 32) (h1 : t.ks.length = 1) (hlen : (txt t).length ≤ 8000000) : ShowOk t := by
  intro A cap w hL
  obtain ⟨q, b, o, A0, C0, hq, rfl, g, K⟩ := one_kid hL h1 hK
  have et : txt t = paren (33 :: txt q) := by
    rw [txt_eq, txtW, hq, h]; simp [sgn]
  rw [et] at hlen
  simp only [paren, List.length_cons, List.length_append, List.length_nil] at hlen
  have a1 : ∀ w, (Op.stringOp .add ⟨#[40, 33]⟩ (bs (txt q))).run Tryz.prog w = .ok (.string (bs (40 :: 33 :: txt q))) w := cat (x := [40, 33]) (y := txt q) (40 :: 33 :: txt q) rfl (by simp only [List.length_cons]; omega)
  have a2 : ∀ w, (Op.stringOp .add (bs (40 :: 33 :: txt q)) ⟨#[41]⟩).run Tryz.prog w = .ok (.string (bs (txt t))) w := by
    rw [et]
    exact cat (x := 40 :: 33 :: txt q) (y := [41]) (paren (33 :: txt q)) rfl (by simp only [paren, List.length_cons, List.length_append, List.length_nil]; omega)
  generalize bs (40 :: 33 :: txt q) = s1 at *
  generalize bs (txt t) = st at *
  generalize bs (txt q) = s0 at *
  obtain ⟨W, hW⟩ : ∃ W, w.alloc (.cells #[.int .i64 t.op, .int .i64 t.so, .string t.nm, .int .i64 t.nu, .slice (some ⟨b, o, none⟩) t.ks.length cap] 27) = W := ⟨_, rfl⟩
  have X := five_new w t (.slice (some ⟨b, o, none⟩) t.ks.length cap) 27
  have HB : Below w.heap.size w W := by rw [← hW]; exact (Below.refl _ _).alloc (Nat.le_refl _) _
  rw [hW] at X
  obtain ⟨y0, y1, y2, y3, y4⟩ := g.later HB
  obtain ⟨x0, x1, x2, x3, x4⟩ := X
  rw [h1] at *
  have HW := Lib.hid hW
  have HB := Lib.hid HB
  have cb := between_none (op := 32) rfl
  rw [h] at *
  clear hW hK hL et hlen hq h1 h g
  have hz : (0 : Int) < (1 : Nat) := by omega
  go_enter Tryz.func30, Tryz.ntmps30
  go_wp2_with fail
  rw [HW.out]
  refine (cb _).mono ?_
  rintro e w1 ⟨rfl, rfl⟩
  go_wp2_with fail
  refine (K.out _ HB.out).mono ?_
  rintro e w1 ⟨rfl, b1⟩
  have B1 := Lib.hid b1
  clear b1
  go_wp2_with fail
  go_ret
  exact ⟨rfl, HB.out.trans (B1.out.mono HB.out.size)⟩

theorem itoa_neg {n : Int} (h : n < 0) : Lib.itoa n = 45 :: Lib.decDigits n.natAbs := if_pos h
theorem itoa_pos {n : Int} (h : ¬ n < 0) : Lib.itoa n = Lib.decDigits n.toNat := if_neg h
theorem digits_bs (n : Nat) (h : n ≤ 9223372036854775807) (w : World) : Calls Tryz.prog 65 #[.int .i64 n] w fun e w' => e = .returned (.string (bs (Lib.decDigits n))) ∧ Below w.heap.size w w' := digits_any n h w

set_option maxRecDepth 100000 in
set_option maxHeartbeats 4000000 in
theorem show_int (t : Nd) (h : t.op = 2) (hl : -1000000000000 ≤ t.nu) (hr : t.nu ≤ 1000000000000) : ShowOk t := by
  intro A cap w hL
  have HB : Below w.heap.size w (w.alloc (.cells #[.int .i64 t.op, .int .i64 t.so, .string t.nm, .int .i64 t.nu, .slice A t.ks.length cap] 27)) := (Below.refl _ _).alloc (Nat.le_refl _) _
  have HB := Lib.hid HB
  have et : txt t = intT t.nu := by
    rw [txt_eq, txtW, h]; simp [sgn]
  have cb := between_none (op := 2) rfl
  clear hL
  by_cases hneg : t.nu < 0
  · obtain ⟨n, hn⟩ : ∃ n : Nat, t.nu = -(n : Int) := ⟨t.nu.natAbs, by omega⟩
    have ei : txt t = 40 :: 45 :: (Lib.decDigits n ++ [41]) := by
      rw [et, intT, if_pos hneg, itoa_neg hneg, hn]; simp [paren]
    have hd := dec_len (n := n) (by omega)
    have a1 : ∀ w, (Op.stringOp .add ⟨#[40, 45]⟩ (bs (Lib.decDigits n))).run Tryz.prog w = .ok (.string (bs (40 :: 45 :: Lib.decDigits n))) w := cat (x := [40, 45]) (y := Lib.decDigits n) (40 :: 45 :: Lib.decDigits n) rfl (by simp only [List.length_cons]; omega)
    have a2 : ∀ w, (Op.stringOp .add (bs (40 :: 45 :: Lib.decDigits n)) ⟨#[41]⟩).run Tryz.prog w = .ok (.string (bs (txt t))) w := by
      rw [ei]
      exact cat (x := 40 :: 45 :: Lib.decDigits n) (y := [41]) (40 :: 45 :: (Lib.decDigits n ++ [41])) rfl (by simp only [List.length_cons, List.length_append, List.length_nil]; omega)
    have cd := digits_bs n (by omega)
    generalize bs (40 :: 45 :: Lib.decDigits n) = s1 at *
    generalize bs (txt t) = st at *
    generalize bs (Lib.decDigits n) = s0 at *
    have hpos : 0 < n := by omega
    have hn2 : n ≤ 1000000000000 := by omega
    rw [h, hn] at HB ⊢
    clear et ei hd h hn hneg hl hr
    have hn1 : (-(n : Int)) < 0 := by omega
    go_enter Tryz.func30, Tryz.ntmps30
    go_wp2_with fail
    refine (cb _).mono ?_
    rintro e w1 ⟨rfl, rfl⟩
    go_wp2_with fail
    refine (cd _).mono ?_
    rintro e w1 ⟨rfl, b1⟩
    have B1 := Lib.hid b1
    clear b1
    go_wp2_with fail
    go_ret
    exact ⟨rfl, HB.out.trans (B1.out.mono HB.out.size)⟩
  · obtain ⟨n, hn⟩ : ∃ n : Nat, t.nu = (n : Int) := ⟨t.nu.natAbs, by omega⟩
    have ei : txt t = Lib.decDigits n := by
      rw [et, intT, if_neg hneg, itoa_pos hneg, hn]; simp
    have cd := digits_bs n (by omega)
    rw [← ei] at cd
    generalize bs (txt t) = st at *
    rw [h, hn] at HB ⊢
    rw [hn] at hneg
    clear et ei h hl hr hn
    go_enter Tryz.func30, Tryz.ntmps30
    go_wp2_with fail
    refine (cb _).mono ?_
    rintro e w1 ⟨rfl, rfl⟩
    go_wp2_with fail
    refine (cd _).mono ?_
    rintro e w1 ⟨rfl, b1⟩
    have B1 := Lib.hid b1
    clear b1
    go_wp2_with fail
    go_ret
    exact ⟨rfl, HB.out.trans (B1.out.mono HB.out.size)⟩

set_option maxRecDepth 100000 in
set_option maxHeartbeats 4000000 in
theorem show_neg (t : Nd) (hK : ∀ i (hi : i < t.ks.length), ShowOk t.ks[i]) (h : t.op = 6) (h1 : t.ks.length = 1) (hlen : (txt t).length ≤ 8000000) : ShowOk t := by
  intro A cap w hL
  obtain ⟨q, b, o, A0, C0, hq, rfl, g, K⟩ := one_kid hL h1 hK
  have et : txt t = if q.op = 2 ∧ 0 ≤ q.nu then paren (45 :: paren (txt q)) else paren (45 :: txt q) := by
    rw [txt_eq, txtW, hq, h]; simp [sgn, natKid, hq]
  obtain ⟨W, hW⟩ : ∃ W, w.alloc (.cells #[.int .i64 t.op, .int .i64 t.so, .string t.nm, .int .i64 t.nu, .slice (some ⟨b, o, none⟩) t.ks.length cap] 27) = W := ⟨_, rfl⟩
  have X := five_new w t (.slice (some ⟨b, o, none⟩) t.ks.length cap) 27
  have HB : Below w.heap.size w W := by rw [← hW]; exact (Below.refl _ _).alloc (Nat.le_refl _) _
  rw [hW] at X
  obtain ⟨y0, y1, y2, y3, y4⟩ := g.later HB
  obtain ⟨x0, x1, x2, x3, x4⟩ := X
  have HA : Below W.heap.size W (W.alloc (.cells #[.int .i64 q.op, .int .i64 q.so, .string q.nm, .int .i64 q.nu, .slice A0 q.ks.length C0] 27)) := (Below.refl _ _).alloc (Nat.le_refl _) _
  rw [h1] at *
  have HW := Lib.hid hW
  have HB := Lib.hid HB
  have HA := Lib.hid HA
  have cb := between_none (op := 6) rfl
  rw [h] at *
  clear hW hK hL hq h1 h g
  have hz : (0 : Int) < (1 : Nat) := by omega
  by_cases hp : q.op = 2 ∧ 0 ≤ q.nu
  · rw [if_pos hp] at et
    rw [et] at hlen
    simp only [paren, List.length_cons, List.length_append, List.length_nil] at hlen
    have a1 : ∀ w, (Op.stringOp .add ⟨#[40, 45, 40]⟩ (bs (txt q))).run Tryz.prog w = .ok (.string (bs (40 :: 45 :: 40 :: txt q))) w := cat (x := [40, 45, 40]) (y := txt q) (40 :: 45 :: 40 :: txt q) rfl (by simp only [List.length_cons]; omega)
    have a2 : ∀ w, (Op.stringOp .add (bs (40 :: 45 :: 40 :: txt q)) ⟨#[41, 41]⟩).run Tryz.prog w = .ok (.string (bs (txt t))) w := by
      rw [et]
      exact cat (x := 40 :: 45 :: 40 :: txt q) (y := [41, 41]) (paren (45 :: paren (txt q))) (by simp [paren]) (by simp only [paren, List.length_cons, List.length_append, List.length_nil]; omega)
    generalize bs (40 :: 45 :: 40 :: txt q) = s1 at *
    generalize bs (txt t) = st at *
    generalize bs (txt q) = s0 at *
    obtain ⟨p1, p2⟩ := hp
    have e1 : (q.op == 2) = true := by simpa using p1
    have e2 : decide (0 ≤ q.nu) = true := by simpa using p2
    clear et hlen p1 p2
    go_enter Tryz.func30, Tryz.ntmps30
    go_wp2_with fail
    rw [HW.out]
    refine (cb _).mono ?_
    rintro e w1 ⟨rfl, rfl⟩
    go_wp2_with fail
    refine (K.out _ (HB.out.trans (HA.out.mono HB.out.size))).mono ?_
    rintro e w1 ⟨rfl, b1⟩
    have B1 := Lib.hid (HA.out.trans (b1.mono HA.out.size))
    clear b1
    go_wp2_with fail
    go_ret
    exact ⟨rfl, HB.out.trans (B1.out.mono HB.out.size)⟩
  · rw [if_neg hp] at et
    rw [et] at hlen
    simp only [paren, List.length_cons, List.length_append, List.length_nil] at hlen
    have a1 : ∀ w, (Op.stringOp .add ⟨#[40, 45]⟩ (bs (txt q))).run Tryz.prog w = .ok (.string (bs (40 :: 45 :: txt q))) w := cat (x := [40, 45]) (y := txt q) (40 :: 45 :: txt q) rfl (by simp only [List.length_cons]; omega)
    have a2 : ∀ w, (Op.stringOp .add (bs (40 :: 45 :: txt q)) ⟨#[41]⟩).run Tryz.prog w = .ok (.string (bs (txt t))) w := by
      rw [et]
      exact cat (x := 40 :: 45 :: txt q) (y := [41]) (paren (45 :: txt q)) rfl (by simp only [paren, List.length_cons, List.length_append, List.length_nil]; omega)
    generalize bs (40 :: 45 :: txt q) = s1 at *
    generalize bs (txt t) = st at *
    generalize bs (txt q) = s0 at *
    clear et hlen
    have hcase : ((q.op == 2) = true ∧ decide (0 ≤ q.nu) = false) ∨ (q.op == 2) = false := by
      by_cases e : q.op = 2
      · exact .inl ⟨by simpa using e, by simpa using fun h' => hp ⟨e, h'⟩⟩
      · exact .inr (by simpa using e)
    clear hp
    have xo4 := fun O => cellB ((Below.refl W.heap.size W).alloc (Nat.le_refl _) O) (Nat.le_refl _) x4
    have yo0 := fun O => cellB ((Below.refl W.heap.size W).alloc (Nat.le_refl _) O) (Nat.le_refl _) y0
    have yo1 := fun O => cellB ((Below.refl W.heap.size W).alloc (Nat.le_refl _) O) (Nat.le_refl _) y1
    have yo2 := fun O => cellB ((Below.refl W.heap.size W).alloc (Nat.le_refl _) O) (Nat.le_refl _) y2
    have yo3 := fun O => cellB ((Below.refl W.heap.size W).alloc (Nat.le_refl _) O) (Nat.le_refl _) y3
    have yo4 := fun O => cellB ((Below.refl W.heap.size W).alloc (Nat.le_refl _) O) (Nat.le_refl _) y4
    rcases hcase with ⟨e1, e2⟩ | e1
    all_goals
      go_enter Tryz.func30, Tryz.ntmps30
      go_wp2_with fail
      rw [HW.out]
      refine (cb _).mono ?_
      rintro e w1 ⟨rfl, rfl⟩
      go_wp2_with fail
      refine (K.out _ (HB.out.trans (HA.out.mono HB.out.size))).mono ?_
      rintro e w1 ⟨rfl, b1⟩
      have B1 := Lib.hid (HA.out.trans (b1.mono HA.out.size))
      clear b1
      go_wp2_with fail
      go_ret
      exact ⟨rfl, HB.out.trans (B1.out.mono HB.out.size)⟩
end Go.Proofs.YtgkjcimgghflmaaGreatDoor
namespace Go.Proofs.YtgkjcimgghflmaaGreatDoor
open Go.RowKit Go.Shelf

attribute [local go_sem] Oper.semAt_some
set_option maxRecDepth 100000 in
set_option maxHeartbeats 8000000 in
theorem show_scale (t : Nd) (hK : ∀ i (hi : i < t.ks.length), ShowOk t.ks[i]) (h : t.op = 7) (h1 : t.ks.length = 1) (hl : -1000000000000 ≤ t.nu) (hr : t.nu ≤ 1000000000000) (hlen : (txt t).length ≤ 8000000) : ShowOk t := by
  intro A cap w hL
  obtain ⟨q, b, o, A0, C0, hq, rfl, g, K⟩ := one_kid hL h1 hK
  have et : txt t = if t.nu < 0 then paren (45 :: paren (Lib.itoa (-t.nu) ++ (32 :: 42 :: 32 :: txt q))) else paren (Lib.itoa t.nu ++ (32 :: 42 :: 32 :: txt q)) := by
    rw [txt_eq, txtW, hq, h]; simp [sgn]
  obtain ⟨W, hW⟩ : ∃ W, w.alloc (.cells #[.int .i64 t.op, .int .i64 t.so, .string t.nm, .int .i64 t.nu, .slice (some ⟨b, o, none⟩) t.ks.length cap] 27) = W := ⟨_, rfl⟩
  have X := five_new w t (.slice (some ⟨b, o, none⟩) t.ks.length cap) 27
  have HB : Below w.heap.size w W := by rw [← hW]; exact (Below.refl _ _).alloc (Nat.le_refl _) _
  rw [hW] at X
  have K := Lib.hid (fun W' (hb : Below W.heap.size W W') => K.out W' (HB.trans (hb.mono HB.size)))
  have KF : ∀ W', Below W.heap.size W W' → Five W' w.heap.size 0 (.mk t.op t.so t.nm t.nu []) (.slice (some ⟨b, o, none⟩) t.ks.length cap) ∧ Five W' b o q (.slice A0 q.ks.length C0) := fun W' h => by
    obtain ⟨x0, x1, x2, x3, x4⟩ := X.later h
    exact ⟨⟨x0, x1, x2, x3, x4⟩, (g.later HB).later h⟩
  rw [h1] at hW KF ⊢
  have HW := Lib.hid hW
  have HB := Lib.hid HB
  have cb := between_none (op := 7) rfl
  rw [h] at HW KF ⊢
  clear hW hK hL hq h1 h g X
  have hz : (0 : Int) < (1 : Nat) := by omega
  by_cases hneg : t.nu < 0
  · obtain ⟨n, hn⟩ : ∃ n : Nat, t.nu = -(n : Int) := ⟨t.nu.natAbs, by omega⟩
    have ei : txt t = 40 :: 45 :: 40 :: (Lib.decDigits n ++ (32 :: 42 :: 32 :: (txt q ++ [41, 41]))) := by
      rw [et, if_pos hneg, itoa_pos (by omega), hn]; simp [paren]
    have hd := dec_len (n := n) (by omega)
    rw [ei] at hlen
    simp only [List.length_cons, List.length_append, List.length_nil] at hlen
    have a1 : ∀ w, (Op.stringOp .add ⟨#[40, 45, 40]⟩ (bs (Lib.decDigits n))).run Tryz.prog w = .ok (.string (bs (40 :: 45 :: 40 :: Lib.decDigits n))) w := cat (x := [40, 45, 40]) (y := Lib.decDigits n) (40 :: 45 :: 40 :: Lib.decDigits n) rfl (by simp only [List.length_cons]; omega)
    have a2 : ∀ w, (Op.stringOp .add (bs (40 :: 45 :: 40 :: Lib.decDigits n)) ⟨#[32, 42, 32]⟩).run Tryz.prog w = .ok (.string (bs (40 :: 45 :: 40 :: (Lib.decDigits n ++ [32, 42, 32])))) w := cat (x := 40 :: 45 :: 40 :: Lib.decDigits n) (y := [32, 42, 32]) (40 :: 45 :: 40 :: (Lib.decDigits n ++ [32, 42, 32])) rfl (by simp only [List.length_cons, List.length_append, List.length_nil]; omega)
    have a3 : ∀ w, (Op.stringOp .add (bs (40 :: 45 :: 40 :: (Lib.decDigits n ++ [32, 42, 32]))) (bs (txt q))).run Tryz.prog w = .ok (.string (bs (40 :: 45 :: 40 :: (Lib.decDigits n ++ (32 :: 42 :: 32 :: txt q))))) w := cat (x := 40 :: 45 :: 40 :: (Lib.decDigits n ++ [32, 42, 32])) (y := txt q) (40 :: 45 :: 40 :: (Lib.decDigits n ++ (32 :: 42 :: 32 :: txt q))) (by simp) (by simp only [List.length_cons, List.length_append]; omega)
    have a4 : ∀ w, (Op.stringOp .add (bs (40 :: 45 :: 40 :: (Lib.decDigits n ++ (32 :: 42 :: 32 :: txt q)))) ⟨#[41, 41]⟩).run Tryz.prog w = .ok (.string (bs (txt t))) w := by
      rw [ei]
      exact cat (x := 40 :: 45 :: 40 :: (Lib.decDigits n ++ (32 :: 42 :: 32 :: txt q))) (y := [41, 41]) (40 :: 45 :: 40 :: (Lib.decDigits n ++ (32 :: 42 :: 32 :: (txt q ++ [41, 41])))) (by simp) (by simp only [List.length_cons, List.length_append, List.length_nil]; omega)
    have KD := Lib.hid (digits_bs n (by omega))
    have hn2 : n ≤ 1000000000000 := by omega
    generalize bs (40 :: 45 :: 40 :: Lib.decDigits n) = s1 at *
    generalize bs (40 :: 45 :: 40 :: (Lib.decDigits n ++ [32, 42, 32])) = s2 at *
    generalize bs (40 :: 45 :: 40 :: (Lib.decDigits n ++ (32 :: 42 :: 32 :: txt q))) = s3 at *
    generalize bs (txt t) = st at *
    generalize bs (Lib.decDigits n) = sd at *
    generalize bs (txt q) = s0 at *
    have hpos : (-(n : Int)) < 0 := by omega
    have hwr : IntKind.i64.wrap (n : Int) = n := IntWalk.i64_in _ (by omega)
    rw [hn] at HW KF ⊢
    clear et ei hd hlen hn hneg hl hr
    have KS := Lib.hid (fun W' (h : Below W.heap.size W W') => (show Below W.heap.size W W' ∧ W'.cell? ⟨w.heap.size, 0, none⟩ = some (.int .i64 7) ∧ W'.cell? ⟨w.heap.size, 1, none⟩ = some (.int .i64 t.so) ∧ W'.cell? ⟨w.heap.size, 2, none⟩ = some (.string t.nm) ∧ W'.cell? ⟨w.heap.size, 3, none⟩ = some (.int .i64 (-(n : Int))) ∧ W'.cell? ⟨w.heap.size, 4, none⟩ = some (.slice (some ⟨b, o, none⟩) 1 cap) ∧ W'.cell? ⟨b, o, none⟩ = some (.int .i64 q.op) ∧ W'.cell? ⟨b, o + 1, none⟩ = some (.int .i64 q.so) ∧ W'.cell? ⟨b, o + 2, none⟩ = some (.string q.nm) ∧ W'.cell? ⟨b, o + 3, none⟩ = some (.int .i64 q.nu) ∧ W'.cell? ⟨b, o + 4, none⟩ = some (.slice A0 q.ks.length C0) from by
      obtain ⟨⟨x0, x1, x2, x3, x4⟩, ⟨y0, y1, y2, y3, y4⟩⟩ := KF W' h
      exact ⟨h, x0, x1, x2, x3, x4, y0, y1, y2, y3, y4⟩))
    obtain ⟨⟨x0, x1, x2, x3, x4⟩, ⟨y0, y1, y2, y3, y4⟩⟩ := KF W (Below.refl _ _)
    simp only [Nd.op, Nd.so, Nd.nm, Nd.nu] at x0 x1 x2 x3
    clear KF
    go_enter Tryz.func30, Tryz.ntmps30
    go_wp2_with fail
    rw [HW.out]
    refine (cb _).mono ?_
    rintro e w1 ⟨rfl, rfl⟩
    go_wp2_with fail
    go_region_held3 (fun W' => Below W.heap.size W W' ∧ W'.cell? ⟨w.heap.size, 0, none⟩ = some (.int .i64 7) ∧ W'.cell? ⟨w.heap.size, 1, none⟩ = some (.int .i64 t.so) ∧ W'.cell? ⟨w.heap.size, 2, none⟩ = some (.string t.nm) ∧ W'.cell? ⟨w.heap.size, 3, none⟩ = some (.int .i64 (-(n : Int))) ∧ W'.cell? ⟨w.heap.size, 4, none⟩ = some (.slice (some ⟨b, o, none⟩) 1 cap) ∧ W'.cell? ⟨b, o, none⟩ = some (.int .i64 q.op) ∧ W'.cell? ⟨b, o + 1, none⟩ = some (.int .i64 q.so) ∧ W'.cell? ⟨b, o + 2, none⟩ = some (.string q.nm) ∧ W'.cell? ⟨b, o + 3, none⟩ = some (.int .i64 q.nu) ∧ W'.cell? ⟨b, o + 4, none⟩ = some (.slice A0 q.ks.length C0))
      ((go_split_ands; refine KS.out _ ?_; first | exact (Below.refl _ _).drew | exact (below_allocs (Below.refl _ _) _).drew | (refine below_allocs ?_ _; assumption) | (exact below_trans2 (by assumption) (by assumption))))
      (first
        | (go_at_call 65; ((with_reducible refine (KD.out _).mono ?_); rintro e w2 ⟨rfl, b2⟩))
        | (go_at_call 30; go_split_ands; ((with_reducible refine (K.out _ (by assumption)).mono ?_); rintro e w2 ⟨rfl, b2⟩)))
    all_goals
      go_split_ands
      have hfin : Below W.heap.size W w2 := by assumption
      go_wp2_with fail
      go_ret
      exact ⟨rfl, HB.out.trans (hfin.mono HB.out.size)⟩
  · obtain ⟨n, hn⟩ : ∃ n : Nat, t.nu = (n : Int) := ⟨t.nu.natAbs, by omega⟩
    have ei : txt t = 40 :: (Lib.decDigits n ++ (32 :: 42 :: 32 :: (txt q ++ [41]))) := by
      rw [et, if_neg hneg, itoa_pos hneg, hn]; simp [paren]
    have hd := dec_len (n := n) (by omega)
    rw [ei] at hlen
    simp only [List.length_cons, List.length_append, List.length_nil] at hlen
    have a1 : ∀ w, (Op.stringOp .add ⟨#[40]⟩ (bs (Lib.decDigits n))).run Tryz.prog w = .ok (.string (bs (40 :: Lib.decDigits n))) w := cat (x := [40]) (y := Lib.decDigits n) (40 :: Lib.decDigits n) rfl (by simp only [List.length_cons]; omega)
    have a2 : ∀ w, (Op.stringOp .add (bs (40 :: Lib.decDigits n)) ⟨#[32, 42, 32]⟩).run Tryz.prog w = .ok (.string (bs (40 :: (Lib.decDigits n ++ [32, 42, 32])))) w := cat (x := 40 :: Lib.decDigits n) (y := [32, 42, 32]) (40 :: (Lib.decDigits n ++ [32, 42, 32])) rfl (by simp only [List.length_cons, List.length_append, List.length_nil]; omega)
    have a3 : ∀ w, (Op.stringOp .add (bs (40 :: (Lib.decDigits n ++ [32, 42, 32]))) (bs (txt q))).run Tryz.prog w = .ok (.string (bs (40 :: (Lib.decDigits n ++ (32 :: 42 :: 32 :: txt q))))) w := cat (x := 40 :: (Lib.decDigits n ++ [32, 42, 32])) (y := txt q) (40 :: (Lib.decDigits n ++ (32 :: 42 :: 32 :: txt q))) (by simp) (by simp only [List.length_cons, List.length_append]; omega)
    have a4 : ∀ w, (Op.stringOp .add (bs (40 :: (Lib.decDigits n ++ (32 :: 42 :: 32 :: txt q)))) ⟨#[41]⟩).run Tryz.prog w = .ok (.string (bs (txt t))) w := by
      rw [ei]
      exact cat (x := 40 :: (Lib.decDigits n ++ (32 :: 42 :: 32 :: txt q))) (y := [41]) (40 :: (Lib.decDigits n ++ (32 :: 42 :: 32 :: (txt q ++ [41])))) (by simp) (by simp only [List.length_cons, List.length_append, List.length_nil]; omega)
    have KD := Lib.hid (digits_bs n (by omega))
    have hn2 : n ≤ 1000000000000 := by omega
    generalize bs (40 :: Lib.decDigits n) = s1 at *
    generalize bs (40 :: (Lib.decDigits n ++ [32, 42, 32])) = s2 at *
    generalize bs (40 :: (Lib.decDigits n ++ (32 :: 42 :: 32 :: txt q))) = s3 at *
    generalize bs (txt t) = st at *
    generalize bs (Lib.decDigits n) = sd at *
    generalize bs (txt q) = s0 at *
    rw [hn] at HW KF ⊢
    clear et ei hd hlen hn hneg hl hr
    have KS := Lib.hid (fun W' (h : Below W.heap.size W W') => (show Below W.heap.size W W' ∧ W'.cell? ⟨w.heap.size, 0, none⟩ = some (.int .i64 7) ∧ W'.cell? ⟨w.heap.size, 1, none⟩ = some (.int .i64 t.so) ∧ W'.cell? ⟨w.heap.size, 2, none⟩ = some (.string t.nm) ∧ W'.cell? ⟨w.heap.size, 3, none⟩ = some (.int .i64 (n : Int)) ∧ W'.cell? ⟨w.heap.size, 4, none⟩ = some (.slice (some ⟨b, o, none⟩) 1 cap) ∧ W'.cell? ⟨b, o, none⟩ = some (.int .i64 q.op) ∧ W'.cell? ⟨b, o + 1, none⟩ = some (.int .i64 q.so) ∧ W'.cell? ⟨b, o + 2, none⟩ = some (.string q.nm) ∧ W'.cell? ⟨b, o + 3, none⟩ = some (.int .i64 q.nu) ∧ W'.cell? ⟨b, o + 4, none⟩ = some (.slice A0 q.ks.length C0) from by
      obtain ⟨⟨x0, x1, x2, x3, x4⟩, ⟨y0, y1, y2, y3, y4⟩⟩ := KF W' h
      exact ⟨h, x0, x1, x2, x3, x4, y0, y1, y2, y3, y4⟩))
    obtain ⟨⟨x0, x1, x2, x3, x4⟩, ⟨y0, y1, y2, y3, y4⟩⟩ := KF W (Below.refl _ _)
    simp only [Nd.op, Nd.so, Nd.nm, Nd.nu] at x0 x1 x2 x3
    clear KF
    go_enter Tryz.func30, Tryz.ntmps30
    go_wp2_with fail
    rw [HW.out]
    refine (cb _).mono ?_
    rintro e w1 ⟨rfl, rfl⟩
    go_wp2_with fail
    go_region_held3 (fun W' => Below W.heap.size W W' ∧ W'.cell? ⟨w.heap.size, 0, none⟩ = some (.int .i64 7) ∧ W'.cell? ⟨w.heap.size, 1, none⟩ = some (.int .i64 t.so) ∧ W'.cell? ⟨w.heap.size, 2, none⟩ = some (.string t.nm) ∧ W'.cell? ⟨w.heap.size, 3, none⟩ = some (.int .i64 (n : Int)) ∧ W'.cell? ⟨w.heap.size, 4, none⟩ = some (.slice (some ⟨b, o, none⟩) 1 cap) ∧ W'.cell? ⟨b, o, none⟩ = some (.int .i64 q.op) ∧ W'.cell? ⟨b, o + 1, none⟩ = some (.int .i64 q.so) ∧ W'.cell? ⟨b, o + 2, none⟩ = some (.string q.nm) ∧ W'.cell? ⟨b, o + 3, none⟩ = some (.int .i64 q.nu) ∧ W'.cell? ⟨b, o + 4, none⟩ = some (.slice A0 q.ks.length C0))
      ((go_split_ands; refine KS.out _ ?_; first | exact (Below.refl _ _).drew | exact (below_allocs (Below.refl _ _) _).drew | (refine below_allocs ?_ _; assumption) | (exact below_trans2 (by assumption) (by assumption))))
      (first
        | (go_at_call 65; ((with_reducible refine (KD.out _).mono ?_); rintro e w2 ⟨rfl, b2⟩))
        | (go_at_call 30; go_split_ands; ((with_reducible refine (K.out _ (by assumption)).mono ?_); rintro e w2 ⟨rfl, b2⟩)))
    all_goals
      go_split_ands
      have hfin : Below W.heap.size W w2 := by assumption
      go_wp2_with fail
      go_ret
      exact ⟨rfl, HB.out.trans (hfin.mono HB.out.size)⟩
end Go.Proofs.YtgkjcimgghflmaaGreatDoor
namespace Go.Proofs.YtgkjcimgghflmaaGreatDoor
open Go.RowKit Go.Shelf

attribute [local go_sem] Oper.semAt_some
theorem commas_append (a : List UInt8) : ∀ (l : List (List UInt8)), l ≠ [] → commas (l ++ [a]) = commas l ++ (44 :: 32 :: a)
  | [], h => absurd rfl h
  | [b], _ => rfl
  | b :: c :: l, _ => by
    have ih := commas_append a (c :: l) (by simp)
    show b ++ (44 :: 32 :: commas (c :: (l ++ [a]))) = _
    rw [show c :: (l ++ [a]) = (c :: l) ++ [a] from rfl, ih]
    simp [commas]
theorem commas_snoc (l : List (List UInt8)) (k : Nat) (hk : k < l.length) (h0 : k ≠ 0) : commas (l.take (k + 1)) = commas (l.take k) ++ (44 :: 32 :: l[k]) := by
  rw [List.take_succ_eq_append_getElem hk]
  exact commas_append _ _ (by intro h; rcases List.take_eq_nil_iff.1 h with h | h; exact h0 h; (rw [h] at hk; simp at hk))
theorem commas_le (l : List (List UInt8)) : ∀ k, k ≤ l.length → (commas (l.take k)).length ≤ (commas l).length := by
  intro k hk
  induction hn : l.length - k generalizing k with
  | zero => rw [List.take_of_length_le (by omega)]; exact Nat.le_refl _
  | succ n ih =>
    have h1 := ih (k + 1) (by omega) (by omega)
    refine Nat.le_trans ?_ h1
    by_cases h0 : k = 0
    · subst h0; simp [commas]
    · rw [commas_snoc l k (by omega) h0]; simp

def restOp (op : Int) : Prop := op = 3 ∨ op = 8 ∨ op = 10 ∨ op = 11 ∨ op = 12 ∨ op = 13 ∨ op = 14 ∨ op = 15 ∨ op = 16
theorem rest_sgn {op : Int} (h : restOp op) : sgn op = [] := by
  rcases h with e | e | e | e | e | e | e | e | e <;> (rw [e]; rfl)
theorem txt_rest {t : Nd} (h : restOp t.op) : txt t = hdT t ++ paren (commas (t.ks.map txt)) := by
  rw [txt_eq, txtW, rest_sgn h]
  unfold hdT
  rcases h with e | e | e | e | e | e | e | e | e <;> (rw [e]; simp)
theorem rest_no {op : Int} (h : restOp op) : (op == 1) = false ∧ (op == 30) = false ∧ (op == 31) = false ∧ (op == 9) = false ∧ (op == 2) = false ∧ (op == 32) = false ∧ (op == 6) = false ∧ (op == 7) = false := by
  rcases h with e | e | e | e | e | e | e | e | e <;> (rw [e]; decide)

set_option maxRecDepth 100000 in
set_option maxHeartbeats 8000000 in
theorem show_rest (t : Nd) (hK : ∀ i (hi : i < t.ks.length), ShowOk t.ks[i]) (h : restOp t.op) (hlen : (txt t).length ≤ 8000000) : ShowOk t := by
  intro A cap w hL
  have hn := hL.len
  unfold maxLen at hn
  have et := txt_rest h
  obtain ⟨n1, n2, n3, n4, n5, n6, n7, n8⟩ := rest_no h
  have cb := between_none (rest_sgn h)
  have ch := fun W => head_any t (.slice A t.ks.length cap) h W
  obtain ⟨W, hW⟩ : ∃ W, w.alloc (.cells #[.int .i64 t.op, .int .i64 t.so, .string t.nm, .int .i64 t.nu, .slice A t.ks.length cap] 27) = W := ⟨_, rfl⟩
  have X := five_new w t (.slice A t.ks.length cap) 27
  have HB : Below w.heap.size w W := by rw [← hW]; exact (Below.refl _ _).alloc (Nat.le_refl _) _
  rw [hW] at X
  have HL := Lib.hid (hL.later HB)
  have HX := Lib.hid X
  have HW := Lib.hid hW
  have HB := Lib.hid HB
  have HK := Lib.hid hK
  have hl1 : (hdT t).length + 2 + (commas (t.ks.map txt)).length ≤ 8000000 := by
    rw [et] at hlen
    simp only [paren, List.length_cons, List.length_append, List.length_nil] at hlen
    omega
  have Hcl := Lib.hid (commas_le (t.ks.map txt))
  have a0 : ∀ w, (Op.stringOp .add (bs (hdT t)) ⟨#[40]⟩).run Tryz.prog w = .ok (.string (bs (hdT t ++ 40 :: commas ((t.ks.map txt).take 0)))) w := cat (x := hdT t) (y := [40]) (hdT t ++ 40 :: commas ((t.ks.map txt).take 0)) (by simp [commas]) (by simp [commas]; omega)
  have a9 : ∀ w, (Op.stringOp .add (bs (hdT t ++ 40 :: commas ((t.ks.map txt).take t.ks.length))) ⟨#[41]⟩).run Tryz.prog w = .ok (.string (bs (txt t))) w := by
    rw [List.take_of_length_le (by simp), et]
    exact cat (x := hdT t ++ 40 :: commas (t.ks.map txt)) (y := [41]) (hdT t ++ paren (commas (t.ks.map txt))) (by simp [paren]) (by simp only [paren, List.length_cons, List.length_append, List.length_nil]; omega)
  clear hW hK hL hlen et h X
  generalize hst : bs (txt t) = st at *
  clear hst
  obtain ⟨x0, x1, x2, x3, x4⟩ := HX.out
  go_enter Tryz.func30, Tryz.ntmps30
  go_wp2_with fail
  rw [HW.out]
  refine (cb _).mono ?_
  rintro e w1 ⟨rfl, rfl⟩
  go_wp2_with fail
  refine (ch _).mono ?_
  rintro e w1 ⟨rfl, b1⟩
  obtain ⟨x0, x1, x2, x3, x4⟩ := HX.out.later b1
  have hW1 := b1.size
  have HB1 := Lib.hid b1
  clear b1
  go_wp2_with fail
  have Hp := Lib.hid (fun k => (rfl : bs (hdT t ++ 40 :: commas ((t.ks.map txt).take k)) = bs (hdT t ++ 40 :: commas ((t.ks.map txt).take k))))
  go_loopw [5, 124] (fun o i wr => ∃ k : Nat, k ≤ t.ks.length ∧ i = .int .i64 k ∧ o = .string (bs (hdT t ++ 40 :: commas ((t.ks.map txt).take k))) ∧ Below W.heap.size W wr) (fun _ i _ => t.ks.length - (intOf i).toNat)
  case atStart => exact ⟨0, Nat.zero_le _, rfl, rfl, HB1.out⟩
  case round =>
    obtain ⟨k, hk, rfl, rfl, hBr⟩ := hrel
    have HBr := Lib.hid hBr
    have hszr := hBr.size
    clear a0 cb ch x0 x1 x2 x3 x4
    by_cases hlt : k < t.ks.length
    · obtain ⟨b, o, A', C', rfl, g5, hKd⟩ := HL.out.kid hlt
      obtain ⟨y0, y1, y2, y3, y4⟩ := g5.later hBr
      have c := Lib.hid (fun W' (hb : Below W.heap.size W W') => HK.out k hlt A' C' W' (hKd.later hb))
      have hm : k < (t.ks.map txt).length := by simpa using hlt
      have hq : (t.ks.map txt)[k] = txt t.ks[k] := by simp
      have hle := Hcl.out (k + 1) (by simp; omega)
      clear a9 g5 hKd hBr Hcl
      by_cases h0 : k = 0
      · subst h0
        simp only [Nat.zero_mul, Nat.add_zero, Nat.zero_add] at y0 y1 y2 y3 y4 hle
        have hc1 : commas ((t.ks.map txt).take 1) = txt t.ks[0] := by
          rw [List.take_succ_eq_append_getElem hm, hq]; simp [commas]
        have a1 : ∀ w, (Op.stringOp .add (bs (hdT t ++ 40 :: commas ((t.ks.map txt).take 0))) (bs (txt t.ks[0]))).run Tryz.prog w = .ok (.string (bs (hdT t ++ 40 :: commas ((t.ks.map txt).take 1)))) w := by
          refine cat (x := hdT t ++ 40 :: commas ((t.ks.map txt).take 0)) (y := txt t.ks[0]) (hdT t ++ 40 :: commas ((t.ks.map txt).take 1)) (by rw [hc1]; simp [commas]) ?_
          simp only [List.length_append, List.length_cons]; omega
        clear hc1 hq hm hle hl1 HK
        generalize bs (hdT t ++ 40 :: commas ((t.ks.map txt).take 0)) = p0 at *
        generalize hp1 : bs (hdT t ++ 40 :: commas ((t.ks.map txt).take 1)) = p1 at *
        generalize t.ks[0] = q at *
        generalize bs (txt q) = sq at *
        have Hp1 := Lib.hid hp1
        clear hp1 Hp
        go_wp2_with fail
        refine (c.out _ (HBr.out.alloc hszr _)).mono ?_
        rintro e w2 ⟨rfl, b2⟩
        have B2 := Lib.hid ((HBr.out.alloc hszr _).trans (b2.mono (HBr.out.alloc hszr _).size))
        clear b2
        go_wp2_with fail
        go_roundw
        case rel => exact ⟨0 + 1, by omega, by go_num, by rw [Hp1.out], B2.out⟩
        case measure => simp [intOf]; omega
      · have hcs := commas_snoc (t.ks.map txt) k hm h0
        rw [hq] at hcs
        rw [hcs] at hle
        simp only [List.length_append, List.length_cons] at hle
        have a1 : ∀ w, (Op.stringOp .add (bs (hdT t ++ 40 :: commas ((t.ks.map txt).take k))) ⟨#[44, 32]⟩).run Tryz.prog w = .ok (.string (bs (hdT t ++ 40 :: (commas ((t.ks.map txt).take k) ++ [44, 32])))) w :=
          cat (x := hdT t ++ 40 :: commas ((t.ks.map txt).take k)) (y := [44, 32]) (hdT t ++ 40 :: (commas ((t.ks.map txt).take k) ++ [44, 32])) (by simp) (by simp only [List.length_append, List.length_cons, List.length_nil]; omega)
        have a2 : ∀ w, (Op.stringOp .add (bs (hdT t ++ 40 :: (commas ((t.ks.map txt).take k) ++ [44, 32]))) (bs (txt t.ks[k]))).run Tryz.prog w = .ok (.string (bs (hdT t ++ 40 :: commas ((t.ks.map txt).take (k + 1))))) w :=
          cat (x := hdT t ++ 40 :: (commas ((t.ks.map txt).take k) ++ [44, 32])) (y := txt t.ks[k]) (hdT t ++ 40 :: commas ((t.ks.map txt).take (k + 1))) (by rw [hcs]; simp) (by rw [hcs]; simp only [List.length_append, List.length_cons]; omega)
        clear hcs hq hm hle hl1 HK
        generalize bs (hdT t ++ 40 :: commas ((t.ks.map txt).take k)) = p0 at *
        generalize bs (hdT t ++ 40 :: (commas ((t.ks.map txt).take k) ++ [44, 32])) = p1 at *
        generalize hp2 : bs (hdT t ++ 40 :: commas ((t.ks.map txt).take (k + 1))) = p2 at *
        generalize t.ks[k] = q at *
        generalize bs (txt q) = sq at *
        have Hp2 := Lib.hid hp2
        have hk0 : 0 < k := by omega
        clear hp2 Hp h0
        go_wp2_with fail
        refine (c.out _ (HBr.out.alloc hszr _)).mono ?_
        rintro e w2 ⟨rfl, b2⟩
        have B2 := Lib.hid ((HBr.out.alloc hszr _).trans (b2.mono (HBr.out.alloc hszr _).size))
        clear b2
        go_wp2_with fail
        go_roundw
        case rel => exact ⟨k + 1, by omega, by go_num, by rw [Hp2.out], B2.out⟩
        case measure => simp [intOf]; omega
    · obtain rfl : k = t.ks.length := by omega
      clear Hcl Hp hBr
      generalize bs (hdT t ++ 40 :: commas ((t.ks.map txt).take t.ks.length)) = p0 at *
      go_wp2_with fail
      go_ret
      exact ⟨rfl, HB.out.trans (HBr.out.mono HB.out.size)⟩

theorem frm_iff {t : Nd} : frmB t = true ↔ fldOk t ∧ cntOk t.op t.ks.length := by
  unfold frmB; simp
theorem pr_frm {t : Nd} (h : prB t = true) : fldOk t ∧ cntOk t.op t.ks.length := by
  rw [prB_eq, Bool.and_eq_true] at h
  exact frm_iff.1 h.1
theorem pr_kid {t : Nd} (h : prB t = true) (i : Nat) (hi : i < t.ks.length) : prB t.ks[i] = true := by
  rw [prB_eq, Bool.and_eq_true] at h
  exact List.all_eq_true.1 h.2 _ (List.getElem_mem hi)
theorem commas_mem {a : List UInt8} : ∀ {l : List (List UInt8)}, a ∈ l → a.length ≤ (commas l).length
  | [b], h => by simp at h; subst h; simp [commas]
  | b :: c :: l, h => by
    simp only [commas, List.length_append, List.length_cons]
    rcases List.mem_cons.1 h with rfl | h
    · omega
    · have := commas_mem h; omega
/-- What an operator with the right number of kids is. -/
theorem cnt_cases {op : Int} {n : Nat} (h : cntOk op n) :
    (sgn op ≠ [] ∧ n = 2) ∨ ((op = 1 ∨ op = 30 ∨ op = 31 ∨ op = 9) ∧ n = 0) ∨ (op = 2 ∧ n = 0) ∨ (op = 32 ∧ n = 1) ∨ (op = 6 ∧ n = 1) ∨ (op = 7 ∧ n = 1) ∨ restOp op := by
  unfold cntOk at h
  unfold restOp
  rcases h with ⟨h, h'⟩ | ⟨h, h'⟩ | ⟨h, h'⟩ | ⟨h, h'⟩ | ⟨h, h'⟩
  · rcases h with e | e | e | e | e <;> simp [e, h']
  · simp [h]
  · rcases h with e | e | e | e | e <;> simp [e, h']
  · rcases h with e | e | e | e | e | e | e | e | e | e | e | e | e | e | e <;> simp [e, h', sgn]
  · rcases h with e | e <;> simp [e]
theorem one_of {t : Nd} (h : t.ks.length = 1) : ∃ q, t.ks = [q] := by
  match hk : t.ks, h with
  | [q], _ => exact ⟨q, rfl⟩
theorem two_of {t : Nd} (h : t.ks.length = 2) : ∃ q r, t.ks = [q, r] := by
  match hk : t.ks, h with
  | [q, r], _ => exact ⟨q, r, rfl⟩
theorem kid_len {t : Nd} (h : cntOk t.op t.ks.length) (i : Nat) (hi : i < t.ks.length) : (txt t.ks[i]).length ≤ (txt t).length := by
  have hm : t.ks[i] ∈ t.ks := List.getElem_mem hi
  generalize t.ks[i] = y at *
  rcases cnt_cases h with ⟨hs, h2⟩ | ⟨_, h0⟩ | ⟨_, h0⟩ | ⟨e, h1⟩ | ⟨e, h1⟩ | ⟨e, h1⟩ | hr
  · obtain ⟨q, r, hk⟩ := two_of h2
    rw [txt_eq t, txtW, if_pos hs, hk]
    rw [hk] at hm
    simp only [List.mem_cons, List.not_mem_nil, or_false] at hm
    rcases hm with rfl | rfl <;> simp [paren] <;> omega
  · omega
  · omega
  · obtain ⟨q, hk⟩ := one_of h1
    rw [hk] at hm
    obtain rfl := List.mem_singleton.1 hm
    rw [txt_eq t, txtW, hk, e]; simp [sgn, paren]; omega
  · obtain ⟨q, hk⟩ := one_of h1
    rw [hk] at hm
    obtain rfl := List.mem_singleton.1 hm
    rw [txt_eq t, txtW, hk, e]; simp only [sgn, natKid, hk]
    simp [paren]
    split <;> simp <;> omega
  · obtain ⟨q, hk⟩ := one_of h1
    rw [hk] at hm
    obtain rfl := List.mem_singleton.1 hm
    rw [txt_eq t, txtW, hk, e]; simp only [sgn]
    simp [paren]
    split <;> simp <;> omega
  · rw [txt_rest hr]
    have := commas_mem (a := txt y) (l := t.ks.map txt) (List.mem_map_of_mem hm)
    simp [paren]; omega

theorem show_any (t : Nd) : prB t = true → (txt t).length ≤ 8000000 → ShowOk t := by
  induction t using Nd.ind with
  | h t ih =>
  intro hp hl
  obtain ⟨hf, hc⟩ := pr_frm hp
  have hK : ∀ i (hi : i < t.ks.length), ShowOk t.ks[i] := fun i hi => ih i hi (pr_kid hp i hi) (Nat.le_trans (kid_len hc i hi) hl)
  have hb : t.op = 2 ∨ t.op = 7 → -1000000000000 ≤ t.nu ∧ t.nu ≤ 1000000000000 := fun h => by
    unfold fldOk at hf
    rw [if_neg (by omega), if_pos h] at hf
    exact hf.2.2
  rcases cnt_cases hc with ⟨hs, h2⟩ | ⟨e, _⟩ | ⟨e, _⟩ | ⟨e, h1⟩ | ⟨e, h1⟩ | ⟨e, h1⟩ | hr
  · exact show_sign t hK hs h2 hl
  · exact show_leaf t e
  · exact show_int t e (hb (.inl e)).1 (hb (.inl e)).2
  · exact show_not t hK e h1 hl
  · exact show_neg t hK e h1 hl
  · exact show_scale t hK e h1 (hb (.inr e)).1 (hb (.inr e)).2 hl
  · exact show_rest t hK hr hl
end Go.Proofs.YtgkjcimgghflmaaGreatDoor
