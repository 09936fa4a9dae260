/-
  The phrases not and comparison of the program's parser, and a phrase in parentheses, answer as the grammar says when those within do; conditions: the text is no longer than a string can be, and the program's tables hold what its text lays.
-/
import Derived.Test.YtgkjcimgghflmaaGreatDoorYPq6
namespace Go.Proofs.YtgkjcimgghflmaaGreatDoor
open Go.RowKit Go.Shelf
attribute [local go_sem] Oper.semAt_some
/-- Two nodes in their boxes, before they are joined. -/
structure Two (p : Nat) (s : ByteArray) (a o : Nat) (W : World) (lb rb : Nat) (t u : Nd) (A B : Option Addr) (ca cb : Nat) (w : World) : Prop where
  cx : CX p W w
  l : NB p W lb t A ca w
  r : NB p W rb u B cb w
  sc : Sca w p s a (some o)
  env : Env w p
theorem Two.step {p : Nat} {s : ByteArray} {a o : Nat} {W : World} {lb rb : Nat} {t u : Nd} {A B : Option Addr} {ca cb : Nat} {w w' : World} (h : Two p s a o W lb rb t u A B ca cb w) (hb : Below w.heap.size w w') : Two p s a o W lb rb t u A B ca cb w' :=
  ⟨h.cx.step (Fr.of hb), h.l.step h.cx.px (Fr.of hb), h.r.step h.cx.px (Fr.of hb), h.sc.later hb, h.env.later hb⟩
theorem Two.drew {p : Nat} {s : ByteArray} {a o : Nat} {W : World} {lb rb : Nat} {t u : Nd} {A B : Option Addr} {ca cb : Nat} {w : World} (h : Two p s a o W lb rb t u A B ca cb w) : Two p s a o W lb rb t u A B ca cb w.drew :=
  h.step ⟨rfl, rfl, rfl, Nat.le_refl _, fun _ _ => rfl⟩
/-- The two nodes' list. -/
abbrev pairN (t u : Nd) (A B : Option Addr) (ca cb : Nat) : Obj := .cells #[.int .i64 t.op, .int .i64 t.so, .string t.nm, .int .i64 t.nu, .slice A t.ks.length ca, .int .i64 u.op, .int .i64 u.so, .string u.nm, .int .i64 u.nu, .slice B u.ks.length cb] 27
/-- The two nodes are joined in a list. -/
structure Joined (p : Nat) (s : ByteArray) (a o : Nat) (W : World) (t u : Nd) (D : Option Addr) (w : World) : Prop where
  cx : CX p W w
  rob : Rob (W.heap.size + 1) w none D 2 [t, u]
  sc : Sca w p s a (some o)
theorem Two.joinA {p : Nat} {s : ByteArray} {a o : Nat} {W : World} {lb rb : Nat} {t u : Nd} {A B : Option Addr} {ca cb : Nat} {w w' : World} (h : Two p s a o W lb rb t u A B ca cb w) (hb : Below (w.alloc (pairN t u A B ca cb)).heap.size (w.alloc (pairN t u A B ca cb)) w') :
    Joined p s a o W t u (some ⟨w.heap.size, 0, none⟩) w' := by
  have hB := (Below.refl w.heap.size w).alloc (Nat.le_refl _) (pairN t u A B ca cb)
  have h1 := h.step hB
  exact ⟨(h1.step hb).cx, (rob_two (Nat.succ_le_of_lt h.cx.lt) (World.alloc_heap_new w _) h1.l.rob h1.r.rob h.l.fine h.r.fine).later hb, (h1.step hb).sc⟩
theorem Two.joinB {p : Nat} {s : ByteArray} {a o : Nat} {W : World} {lb rb g : Nat} {t u : Nd} {A B : Option Addr} {ca cb : Nat} {w w' : World} (h : Two p s a o W lb rb t u A B ca cb w) (hg : W.heap.size < g) (hk : w.heap[g]? = some (.cells #[.int .i64 t.op, .int .i64 t.so, .string t.nm, .int .i64 t.nu, .slice A t.ks.length ca, .int .i64 u.op, .int .i64 u.so, .string u.nm, .int .i64 u.nu, .slice B u.ks.length cb] 27 (0, 0))) (hb : Below w.heap.size w w') :
    Joined p s a o W t u (some ⟨g, 0, none⟩) w' :=
  ⟨(h.step hb).cx, (rob_two (Nat.succ_le_of_lt hg) hk h.l.rob h.r.rob h.l.fine h.r.fine).later hb, (h.step hb).sc⟩
theorem Joined.ret {p : Nat} {s : ByteArray} {a o : Nat} {W : World} {t u : Nd} {D : Option Addr} {w : World} (h : Joined p s a o W t u D w) {fn : Func} {q : Tmp} (op : Int) (hop : (Lit.int .i64 op).wf = true) (hres : fn.results = #[.cell q 27]) (act : Act)
    (hq : act.tmps.getD q undef = .pointer (some ⟨W.heap.size, 0, none⟩)) (hd : act.defers = []) {R : PR} (hR : R = .ok (twoN op t u) a) :
    bodyPost Tryz.prog fn (Ans p s o W R) .ret act (set5 w W.heap.size (.int .i64 op) (.int .i64 0) (.string noNm) (.int .i64 0) (.slice D 2 2)) := by
  subst hR
  have hx := h.cx
  exact bodyPost_ret (res27 hres act.tmps _ W.heap.size _ _ _ _ _ hq (set5_same _ _ _ _ _ hx.box)) hd
    ⟨D, 2, rfl, h.rob.set5 (by omega) (by omega) _ _ _ _ _, fine_op hop, hx.fr.set5 (Nat.le_refl _) _ _ _ _ _, h.sc.other (set5_other _ _ _ _ _ (by have := hx.px; omega))⟩
set_option maxRecDepth 100000 in
set_option maxHeartbeats 8000000 in
theorem bound_any (F1 F2 : Nat) (hF1 : Ent F1) (hF2 : Ent F2) (sg : List UInt8) (p : Nat) (s : ByteArray) (a o : Nat) (r1 : PR) (r2 : Nd → Nat → PR) (W : World) (h : Sca W p s a (some o)) (hE : Env W p) (hs : s.size ≤ 9223372036854775000) (ho : o ≤ 90) (hop : (Lit.int .i64 (opT sg)).wf = true)
    (c1 : ∀ W', Sca W' p s a (some o) → Env W' p → Calls Tryz.prog F1 #[.pointer (some ⟨p, 0, none⟩)] W' (Ans p s o W' r1))
    (c2 : ∀ l a1, r1 = .ok l a1 → T s a1 = sg → ¬ 90 < o + 1 → ∀ W', Sca W' p s (nxt s a1) (some (o + 1 : Nat)) → Env W' p → Calls Tryz.prog F2 #[.pointer (some ⟨p, 0, none⟩)] W' (Ans p s (o + 1) W' (r2 l a1))) :
    Calls Tryz.prog 67 #[.pointer (some ⟨p, 0, none⟩), .func (.func F1) #[.pointer (some ⟨p, 0, none⟩)] #[], .string (bs sg), .func (.func F2) #[.pointer (some ⟨p, 0, none⟩)] #[]] W
      (Ans p s o W (r1.bind fun l a1 => if T s a1 = sg then opn (o + 1) ((r2 l a1).bind fun r a2 => .ok (twoN (opT sg) l r) a2) else .ok l a1)) := by
  have X1 := Lib.hid (CX.start h.lt)
  have S1 := Lib.hid (h.alloc (.cells zero5 27))
  have E1 := Lib.hid (hE.alloc (.cells zero5 27))
  have HC := Lib.hid c1
  have HC2 := Lib.hid c2
  unfold Ent at hF1
  clear h hE c1 c2
  go_enter Tryz.func67, Tryz.ntmps67
  go_upto_region 1 with fail
  generalize W.alloc (.cells zero5 27) = w1 at *
  go_wp2_with fail
  refine (HC.out _ S1.out E1.out).mono ?_
  cases r1 with
  | out => exact fun _ _ h => h.elim
  | err er wh =>
    rintro e w3 ⟨rfl, f3⟩
    have F3 := Lib.hid (X1.out.fr.trans f3)
    clear f3
    go_wp2_with fail
    exact ⟨rfl, rfl, F3.out⟩
  | ok t a1 =>
    rintro e w3 ⟨A, ca, rfl, hr, hf, hfr, hs3⟩
    have hB := (Below.refl w3.heap.size w3).alloc (Nat.le_refl _) (boxN t A ca)
    have N3 := Lib.hid (NB.start X1.out hr hf hfr)
    have X3 := Lib.hid ((X1.out.step hfr).step (Fr.of hB))
    have S3 := Lib.hid (hs3.later hB)
    have E3 := Lib.hid ((E1.out.fr hfr).later hB)
    clear hr hf hfr hs3 hB S1 E1 X1 HC
    by_cases ht : T s a1 = sg
    · have HP := Lib.hid (show (PR.ok t a1).bind (fun l a1 => if T s a1 = sg then opn (o + 1) ((r2 l a1).bind fun r a2 => .ok (twoN (opT sg) l r) a2) else .ok l a1) = (opn (o + 1) (r2 t a1)).bind fun r a2 => .ok (twoN (opT sg) t r) a2 by
        rw [opn_bind]; exact if_pos ht)
      have ct := paccept_yes sg p s a1 (some o) _ S3.out hs E3.out.sig ht
      have HC3 := Lib.hid (HC2.out t a1 rfl ht)
      clear HC2 ht
      go_upto_region 2 with fail
      generalize w3.alloc (boxN t A ca) = w4 at *
      generalize w3.heap.size = lb at *
      go_wp2_with fail
      refine ct.mono ?_
      rintro e w5 ⟨rfl, h5, f5⟩
      have N5 := Lib.hid (N3.out.step X3.out.px f5)
      have X5 := Lib.hid (X3.out.step f5)
      have E5 := Lib.hid (E3.out.fr f5)
      have ci := inside_any F2 hF2 p s _ o (r2 t a1) w5 h5 E5.out ho HC3.out
      clear f5 h5 ct N3 X3 S3 E3 HC3
      generalize opn (o + 1) (r2 t a1) = r3 at *
      go_wp2_with fail
      refine ci.mono ?_
      cases r3 with
      | out => exact fun _ _ h => h.elim
      | err er wh =>
        rintro e w6 ⟨rfl, f6⟩
        have F6 := Lib.hid (X5.out.fr.trans f6)
        clear f6 ci
        go_wp2_with fail
        exact ⟨rfl, by rw [HP.out]; exact ⟨rfl, F6.out⟩⟩
      | ok u a2 =>
        rintro e w6 ⟨B, cb, rfl, hr, hf, hfr, hs6⟩
        have hB := (Below.refl w6.heap.size w6).alloc (Nat.le_refl _) (boxN u B cb)
        have TW := Lib.hid (show Two p s a2 o W lb w6.heap.size t u A B ca cb (w6.alloc (boxN u B cb)) from
          ⟨(X5.out.step hfr).step (Fr.of hB), (N5.out.step X5.out.px hfr).step X5.out.px (Fr.of hB), NB.start X5.out hr hf hfr, hs6.later hB, (E5.out.fr hfr).later hB⟩)
        clear hr hf hfr hs6 hB ci N5 X5 E5
        go_upto_region 5 with fail
        · generalize w6.alloc (boxN u B cb) = w7 at *
          generalize w6.heap.size = rb at *
          have TD := Lib.hid TW.out.drew
          have TK := Lib.hid (TW.out.step ((Below.refl w7.heap.size w7).alloc (Nat.le_refl _) (pairN t u A B ca cb))).drew
          have KK := Lib.hid (World.alloc_heap_new w7 (pairN t u A B ca cb))
          have HG := Lib.hid TW.out.cx.lt
          obtain ⟨l0, l1, l2, l3, l4, _, _, _, _, _⟩ := box_facts TW.out.l.box
          obtain ⟨u0, u1, u2, u3, u4, _, _, _, _, _⟩ := box_facts TW.out.r.box
          go_wp2_with fail
          go_region_with (first
            | (go_at_call 101; first
                | ((with_reducible refine (operator_any sg _ TD.out.env.tabs).mono ?_); rintro e w8 ⟨rfl, b8⟩; have T8 := Lib.hid (TD.out.step b8); have K8 := Lib.hid True.intro; obtain ⟨l0, l1, l2, l3, l4, _, _, _, _, _⟩ := box_facts T8.out.l.box; obtain ⟨u0, u1, u2, u3, u4, _, _, _, _, _⟩ := box_facts T8.out.r.box; clear b8)
                | ((with_reducible refine (operator_any sg _ TK.out.env.tabs).mono ?_); rintro e w8 ⟨rfl, b8⟩; have T8 := Lib.hid (TK.out.step b8); have K8 := Lib.hid ((b8.block _ (Array.getElem?_eq_some_iff.1 KK.out).1).trans KK.out); clear b8))
            | (go_at_call 100; ((with_reducible refine (node_any _ _ _ 2 2 _ rfl).mono ?_); rintro e w9 ⟨rfl, b9⟩; first
                | (have J9 := Lib.hid (T8.out.joinA b9); obtain ⟨y0, y1, y2, y3, y4, g0, g1, g2, g3, g4⟩ := box_facts J9.out.cx.box; clear b9)
                | (have J9 := Lib.hid (T8.out.joinB HG.out K8.out b9); obtain ⟨y0, y1, y2, y3, y4, g0, g1, g2, g3, g4⟩ := box_facts J9.out.cx.box; clear b9))))
          all_goals
            go_wp2_with fail
            exact J9.out.ret (opT sg) hop Tryz.results67 _ rfl rfl HP.out
    · have HP := Lib.hid (show (PR.ok t a1).bind (fun l a1 => if T s a1 = sg then opn (o + 1) ((r2 l a1).bind fun r a2 => .ok (twoN (opT sg) l r) a2) else .ok l a1) = .ok t a1 from if_neg ht)
      have ct := paccept_no sg p s a1 (some o) _ S3.out hs E3.out.sig ht
      clear HC2 ht
      go_upto_region 2 with fail
      generalize w3.alloc (boxN t A ca) = w4 at *
      generalize w3.heap.size = lb at *
      go_wp2_with fail
      refine ct.mono ?_
      rintro e w5 ⟨rfl, h5, f5⟩
      have N5 := Lib.hid (N3.out.step X3.out.px f5)
      have X5 := Lib.hid (X3.out.step f5)
      have S5 := Lib.hid h5
      clear f5 h5 ct N3 X3 S3 E3
      obtain ⟨z0, z1, z2, z3, z4, f0, f1, f2, f3, f4⟩ := box_facts N5.out.box
      obtain ⟨y0, y1, y2, y3, y4, g0, g1, g2, g3, g4⟩ := box_facts X5.out.box
      go_wp2_with fail
      have hh := N5.out.ret X5.out S5.out Tryz.results67 (fn := Tryz.f67)
      rw [HP.out]
      exact hh _ rfl rfl
set_option maxRecDepth 100000 in
set_option maxHeartbeats 4000000 in
theorem imp_callB (p : Nat) (s : ByteArray) (a o : Nat) (R : PR) (W : World) (h : Sca W p s a (some o)) (hE : Env W p)
    (c : ∀ W', Sca W' p s a (some o) → Env W' p → Calls Tryz.prog 67 #[.pointer (some ⟨p, 0, none⟩), .func (.func 102) #[.pointer (some ⟨p, 0, none⟩)] #[], .string ⟨#[61, 62]⟩, .func (.func 68) #[.pointer (some ⟨p, 0, none⟩)] #[]] W' (Ans p s o W' R)) :
    Calls Tryz.prog 68 #[.pointer (some ⟨p, 0, none⟩)] W (Ans p s o W R) := by
  have X1 := Lib.hid (CX.start h.lt)
  have S1 := Lib.hid (h.alloc (.cells zero5 27))
  have E1 := Lib.hid (hE.alloc (.cells zero5 27))
  have HC := Lib.hid c
  have hm := hmf
  clear h hE c
  go_enter Tryz.func68, Tryz.ntmps68
  go_upto_region 1 with fail
  generalize W.alloc (.cells zero5 27) = w1 at *
  have c := HC.out w1 S1.out E1.out
  clear HC S1 E1
  go_wp2_with fail
  refine c.mono ?_
  cases R with
  | out => exact fun _ _ h => h.elim
  | err er wh =>
    rintro e w3 ⟨rfl, f3⟩
    have F3 := Lib.hid (X1.out.fr.trans f3)
    clear f3 c
    go_wp2_with fail
    exact ⟨rfl, rfl, F3.out⟩
  | ok t a1 =>
    rintro e w3 ⟨A, cap, rfl, hr, hf, hfr, hs3⟩
    have X3 := Lib.hid (X1.out.step hfr)
    have HR := Lib.hid (hr.lower (n0 := W.heap.size + 1) (Nat.succ_le_of_lt X1.out.lt))
    have HF := Lib.hid hf
    have S3 := Lib.hid hs3
    clear hr hf hfr hs3 c X1
    obtain ⟨z0, z1, z2, z3, z4, f0, f1, f2, f3, f4⟩ := box_facts X3.out.box
    go_wp2_with fail
    have hx := X3.out
    exact bodyPost_ret (res27 Tryz.results68 _ _ W.heap.size _ _ _ _ _ rfl (set5_same _ _ _ _ _ hx.box)) rfl
      ⟨A, cap, rfl, HR.out.set5 (by omega) (by omega) _ _ _ _ _, HF.out, hx.fr.set5 (Nat.le_refl _) _ _ _ _ _, S3.out.other (set5_other _ _ _ _ _ (by have := hx.px; omega))⟩
theorem ent102 : Ent 102 := fun _ _ => by simp [go_sem]
theorem ent68' : Ent 68 := fun _ _ => by simp [go_sem]
theorem imp_stepP (s : ByteArray) (hs : s.size ≤ 9223372036854775000) (f : Nat) (hi : LiveP s f .or 102) (hr : LiveP s f .imp 68) : LiveP s (f + 1) .imp 68 := by
  intro p o a W h hE ho hf
  rw [PA]
  have ha := h.le
  have hf1 : 32 * (s.size - a) + rank .or < f := by simp [rank] at hf ⊢; omega
  have hen := enough s f .or o a ha hf1
  refine imp_callB p s a o _ W h hE fun W' h' hE' => ?_
  refine bound_any 102 68 ent102 ent68' [61, 62] p s a o (PA s f .or o a) (fun _ a1 => PA s f .imp (o + 1) (nxt s a1)) W' h' hE' hs ho (by decide) (fun W'' h'' hE'' => hi p o a W'' h'' hE'' ho hf1) ?_
  intro l a1 hq ht hl W'' h'' hE''
  rw [hq] at hen
  obtain ⟨k1, k2, k3⟩ := hen
  have k2 := k2 rfl
  obtain ⟨n1, n2⟩ := nxt_lt k3 ht (by decide)
  exact hr p (o + 1) (nxt s a1) W'' h'' hE'' (by omega) (by simp [rank] at hf ⊢; omega)
set_option maxRecDepth 100000 in
set_option maxHeartbeats 4000000 in
theorem form_callB (p : Nat) (s : ByteArray) (a o : Nat) (R : PR) (W : World) (h : Sca W p s a (some o)) (hE : Env W p)
    (c : ∀ W', Sca W' p s a (some o) → Env W' p → Calls Tryz.prog 67 #[.pointer (some ⟨p, 0, none⟩), .func (.func 68) #[.pointer (some ⟨p, 0, none⟩)] #[], .string ⟨#[60, 61, 62]⟩, .func (.func 32) #[.pointer (some ⟨p, 0, none⟩)] #[]] W' (Ans p s o W' R)) :
    Calls Tryz.prog 32 #[.pointer (some ⟨p, 0, none⟩)] W (Ans p s o W R) := by
  have X1 := Lib.hid (CX.start h.lt)
  have S1 := Lib.hid (h.alloc (.cells zero5 27))
  have E1 := Lib.hid (hE.alloc (.cells zero5 27))
  have HC := Lib.hid c
  have hm := hmf
  clear h hE c
  go_enter Tryz.func32, Tryz.ntmps32
  go_upto_region 1 with fail
  generalize W.alloc (.cells zero5 27) = w1 at *
  have c := HC.out w1 S1.out E1.out
  clear HC S1 E1
  go_wp2_with fail
  refine c.mono ?_
  cases R with
  | out => exact fun _ _ h => h.elim
  | err er wh =>
    rintro e w3 ⟨rfl, f3⟩
    have F3 := Lib.hid (X1.out.fr.trans f3)
    clear f3 c
    go_wp2_with fail
    exact ⟨rfl, rfl, F3.out⟩
  | ok t a1 =>
    rintro e w3 ⟨A, cap, rfl, hr, hf, hfr, hs3⟩
    have X3 := Lib.hid (X1.out.step hfr)
    have HR := Lib.hid (hr.lower (n0 := W.heap.size + 1) (Nat.succ_le_of_lt X1.out.lt))
    have HF := Lib.hid hf
    have S3 := Lib.hid hs3
    clear hr hf hfr hs3 c X1
    obtain ⟨z0, z1, z2, z3, z4, f0, f1, f2, f3, f4⟩ := box_facts X3.out.box
    go_wp2_with fail
    have hx := X3.out
    exact bodyPost_ret (res27 Tryz.results32 _ _ W.heap.size _ _ _ _ _ rfl (set5_same _ _ _ _ _ hx.box)) rfl
      ⟨A, cap, rfl, HR.out.set5 (by omega) (by omega) _ _ _ _ _, HF.out, hx.fr.set5 (Nat.le_refl _) _ _ _ _ _, S3.out.other (set5_other _ _ _ _ _ (by have := hx.px; omega))⟩
theorem ent68 : Ent 68 := fun _ _ => by simp [go_sem]
theorem ent32' : Ent 32 := fun _ _ => by simp [go_sem]
theorem form_stepP (s : ByteArray) (hs : s.size ≤ 9223372036854775000) (f : Nat) (hi : LiveP s f .imp 68) (hr : LiveP s f .form 32) : LiveP s (f + 1) .form 32 := by
  intro p o a W h hE ho hf
  rw [PA]
  have ha := h.le
  have hf1 : 32 * (s.size - a) + rank .imp < f := by simp [rank] at hf ⊢; omega
  have hen := enough s f .imp o a ha hf1
  refine form_callB p s a o _ W h hE fun W' h' hE' => ?_
  refine bound_any 68 32 ent68 ent32' [60, 61, 62] p s a o (PA s f .imp o a) (fun _ a1 => PA s f .form (o + 1) (nxt s a1)) W' h' hE' hs ho (by decide) (fun W'' h'' hE'' => hi p o a W'' h'' hE'' ho hf1) ?_
  intro l a1 hq ht hl W'' h'' hE''
  rw [hq] at hen
  obtain ⟨k1, k2, k3⟩ := hen
  have k2 := k2 rfl
  obtain ⟨n1, n2⟩ := nxt_lt k3 ht (by decide)
  exact hr p (o + 1) (nxt s a1) W'' h'' hE'' (by omega) (by simp [rank] at hf ⊢; omega)
end Go.Proofs.YtgkjcimgghflmaaGreatDoor
namespace Go.Proofs.YtgkjcimgghflmaaGreatDoor
open Go.RowKit Go.Shelf
attribute [local go_sem] Oper.semAt_some
theorem pass_ret {p : Nat} {s : ByteArray} {a o : Nat} {W w : World} {t : Nd} {A : Option Addr} {cap : Nat} {fn : Func} {q : Tmp} (hx : CX p W w) (hr : Rob (W.heap.size + 1) w none A cap t.ks) (hf : Fine t) (hs : Sca w p s a (some o)) (hres : fn.results = #[.cell q 27]) (act : Act)
    (hq : act.tmps.getD q undef = .pointer (some ⟨W.heap.size, 0, none⟩)) (hd : act.defers = []) :
    bodyPost Tryz.prog fn (Ans p s o W (.ok t a)) .ret act (set5 w W.heap.size (.int .i64 t.op) (.int .i64 t.so) (.string t.nm) (.int .i64 t.nu) (.slice A t.ks.length cap)) :=
  bodyPost_ret (res27 hres act.tmps _ W.heap.size _ _ _ _ _ hq (set5_same _ _ _ _ _ hx.box)) hd
    ⟨A, cap, rfl, hr.set5 (by omega) (by omega) _ _ _ _ _, hf, hx.fr.set5 (Nat.le_refl _) _ _ _ _ _, hs.other (set5_other _ _ _ _ _ (by have := hx.px; omega))⟩
/-- A node's own list, of one node. -/
theorem NB.one {p : Nat} {W w w' : World} {b : Nat} {t : Nd} {A : Option Addr} {cap : Nat} (h : NB p W b t A cap w) (hx : CX p W w) (hb : Below (w.alloc (boxN t A cap)).heap.size (w.alloc (boxN t A cap)) w') :
    Rob (W.heap.size + 1) w' none (some ⟨w.heap.size, 0, none⟩) 1 [t] :=
  (rob_one (Nat.succ_le_of_lt hx.lt) (World.alloc_heap_new w _) (h.rob.later ((Below.refl _ _).alloc (Nat.le_refl _) _)) h.fine).later hb
set_option maxRecDepth 100000 in
set_option maxHeartbeats 4000000 in
theorem not_noP (p : Nat) (s : ByteArray) (a o : Nat) (R : PR) (W : World) (h : Sca W p s a (some o)) (hE : Env W p) (hs : s.size ≤ 9223372036854775000) (ht : T s a ≠ [33])
    (c : ∀ W', Sca W' p s a (some o) → Env W' p → Calls Tryz.prog 149 #[.pointer (some ⟨p, 0, none⟩)] W' (Ans p s o W' R)) :
    Calls Tryz.prog 138 #[.pointer (some ⟨p, 0, none⟩)] W (Ans p s o W R) := by
  have X1 := Lib.hid (CX.start h.lt)
  have S1 := Lib.hid (h.alloc (.cells zero5 27))
  have E1 := Lib.hid (hE.alloc (.cells zero5 27))
  have HC := Lib.hid c
  have ct := paccept_no [33] p s a (some o) _ S1.out hs E1.out.sig ht
  have ec : bs [33] = ⟨#[33]⟩ := rfl
  rw [ec] at ct
  clear h hE c ht ec
  go_enter Tryz.func138, Tryz.ntmps138
  go_upto_region 1 with fail
  generalize W.alloc (.cells zero5 27) = w1 at *
  go_wp2_with fail
  refine ct.mono ?_
  rintro e w2 ⟨rfl, h2, f2⟩
  have X2 := Lib.hid (X1.out.step f2)
  have c := HC.out w2 h2 (E1.out.fr f2)
  clear ct h2 f2 X1 S1 E1 HC
  go_wp2_with fail
  refine c.mono ?_
  clear c
  cases R with
  | out => exact fun _ _ h => h.elim
  | err er wh =>
    rintro e w3 ⟨rfl, f3⟩
    have F3 := Lib.hid (X2.out.fr.trans f3)
    clear f3
    go_wp2_with fail
    exact ⟨rfl, rfl, F3.out⟩
  | ok t a1 =>
    rintro e w3 ⟨A, cap, rfl, hr, hf, hfr, hs3⟩
    have X3 := Lib.hid (X2.out.step hfr)
    have HR := Lib.hid (hr.lower (n0 := W.heap.size + 1) (Nat.succ_le_of_lt X2.out.lt))
    have HF := Lib.hid hf
    have S3 := Lib.hid hs3
    clear hr hf hfr hs3 X2
    obtain ⟨z0, z1, z2, z3, z4, f0, f1, f2, f3, f4⟩ := box_facts X3.out.box
    go_wp2_with fail
    exact pass_ret X3.out HR.out HF.out S3.out Tryz.results138 _ rfl rfl
set_option maxRecDepth 100000 in
set_option maxHeartbeats 4000000 in
theorem not_yesP (p : Nat) (s : ByteArray) (a o : Nat) (r : PR) (W : World) (h : Sca W p s a (some o)) (hE : Env W p) (hs : s.size ≤ 9223372036854775000) (ho : o ≤ 90) (ht : T s a = [33])
    (c : ¬ 90 < o + 1 → ∀ W', Sca W' p s (nxt s a) (some (o + 1 : Nat)) → Env W' p → Calls Tryz.prog 138 #[.pointer (some ⟨p, 0, none⟩)] W' (Ans p s (o + 1) W' r)) :
    Calls Tryz.prog 138 #[.pointer (some ⟨p, 0, none⟩)] W (Ans p s o W (opn (o + 1) (r.bind fun k a1 => .ok (oneN 32 k) a1))) := by
  have X1 := Lib.hid (CX.start h.lt)
  have S1 := Lib.hid (h.alloc (.cells zero5 27))
  have E1 := Lib.hid (hE.alloc (.cells zero5 27))
  have HI := Lib.hid (fun (w2 : World) (h2 : Sca w2 p s (nxt s a) (some o)) (e2 : Env w2 p) => inside_any 138 ent138 p s _ o r w2 h2 e2 ho c)
  have hm := hmf
  have ct := paccept_yes [33] p s a (some o) _ S1.out hs E1.out.sig ht
  have ec : bs [33] = ⟨#[33]⟩ := rfl
  rw [ec] at ct
  rw [← opn_bind]
  generalize opn (o + 1) r = r3 at *
  clear h hE c ht ec
  go_enter Tryz.func138, Tryz.ntmps138
  go_upto_region 1 with fail
  generalize W.alloc (.cells zero5 27) = w1 at *
  go_wp2_with fail
  refine ct.mono ?_
  rintro e w2 ⟨rfl, h2, f2⟩
  have X2 := Lib.hid (X1.out.step f2)
  have ci := HI.out w2 h2 (E1.out.fr f2)
  clear ct h2 f2 X1 S1 E1 HI
  go_wp2_with fail
  refine ci.mono ?_
  cases r3 with
  | out => exact fun _ _ h => h.elim
  | err er wh =>
    rintro e w3 ⟨rfl, f3⟩
    have F3 := Lib.hid (X2.out.fr.trans f3)
    clear f3 ci
    go_wp2_with fail
    exact ⟨rfl, rfl, F3.out⟩
  | ok t a1 =>
    rintro e w3 ⟨A, cap, rfl, hr, hf, hfr, hs3⟩
    have hB := (Below.refl w3.heap.size w3).alloc (Nat.le_refl _) (boxN t A cap)
    have N3 := Lib.hid (NB.start X2.out hr hf hfr)
    have X3 := Lib.hid ((X2.out.step hfr).step (Fr.of hB))
    have S3 := Lib.hid (hs3.later hB)
    clear hr hf hfr hs3 hB ci X2
    go_upto_region 4 with fail
    · generalize w3.alloc (boxN t A cap) = w4 at *
      generalize w3.heap.size = b at *
      obtain ⟨l0, l1, l2, l3, l4, _, _, _, _, _⟩ := box_facts N3.out.box
      go_wp2_with fail
      refine (node_any _ _ (some ⟨w4.heap.size, 0, none⟩) 1 1 _ rfl).mono ?_
      rintro e w5 ⟨rfl, b5⟩
      have hB := (Below.refl w4.heap.size w4).alloc (Nat.le_refl _) (boxN t A cap)
      have R5 := Lib.hid (N3.out.one X3.out b5)
      have X5 := Lib.hid ((X3.out.step (Fr.of hB)).step (Fr.of b5))
      have S5 := Lib.hid ((S3.out.later hB).later b5)
      clear hB b5 N3 X3 S3 l0 l1 l2 l3 l4
      generalize w4.heap.size = g at *
      obtain ⟨z0, z1, z2, z3, z4, f0, f1, f2, f3, f4⟩ := box_facts X5.out.box
      go_wp2_with fail
      exact pass_ret (t := oneN 32 t) X5.out R5.out (fine_op (by decide)) S5.out Tryz.results138 _ rfl rfl
theorem not_stepP (s : ByteArray) (hs : s.size ≤ 9223372036854775000) (f : Nat) (hi : LiveP s f .cmp 149) (hr : LiveP s f .not 138) : LiveP s (f + 1) .not 138 := by
  intro p o a W h hE ho hf
  rw [PA]
  have ha := h.le
  by_cases ht : T s a = [33]
  · rw [if_pos ht]
    obtain ⟨n1, n2⟩ := nxt_lt ha ht (by decide)
    exact not_yesP p s a o _ W h hE hs ho ht fun hl W' h' hE' => hr p (o + 1) _ W' h' hE' (by omega) (by simp [rank] at hf ⊢; omega)
  · rw [if_neg ht]
    exact not_noP p s a o _ W h hE hs ht fun W' h' hE' => hi p o a W' h' hE' ho (by simp [rank] at hf ⊢; omega)
set_option maxRecDepth 100000 in
set_option maxHeartbeats 4000000 in
/-- A phrase and the closing parenthesis behind it. -/
theorem closed_any (p : Nat) (s : ByteArray) (a o : Nat) (r : PR) (W : World) (h : Sca W p s a (some o)) (hE : Env W p) (hs : s.size ≤ 9223372036854775000)
    (c : ∀ W', Sca W' p s a (some o) → Env W' p → Calls Tryz.prog 32 #[.pointer (some ⟨p, 0, none⟩)] W' (Ans p s o W' r)) :
    Calls Tryz.prog 168 #[.pointer (some ⟨p, 0, none⟩)] W (Ans p s o W (r.bind fun k a1 => want s [41] a1 fun a2 => .ok k a2)) := by
  have X1 := Lib.hid (CX.start h.lt)
  have S1 := Lib.hid (h.alloc (.cells zero5 27))
  have E1 := Lib.hid (hE.alloc (.cells zero5 27))
  have HC := Lib.hid c
  clear h hE c
  go_enter Tryz.func168, Tryz.ntmps168
  go_upto_region 1 with fail
  generalize W.alloc (.cells zero5 27) = w1 at *
  go_wp2_with fail
  refine (HC.out _ S1.out E1.out).mono ?_
  cases r with
  | out => exact fun _ _ h => h.elim
  | err er wh =>
    rintro e w3 ⟨rfl, f3⟩
    have F3 := Lib.hid (X1.out.fr.trans f3)
    clear f3
    go_wp2_with fail
    exact ⟨rfl, rfl, F3.out⟩
  | ok t a1 =>
    rintro e w3 ⟨A, cap, rfl, hr, hf, hfr, hs3⟩
    have hB := (Below.refl w3.heap.size w3).alloc (Nat.le_refl _) (boxN t A cap)
    have N3 := Lib.hid (NB.start X1.out hr hf hfr)
    have X3 := Lib.hid ((X1.out.step hfr).step (Fr.of hB))
    have S3 := Lib.hid (hs3.later hB)
    have E3 := Lib.hid ((E1.out.fr hfr).later hB)
    have ec : bs [41] = ⟨#[41]⟩ := rfl
    clear hr hf hfr hs3 hB X1 S1 E1 HC
    by_cases ht : T s a1 = [41]
    · have HP := Lib.hid (show (PR.ok t a1).bind (fun k a1 => want s [41] a1 fun a2 => .ok k a2) = .ok t (nxt s a1) from if_pos ht)
      have ct := pexpect_yes [41] p s a1 (some o) _ S3.out hs E3.out.sig ht
      rw [ec] at ct
      clear ht ec
      go_upto_region 2 with fail
      generalize w3.alloc (boxN t A cap) = w4 at *
      generalize w3.heap.size = b at *
      go_wp2_with fail
      refine ct.mono ?_
      rintro e w5 ⟨rfl, h5, f5⟩
      have N5 := Lib.hid (N3.out.step X3.out.px f5)
      have X5 := Lib.hid (X3.out.step f5)
      have S5 := Lib.hid h5
      clear f5 h5 ct N3 X3 S3 E3
      obtain ⟨z0, z1, z2, z3, z4, f0, f1, f2, f3, f4⟩ := box_facts N5.out.box
      obtain ⟨y0, y1, y2, y3, y4, g0, g1, g2, g3, g4⟩ := box_facts X5.out.box
      go_wp2_with fail
      rw [HP.out]
      exact N5.out.ret X5.out S5.out Tryz.results168 _ rfl rfl
    · have HP := Lib.hid (show (PR.ok t a1).bind (fun k a1 => want s [41] a1 fun a2 => .ok k a2) = .err 20 a1 from if_neg ht)
      have ct := pexpect_no [41] p s a1 (some o) _ S3.out hs E3.out.sig ht
      rw [ec] at ct
      clear ht ec
      go_upto_region 2 with fail
      generalize w3.alloc (boxN t A cap) = w4 at *
      generalize w3.heap.size = b at *
      go_wp2_with fail
      refine ct.mono ?_
      rintro e w5 ⟨rfl, f5⟩
      have F5 := Lib.hid (X3.out.fr.trans f5)
      clear f5 ct
      go_wp2_with fail
      exact ⟨rfl, by rw [HP.out]; exact ⟨rfl, F5.out⟩⟩
end Go.Proofs.YtgkjcimgghflmaaGreatDoor
