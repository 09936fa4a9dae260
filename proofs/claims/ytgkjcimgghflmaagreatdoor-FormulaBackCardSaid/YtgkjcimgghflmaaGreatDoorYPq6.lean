/-
  The phrases or, and and sum of the program's parser answer as the grammar says, when those within do; conditions: the text is no longer than a string can be, and the program's tables hold what its text lays.
-/
import Derived.Test.YtgkjcimgghflmaaGreatDoorYPq4
import Derived.Test.YtgkjcimgghflmaaGreatDoorYRl3
namespace Go.Proofs.YtgkjcimgghflmaaGreatDoor
open Go.RowKit Go.Shelf
attribute [local go_sem] Oper.semAt_some
theorem CarryL.begin {p : Nat} {s : ByteArray} {W w w1 : World} (hx : CX p W w) {t : Nd} {A : Option Addr} {cap : Nat} (hr : Rob w.heap.size w1 none A cap t.ks) (hf : Fine t) (hfr : Fr p w w1) :
    CarryL p s W W.heap.size w1.heap.size t A cap (w1.alloc (boxN t A cap)) := by
  have h1 := hx.lt
  have h2 := hfr.size
  have hB := (Below.refl w1.heap.size w1).alloc (Nat.le_refl _) (boxN t A cap)
  exact ⟨(hx.fr.trans hfr).trans (Fr.of hB), hx.px, by omega, rfl, (hB.block _ (by omega)).trans (hfr.at hx.box (Nat.ne_of_gt hx.px)), World.alloc_heap_new _ _, (hr.lower (by omega)).born _, hf⟩
/-- Where the scanner stands, read from memory. -/
def scPos (s : ByteArray) (p : Nat) (W : World) : Nat := match W.cell? ⟨p, 5, none⟩ with
  | some (.bool true) => (intOf ((W.cell? ⟨p, 3, none⟩).getD undef)).toNat
  | _ => bl s (intOf ((W.cell? ⟨p, 1, none⟩).getD undef)).toNat
theorem Sca.pos {W : World} {p : Nat} {s : ByteArray} {a : Nat} {o : Option Int} (h : Sca W p s a o) : scPos s p W = a := by
  obtain ⟨at', k, na, nt, rdy, h1, h2, ⟨rfl, rfl, rfl, rfl, rfl⟩ | ⟨rfl, h3, rfl⟩⟩ := h
  · unfold scPos; rw [h1.cells.c5, h1.cells.c3]; rfl
  · unfold scPos; rw [h1.cells.c5, h1.cells.c1]; rfl
/-- How an answer goes on to another: an error is handed on. -/
def Goes (R : PR) (K : Nd → Nat → Prop) : PR → Prop
  | .ok t a => K t a
  | .err e w => R = .err e w
  | .out => True
set_option maxRecDepth 100000 in
set_option maxHeartbeats 8000000 in
theorem joined_any (F : Nat) (hF : Ent F) (sg : List (List UInt8)) (hsg : sg.length ≤ 1000) (g : Nat) (p : Nat) (s : ByteArray) (a o : Nat) (r1 R : PR) (J : Nd → Nat → Prop) (W : World) (h : Sca W p s a (some o)) (hE : Env W p) (hs : s.size ≤ 9223372036854775000)
    (hgp : g ≠ p) (row : Array Value) (hob : W.heap[g]? = some (.cells row 9 (0, 0))) (hrow : ∀ i (h : i < sg.length), row[i]? = some (.string (bs sg[i])))
    (c1 : ∀ W', Sca W' p s a (some o) → Env W' p → Calls Tryz.prog F #[.pointer (some ⟨p, 0, none⟩)] W' (Ans p s o W' r1))
    (h1 : Goes R J r1)
    (hno : ∀ l a', J l a' → inL sg (T s a') = false → R = .ok l a')
    (hyes : ∀ l a', J l a' → inL sg (T s a') = true → ∃ r2 : PR, (∀ W', Sca W' p s (nxt s a') (some o) → Env W' p → Calls Tryz.prog F #[.pointer (some ⟨p, 0, none⟩)] W' (Ans p s o W' r2)) ∧
      Goes R (fun r a2 => a' < a2 ∧ a2 ≤ s.size ∧ J (twoN (opT (T s a')) l r) a2) r2)
    (hop : ∀ t, inL sg t = true → (Lit.int .i64 (opT t)).wf = true) :
    Calls Tryz.prog 123 #[.pointer (some ⟨p, 0, none⟩), .func (.func F) #[.pointer (some ⟨p, 0, none⟩)] #[], .slice (some ⟨g, 0, none⟩) sg.length sg.length] W (Ans p s o W R) := by
  have X1 := Lib.hid (CX.start h.lt)
  have S1 := Lib.hid (h.alloc (.cells zero5 27))
  have E1 := Lib.hid (hE.alloc (.cells zero5 27))
  have HE0 := Lib.hid hE
  have O1 := Lib.hid hob
  have HCL := Lib.hid hrow
  have H1 := Lib.hid h1
  have HN := Lib.hid hno
  have HY := Lib.hid hyes
  have HO := Lib.hid hop
  have HC := Lib.hid c1
  unfold Ent at hF
  clear h hE c1 hno hyes h1 hop hob hrow
  go_enter Tryz.func123, Tryz.ntmps123
  go_upto_region 1 with fail
  generalize W.alloc (.cells zero5 27) = w1 at *
  go_wp2_with fail
  refine (HC.out _ S1.out E1.out).mono ?_
  cases r1 with
  | out => exact fun _ _ h => h.elim
  | err er wh =>
    rintro e w3 ⟨rfl, f3⟩
    have F3 := Lib.hid (X1.out.fr.trans f3)
    clear f3
    go_wp2_with fail
    exact ⟨rfl, by rw [H1.out]; exact ⟨rfl, F3.out⟩⟩
  | ok t a1 =>
    rintro e w3 ⟨A, cap, rfl, hr, hf, hfr, hs3⟩
    have CA := Lib.hid (CarryL.begin (s := s) X1.out hr hf hfr)
    have hB := (Below.refl w3.heap.size w3).alloc (Nat.le_refl _) (boxN t A cap)
    have S3 := Lib.hid (hs3.later hB)
    have E3 := Lib.hid ((E1.out.fr hfr).later hB)
    have HJ := Lib.hid (show J t a1 from H1.out)
    have ha1 := hs3.le
    clear hr hf hfr hs3 hB S1 E1 H1
    go_wp2_with fail
    generalize w3.heap.size = l at *
    generalize w3.alloc (boxN t A cap) = w4 at *
    go_loopw [8, 9] (fun _ _ wr => ∃ t A cap a, Hid (CarryL p s W W.heap.size l t A cap wr) ∧ Hid (Sca wr p s a (some o)) ∧ Hid (Env wr p) ∧ Hid (J t a)) (fun _ _ wr => s.size - scPos s p wr)
    case atStart => exact ⟨t, A, cap, a1, CA, S3, E3, HJ⟩
    case round =>
      clear CA S3 E3 HJ ha1
      obtain ⟨t, A, cap, a, CA, S3, E3, HJ⟩ := hrel
      have hpos := S3.out.pos
      have hle := S3.out.le
      have q2 := tok_f2
      have c2 := peek_any p s a (some o) wr S3.out hs E3.out.sig
      clear S3
      go_wp2_with fail
      refine c2.mono ?_
      rintro e w5 ⟨rfl, h5, f5⟩
      have CA5 := Lib.hid (CA.out.step f5)
      have E5 := Lib.hid (E3.out.fr f5)
      have S5 := Lib.hid (Rdy.sca h5 hle)
      have R5 := Lib.hid (CA5.out.fr.at O1.out hgp)
      have ck := contains_any sg (T s a) g sg.length w5 (fun i hi => by rw [Lib.cell_of_heap R5.out]; exact HCL.out i hi) hsg
      clear f5 h5 c2 CA E3
      cases hin : inL sg (T s a)
      case false =>
        rw [hin] at ck
        have HR := Lib.hid (HN.out t a HJ.out hin)
        clear hin HN HY HO HJ HC
        go_wp2_with fail
        refine ck.mono ?_
        rintro e w6 ⟨rfl, rfl⟩
        clear ck
        obtain ⟨z0, z1, z2, z3, z4, f0, f1, f2, f3, f4⟩ := box_facts CA5.out.box
        obtain ⟨l0, l1, l2, l3, l4, _, _, _, _, _⟩ := box_facts CA5.out.lbox
        go_wp2_with fail
        have hx := CA5.out
        exact bodyPost_ret (res27 Tryz.results123 _ _ W.heap.size _ _ _ _ _ rfl (set5_same _ _ _ _ _ hx.box)) rfl
          (by rw [HR.out]; exact ⟨A, cap, rfl, hx.rob.weak.set5 (by omega) (by omega) _ _ _ _ _, hx.fine, hx.fr.set5 (Nat.le_refl _) _ _ _ _ _, S5.out.other (set5_other _ _ _ _ _ (by have := hx.px; omega))⟩)
      case true =>
        rw [hin] at ck
        obtain ⟨r2, hc2, hg2⟩ := HY.out t a HJ.out hin
        have hwf := Lib.hid (HO.out _ hin)
        have HC2 := Lib.hid hc2
        have HG2 := Lib.hid hg2
        clear hin HN HY HO HC hc2 hg2 HJ
        go_wp2_with fail
        refine ck.mono ?_
        rintro e w6 ⟨rfl, rfl⟩
        clear ck
        have ct := ptake_any p s a (some o) w5 S5.out hs E5.out.sig
        go_wp2_with fail
        refine ct.mono ?_
        rintro e w6 ⟨rfl, h6, f6⟩
        have CA6 := Lib.hid (CA5.out.step f6)
        have E6 := Lib.hid (E5.out.fr f6)
        have S6 := Lib.hid h6
        clear h6 f6 ct CA5 E5 S5 R5
        go_wp2_with fail
        refine (operator_any (T s a) w6 E6.out.tabs).mono ?_
        rintro e w7 ⟨rfl, b7⟩
        have CA7 := Lib.hid (CA6.out.step (Fr.of b7))
        have E7 := Lib.hid (E6.out.later b7)
        have S7 := Lib.hid (S6.out.later b7)
        clear b7 CA6 E6 S6
        go_wp2_with fail
        refine (HC2.out w7 S7.out E7.out).mono ?_
        cases r2 with
        | out => exact fun _ _ h => h.elim
        | err er wh =>
          rintro e w8 ⟨rfl, f8⟩
          have F8 := Lib.hid (CA7.out.fr.trans f8)
          clear f8
          go_wp2_with fail
          exact ⟨rfl, by rw [show R = .err er wh from HG2.out]; exact ⟨rfl, F8.out⟩⟩
        | ok u a2 =>
          rintro e w8 ⟨B, cb, rfl, hr8, hf8, hfr8, hs8⟩
          have hB := (Below.refl w8.heap.size w8).alloc (Nat.le_refl _) (boxN u B cb)
          have hlw : l < w7.heap.size := (Array.getElem?_eq_some_iff.1 CA7.out.lbox).1
          have CA9 := Lib.hid ((CA7.out.step hfr8).step (Fr.of hB))
          have S9 := Lib.hid (hs8.later hB)
          have E9 := Lib.hid ((E7.out.fr hfr8).later hB)
          have UB := Lib.hid (World.alloc_heap_new w8 (boxN u B cb))
          have UR := Lib.hid ((hr8.later hB).except hlw (Nat.le_trans (Nat.succ_le_of_lt CA7.out.xl) (Nat.le_of_lt hlw)) : Rob (W.heap.size + 1) _ (some l) B cb u.ks)
          have HF8 := Lib.hid hf8
          have HG := Lib.hid (show a < a2 ∧ a2 ≤ s.size ∧ J (twoN (opT (T s a)) t u) a2 from HG2.out)
          clear hB hlw hr8 hfr8 hs8 hf8 CA7 E7 S7 HC2 HG2
          go_upto_region 5 with fail
          · generalize w8.alloc (boxN u B cb) = w9 at *
            generalize w8.heap.size = ub at *
            obtain ⟨l0, l1, l2, l3, l4, _, _, _, _, _⟩ := box_facts CA9.out.lbox
            obtain ⟨u0, u1, u2, u3, u4, _, _, _, _, _⟩ := box_facts UB.out
            go_wp2_with fail
            refine (node_any _ _ (some ⟨w9.heap.size, 0, none⟩) 2 2 _ rfl).mono ?_
            rintro e w11 ⟨rfl, b11⟩
            have hB9 : Below w9.heap.size w9 (w9.alloc (.cells #[.int .i64 t.op, .int .i64 t.so, .string t.nm, .int .i64 t.nu, .slice A t.ks.length cap, .int .i64 u.op, .int .i64 u.so, .string u.nm, .int .i64 u.nu, .slice B u.ks.length cb] 27)) := (Below.refl _ _).alloc (Nat.le_refl _) _
            have hlw : l < w9.heap.size := (Array.getElem?_eq_some_iff.1 CA9.out.lbox).1
            have hxw : W.heap.size + 1 ≤ w9.heap.size := Nat.succ_le_of_lt (Nat.lt_trans CA9.out.xl hlw)
            have R11 := Lib.hid ((rob_twoR (row := some l) hxw (by simp only [ne_eq, Option.some.injEq]; omega) (World.alloc_heap_new w9 _) (CA9.out.rob.laterR hB9) (UR.out.laterR hB9) CA9.out.fine HF8.out).laterR b11)
            have CA11 := Lib.hid ((CA9.out.step (Fr.of hB9)).step (Fr.of b11))
            have S11 := Lib.hid ((S9.out.later hB9).later b11)
            clear hB9 hlw hxw b11 CA9 S9 E9 UB UR HF8 l0 l1 l2 l3 l4 u0 u1 u2 u3 u4
            obtain ⟨z0, z1, z2, z3, z4, f0, f1, f2, f3, f4⟩ := box_facts CA11.out.lbox
            generalize w9.heap.size = g9 at *
            go_wp2_with fail
            have hx := CA11.out
            have hS := S11.out.other (set5_other (b := l) (w := w11) (.int .i64 (opT (T s a))) (.int .i64 0) (.string noNm) (.int .i64 0) (.slice (some ⟨g9, 0, none⟩) 2 2) (Nat.ne_of_lt (Nat.lt_trans hx.px hx.xl)))
            have hJn := hx.join R11.out (fine_op hwf.out)
            refine ⟨⟨twoN (opT (T s a)) t u, some ⟨g9, 0, none⟩, 2, a2, Lib.hid hJn, Lib.hid hS, Lib.hid (HE0.out.fr hJn.fr), Lib.hid HG.out.2.2⟩, ?_⟩
            · have e2 := hS.pos
              have := HG.out.1
              have := HG.out.2.1
              exact Nat.lt_of_le_of_lt (Nat.le_of_eq (congrArg (s.size - ·) e2)) (by rw [hpos]; omega)
end Go.Proofs.YtgkjcimgghflmaaGreatDoor
namespace Go.Proofs.YtgkjcimgghflmaaGreatDoor
open Go.RowKit Go.Shelf
attribute [local go_sem] Oper.semAt_some
theorem hmf (fn : Fn) (first cap : Array Value) (w : World) : (Instr.makeFunc fn first cap).run Tryz.prog w = .ok (.func fn first cap) w := rfl
theorem ent138 : Ent 138 := fun _ _ => by simp [go_sem]
theorem ent124 : Ent 124 := fun _ _ => by simp [go_sem]
theorem ent156 : Ent 156 := fun _ _ => by simp [go_sem]
/-- A loop that joins from the left, as joined walks it. -/
theorem joinedP (F : Nat) (hF : Ent F) (sg : List (List UInt8)) (hsg : sg.length ≤ 1000) (hne : inL sg [] = false) (hop : ∀ t, inL sg t = true → (Lit.int .i64 (opT t)).wf = true) (loop : Nd → NT) (sub : NT) (rs : Nat) (hrs : rank sub = rs) (hlt : rs ≤ 31) (hst : strictN sub = true)
    (s : ByteArray) (hs : s.size ≤ 9223372036854775000) (f : Nat) (o : Nat) (ho : o ≤ 90)
    (hPA : ∀ g l a', PA s (g + 1) (loop l) o a' = if inL sg (T s a') = true then (PA s g sub o (nxt s a')).bind fun r a1 => PA s g (loop (twoN (opT (T s a')) l r)) o a1 else .ok l a')
    (hi : ∀ g, g ≤ f → LiveP s g sub F) (p a g0 : Nat) (W : World) (h : Sca W p s a (some o)) (hE : Env W p) (hf : 32 * (s.size - a) + rs < f) (hgp : g0 ≠ p) (row : Array Value) (hob : W.heap[g0]? = some (.cells row 9 (0, 0))) (hrow : ∀ i (h : i < sg.length), row[i]? = some (.string (bs sg[i]))) :
    Calls Tryz.prog 123 #[.pointer (some ⟨p, 0, none⟩), .func (.func F) #[.pointer (some ⟨p, 0, none⟩)] #[], .slice (some ⟨g0, 0, none⟩) sg.length sg.length] W (Ans p s o W ((PA s f sub o a).bind fun l a1 => PA s f (loop l) o a1)) := by
  have ha := h.le
  have hen := enough s f sub o a ha (by rw [hrs]; exact hf)
  rw [hst] at hen
  refine joined_any F hF sg hsg g0 p s a o (PA s f sub o a) _ (fun l a' => a' ≤ s.size ∧ ∃ g, g ≤ f ∧ 32 * (s.size - a') + 18 < g ∧ ((PA s f sub o a).bind fun l a1 => PA s f (loop l) o a1) = PA s g (loop l) o a') W h hE hs hgp row hob hrow
    (fun W' h' hE' => hi f (Nat.le_refl _) p o a W' h' hE' ho (by rw [hrs]; exact hf)) ?_ ?_ ?_ hop
  · cases hq : PA s f sub o a with
    | out => trivial
    | err e w => rfl
    | ok l a1 =>
      rw [hq] at hen
      obtain ⟨k1, k2, k3⟩ := hen
      exact ⟨k3, f, Nat.le_refl _, by have := k2 rfl; omega, rfl⟩
  · rintro l a' ⟨h1, g, h2, h3, h4⟩ hin
    rw [h4]
    obtain ⟨g, rfl⟩ : ∃ g', g = g' + 1 := ⟨g - 1, by omega⟩
    rw [hPA, if_neg (by rw [hin]; decide)]
  · rintro l a' ⟨h1, g, h2, h3, h4⟩ hin
    obtain ⟨g, rfl⟩ : ∃ g', g = g' + 1 := ⟨g - 1, by omega⟩
    rw [hPA, if_pos hin] at h4
    have hT : T s a' ≠ [] := fun e => by rw [e, hne] at hin; cases hin
    obtain ⟨n1, n2⟩ := nxt_lt h1 rfl hT
    have hf2 : 32 * (s.size - nxt s a') + rank sub < g := by rw [hrs]; omega
    have hen2 := enough s g sub o (nxt s a') n2 hf2
    rw [hst] at hen2
    refine ⟨PA s g sub o (nxt s a'), fun W' h' hE' => hi g (by omega) p o _ W' h' hE' ho hf2, ?_⟩
    cases hq : PA s g sub o (nxt s a') with
    | out => trivial
    | err e w => rw [hq] at h4; exact h4
    | ok r a2 =>
      rw [hq] at hen2 h4
      obtain ⟨k1, k2, k3⟩ := hen2
      have := k2 rfl
      exact ⟨by omega, k3, k3, g, by omega, by omega, h4⟩
set_option maxRecDepth 100000 in
set_option maxHeartbeats 4000000 in
theorem or_call (p : Nat) (s : ByteArray) (a o : Nat) (R : PR) (W : World) (h : Sca W p s a (some o)) (hE : Env W p)
    (c : ∀ g0 W', Sca W' p s a (some o) → Env W' p → g0 ≠ p → W'.heap[g0]? = some (.cells #[.string ⟨#[124, 124]⟩] 9 (0, 0)) → Calls Tryz.prog 123 #[.pointer (some ⟨p, 0, none⟩), .func (.func 124) #[.pointer (some ⟨p, 0, none⟩)] #[], .slice (some ⟨g0, 0, none⟩) 1 1] W' (Ans p s o W' R)) :
    Calls Tryz.prog 102 #[.pointer (some ⟨p, 0, none⟩)] W (Ans p s o W R) := by
  have hpl := h.lt
  have X1 := Lib.hid (CX.start hpl)
  have S1 := Lib.hid (h.alloc (.cells zero5 27))
  have E1 := Lib.hid (hE.alloc (.cells zero5 27))
  have HC := Lib.hid c
  have hm := hmf
  clear h hE c
  go_enter Tryz.func102, Tryz.ntmps102
  go_upto_region 1 with fail
  have hpw : p < (W.alloc (.cells zero5 27)).heap.size := by simp; omega
  generalize W.alloc (.cells zero5 27) = w1 at *
  have hB := (Below.refl w1.heap.size w1).alloc (Nat.le_refl _) (.cells #[.string ⟨#[124, 124]⟩] 9)
  have c := HC.out w1.heap.size _ (S1.out.later hB) (E1.out.later hB) (by omega) (World.alloc_heap_new w1 _)
  have X2 := Lib.hid (X1.out.step (Fr.of hB))
  clear HC hB X1 S1 E1
  go_wp2_with fail
  refine c.mono ?_
  generalize w1.alloc (.cells #[.string ⟨#[124, 124]⟩] 9) = w2 at *
  cases R with
  | out => exact fun _ _ h => h.elim
  | err er wh =>
    rintro e w3 ⟨rfl, f3⟩
    have F3 := Lib.hid (X2.out.fr.trans f3)
    clear f3 c
    go_wp2_with fail
    exact ⟨rfl, rfl, F3.out⟩
  | ok t a1 =>
    rintro e w3 ⟨A, cap, rfl, hr, hf, hfr, hs3⟩
    have X3 := Lib.hid (X2.out.step hfr)
    have HR := Lib.hid (hr.lower (n0 := W.heap.size + 1) (Nat.succ_le_of_lt X2.out.lt))
    have HF := Lib.hid hf
    have S3 := Lib.hid hs3
    clear hr hf hfr hs3 c X2
    obtain ⟨z0, z1, z2, z3, z4, f0, f1, f2, f3, f4⟩ := box_facts X3.out.box
    go_wp2_with fail
    have hx := X3.out
    exact bodyPost_ret (res27 Tryz.results102 _ _ W.heap.size _ _ _ _ _ rfl (set5_same _ _ _ _ _ hx.box)) rfl
      ⟨A, cap, rfl, HR.out.set5 (by omega) (by omega) _ _ _ _ _, HF.out, hx.fr.set5 (Nat.le_refl _) _ _ _ _ _, S3.out.other (set5_other _ _ _ _ _ (by have := hx.px; omega))⟩
theorem or_stepP (s : ByteArray) (hs : s.size ≤ 9223372036854775000) (f : Nat) (hi : ∀ g, g ≤ f → LiveP s g .and 124) : LiveP s (f + 1) .or 102 := by
  intro p o a W h hE ho hf
  rw [PA]
  refine or_call p s a o _ W h hE fun g0 W' h' hE' hg hob => ?_
  refine joinedP 124 ent124 [[124, 124]] (by decide) rfl ?_ .orL .and _ rfl (by decide) rfl s hs f o ho ?_ hi p a g0 W' h' hE' (by simp [rank] at hf ⊢; omega) hg _ hob ?_
  · intro t ht
    have e : t = [124, 124] := by simpa [inL] using ht
    subst e; decide
  · intro g l a'
    rw [PA]
    by_cases ht : T s a' = [124, 124]
    · rw [if_pos ht, ht]; rfl
    · have : inL [[124, 124]] (T s a') = false := by simpa [inL] using ht
      rw [if_neg ht, this]; rfl
  · intro i hi'
    obtain rfl : i = 0 := by simpa using hi'
    rfl
set_option maxRecDepth 100000 in
set_option maxHeartbeats 4000000 in
theorem and_call (p : Nat) (s : ByteArray) (a o : Nat) (R : PR) (W : World) (h : Sca W p s a (some o)) (hE : Env W p)
    (c : ∀ g0 W', Sca W' p s a (some o) → Env W' p → g0 ≠ p → W'.heap[g0]? = some (.cells #[.string ⟨#[38, 38]⟩] 9 (0, 0)) → Calls Tryz.prog 123 #[.pointer (some ⟨p, 0, none⟩), .func (.func 138) #[.pointer (some ⟨p, 0, none⟩)] #[], .slice (some ⟨g0, 0, none⟩) 1 1] W' (Ans p s o W' R)) :
    Calls Tryz.prog 124 #[.pointer (some ⟨p, 0, none⟩)] W (Ans p s o W R) := by
  have hpl := h.lt
  have X1 := Lib.hid (CX.start hpl)
  have S1 := Lib.hid (h.alloc (.cells zero5 27))
  have E1 := Lib.hid (hE.alloc (.cells zero5 27))
  have HC := Lib.hid c
  have hm := hmf
  clear h hE c
  go_enter Tryz.func124, Tryz.ntmps124
  go_upto_region 1 with fail
  have hpw : p < (W.alloc (.cells zero5 27)).heap.size := by simp; omega
  generalize W.alloc (.cells zero5 27) = w1 at *
  have hB := (Below.refl w1.heap.size w1).alloc (Nat.le_refl _) (.cells #[.string ⟨#[38, 38]⟩] 9)
  have c := HC.out w1.heap.size _ (S1.out.later hB) (E1.out.later hB) (by omega) (World.alloc_heap_new w1 _)
  have X2 := Lib.hid (X1.out.step (Fr.of hB))
  clear HC hB X1 S1 E1
  go_wp2_with fail
  refine c.mono ?_
  generalize w1.alloc (.cells #[.string ⟨#[38, 38]⟩] 9) = w2 at *
  cases R with
  | out => exact fun _ _ h => h.elim
  | err er wh =>
    rintro e w3 ⟨rfl, f3⟩
    have F3 := Lib.hid (X2.out.fr.trans f3)
    clear f3 c
    go_wp2_with fail
    exact ⟨rfl, rfl, F3.out⟩
  | ok t a1 =>
    rintro e w3 ⟨A, cap, rfl, hr, hf, hfr, hs3⟩
    have X3 := Lib.hid (X2.out.step hfr)
    have HR := Lib.hid (hr.lower (n0 := W.heap.size + 1) (Nat.succ_le_of_lt X2.out.lt))
    have HF := Lib.hid hf
    have S3 := Lib.hid hs3
    clear hr hf hfr hs3 c X2
    obtain ⟨z0, z1, z2, z3, z4, f0, f1, f2, f3, f4⟩ := box_facts X3.out.box
    go_wp2_with fail
    have hx := X3.out
    exact bodyPost_ret (res27 Tryz.results124 _ _ W.heap.size _ _ _ _ _ rfl (set5_same _ _ _ _ _ hx.box)) rfl
      ⟨A, cap, rfl, HR.out.set5 (by omega) (by omega) _ _ _ _ _, HF.out, hx.fr.set5 (Nat.le_refl _) _ _ _ _ _, S3.out.other (set5_other _ _ _ _ _ (by have := hx.px; omega))⟩
theorem and_stepP (s : ByteArray) (hs : s.size ≤ 9223372036854775000) (f : Nat) (hi : ∀ g, g ≤ f → LiveP s g .not 138) : LiveP s (f + 1) .and 124 := by
  intro p o a W h hE ho hf
  rw [PA]
  refine and_call p s a o _ W h hE fun g0 W' h' hE' hg hob => ?_
  refine joinedP 138 ent138 [[38, 38]] (by decide) rfl ?_ .andL .not _ rfl (by decide) rfl s hs f o ho ?_ hi p a g0 W' h' hE' (by simp [rank] at hf ⊢; omega) hg _ hob ?_
  · intro t ht
    have e : t = [38, 38] := by simpa [inL] using ht
    subst e; decide
  · intro g l a'
    rw [PA]
    by_cases ht : T s a' = [38, 38]
    · rw [if_pos ht, ht]; rfl
    · have : inL [[38, 38]] (T s a') = false := by simpa [inL] using ht
      rw [if_neg ht, this]; rfl
  · intro i hi'
    obtain rfl : i = 0 := by simpa using hi'
    rfl
set_option maxRecDepth 100000 in
set_option maxHeartbeats 4000000 in
theorem sum_call (p : Nat) (s : ByteArray) (a o : Nat) (R : PR) (W : World) (h : Sca W p s a (some o)) (hE : Env W p)
    (c : ∀ g0 W', Sca W' p s a (some o) → Env W' p → g0 ≠ p → W'.heap[g0]? = some (.cells #[.string ⟨#[43]⟩, .string ⟨#[45]⟩] 9 (0, 0)) → Calls Tryz.prog 123 #[.pointer (some ⟨p, 0, none⟩), .func (.func 156) #[.pointer (some ⟨p, 0, none⟩)] #[], .slice (some ⟨g0, 0, none⟩) 2 2] W' (Ans p s o W' R)) :
    Calls Tryz.prog 153 #[.pointer (some ⟨p, 0, none⟩)] W (Ans p s o W R) := by
  have hpl := h.lt
  have X1 := Lib.hid (CX.start hpl)
  have S1 := Lib.hid (h.alloc (.cells zero5 27))
  have E1 := Lib.hid (hE.alloc (.cells zero5 27))
  have HC := Lib.hid c
  have hm := hmf
  clear h hE c
  go_enter Tryz.func153, Tryz.ntmps153
  go_upto_region 1 with fail
  have hpw : p < (W.alloc (.cells zero5 27)).heap.size := by simp; omega
  generalize W.alloc (.cells zero5 27) = w1 at *
  have hB := (Below.refl w1.heap.size w1).alloc (Nat.le_refl _) (.cells #[.string ⟨#[43]⟩, .string ⟨#[45]⟩] 9)
  have c := HC.out w1.heap.size _ (S1.out.later hB) (E1.out.later hB) (by omega) (World.alloc_heap_new w1 _)
  have X2 := Lib.hid (X1.out.step (Fr.of hB))
  clear HC hB X1 S1 E1
  go_wp2_with fail
  refine c.mono ?_
  generalize w1.alloc (.cells #[.string ⟨#[43]⟩, .string ⟨#[45]⟩] 9) = w2 at *
  cases R with
  | out => exact fun _ _ h => h.elim
  | err er wh =>
    rintro e w3 ⟨rfl, f3⟩
    have F3 := Lib.hid (X2.out.fr.trans f3)
    clear f3 c
    go_wp2_with fail
    exact ⟨rfl, rfl, F3.out⟩
  | ok t a1 =>
    rintro e w3 ⟨A, cap, rfl, hr, hf, hfr, hs3⟩
    have X3 := Lib.hid (X2.out.step hfr)
    have HR := Lib.hid (hr.lower (n0 := W.heap.size + 1) (Nat.succ_le_of_lt X2.out.lt))
    have HF := Lib.hid hf
    have S3 := Lib.hid hs3
    clear hr hf hfr hs3 c X2
    obtain ⟨z0, z1, z2, z3, z4, f0, f1, f2, f3, f4⟩ := box_facts X3.out.box
    go_wp2_with fail
    have hx := X3.out
    exact bodyPost_ret (res27 Tryz.results153 _ _ W.heap.size _ _ _ _ _ rfl (set5_same _ _ _ _ _ hx.box)) rfl
      ⟨A, cap, rfl, HR.out.set5 (by omega) (by omega) _ _ _ _ _, HF.out, hx.fr.set5 (Nat.le_refl _) _ _ _ _ _, S3.out.other (set5_other _ _ _ _ _ (by have := hx.px; omega))⟩
theorem sum_stepP (s : ByteArray) (hs : s.size ≤ 9223372036854775000) (f : Nat) (hi : ∀ g, g ≤ f → LiveP s g .una 156) : LiveP s (f + 1) .sum 153 := by
  intro p o a W h hE ho hf
  rw [PA]
  refine sum_call p s a o _ W h hE fun g0 W' h' hE' hg hob => ?_
  refine joinedP 156 ent156 [[43], [45]] (by decide) rfl ?_ .sumL .una _ rfl (by decide) rfl s hs f o ho ?_ hi p a g0 W' h' hE' (by simp [rank] at hf ⊢; omega) hg _ hob ?_
  · intro t ht
    have e : t = [43] ∨ t = [45] := by simpa [inL] using ht
    rcases e with rfl | rfl <;> decide
  · intro g l a'
    rw [PA]
    by_cases ht : T s a' = [45]
    · rw [if_pos ht, ht]; rfl
    · rw [if_neg ht]
      by_cases ht2 : T s a' = [43]
      · rw [if_pos ht2, ht2]; rfl
      · have : inL [[43], [45]] (T s a') = false := by simp [inL, ht, ht2]
        rw [if_neg ht2, this]; rfl
  · intro i hi'
    obtain rfl | rfl : i = 0 ∨ i = 1 := by simp at hi'; omega
    · rfl
    · rfl
end Go.Proofs.YtgkjcimgghflmaaGreatDoor
