/-
  What the document's own ValidVal returns of a value; conditions: the value's lists lie in memory.
-/
import Derived.Test.YtmeeombadkgneaaGreatZVa5
namespace Go.Proofs.YtmeeombadkgneaaGreat
open Go.RowKit Go.Shelf

attribute [local go_sem] Oper.semAt_some
noncomputable def refValidV (v : Vl) : Bool := decide (1 ≤ v.so) && (decide (v.so ≤ 5) && (bndB v.nu && ((ascB v.st && decide (v.st.length ≤ 200)) && ((ascB v.ix && decide (v.ix.length ≤ 200)) && (decide (v.xs.length = v.ix.length) && (nzB v.xs && shapeV v))))))
theorem valid_eq (v : Vl) : refValidV v = validV v := by
  have hs : shapeV v = true → 1 ≤ v.so ∧ v.so ≤ 5 := by
    unfold shapeV
    intro h
    split at h
    · omega
    split at h
    · omega
    split at h
    · omega
    split at h
    · omega
    · cases h
  unfold refValidV validV smallV
  cases hh : shapeV v
  · simp
  · obtain ⟨h1, h2⟩ := hs hh
    rw [decide_eq_true h1, decide_eq_true h2]
    cases bndB v.nu <;> cases ascB v.st <;> cases ascB v.ix <;> cases decide (v.st.length ≤ 200) <;> cases decide (v.ix.length ≤ 200) <;> rfl
set_option maxRecDepth 100000 in
set_option maxHeartbeats 8000000 in
theorem refValid_any (x : VA) (w : World) (hL : LiesV w x) : Calls Tryz.prog 18 #[vv x] w fun e w' => e = .returned (.bool (refValidV x.v)) ∧ Below w.heap.size w w' := by
  obtain ⟨W, hW⟩ : ∃ W, w.alloc (boxV x 27) = W := ⟨_, rfl⟩
  have X := fiveV_new w x 27
  have HB : Below w.heap.size w W := by rw [← hW]; exact (Below.refl _ _).alloc (Nat.le_refl _) _
  rw [hW] at X
  have HL := Lib.hid (hL.later HB)
  have HW := Lib.hid hW
  have HB := Lib.hid HB
  have hlen3 := hL.l3
  unfold maxLen at hlen3
  have HV := Lib.hid (show refValidV x.v = (decide (1 ≤ x.v.so) && (decide (x.v.so ≤ 5) && (bndB x.v.nu && ((ascB x.v.st && decide (x.v.st.length ≤ 200)) && ((ascB x.v.ix && decide (x.v.ix.length ≤ 200)) && (decide (x.v.xs.length = x.v.ix.length) && (nzB x.v.xs && shapeV x.v))))))) from rfl)
  obtain ⟨x0, x1, x2, x3, x4⟩ := X
  simp only [Nat.zero_add] at x0 x1 x2 x3 x4
  clear hL hW
  by_cases s1 : 1 ≤ x.v.so
  case neg =>
    have d1 : decide (x.v.so < 1) = true := decide_eq_true (by omega)
    have Hr := Lib.hid (show refValidV x.v = false by rw [HV.out, decide_eq_false s1]; rfl)
    clear s1 HV
    go_enter Tryz.func18, Tryz.ntmps18
    go_wp2_with fail
    go_ret
    exact ⟨by rw [Hr.out]; rfl, by rw [HW.out]; exact HB.out⟩
  have d1 : decide (x.v.so < 1) = false := decide_eq_false (by omega)
  by_cases s2 : x.v.so ≤ 5
  case neg =>
    have d2 : decide (5 < x.v.so) = true := decide_eq_true (by omega)
    have Hr := Lib.hid (show refValidV x.v = false by rw [HV.out, decide_eq_true s1, decide_eq_false s2]; rfl)
    clear s1 s2 HV
    go_enter Tryz.func18, Tryz.ntmps18
    go_wp2_with fail
    go_ret
    exact ⟨by rw [Hr.out]; rfl, by rw [HW.out]; exact HB.out⟩
  have d2 : decide (5 < x.v.so) = false := decide_eq_false (by omega)
  have HV := Lib.hid (show refValidV x.v = (bndB x.v.nu && ((ascB x.v.st && decide (x.v.st.length ≤ 200)) && ((ascB x.v.ix && decide (x.v.ix.length ≤ 200)) && (decide (x.v.xs.length = x.v.ix.length) && (nzB x.v.xs && shapeV x.v))))) by rw [HV.out, decide_eq_true s1, decide_eq_true s2]; rfl)
  go_enter Tryz.func18, Tryz.ntmps18
  go_wp2_with fail
  rw [HW.out]
  refine (fits_any x.v.nu _).mono ?_
  rintro e w1 ⟨rfl, rfl⟩
  cases hc : bndB x.v.nu
  case false =>
    have Hr := Lib.hid (show refValidV x.v = false by rw [HV.out, hc]; rfl)
    clear hc HV s1 s2
    go_wp2_with fail
    go_ret
    exact ⟨by rw [Hr.out]; rfl, HB.out⟩
  have HV := Lib.hid (show refValidV x.v = ((ascB x.v.st && decide (x.v.st.length ≤ 200)) && ((ascB x.v.ix && decide (x.v.ix.length ≤ 200)) && (decide (x.v.xs.length = x.v.ix.length) && (nzB x.v.xs && shapeV x.v)))) by rw [HV.out, hc]; rfl)
  clear hc
  go_wp2_with fail
  refine (refAsc_any x.v.st x.a1 x.c1 _ HL.out.st HL.out.l1).mono ?_
  rintro e w2 ⟨rfl, rfl⟩
  cases hc : (ascB x.v.st && decide (x.v.st.length ≤ 200))
  case false =>
    have Hr := Lib.hid (show refValidV x.v = false by rw [HV.out, hc]; rfl)
    clear hc HV s1 s2
    go_wp2_with fail
    go_ret
    exact ⟨by rw [Hr.out]; rfl, HB.out⟩
  have HV := Lib.hid (show refValidV x.v = ((ascB x.v.ix && decide (x.v.ix.length ≤ 200)) && (decide (x.v.xs.length = x.v.ix.length) && (nzB x.v.xs && shapeV x.v))) by rw [HV.out, hc]; rfl)
  clear hc
  go_wp2_with fail
  refine (refAsc_any x.v.ix x.a2 x.c2 _ HL.out.ix HL.out.l2).mono ?_
  rintro e w2 ⟨rfl, rfl⟩
  by_cases hlen : x.v.xs.length = x.v.ix.length
  case neg =>
    have dlen : ((x.v.xs.length : Int) != (x.v.ix.length : Int)) = true := by simp; omega
    cases hc : (ascB x.v.ix && decide (x.v.ix.length ≤ 200))
    case false =>
      have Hr := Lib.hid (show refValidV x.v = false by rw [HV.out, hc]; rfl)
      clear hc HV hlen s1 s2
      go_wp2_with fail
      go_ret
      exact ⟨by rw [Hr.out]; rfl, HB.out⟩
    have Hr := Lib.hid (show refValidV x.v = false by rw [HV.out, hc, decide_eq_false hlen]; rfl)
    clear hc HV hlen s1 s2
    go_wp2_with fail
    go_ret
    exact ⟨by rw [Hr.out]; rfl, HB.out⟩
  have dlen : ((x.v.xs.length : Int) != (x.v.ix.length : Int)) = false := by simp; omega
  cases hc : (ascB x.v.ix && decide (x.v.ix.length ≤ 200))
  case false =>
    have Hr := Lib.hid (show refValidV x.v = false by rw [HV.out, hc]; rfl)
    clear hc HV s1 s2
    go_wp2_with fail
    go_ret
    exact ⟨by rw [Hr.out]; rfl, HB.out⟩
  have HV := Lib.hid (show refValidV x.v = (decide (x.v.xs.length = x.v.ix.length) && (nzB x.v.xs && shapeV x.v)) by rw [HV.out, hc]; rfl)
  clear hc
  have HV := Lib.hid (show refValidV x.v = (nzB x.v.xs && shapeV x.v) by rw [HV.out, decide_eq_true hlen]; rfl)
  clear hlen d1 d2
  go_wp2_with fail
  clear dlen
  go_loopw [43] (fun i wr => ∃ k : Nat, k ≤ x.v.xs.length ∧ i = .int .i64 k ∧ Hid (∀ j (h : j < x.v.xs.length), j < k → nzAt x.v.xs j h) ∧ W = wr) (fun i _ => x.v.xs.length - (intOf i).toNat)
  case atStart => exact ⟨0, Nat.zero_le _, rfl, fun j hj hjk => absurd hjk (by omega), rfl⟩
  case round =>
    obtain ⟨k, hk, rfl, hj, rfl⟩ := hrel
    by_cases hlt : k < x.v.xs.length
    · obtain ⟨b, o, ha, hc⟩ := HL.out.xs
      have ha := ha (by omega)
      have c0 := hc k hlt
      have HJ := Lib.hid (fun (e : nzAt x.v.xs k hlt) => (show Hid (∀ j (h : j < x.v.xs.length), j < k + 1 → nzAt x.v.xs j h) from fun j h h2 => by
        by_cases e' : j = k
        · subst e'; exact e
        · exact hj.out j h (by omega)))
      have HN := Lib.hid (fun (e : ¬ nzAt x.v.xs k hlt) => show refValidV x.v = false by rw [HV.out, nzB_no hlt e]; rfl)
      have hx := Lib.hid (fun (e : bndB x.v.xs[k] = true) (e2 : x.v.xs[k] ≠ 0) => (show nzAt x.v.xs k hlt from ⟨e, e2⟩))
      have hy := Lib.hid (fun (e : bndB x.v.xs[k] = false ∨ x.v.xs[k] = 0) => (show ¬ nzAt x.v.xs k hlt from fun h => by
        rcases e with e | e
        · have := h.1; rw [e] at this; cases this
        · exact h.2 e))
      generalize x.v.xs[k] = z at *
      clear hj hc HL HV
      by_cases hz : z = 0
      · have hz' : (z == 0) = true := by simpa using hz
        have Hr := Lib.hid (HN.out (hy.out (.inr hz)))
        clear hz HJ HN hx hy s1 s2
        rw [ha] at *
        go_wp2_with fail
        go_ret
        exact ⟨by rw [Hr.out]; rfl, HB.out⟩
      have hz' : (z == 0) = false := by simpa using hz
      cases hb : bndB z
      case false =>
        have Hr := Lib.hid (HN.out (hy.out (.inl hb)))
        have Hb := Lib.hid hb
        clear hb hz HJ HN hx hy s1 s2
        rw [ha] at *
        go_wp2_with fail
        refine (fits_any z _).mono ?_
        rintro e w1 ⟨rfl, rfl⟩
        rw [Hb.out]
        go_wp2_with fail
        go_ret
        exact ⟨by rw [Hr.out]; rfl, HB.out⟩
      case true =>
        have Hn := HJ.out (hx.out hb hz)
        have Hb := Lib.hid hb
        clear hb hz HJ HN hx hy s1 s2
        rw [ha] at *
        go_wp2_with fail
        refine (fits_any z _).mono ?_
        rintro e w1 ⟨rfl, rfl⟩
        rw [Hb.out]
        go_wp2_with fail
        go_roundw
        case rel => exact ⟨k + 1, by omega, by go_num, Hn, by first | trivial | rfl⟩
        case measure => simp [intOf]; omega
    · have HV := Lib.hid (show refValidV x.v = shapeV x.v by rw [HV.out, nzB_yes fun j h => hj.out j h (by omega)]; rfl)
      clear hj HL
      by_cases h2 : x.v.so = 2
      · have hso := h2
        have q2 : (x.v.so == 2) = true := by rw [hso]; rfl
        have q5 : (x.v.so == 5) = false := by rw [hso]; rfl
        have q4 : (x.v.so == 4) = false := by rw [hso]; rfl
        by_cases nu0 : x.v.nu = 0
        · have dnu0 : (x.v.nu == 0) = true := by simp [nu0]
          have nnu0 : (x.v.nu != 0) = false := by simp [nu0]
          by_cases st0 : x.v.st.length = 0
          · have dst0 : ((x.v.st.length : Int) == 0) = true := by simp [st0]
            have nst0 : ((x.v.st.length : Int) != 0) = false := by simp [st0]
            by_cases ix0 : x.v.ix.length = 0
            · have dix0 : ((x.v.ix.length : Int) == 0) = true := by simp [ix0]
              have nix0 : ((x.v.ix.length : Int) != 0) = false := by simp [ix0]
              have Hr := Lib.hid (HV.out.trans (show shapeV x.v = true by simp [shapeV, nu0, st0, ix0, hso]))
              clear nu0 st0 ix0 HV
              go_wp2_with fail
              go_ret
              exact ⟨by rw [Hr.out]; rfl, HB.out⟩
            · have dix0 : ((x.v.ix.length : Int) == 0) = false := by rw [beq_eq_false_iff_ne]; omega
              have nix0 : ((x.v.ix.length : Int) != 0) = true := by rw [bne_iff_ne]; omega
              have Hr := Lib.hid (HV.out.trans (show shapeV x.v = false by simp [shapeV, nu0, st0, ix0, hso]))
              clear nu0 st0 ix0 HV
              go_wp2_with fail
              go_ret
              exact ⟨by rw [Hr.out]; rfl, HB.out⟩
          · have dst0 : ((x.v.st.length : Int) == 0) = false := by rw [beq_eq_false_iff_ne]; omega
            have nst0 : ((x.v.st.length : Int) != 0) = true := by rw [bne_iff_ne]; omega
            have Hr := Lib.hid (HV.out.trans (show shapeV x.v = false by simp [shapeV, nu0, st0, hso]))
            clear nu0 st0 HV
            go_wp2_with fail
            go_ret
            exact ⟨by rw [Hr.out]; rfl, HB.out⟩
        · have dnu0 : (x.v.nu == 0) = false := by rw [beq_eq_false_iff_ne]; omega
          have nnu0 : (x.v.nu != 0) = true := by rw [bne_iff_ne]; omega
          by_cases nu1 : x.v.nu = 1
          · have dnu1 : (x.v.nu == 1) = true := by simp [nu1]
            have nnu1 : (x.v.nu != 1) = false := by simp [nu1]
            by_cases st0 : x.v.st.length = 0
            · have dst0 : ((x.v.st.length : Int) == 0) = true := by simp [st0]
              have nst0 : ((x.v.st.length : Int) != 0) = false := by simp [st0]
              by_cases ix0 : x.v.ix.length = 0
              · have dix0 : ((x.v.ix.length : Int) == 0) = true := by simp [ix0]
                have nix0 : ((x.v.ix.length : Int) != 0) = false := by simp [ix0]
                have Hr := Lib.hid (HV.out.trans (show shapeV x.v = true by simp [shapeV, nu1, st0, ix0, hso]))
                clear nu1 st0 ix0 HV
                go_wp2_with fail
                go_ret
                exact ⟨by rw [Hr.out]; rfl, HB.out⟩
              · have dix0 : ((x.v.ix.length : Int) == 0) = false := by rw [beq_eq_false_iff_ne]; omega
                have nix0 : ((x.v.ix.length : Int) != 0) = true := by rw [bne_iff_ne]; omega
                have Hr := Lib.hid (HV.out.trans (show shapeV x.v = false by simp [shapeV, nu1, st0, ix0, hso]))
                clear nu1 st0 ix0 HV
                go_wp2_with fail
                go_ret
                exact ⟨by rw [Hr.out]; rfl, HB.out⟩
            · have dst0 : ((x.v.st.length : Int) == 0) = false := by rw [beq_eq_false_iff_ne]; omega
              have nst0 : ((x.v.st.length : Int) != 0) = true := by rw [bne_iff_ne]; omega
              have Hr := Lib.hid (HV.out.trans (show shapeV x.v = false by simp [shapeV, nu1, st0, hso]))
              clear nu1 st0 HV
              go_wp2_with fail
              go_ret
              exact ⟨by rw [Hr.out]; rfl, HB.out⟩
          · have dnu1 : (x.v.nu == 1) = false := by rw [beq_eq_false_iff_ne]; omega
            have nnu1 : (x.v.nu != 1) = true := by rw [bne_iff_ne]; omega
            have Hr := Lib.hid (HV.out.trans (show shapeV x.v = false by simp [shapeV, nu0, nu1, hso]))
            clear nu0 nu1 HV
            go_wp2_with fail
            go_ret
            exact ⟨by rw [Hr.out]; rfl, HB.out⟩
      by_cases h5 : x.v.so = 5
      · have hso := h5
        have q2 : (x.v.so == 2) = false := by rw [hso]; rfl
        have q5 : (x.v.so == 5) = true := by rw [hso]; rfl
        have q4 : (x.v.so == 4) = false := by rw [hso]; rfl
        by_cases nuge : 0 ≤ x.v.nu
        · have dge : decide (0 ≤ x.v.nu) = true := decide_eq_true nuge
          by_cases st0 : x.v.st.length = 0
          · have dst0 : ((x.v.st.length : Int) == 0) = true := by simp [st0]
            have nst0 : ((x.v.st.length : Int) != 0) = false := by simp [st0]
            have Hr := Lib.hid (HV.out.trans (show shapeV x.v = true by simp [shapeV, nuge, st0, hso]))
            clear nuge st0 HV
            go_wp2_with fail
            go_ret
            exact ⟨by rw [Hr.out]; rfl, HB.out⟩
          · have dst0 : ((x.v.st.length : Int) == 0) = false := by rw [beq_eq_false_iff_ne]; omega
            have nst0 : ((x.v.st.length : Int) != 0) = true := by rw [bne_iff_ne]; omega
            have Hr := Lib.hid (HV.out.trans (show shapeV x.v = false by simp [shapeV, nuge, st0, hso]))
            clear nuge st0 HV
            go_wp2_with fail
            go_ret
            exact ⟨by rw [Hr.out]; rfl, HB.out⟩
        · have dge : decide (0 ≤ x.v.nu) = false := decide_eq_false nuge
          have Hr := Lib.hid (HV.out.trans (show shapeV x.v = false by simp [shapeV, nuge, hso]))
          clear nuge HV
          go_wp2_with fail
          go_ret
          exact ⟨by rw [Hr.out]; rfl, HB.out⟩
      by_cases h4 : x.v.so = 4
      · have hso := h4
        have q2 : (x.v.so == 2) = false := by rw [hso]; rfl
        have q5 : (x.v.so == 5) = false := by rw [hso]; rfl
        have q4 : (x.v.so == 4) = true := by rw [hso]; rfl
        by_cases nu0 : x.v.nu = 0
        · have dnu0 : (x.v.nu == 0) = true := by simp [nu0]
          have nnu0 : (x.v.nu != 0) = false := by simp [nu0]
          by_cases ix0 : x.v.ix.length = 0
          · have dix0 : ((x.v.ix.length : Int) == 0) = true := by simp [ix0]
            have nix0 : ((x.v.ix.length : Int) != 0) = false := by simp [ix0]
            have Hr := Lib.hid (HV.out.trans (show shapeV x.v = true by simp [shapeV, nu0, ix0, hso]))
            clear nu0 ix0 HV
            go_wp2_with fail
            go_ret
            exact ⟨by rw [Hr.out]; rfl, HB.out⟩
          · have dix0 : ((x.v.ix.length : Int) == 0) = false := by rw [beq_eq_false_iff_ne]; omega
            have nix0 : ((x.v.ix.length : Int) != 0) = true := by rw [bne_iff_ne]; omega
            have Hr := Lib.hid (HV.out.trans (show shapeV x.v = false by simp [shapeV, nu0, ix0, hso]))
            clear nu0 ix0 HV
            go_wp2_with fail
            go_ret
            exact ⟨by rw [Hr.out]; rfl, HB.out⟩
        · have dnu0 : (x.v.nu == 0) = false := by rw [beq_eq_false_iff_ne]; omega
          have nnu0 : (x.v.nu != 0) = true := by rw [bne_iff_ne]; omega
          have Hr := Lib.hid (HV.out.trans (show shapeV x.v = false by simp [shapeV, nu0, hso]))
          clear nu0 HV
          go_wp2_with fail
          go_ret
          exact ⟨by rw [Hr.out]; rfl, HB.out⟩
      by_cases h1 : x.v.so = 1
      · have hso := h1
        have q2 : (x.v.so == 2) = false := by rw [hso]; rfl
        have q5 : (x.v.so == 5) = false := by rw [hso]; rfl
        have q4 : (x.v.so == 4) = false := by rw [hso]; rfl
        by_cases st0 : x.v.st.length = 0
        · have dst0 : ((x.v.st.length : Int) == 0) = true := by simp [st0]
          have nst0 : ((x.v.st.length : Int) != 0) = false := by simp [st0]
          by_cases ix0 : x.v.ix.length = 0
          · have dix0 : ((x.v.ix.length : Int) == 0) = true := by simp [ix0]
            have nix0 : ((x.v.ix.length : Int) != 0) = false := by simp [ix0]
            have Hr := Lib.hid (HV.out.trans (show shapeV x.v = true by simp [shapeV, st0, ix0, hso]))
            clear st0 ix0 HV
            go_wp2_with fail
            go_ret
            exact ⟨by rw [Hr.out]; rfl, HB.out⟩
          · have dix0 : ((x.v.ix.length : Int) == 0) = false := by rw [beq_eq_false_iff_ne]; omega
            have nix0 : ((x.v.ix.length : Int) != 0) = true := by rw [bne_iff_ne]; omega
            have Hr := Lib.hid (HV.out.trans (show shapeV x.v = false by simp [shapeV, st0, ix0, hso]))
            clear st0 ix0 HV
            go_wp2_with fail
            go_ret
            exact ⟨by rw [Hr.out]; rfl, HB.out⟩
        · have dst0 : ((x.v.st.length : Int) == 0) = false := by rw [beq_eq_false_iff_ne]; omega
          have nst0 : ((x.v.st.length : Int) != 0) = true := by rw [bne_iff_ne]; omega
          have Hr := Lib.hid (HV.out.trans (show shapeV x.v = false by simp [shapeV, st0, hso]))
          clear st0 HV
          go_wp2_with fail
          go_ret
          exact ⟨by rw [Hr.out]; rfl, HB.out⟩
      by_cases h3 : x.v.so = 3
      · have hso := h3
        have q2 : (x.v.so == 2) = false := by rw [hso]; rfl
        have q5 : (x.v.so == 5) = false := by rw [hso]; rfl
        have q4 : (x.v.so == 4) = false := by rw [hso]; rfl
        by_cases st0 : x.v.st.length = 0
        · have dst0 : ((x.v.st.length : Int) == 0) = true := by simp [st0]
          have nst0 : ((x.v.st.length : Int) != 0) = false := by simp [st0]
          by_cases ix0 : x.v.ix.length = 0
          · have dix0 : ((x.v.ix.length : Int) == 0) = true := by simp [ix0]
            have nix0 : ((x.v.ix.length : Int) != 0) = false := by simp [ix0]
            have Hr := Lib.hid (HV.out.trans (show shapeV x.v = true by simp [shapeV, st0, ix0, hso]))
            clear st0 ix0 HV
            go_wp2_with fail
            go_ret
            exact ⟨by rw [Hr.out]; rfl, HB.out⟩
          · have dix0 : ((x.v.ix.length : Int) == 0) = false := by rw [beq_eq_false_iff_ne]; omega
            have nix0 : ((x.v.ix.length : Int) != 0) = true := by rw [bne_iff_ne]; omega
            have Hr := Lib.hid (HV.out.trans (show shapeV x.v = false by simp [shapeV, st0, ix0, hso]))
            clear st0 ix0 HV
            go_wp2_with fail
            go_ret
            exact ⟨by rw [Hr.out]; rfl, HB.out⟩
        · have dst0 : ((x.v.st.length : Int) == 0) = false := by rw [beq_eq_false_iff_ne]; omega
          have nst0 : ((x.v.st.length : Int) != 0) = true := by rw [bne_iff_ne]; omega
          have Hr := Lib.hid (HV.out.trans (show shapeV x.v = false by simp [shapeV, st0, hso]))
          clear st0 HV
          go_wp2_with fail
          go_ret
          exact ⟨by rw [Hr.out]; rfl, HB.out⟩
      omega
end Go.Proofs.YtmeeombadkgneaaGreat
