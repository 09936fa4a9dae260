/-
  What valid and ValidVal return of a value; conditions: the value's lists lie in memory.
  What the comparisons of numbers and of lists of numbers return, and the document's Numbers; conditions: the lists lie in memory.
-/
import Derived.Test.YtmeeombadkgneaaGreatZVa0
namespace Go.Proofs.YtmeeombadkgneaaGreat
open Go.RowKit Go.Shelf

attribute [local go_sem] Oper.semAt_some
/-- The form that a value's sort asks for. -/
def shapeV (v : Vl) : Bool :=
  if v.so = 1 ∨ v.so = 3 then decide (v.st.length = 0 ∧ v.ix.length = 0)
  else if v.so = 2 then decide ((v.nu = 0 ∨ v.nu = 1) ∧ v.st.length = 0 ∧ v.ix.length = 0)
  else if v.so = 4 then decide (v.nu = 0 ∧ v.ix.length = 0)
  else if v.so = 5 then decide (0 ≤ v.nu ∧ v.st.length = 0)
  else false
noncomputable def validV (v : Vl) : Bool := smallV v && (ascB v.st && (ascB v.ix && (decide (v.xs.length = v.ix.length) && (nzB v.xs && shapeV v))))
set_option maxRecDepth 100000 in
set_option maxHeartbeats 8000000 in
theorem valid_any (x : VA) (w : World) (hL : LiesV w x) : Calls Tryz.prog 43 #[vv x] w fun e w' => e = .returned (.bool (validV x.v)) ∧ Below w.heap.size w w' := by
  obtain ⟨W, hW⟩ : ∃ W, w.alloc (boxV x 63) = W := ⟨_, rfl⟩
  have X := fiveV_new w x 63
  have HB : Below w.heap.size w W := by rw [← hW]; exact (Below.refl _ _).alloc (Nat.le_refl _) _
  rw [hW] at X
  have KX := Lib.hid (fun (W' : World) (h : Below W.heap.size W W') => X.later h)
  have KL := Lib.hid (fun (W' : World) (h : Below W.heap.size W W') => (hL.later HB).later h)
  have HL := Lib.hid hL
  have HW := Lib.hid hW
  have HB := Lib.hid HB
  have HV := Lib.hid (show validV x.v = (smallV x.v && (ascB x.v.st && (ascB x.v.ix && (decide (x.v.xs.length = x.v.ix.length) && (nzB x.v.xs && shapeV x.v))))) from rfl)
  obtain ⟨x0, x1, x2, x3, x4⟩ := X
  clear hL hW
  go_enter Tryz.func43, Tryz.ntmps43
  go_wp2_with fail
  rw [HW.out]
  refine (small_any x _).mono ?_
  rintro e w1 ⟨rfl, b1⟩
  have B1 := Lib.hid b1
  clear b1
  clear x0 x1 x2 x3 x4
  obtain ⟨x0, x1, x2, x3, x4⟩ := KX.out _ B1.out
  cases hc : smallV x.v
  case false =>
    have Hr := Lib.hid (show validV x.v = false by rw [HV.out, hc]; rfl)
    clear hc HV
    go_wp2_with fail
    go_ret
    exact ⟨by rw [Hr.out]; rfl, HB.out.trans (B1.out.mono HB.out.size)⟩
  have HV := Lib.hid (show validV x.v = (ascB x.v.st && (ascB x.v.ix && (decide (x.v.xs.length = x.v.ix.length) && (nzB x.v.xs && shapeV x.v)))) by rw [HV.out, hc]; rfl)
  clear hc
  go_wp2_with fail
  refine (asc_any x.v.st x.a1 x.c1 _ (KL.out _ B1.out).st HL.out.l1).mono ?_
  rintro e w2 ⟨rfl, rfl⟩
  cases hc : ascB x.v.st
  case false =>
    have Hr := Lib.hid (show validV x.v = false by rw [HV.out, hc]; rfl)
    clear hc HV
    go_wp2_with fail
    go_ret
    exact ⟨by rw [Hr.out]; rfl, HB.out.trans (B1.out.mono HB.out.size)⟩
  have HV := Lib.hid (show validV x.v = (ascB x.v.ix && (decide (x.v.xs.length = x.v.ix.length) && (nzB x.v.xs && shapeV x.v))) by rw [HV.out, hc]; rfl)
  clear hc
  go_wp2_with fail
  refine (asc_any x.v.ix x.a2 x.c2 _ (KL.out _ B1.out).ix HL.out.l2).mono ?_
  rintro e w2 ⟨rfl, rfl⟩
  by_cases hlen : x.v.xs.length = x.v.ix.length
  case neg =>
    have dlen : ((x.v.xs.length : Int) != (x.v.ix.length : Int)) = true := by simp; omega
    cases hc : ascB x.v.ix
    case false =>
      have Hr := Lib.hid (show validV x.v = false by rw [HV.out, hc]; rfl)
      clear hc HV hlen
      go_wp2_with fail
      go_ret
      exact ⟨by rw [Hr.out]; rfl, HB.out.trans (B1.out.mono HB.out.size)⟩
    have Hr := Lib.hid (show validV x.v = false by rw [HV.out, hc, decide_eq_false hlen]; rfl)
    clear hc HV hlen
    go_wp2_with fail
    go_ret
    exact ⟨by rw [Hr.out]; rfl, HB.out.trans (B1.out.mono HB.out.size)⟩
  have dlen : ((x.v.xs.length : Int) != (x.v.ix.length : Int)) = false := by simp; omega
  cases hc : ascB x.v.ix
  case false =>
    have Hr := Lib.hid (show validV x.v = false by rw [HV.out, hc]; rfl)
    clear hc HV
    go_wp2_with fail
    go_ret
    exact ⟨by rw [Hr.out]; rfl, HB.out.trans (B1.out.mono HB.out.size)⟩
  have HV := Lib.hid (show validV x.v = (decide (x.v.xs.length = x.v.ix.length) && (nzB x.v.xs && shapeV x.v)) by rw [HV.out, hc]; rfl)
  clear hc
  have HV := Lib.hid (show validV x.v = (nzB x.v.xs && shapeV x.v) by rw [HV.out, decide_eq_true hlen]; rfl)
  clear hlen
  go_wp2_with fail
  refine (nz_any x.v.xs x.a3 x.c3 _ (KL.out _ B1.out).xs HL.out.l3).mono ?_
  rintro e w2 ⟨rfl, rfl⟩
  cases hc : nzB x.v.xs
  case false =>
    have Hr := Lib.hid (show validV x.v = false by rw [HV.out, hc]; rfl)
    clear hc HV
    go_wp2_with fail
    go_ret
    exact ⟨by rw [Hr.out]; rfl, HB.out.trans (B1.out.mono HB.out.size)⟩
  have HV := Lib.hid (show validV x.v = shapeV x.v by rw [HV.out, hc]; rfl)
  clear hc
  by_cases h1 : x.v.so = 1
  · have hso := h1
    have q1 : (x.v.so == 1) = true := by rw [hso]; rfl
    have q3 : (x.v.so == 3) = false := by rw [hso]; rfl
    have q2 : (x.v.so == 2) = false := by rw [hso]; rfl
    have q4 : (x.v.so == 4) = false := by rw [hso]; rfl
    have q5 : (x.v.so == 5) = false := by rw [hso]; rfl
    have HSo := Lib.hid hso
    by_cases st0 : x.v.st.length = 0
    · have dst0 : ((x.v.st.length : Int) == 0) = true := by simp [st0]
      by_cases ix0 : x.v.ix.length = 0
      · have dix0 : ((x.v.ix.length : Int) == 0) = true := by simp [ix0]
        have Hr := Lib.hid (HV.out.trans (show shapeV x.v = true by simp [shapeV, st0, ix0, hso]))
        clear st0 ix0 HV
        go_wp2_with fail
        go_ret
        exact ⟨by rw [Hr.out]; rfl, HB.out.trans (B1.out.mono HB.out.size)⟩
      · have dix0 : ((x.v.ix.length : Int) == 0) = false := by rw [beq_eq_false_iff_ne]; omega
        have Hr := Lib.hid (HV.out.trans (show shapeV x.v = false by simp [shapeV, st0, ix0, hso]))
        clear st0 ix0 HV
        go_wp2_with fail
        go_ret
        exact ⟨by rw [Hr.out]; rfl, HB.out.trans (B1.out.mono HB.out.size)⟩
    · have dst0 : ((x.v.st.length : Int) == 0) = false := by rw [beq_eq_false_iff_ne]; omega
      have Hr := Lib.hid (HV.out.trans (show shapeV x.v = false by simp [shapeV, st0, hso]))
      clear st0 HV
      go_wp2_with fail
      go_ret
      exact ⟨by rw [Hr.out]; rfl, HB.out.trans (B1.out.mono HB.out.size)⟩
  by_cases h3 : x.v.so = 3
  · have hso := h3
    have q1 : (x.v.so == 1) = false := by rw [hso]; rfl
    have q3 : (x.v.so == 3) = true := by rw [hso]; rfl
    have q2 : (x.v.so == 2) = false := by rw [hso]; rfl
    have q4 : (x.v.so == 4) = false := by rw [hso]; rfl
    have q5 : (x.v.so == 5) = false := by rw [hso]; rfl
    have HSo := Lib.hid hso
    by_cases st0 : x.v.st.length = 0
    · have dst0 : ((x.v.st.length : Int) == 0) = true := by simp [st0]
      by_cases ix0 : x.v.ix.length = 0
      · have dix0 : ((x.v.ix.length : Int) == 0) = true := by simp [ix0]
        have Hr := Lib.hid (HV.out.trans (show shapeV x.v = true by simp [shapeV, st0, ix0, hso]))
        clear st0 ix0 HV
        go_wp2_with fail
        go_ret
        exact ⟨by rw [Hr.out]; rfl, HB.out.trans (B1.out.mono HB.out.size)⟩
      · have dix0 : ((x.v.ix.length : Int) == 0) = false := by rw [beq_eq_false_iff_ne]; omega
        have Hr := Lib.hid (HV.out.trans (show shapeV x.v = false by simp [shapeV, st0, ix0, hso]))
        clear st0 ix0 HV
        go_wp2_with fail
        go_ret
        exact ⟨by rw [Hr.out]; rfl, HB.out.trans (B1.out.mono HB.out.size)⟩
    · have dst0 : ((x.v.st.length : Int) == 0) = false := by rw [beq_eq_false_iff_ne]; omega
      have Hr := Lib.hid (HV.out.trans (show shapeV x.v = false by simp [shapeV, st0, hso]))
      clear st0 HV
      go_wp2_with fail
      go_ret
      exact ⟨by rw [Hr.out]; rfl, HB.out.trans (B1.out.mono HB.out.size)⟩
  by_cases h2 : x.v.so = 2
  · have hso := h2
    have q1 : (x.v.so == 1) = false := by rw [hso]; rfl
    have q3 : (x.v.so == 3) = false := by rw [hso]; rfl
    have q2 : (x.v.so == 2) = true := by rw [hso]; rfl
    have q4 : (x.v.so == 4) = false := by rw [hso]; rfl
    have q5 : (x.v.so == 5) = false := by rw [hso]; rfl
    have HSo := Lib.hid hso
    by_cases nu0 : x.v.nu = 0
    · have dnu0 : (x.v.nu == 0) = true := by simp [nu0]
      by_cases st0 : x.v.st.length = 0
      · have dst0 : ((x.v.st.length : Int) == 0) = true := by simp [st0]
        by_cases ix0 : x.v.ix.length = 0
        · have dix0 : ((x.v.ix.length : Int) == 0) = true := by simp [ix0]
          have Hr := Lib.hid (HV.out.trans (show shapeV x.v = true by simp [shapeV, nu0, st0, ix0, hso]))
          clear nu0 st0 ix0 HV
          go_wp2_with fail
          go_ret
          exact ⟨by rw [Hr.out]; rfl, HB.out.trans (B1.out.mono HB.out.size)⟩
        · have dix0 : ((x.v.ix.length : Int) == 0) = false := by rw [beq_eq_false_iff_ne]; omega
          have Hr := Lib.hid (HV.out.trans (show shapeV x.v = false by simp [shapeV, nu0, st0, ix0, hso]))
          clear nu0 st0 ix0 HV
          go_wp2_with fail
          go_ret
          exact ⟨by rw [Hr.out]; rfl, HB.out.trans (B1.out.mono HB.out.size)⟩
      · have dst0 : ((x.v.st.length : Int) == 0) = false := by rw [beq_eq_false_iff_ne]; omega
        have Hr := Lib.hid (HV.out.trans (show shapeV x.v = false by simp [shapeV, nu0, st0, hso]))
        clear nu0 st0 HV
        go_wp2_with fail
        go_ret
        exact ⟨by rw [Hr.out]; rfl, HB.out.trans (B1.out.mono HB.out.size)⟩
    · have dnu0 : (x.v.nu == 0) = false := by rw [beq_eq_false_iff_ne]; omega
      by_cases nu1 : x.v.nu = 1
      · have dnu1 : (x.v.nu == 1) = true := by simp [nu1]
        by_cases st0 : x.v.st.length = 0
        · have dst0 : ((x.v.st.length : Int) == 0) = true := by simp [st0]
          by_cases ix0 : x.v.ix.length = 0
          · have dix0 : ((x.v.ix.length : Int) == 0) = true := by simp [ix0]
            have Hr := Lib.hid (HV.out.trans (show shapeV x.v = true by simp [shapeV, nu1, st0, ix0, hso]))
            clear nu1 st0 ix0 HV
            go_wp2_with fail
            go_ret
            exact ⟨by rw [Hr.out]; rfl, HB.out.trans (B1.out.mono HB.out.size)⟩
          · have dix0 : ((x.v.ix.length : Int) == 0) = false := by rw [beq_eq_false_iff_ne]; omega
            have Hr := Lib.hid (HV.out.trans (show shapeV x.v = false by simp [shapeV, nu1, st0, ix0, hso]))
            clear nu1 st0 ix0 HV
            go_wp2_with fail
            go_ret
            exact ⟨by rw [Hr.out]; rfl, HB.out.trans (B1.out.mono HB.out.size)⟩
        · have dst0 : ((x.v.st.length : Int) == 0) = false := by rw [beq_eq_false_iff_ne]; omega
          have Hr := Lib.hid (HV.out.trans (show shapeV x.v = false by simp [shapeV, nu1, st0, hso]))
          clear nu1 st0 HV
          go_wp2_with fail
          go_ret
          exact ⟨by rw [Hr.out]; rfl, HB.out.trans (B1.out.mono HB.out.size)⟩
      · have dnu1 : (x.v.nu == 1) = false := by rw [beq_eq_false_iff_ne]; omega
        have Hr := Lib.hid (HV.out.trans (show shapeV x.v = false by simp [shapeV, nu0, nu1, hso]))
        clear nu0 nu1 HV
        go_wp2_with fail
        go_ret
        exact ⟨by rw [Hr.out]; rfl, HB.out.trans (B1.out.mono HB.out.size)⟩
  by_cases h4 : x.v.so = 4
  · have hso := h4
    have q1 : (x.v.so == 1) = false := by rw [hso]; rfl
    have q3 : (x.v.so == 3) = false := by rw [hso]; rfl
    have q2 : (x.v.so == 2) = false := by rw [hso]; rfl
    have q4 : (x.v.so == 4) = true := by rw [hso]; rfl
    have q5 : (x.v.so == 5) = false := by rw [hso]; rfl
    have HSo := Lib.hid hso
    by_cases nu0 : x.v.nu = 0
    · have dnu0 : (x.v.nu == 0) = true := by simp [nu0]
      by_cases ix0 : x.v.ix.length = 0
      · have dix0 : ((x.v.ix.length : Int) == 0) = true := by simp [ix0]
        have Hr := Lib.hid (HV.out.trans (show shapeV x.v = true by simp [shapeV, nu0, ix0, hso]))
        clear nu0 ix0 HV
        go_wp2_with fail
        go_ret
        exact ⟨by rw [Hr.out]; rfl, HB.out.trans (B1.out.mono HB.out.size)⟩
      · have dix0 : ((x.v.ix.length : Int) == 0) = false := by rw [beq_eq_false_iff_ne]; omega
        have Hr := Lib.hid (HV.out.trans (show shapeV x.v = false by simp [shapeV, nu0, ix0, hso]))
        clear nu0 ix0 HV
        go_wp2_with fail
        go_ret
        exact ⟨by rw [Hr.out]; rfl, HB.out.trans (B1.out.mono HB.out.size)⟩
    · have dnu0 : (x.v.nu == 0) = false := by rw [beq_eq_false_iff_ne]; omega
      have Hr := Lib.hid (HV.out.trans (show shapeV x.v = false by simp [shapeV, nu0, hso]))
      clear nu0 HV
      go_wp2_with fail
      go_ret
      exact ⟨by rw [Hr.out]; rfl, HB.out.trans (B1.out.mono HB.out.size)⟩
  by_cases h5 : x.v.so = 5
  · have hso := h5
    have q1 : (x.v.so == 1) = false := by rw [hso]; rfl
    have q3 : (x.v.so == 3) = false := by rw [hso]; rfl
    have q2 : (x.v.so == 2) = false := by rw [hso]; rfl
    have q4 : (x.v.so == 4) = false := by rw [hso]; rfl
    have q5 : (x.v.so == 5) = true := by rw [hso]; rfl
    have HSo := Lib.hid hso
    by_cases nuge : 0 ≤ x.v.nu
    · have dge : decide (0 ≤ x.v.nu) = true := decide_eq_true nuge
      by_cases st0 : x.v.st.length = 0
      · have dst0 : ((x.v.st.length : Int) == 0) = true := by simp [st0]
        have Hr := Lib.hid (HV.out.trans (show shapeV x.v = true by simp [shapeV, nuge, st0, hso]))
        clear nuge st0 HV
        go_wp2_with fail
        go_ret
        exact ⟨by rw [Hr.out]; rfl, HB.out.trans (B1.out.mono HB.out.size)⟩
      · have dst0 : ((x.v.st.length : Int) == 0) = false := by rw [beq_eq_false_iff_ne]; omega
        have Hr := Lib.hid (HV.out.trans (show shapeV x.v = false by simp [shapeV, nuge, st0, hso]))
        clear nuge st0 HV
        go_wp2_with fail
        go_ret
        exact ⟨by rw [Hr.out]; rfl, HB.out.trans (B1.out.mono HB.out.size)⟩
    · have dge : decide (0 ≤ x.v.nu) = false := decide_eq_false nuge
      have Hr := Lib.hid (HV.out.trans (show shapeV x.v = false by simp [shapeV, nuge, hso]))
      clear nuge HV
      go_wp2_with fail
      go_ret
      exact ⟨by rw [Hr.out]; rfl, HB.out.trans (B1.out.mono HB.out.size)⟩
  have q1 : (x.v.so == 1) = false := by simpa using h1
  have q3 : (x.v.so == 3) = false := by simpa using h3
  have q2 : (x.v.so == 2) = false := by simpa using h2
  have q4 : (x.v.so == 4) = false := by simpa using h4
  have q5 : (x.v.so == 5) = false := by simpa using h5
  have Hr := Lib.hid (HV.out.trans (show shapeV x.v = false by simp [shapeV, h1, h2, h3, h4, h5]))
  clear h1 h2 h3 h4 h5 HV
  go_wp2_with fail
  go_ret
  exact ⟨by rw [Hr.out]; rfl, HB.out.trans (B1.out.mono HB.out.size)⟩
end Go.Proofs.YtmeeombadkgneaaGreat
namespace Go.Proofs.YtmeeombadkgneaaGreat
open Go.RowKit Go.Shelf

attribute [local go_sem] Oper.semAt_some
theorem cmpI_zero {x y : Int} : cmpI x y = 0 ↔ x = y := by
  unfold cmpI
  split
  · constructor <;> intro h <;> omega
  · split
    · constructor <;> intro h <;> omega
    · constructor <;> intro h <;> omega

/-- The order of two lists, as slices.Compare has it. -/
def cmpL : List Int → List Int → Int
  | [], [] => 0
  | [], _ :: _ => -1
  | _ :: _, [] => 1
  | x :: l, y :: m => if cmpI x y = 0 then cmpL l m else cmpI x y
theorem cmpL_zero : ∀ l m : List Int, cmpL l m = 0 ↔ l = m
  | [], [] => by simp [cmpL]
  | [], _ :: _ => by simp [cmpL]
  | _ :: _, [] => by simp [cmpL]
  | x :: l, y :: m => by
    rw [cmpL]
    by_cases h : cmpI x y = 0
    · rw [if_pos h, cmpL_zero l m]
      have := cmpI_zero.1 h
      simp [this]
    · rw [if_neg h]
      have h2 : ¬ x = y := fun e => h (cmpI_zero.2 e)
      simp [h, h2]
set_option maxRecDepth 100000 in
set_option maxHeartbeats 4000000 in
theorem slCmp_any (l m : List Int) (A B : Option Addr) (ca cb : Nat) (w : World) (hS : Ints w A l) (hM : Ints w B m) (hl : l.length ≤ maxLen) (hm : m.length ≤ maxLen) :
    Calls Tryz.prog 88 #[.slice A l.length ca, .slice B m.length cb] w fun e w' => e = .returned (.int .i64 (cmpL l m)) ∧ w = w' := by
  unfold maxLen at hl hm
  have HS := Lib.hid hS
  have HM := Lib.hid hM
  clear hS hM
  go_enter Tryz.func88, Tryz.ntmps88
  go_wp2_with fail
  go_loopw [11] (fun i wr => ∃ k : Nat, k ≤ l.length ∧ k ≤ m.length ∧ i = .int .i64 k ∧ Hid (cmpL l m = cmpL (l.drop k) (m.drop k)) ∧ w = wr) (fun i _ => l.length - (intOf i).toNat)
  case atStart => exact ⟨0, Nat.zero_le _, Nat.zero_le _, rfl, rfl, rfl⟩
  case round =>
    obtain ⟨k, hk, hk2, rfl, hj, rfl⟩ := hrel
    by_cases hlt : k < l.length
    · obtain ⟨b, o, ha, hc⟩ := HS.out
      obtain rfl := ha (by omega)
      have c0 := hc k hlt
      by_cases hlm : k < m.length
      · obtain ⟨b2, o2, ha2, hc2⟩ := HM.out
        obtain rfl := ha2 (by omega)
        have d0 := hc2 k hlm
        have hge : decide ((m.length : Int) ≤ (k : Int)) = false := decide_eq_false (by omega)
        have hst := Lib.hid (show cmpL l m = if cmpI l[k] m[k] = 0 then cmpL (l.drop (k + 1)) (m.drop (k + 1)) else cmpI l[k] m[k] by
          rw [hj.out, List.drop_eq_getElem_cons hlt, List.drop_eq_getElem_cons hlm, cmpL])
        generalize l[k] = x at *
        generalize m[k] = y at *
        clear hj hc hc2 ha ha2 HS HM
        by_cases hz : cmpI x y = 0
        · have hz' : (cmpI x y != 0) = false := by simp [hz]
          have Hn : Hid (cmpL l m = cmpL (l.drop (k + 1)) (m.drop (k + 1))) := by have := hst.out; rwa [if_pos hz] at this
          clear hst hz
          go_wp2_with fail
          refine (cmp64_any x y _).mono ?_
          rintro e w1 ⟨rfl, rfl⟩
          go_wp2_with fail
          go_roundw
          case rel => exact ⟨k + 1, by omega, by omega, by go_num, Hn, by first | trivial | rfl⟩
          case measure => simp [intOf]; omega
        · have hz' : (cmpI x y != 0) = true := by simp [hz]
          have Hr := Lib.hid (show cmpL l m = cmpI x y by have := hst.out; rwa [if_neg hz] at this)
          clear hst hz
          go_wp2_with fail
          refine (cmp64_any x y _).mono ?_
          rintro e w1 ⟨rfl, rfl⟩
          go_wp2_with fail
          go_ret
          exact ⟨by rw [Hr.out]; rfl, rfl⟩
      · have hge : decide ((m.length : Int) ≤ (k : Int)) = true := decide_eq_true (by omega)
        have Hr := Lib.hid (show cmpL l m = 1 by
          rw [hj.out, List.drop_eq_getElem_cons hlt, List.drop_of_length_le (show m.length ≤ k by omega), cmpL])
        generalize l[k] = x at *
        clear hj hc ha HS HM
        go_wp2_with fail
        go_ret
        exact ⟨by rw [Hr.out]; rfl, rfl⟩
    · by_cases hlm : k < m.length
      · have hlt2 : decide ((l.length : Int) < (m.length : Int)) = true := decide_eq_true (by omega)
        have Hr := Lib.hid (show cmpL l m = -1 by
          rw [hj.out, List.drop_of_length_le (show l.length ≤ k by omega), List.drop_eq_getElem_cons hlm, cmpL])
        clear hj HS HM
        go_wp2_with fail
        go_ret
        exact ⟨by rw [Hr.out]; rfl, rfl⟩
      · have hlt2 : decide ((l.length : Int) < (m.length : Int)) = false := decide_eq_false (by omega)
        have Hr := Lib.hid (show cmpL l m = 0 by
          rw [hj.out, List.drop_of_length_le (show l.length ≤ k by omega), List.drop_of_length_le (show m.length ≤ k by omega), cmpL])
        clear hj HS HM
        go_wp2_with fail
        go_ret
        exact ⟨by rw [Hr.out]; rfl, rfl⟩

/-- The document's own comparison of two lists. -/
def numB (l m : List Int) : Bool := decide (l = m)
set_option maxRecDepth 100000 in
set_option maxHeartbeats 4000000 in
theorem numbers_any (l m : List Int) (A B : Option Addr) (ca cb : Nat) (w : World) (hS : Ints w A l) (hM : Ints w B m) (hl : l.length ≤ maxLen) (hm : m.length ≤ maxLen) :
    Calls Tryz.prog 40 #[.slice A l.length ca, .slice B m.length cb] w fun e w' => e = .returned (.bool (numB l m)) ∧ Below w.heap.size w w' := by
  unfold maxLen at hl hm
  have HS := Lib.hid hS
  have HM := Lib.hid hM
  clear hS hM
  by_cases hlen : l.length = m.length
  case neg =>
    have hd : ((l.length : Int) != (m.length : Int)) = true := by simp; omega
    have Hr := Lib.hid (show numB l m = false from decide_eq_false fun e => hlen (by rw [e]))
    clear hlen
    go_enter Tryz.func40, Tryz.ntmps40
    go_wp2_with fail
    go_ret
    exact ⟨by rw [Hr.out]; rfl, Below.refl _ _⟩
  have hd : ((l.length : Int) != (m.length : Int)) = false := by simp; omega
  go_enter Tryz.func40, Tryz.ntmps40
  go_wp2_with fail
  go_loopw [13] (fun i wr => ∃ k : Nat, k ≤ l.length ∧ i = .int .i64 k ∧ Hid (l.take k = m.take k) ∧ Hid (Below w.heap.size w wr)) (fun i _ => l.length - (intOf i).toNat)
  case atStart => exact ⟨0, Nat.zero_le _, rfl, rfl, Below.refl _ _⟩
  case round =>
    obtain ⟨k, hk, rfl, hj, hB⟩ := hrel
    by_cases hlt : k < l.length
    · have hlm : k < m.length := by omega
      obtain ⟨b, o, ha, hc⟩ := HS.out.later hB.out
      obtain rfl := ha (by omega)
      have c0 := hc k hlt
      obtain ⟨b2, o2, ha2, hc2⟩ := HM.out.later hB.out
      obtain rfl := ha2 (by omega)
      have d0 := hc2 k hlm
      have hy := Lib.hid (fun (e : l[k] = m[k]) => show Hid (l.take (k + 1) = m.take (k + 1)) from by
        show _ = _
        rw [List.take_succ_eq_append_getElem hlt, List.take_succ_eq_append_getElem hlm, hj.out, e])
      have hn := Lib.hid (fun (e : l[k] ≠ m[k]) => show numB l m = false from decide_eq_false fun h => e (by subst h; rfl))
      have HB2 := Lib.hid (hB.out.drew)
      generalize l[k] = x at *
      generalize m[k] = y at *
      clear hj hc hc2 ha ha2 HS HM
      by_cases hz : x = y
      · have hz' : (x != y) = false := by simp [hz]
        have Hn := hy.out hz
        clear hy hn hz
        go_wp2_with fail
        go_region
        go_wp2_with fail
        go_roundw
        case rel => exact ⟨k + 1, by omega, by go_num, Hn, HB2.out⟩
        case measure => simp [intOf]; omega
      · have hz' : (x != y) = true := by simp [hz]
        have Hr := Lib.hid (hn.out hz)
        clear hy hn hz
        go_wp2_with fail
        go_region
        go_wp2_with fail
        go_ret
        exact ⟨by rw [Hr.out]; rfl, HB2.out⟩
    · have Hr := Lib.hid (show numB l m = true from decide_eq_true (by have := hj.out; rwa [List.take_of_length_le (by omega), List.take_of_length_le (by omega)] at this))
      clear hj HS HM
      go_wp2_with fail
      go_ret
      exact ⟨by rw [Hr.out]; rfl, hB.out⟩
end Go.Proofs.YtmeeombadkgneaaGreat
