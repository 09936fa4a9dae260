/-
  What the comparisons of lists of values return, package model's and the document's; conditions: the lists lie in memory.
  What the document's SameArgs returns, and entries in memory; conditions: the lists lie in memory.
-/
import Derived.Deep.RegionWith
import Derived.Deep.Cut
import Derived.Test.YtmeeombadkgneaaGreatZVa4
namespace Go.Proofs.YtmeeombadkgneaaGreat
open Go.RowKit Go.Shelf

attribute [local go_sem] Oper.semAt_some
/-- A slice value holds values in w. -/
structure LiesVs (w : World) (A : Option Addr) (l : List VA) : Prop where
  len : l.length ≤ maxLen
  at_ : ∃ b o, (0 < l.length → A = some ⟨b, o, none⟩) ∧ ∀ i (h : i < l.length), FiveV w b (o + i * 5) l[i]
  each : ∀ i (h : i < l.length), LiesV w l[i]
theorem LiesVs.later {w w' : World} {A : Option Addr} {l : List VA} (h : LiesVs w A l) (hb : Below w.heap.size w w') : LiesVs w' A l := by
  obtain ⟨b, o, h1, h2⟩ := h.at_
  exact ⟨h.len, ⟨b, o, h1, fun i hi => (h2 i hi).later hb⟩, fun i hi => (h.each i hi).later hb⟩
set_option maxRecDepth 100000 in
set_option maxHeartbeats 4000000 in
theorem cl60_any (x y : VA) (w : World) (hx : LiesV w x) (hy : LiesV w y) : Calls Tryz.prog 60 #[vv x, vv y] w fun e w' => e = .returned (.int .i64 (cmpV x.v y.v)) ∧ Below w.heap.size w w' := by
  have HB : Below w.heap.size w ((w.alloc (boxV x 27)).alloc (boxV y 27)) := ((Below.refl _ _).alloc (Nat.le_refl _) _).alloc (by simp) _
  have X : FiveV ((w.alloc (boxV x 27)).alloc (boxV y 27)) w.heap.size 0 x := (fiveV_new w x 27).later ((Below.refl _ _).alloc (Nat.le_refl _) _)
  have Y : FiveV ((w.alloc (boxV x 27)).alloc (boxV y 27)) (w.heap.size + 1) 0 y := by have := fiveV_new (w.alloc (boxV x 27)) y 27; simpa only [World.size_alloc] using this
  obtain ⟨W, hW⟩ : ∃ W, (w.alloc (boxV x 27)).alloc (boxV y 27) = W := ⟨_, rfl⟩
  rw [hW] at HB X Y
  have HW := Lib.hid hW
  have HX := Lib.hid hx
  have HY := Lib.hid hy
  have HB := Lib.hid HB
  obtain ⟨x0, x1, x2, x3, x4⟩ := X
  obtain ⟨y0, y1, y2, y3, y4⟩ := Y
  simp only [Nat.zero_add] at x0 x1 x2 x3 x4 y0 y1 y2 y3 y4
  clear hx hy hW
  go_enter Tryz.func60, Tryz.ntmps60
  go_wp2_with fail
  rw [HW.out]
  refine (compareV_any x y _ (HX.out.later HB.out) (HY.out.later HB.out)).mono ?_
  rintro e w1 ⟨rfl, b1⟩
  have B1 := Lib.hid (HB.out.trans (b1.mono HB.out.size))
  clear b1 x0 x1 x2 x3 x4 y0 y1 y2 y3 y4
  go_wp2_with fail
  go_ret
  exact ⟨rfl, B1.out⟩
/-- The order of two lists of values. -/
def cmpVs : List Vl → List Vl → Int
  | [], [] => 0
  | [], _ :: _ => -1
  | _ :: _, [] => 1
  | x :: l, y :: m => if cmpV x y = 0 then cmpVs l m else cmpV x y
theorem cmpVs_zero : ∀ l m : List Vl, cmpVs l m = 0 ↔ l = m
  | [], [] => by simp [cmpVs]
  | [], _ :: _ => by simp [cmpVs]
  | _ :: _, [] => by simp [cmpVs]
  | x :: l, y :: m => by
    rw [cmpVs]
    by_cases h : cmpV x y = 0
    · rw [if_pos h, cmpVs_zero l m]
      have := (cmpV_zero x y).1 h
      simp [this]
    · rw [if_neg h]
      have h2 : ¬ x = y := fun e => h ((cmpV_zero x y).2 e)
      simp [h, h2]
def vls (l : List VA) : List Vl := l.map (·.v)
theorem vls_drop {l : List VA} {k : Nat} (h : k < l.length) : (vls l).drop k = l[k].v :: (vls l).drop (k + 1) := by
  rw [List.drop_eq_getElem_cons (by simpa [vls] using h)]
  simp [vls]
theorem vls_len (l : List VA) : (vls l).length = l.length := by simp [vls]
set_option maxRecDepth 100000 in
set_option maxHeartbeats 4000000 in
theorem cmpArgs_any (l m : List VA) (A B : Option Addr) (ca cb : Nat) (w : World) (hl : LiesVs w A l) (hm : LiesVs w B m) :
    Calls Tryz.prog 59 #[.slice A l.length ca, .slice B m.length cb, .func (.func 60) #[] #[]] w fun e w' => e = .returned (.int .i64 (cmpVs (vls l) (vls m))) ∧ Below w.heap.size w w' := by
  have hn := hl.len
  have hn2 := hm.len
  unfold maxLen at hn hn2
  have HS := Lib.hid hl
  have HM := Lib.hid hm
  clear hl hm
  go_enter Tryz.func59, Tryz.ntmps59
  go_wp2_with fail
  go_loopw [13] (fun i wr => ∃ k : Nat, k ≤ l.length ∧ k ≤ m.length ∧ i = .int .i64 k ∧ Hid (cmpVs (vls l) (vls m) = cmpVs ((vls l).drop k) ((vls m).drop k)) ∧ Hid (Below w.heap.size w wr)) (fun i _ => l.length - (intOf i).toNat)
  case atStart => exact ⟨0, Nat.zero_le _, Nat.zero_le _, rfl, rfl, Below.refl _ _⟩
  case round =>
    obtain ⟨k, hk, hk2, rfl, hj, hB⟩ := hrel
    by_cases hlt : k < l.length
    · obtain ⟨b, o, ha, hc⟩ := (HS.out.later hB.out).at_
      obtain rfl := ha (by omega)
      obtain ⟨c0, c1, c2, c3, c4⟩ := hc k hlt
      have L1 := Lib.hid ((HS.out.each k hlt).later hB.out)
      by_cases hlm : k < m.length
      · obtain ⟨b2, o2, ha2, hc2⟩ := (HM.out.later hB.out).at_
        obtain rfl := ha2 (by omega)
        have G2 := Lib.hid (hc2 k hlm)
        have L2 := Lib.hid ((HM.out.each k hlm).later hB.out)
        have hge : decide ((m.length : Int) ≤ (k : Int)) = false := decide_eq_false (by omega)
        have hst := Lib.hid (show cmpVs (vls l) (vls m) = if cmpV l[k].v m[k].v = 0 then cmpVs ((vls l).drop (k + 1)) ((vls m).drop (k + 1)) else cmpV l[k].v m[k].v by
          rw [hj.out, vls_drop hlt, vls_drop hlm, cmpVs])
        generalize l[k] = x at *
        generalize m[k] = y at *
        have hBB := Lib.hid (((Below.refl wr.heap.size wr).alloc (Nat.le_refl _) (boxV x 27)).alloc (by simp) (boxV y 27))
        obtain ⟨d0, d1, d2, d3, d4⟩ := G2.out.later ((Below.refl wr.heap.size wr).alloc (Nat.le_refl _) (boxV x 27))
        clear hj hc hc2 ha ha2 HS HM G2
        by_cases hz : cmpV x.v y.v = 0
        · have hz' : (cmpV x.v y.v != 0) = false := by simp [hz]
          have Hn : Hid (cmpVs (vls l) (vls m) = cmpVs ((vls l).drop (k + 1)) ((vls m).drop (k + 1))) := by have := hst.out; rwa [if_pos hz] at this
          clear hst hz
          go_wp2_with fail
          refine (cl60_any x y _ (L1.out.later hBB.out) (L2.out.later hBB.out)).mono ?_
          rintro e w1 ⟨rfl, b1⟩
          have B1 := Lib.hid (hB.out.trans ((hBB.out.trans (b1.mono hBB.out.size)).mono hB.out.size))
          clear b1 c0 c1 c2 c3 c4 d0 d1 d2 d3 d4
          go_wp2_with fail
          go_roundw
          case rel => exact ⟨k + 1, by omega, by omega, by go_num, Hn, B1.out⟩
          case measure => simp [intOf]; omega
        · have hz' : (cmpV x.v y.v != 0) = true := by simp [hz]
          have Hr := Lib.hid (show cmpVs (vls l) (vls m) = cmpV x.v y.v by have := hst.out; rwa [if_neg hz] at this)
          clear hst hz
          go_wp2_with fail
          refine (cl60_any x y _ (L1.out.later hBB.out) (L2.out.later hBB.out)).mono ?_
          rintro e w1 ⟨rfl, b1⟩
          have B1 := Lib.hid (hB.out.trans ((hBB.out.trans (b1.mono hBB.out.size)).mono hB.out.size))
          clear b1 c0 c1 c2 c3 c4 d0 d1 d2 d3 d4
          go_wp2_with fail
          go_ret
          exact ⟨by rw [Hr.out]; rfl, B1.out⟩
      · have hge : decide ((m.length : Int) ≤ (k : Int)) = true := decide_eq_true (by omega)
        have Hr := Lib.hid (show cmpVs (vls l) (vls m) = 1 by
          rw [hj.out, vls_drop hlt, List.drop_of_length_le (show (vls m).length ≤ k by rw [vls_len]; omega), cmpVs])
        generalize l[k] = x at *
        have hBB := Lib.hid ((Below.refl wr.heap.size wr).alloc (Nat.le_refl _) (boxV x 27))
        clear hj hc ha HS HM
        go_wp2_with fail
        go_ret
        exact ⟨by rw [Hr.out]; rfl, hB.out.trans (hBB.out.mono hB.out.size)⟩
    · by_cases hlm : k < m.length
      · have hlt2 : decide ((l.length : Int) < (m.length : Int)) = true := decide_eq_true (by omega)
        have Hr := Lib.hid (show cmpVs (vls l) (vls m) = -1 by
          rw [hj.out, List.drop_of_length_le (show (vls l).length ≤ k by rw [vls_len]; omega), vls_drop hlm, cmpVs])
        clear hj HS HM
        go_wp2_with fail
        go_ret
        exact ⟨by rw [Hr.out]; rfl, hB.out⟩
      · have hlt2 : decide ((l.length : Int) < (m.length : Int)) = false := decide_eq_false (by omega)
        have Hr := Lib.hid (show cmpVs (vls l) (vls m) = 0 by
          rw [hj.out, List.drop_of_length_le (show (vls l).length ≤ k by rw [vls_len]; omega), List.drop_of_length_le (show (vls m).length ≤ k by rw [vls_len]; omega), cmpVs])
        clear hj HS HM
        go_wp2_with fail
        go_ret
        exact ⟨by rw [Hr.out]; rfl, hB.out⟩
end Go.Proofs.YtmeeombadkgneaaGreat
namespace Go.Proofs.YtmeeombadkgneaaGreat
open Go.RowKit Go.Shelf

attribute [local go_sem] Oper.semAt_some
def vlsB (l m : List VA) : Bool := decide (l.length = m.length ∧ ∀ i (h : i < l.length) (h2 : i < m.length), sameB l[i].v m[i].v = true)
theorem vlsB_iff (l m : List VA) : vlsB l m = true ↔ vls l = vls m := by
  unfold vlsB
  rw [decide_eq_true_iff]
  constructor
  · rintro ⟨h1, h2⟩
    apply List.ext_getElem (by simp [vls, h1])
    intro i h3 h4
    have := (sameB_iff _ _).1 (h2 i (by simpa [vls] using h3) (by simpa [vls] using h4))
    simpa [vls] using this
  · intro h
    have hl : l.length = m.length := by have := congrArg List.length h; simpa [vls] using this
    refine ⟨hl, fun i h1 h2 => (sameB_iff _ _).2 ?_⟩
    have : (vls l)[i]'(by simpa [vls] using h1) = (vls m)[i]'(by simpa [vls] using h2) := by simp only [h]
    simpa [vls] using this
set_option maxRecDepth 100000 in
set_option maxHeartbeats 4000000 in
theorem sameArgs_any (l m : List VA) (A B : Option Addr) (ca cb : Nat) (w : World) (hl : LiesVs w A l) (hm : LiesVs w B m) :
    Calls Tryz.prog 63 #[.slice A l.length ca, .slice B m.length cb] w fun e w' => e = .returned (.bool (vlsB l m)) ∧ Below w.heap.size w w' := by
  have hn := hl.len
  have hn2 := hm.len
  unfold maxLen at hn hn2
  have HS := Lib.hid hl
  have HM := Lib.hid hm
  clear hl hm
  by_cases hlen : l.length = m.length
  case neg =>
    have hd : ((l.length : Int) != (m.length : Int)) = true := by simp; omega
    have Hr := Lib.hid (show vlsB l m = false from decide_eq_false fun e => hlen e.1)
    clear hlen
    go_enter Tryz.func63, Tryz.ntmps63
    go_wp2_with fail
    go_ret
    exact ⟨by rw [Hr.out]; rfl, Below.refl _ _⟩
  have hd : ((l.length : Int) != (m.length : Int)) = false := by simp; omega
  have HLEN := Lib.hid hlen
  clear hlen
  go_enter Tryz.func63, Tryz.ntmps63
  go_wp2_with fail
  go_loopw [13] (fun i wr => ∃ k : Nat, k ≤ l.length ∧ i = .int .i64 k ∧ Hid (∀ j (h : j < l.length) (h2 : j < m.length), j < k → sameB l[j].v m[j].v = true) ∧ Hid (Below w.heap.size w wr)) (fun i _ => l.length - (intOf i).toNat)
  case atStart => exact ⟨0, Nat.zero_le _, rfl, fun j _ _ h => absurd h (by omega), Below.refl _ _⟩
  case round =>
    obtain ⟨k, hk, rfl, hj, hB⟩ := hrel
    by_cases hlt : k < l.length
    · have hlm : k < m.length := by have := HLEN.out; omega
      obtain ⟨b, o, ha, hc⟩ := (HS.out.later hB.out).at_
      obtain rfl := ha (by omega)
      obtain ⟨c0, c1, c2, c3, c4⟩ := hc k hlt
      obtain ⟨b2, o2, ha2, hc2⟩ := (HM.out.later hB.out).at_
      obtain rfl := ha2 (by omega)
      obtain ⟨d0, d1, d2, d3, d4⟩ := hc2 k hlm
      have hdr : Below wr.heap.size wr wr.drew := ⟨rfl, rfl, rfl, Nat.le_refl _, fun _ _ => rfl⟩
      have L1 := Lib.hid (((HS.out.each k hlt).later hB.out).later hdr)
      have L2 := Lib.hid (((HM.out.each k hlm).later hB.out).later hdr)
      have HB2 := Lib.hid (hB.out.drew)
      have hy := Lib.hid (fun (e : sameB l[k].v m[k].v = true) => show Hid (∀ j (h : j < l.length) (h2 : j < m.length), j < k + 1 → sameB l[j].v m[j].v = true) from fun j h h2 hjk => by
        by_cases e' : j = k
        · subst e'; exact e
        · exact hj.out j h h2 (by omega))
      have hno := Lib.hid (fun (e : sameB l[k].v m[k].v = false) => show vlsB l m = false from decide_eq_false fun h => by have := h.2 k hlt hlm; rw [e] at this; cases this)
      generalize l[k] = x at *
      generalize m[k] = y at *
      clear hj hc hc2 ha ha2 HS HM hdr
      cases hz : sameB x.v y.v
      case true =>
        have Hn := hy.out hz
        have Hz := Lib.hid hz
        clear hy hno hz
        go_wp2_with fail
        go_region_with ((go_at_call 13; ((with_reducible refine (refSame_any x y _ L1.out L2.out).mono ?_); rintro e w1 ⟨rfl, b1⟩; rw [Hz.out]; have B1 := Lib.hid (HB2.out.trans (b1.mono HB2.out.size)); clear b1)))
        all_goals
          clear c0 c1 c2 c3 c4 d0 d1 d2 d3 d4
          go_wp2_with fail
          go_roundw
          case rel => exact ⟨k + 1, by omega, by go_num, Hn, B1.out⟩
          case measure => simp [intOf]; omega
      case false =>
        have Hr := Lib.hid (hno.out hz)
        have Hz := Lib.hid hz
        clear hy hno hz
        go_wp2_with fail
        go_region_with ((go_at_call 13; ((with_reducible refine (refSame_any x y _ L1.out L2.out).mono ?_); rintro e w1 ⟨rfl, b1⟩; rw [Hz.out]; have B1 := Lib.hid (HB2.out.trans (b1.mono HB2.out.size)); clear b1)))
        all_goals
          clear c0 c1 c2 c3 c4 d0 d1 d2 d3 d4
          go_wp2_with fail
          go_ret
          exact ⟨by rw [Hr.out]; rfl, B1.out⟩
    · have Hr := Lib.hid (show vlsB l m = true from decide_eq_true ⟨HLEN.out, fun j h h2 => hj.out j h h2 (by omega)⟩)
      clear hj HS HM
      go_wp2_with fail
      go_ret
      exact ⟨by rw [Hr.out]; rfl, hB.out⟩

/-- An entry and where its lists lie. -/
structure EA where
  nm : ByteArray
  args : List VA
  A : Option Addr
  c : Nat
  val : VA
abbrev ev (e : EA) : Value := .agg #[.string e.nm, .slice e.A e.args.length e.c, .int .i64 e.val.v.so, .int .i64 e.val.v.nu, .slice e.val.a1 e.val.v.st.length e.val.c1, .slice e.val.a2 e.val.v.ix.length e.val.c2, .slice e.val.a3 e.val.v.xs.length e.val.c3]
structure LiesE (w : World) (e : EA) : Prop where
  nm : e.nm.size ≤ maxLen
  args : LiesVs w e.A e.args
  val : LiesV w e.val
theorem LiesE.later {w w' : World} {e : EA} (h : LiesE w e) (hb : Below w.heap.size w w') : LiesE w' e := ⟨h.nm, h.args.later hb, h.val.later hb⟩
abbrev boxE (e : EA) (t : TypeId) : Obj := .cells #[.string e.nm, .slice e.A e.args.length e.c, .int .i64 e.val.v.so, .int .i64 e.val.v.nu, .slice e.val.a1 e.val.v.st.length e.val.c1, .slice e.val.a2 e.val.v.ix.length e.val.c2, .slice e.val.a3 e.val.v.xs.length e.val.c3] t
/-- The seven cells of an entry in memory. -/
structure SevenE (w : World) (b o : Nat) (e : EA) : Prop where
  c0 : w.cell? ⟨b, o, none⟩ = some (.string e.nm)
  c1 : w.cell? ⟨b, o + 1, none⟩ = some (.slice e.A e.args.length e.c)
  c2 : w.cell? ⟨b, o + 2, none⟩ = some (.int .i64 e.val.v.so)
  c3 : w.cell? ⟨b, o + 3, none⟩ = some (.int .i64 e.val.v.nu)
  c4 : w.cell? ⟨b, o + 4, none⟩ = some (.slice e.val.a1 e.val.v.st.length e.val.c1)
  c5 : w.cell? ⟨b, o + 5, none⟩ = some (.slice e.val.a2 e.val.v.ix.length e.val.c2)
  c6 : w.cell? ⟨b, o + 6, none⟩ = some (.slice e.val.a3 e.val.v.xs.length e.val.c3)
theorem SevenE.later {w w' : World} {b o : Nat} {e : EA} (h : SevenE w b o e) (hb : Below w.heap.size w w') : SevenE w' b o e :=
  ⟨cellB hb (Nat.le_refl _) h.c0, cellB hb (Nat.le_refl _) h.c1, cellB hb (Nat.le_refl _) h.c2, cellB hb (Nat.le_refl _) h.c3, cellB hb (Nat.le_refl _) h.c4, cellB hb (Nat.le_refl _) h.c5, cellB hb (Nat.le_refl _) h.c6⟩
theorem sevenE_new (w : World) (e : EA) (t : TypeId) : SevenE (w.alloc (boxE e t)) w.heap.size 0 e := ⟨by simp [go_sem], by simp [go_sem], by simp [go_sem], by simp [go_sem], by simp [go_sem], by simp [go_sem], by simp [go_sem]⟩
end Go.Proofs.YtmeeombadkgneaaGreat
