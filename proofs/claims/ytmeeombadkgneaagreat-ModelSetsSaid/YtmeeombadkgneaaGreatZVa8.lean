/-
  What the document's SameArgs returns, and entries in memory; conditions: the lists lie in memory.
-/
import Derived.Deep.RegionWith
import Derived.Deep.Cut
import Derived.Test.YtmeeombadkgneaaGreatZVa7
namespace Go.Proofs.YtmeeombadkgneaaGreat
open Go.RowKit Go.Shelf

attribute [local go_sem] Oper.semAt_some
def vlsB (l m : List VA) : Bool := decide (l.length = m.length ∧ ∀ i (h : i < l.length) (h2 : i < m.length), sameB l[i].v m[i].v = true)
theorem vlsB_iff (l m : List VA) : vlsB l m = true ↔ vls l = vls m := by
  unfold vlsB
  rw [decide_eq_true_iff]
  constructor
  · rintro ⟨h1, h2⟩
    apply List.ext_getElem (by simp [vls, h1])
    intro i h3 h4
    have := (sameB_iff _ _).1 (h2 i (by simpa [vls] using h3) (by simpa [vls] using h4))
    simpa [vls] using this
  · intro h
    have hl : l.length = m.length := by have := congrArg List.length h; simpa [vls] using this
    refine ⟨hl, fun i h1 h2 => (sameB_iff _ _).2 ?_⟩
    have : (vls l)[i]'(by simpa [vls] using h1) = (vls m)[i]'(by simpa [vls] using h2) := by simp only [h]
    simpa [vls] using this
set_option maxRecDepth 100000 in
set_option maxHeartbeats 4000000 in
theorem sameArgs_any (l m : List VA) (A B : Option Addr) (ca cb : Nat) (w : World) (hl : LiesVs w A l) (hm : LiesVs w B m) :
    Calls Tryz.prog 63 #[.slice A l.length ca, .slice B m.length cb] w fun e w' => e = .returned (.bool (vlsB l m)) ∧ Below w.heap.size w w' := by
  have hn := hl.len
  have hn2 := hm.len
  unfold maxLen at hn hn2
  have HS := Lib.hid hl
  have HM := Lib.hid hm
  clear hl hm
  by_cases hlen : l.length = m.length
  case neg =>
    have hd : ((l.length : Int) != (m.length : Int)) = true := by simp; omega
    have Hr := Lib.hid (show vlsB l m = false from decide_eq_false fun e => hlen e.1)
    clear hlen
    go_enter Tryz.func63, Tryz.ntmps63
    go_wp2_with fail
    go_ret
    exact ⟨by rw [Hr.out]; rfl, Below.refl _ _⟩
  have hd : ((l.length : Int) != (m.length : Int)) = false := by simp; omega
  have HLEN := Lib.hid hlen
  clear hlen
  go_enter Tryz.func63, Tryz.ntmps63
  go_wp2_with fail
  go_loopw [13] (fun i wr => ∃ k : Nat, k ≤ l.length ∧ i = .int .i64 k ∧ Hid (∀ j (h : j < l.length) (h2 : j < m.length), j < k → sameB l[j].v m[j].v = true) ∧ Hid (Below w.heap.size w wr)) (fun i _ => l.length - (intOf i).toNat)
  case atStart => exact ⟨0, Nat.zero_le _, rfl, fun j _ _ h => absurd h (by omega), Below.refl _ _⟩
  case round =>
    obtain ⟨k, hk, rfl, hj, hB⟩ := hrel
    by_cases hlt : k < l.length
    · have hlm : k < m.length := by have := HLEN.out; omega
      obtain ⟨b, o, ha, hc⟩ := (HS.out.later hB.out).at_
      obtain rfl := ha (by omega)
      obtain ⟨c0, c1, c2, c3, c4⟩ := hc k hlt
      obtain ⟨b2, o2, ha2, hc2⟩ := (HM.out.later hB.out).at_
      obtain rfl := ha2 (by omega)
      obtain ⟨d0, d1, d2, d3, d4⟩ := hc2 k hlm
      have hdr : Below wr.heap.size wr wr.drew := ⟨rfl, rfl, rfl, Nat.le_refl _, fun _ _ => rfl⟩
      have L1 := Lib.hid (((HS.out.each k hlt).later hB.out).later hdr)
      have L2 := Lib.hid (((HM.out.each k hlm).later hB.out).later hdr)
      have HB2 := Lib.hid (hB.out.drew)
      have hy := Lib.hid (fun (e : sameB l[k].v m[k].v = true) => show Hid (∀ j (h : j < l.length) (h2 : j < m.length), j < k + 1 → sameB l[j].v m[j].v = true) from fun j h h2 hjk => by
        by_cases e' : j = k
        · subst e'; exact e
        · exact hj.out j h h2 (by omega))
      have hno := Lib.hid (fun (e : sameB l[k].v m[k].v = false) => show vlsB l m = false from decide_eq_false fun h => by have := h.2 k hlt hlm; rw [e] at this; cases this)
      generalize l[k] = x at *
      generalize m[k] = y at *
      clear hj hc hc2 ha ha2 HS HM hdr
      cases hz : sameB x.v y.v
      case true =>
        have Hn := hy.out hz
        have Hz := Lib.hid hz
        clear hy hno hz
        go_wp2_with fail
        go_region_with ((go_at_call 13; ((with_reducible refine (refSame_any x y _ L1.out L2.out).mono ?_); rintro e w1 ⟨rfl, b1⟩; rw [Hz.out]; have B1 := Lib.hid (HB2.out.trans (b1.mono HB2.out.size)); clear b1)))
        all_goals
          clear c0 c1 c2 c3 c4 d0 d1 d2 d3 d4
          go_wp2_with fail
          go_roundw
          case rel => exact ⟨k + 1, by omega, by go_num, Hn, B1.out⟩
          case measure => simp [intOf]; omega
      case false =>
        have Hr := Lib.hid (hno.out hz)
        have Hz := Lib.hid hz
        clear hy hno hz
        go_wp2_with fail
        go_region_with ((go_at_call 13; ((with_reducible refine (refSame_any x y _ L1.out L2.out).mono ?_); rintro e w1 ⟨rfl, b1⟩; rw [Hz.out]; have B1 := Lib.hid (HB2.out.trans (b1.mono HB2.out.size)); clear b1)))
        all_goals
          clear c0 c1 c2 c3 c4 d0 d1 d2 d3 d4
          go_wp2_with fail
          go_ret
          exact ⟨by rw [Hr.out]; rfl, B1.out⟩
    · have Hr := Lib.hid (show vlsB l m = true from decide_eq_true ⟨HLEN.out, fun j h h2 => hj.out j h h2 (by omega)⟩)
      clear hj HS HM
      go_wp2_with fail
      go_ret
      exact ⟨by rw [Hr.out]; rfl, hB.out⟩

/-- An entry and where its lists lie. -/
structure EA where
  nm : ByteArray
  args : List VA
  A : Option Addr
  c : Nat
  val : VA
abbrev ev (e : EA) : Value := .agg #[.string e.nm, .slice e.A e.args.length e.c, .int .i64 e.val.v.so, .int .i64 e.val.v.nu, .slice e.val.a1 e.val.v.st.length e.val.c1, .slice e.val.a2 e.val.v.ix.length e.val.c2, .slice e.val.a3 e.val.v.xs.length e.val.c3]
structure LiesE (w : World) (e : EA) : Prop where
  nm : e.nm.size ≤ maxLen
  args : LiesVs w e.A e.args
  val : LiesV w e.val
theorem LiesE.later {w w' : World} {e : EA} (h : LiesE w e) (hb : Below w.heap.size w w') : LiesE w' e := ⟨h.nm, h.args.later hb, h.val.later hb⟩
abbrev boxE (e : EA) (t : TypeId) : Obj := .cells #[.string e.nm, .slice e.A e.args.length e.c, .int .i64 e.val.v.so, .int .i64 e.val.v.nu, .slice e.val.a1 e.val.v.st.length e.val.c1, .slice e.val.a2 e.val.v.ix.length e.val.c2, .slice e.val.a3 e.val.v.xs.length e.val.c3] t
/-- The seven cells of an entry in memory. -/
structure SevenE (w : World) (b o : Nat) (e : EA) : Prop where
  c0 : w.cell? ⟨b, o, none⟩ = some (.string e.nm)
  c1 : w.cell? ⟨b, o + 1, none⟩ = some (.slice e.A e.args.length e.c)
  c2 : w.cell? ⟨b, o + 2, none⟩ = some (.int .i64 e.val.v.so)
  c3 : w.cell? ⟨b, o + 3, none⟩ = some (.int .i64 e.val.v.nu)
  c4 : w.cell? ⟨b, o + 4, none⟩ = some (.slice e.val.a1 e.val.v.st.length e.val.c1)
  c5 : w.cell? ⟨b, o + 5, none⟩ = some (.slice e.val.a2 e.val.v.ix.length e.val.c2)
  c6 : w.cell? ⟨b, o + 6, none⟩ = some (.slice e.val.a3 e.val.v.xs.length e.val.c3)
theorem SevenE.later {w w' : World} {b o : Nat} {e : EA} (h : SevenE w b o e) (hb : Below w.heap.size w w') : SevenE w' b o e :=
  ⟨cellB hb (Nat.le_refl _) h.c0, cellB hb (Nat.le_refl _) h.c1, cellB hb (Nat.le_refl _) h.c2, cellB hb (Nat.le_refl _) h.c3, cellB hb (Nat.le_refl _) h.c4, cellB hb (Nat.le_refl _) h.c5, cellB hb (Nat.le_refl _) h.c6⟩
theorem sevenE_new (w : World) (e : EA) (t : TypeId) : SevenE (w.alloc (boxE e t)) w.heap.size 0 e := ⟨by simp [go_sem], by simp [go_sem], by simp [go_sem], by simp [go_sem], by simp [go_sem], by simp [go_sem], by simp [go_sem]⟩
end Go.Proofs.YtmeeombadkgneaaGreat
