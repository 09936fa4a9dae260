/-
  The nodes of a tree as they lie in memory, and what the small functions of comparing and of counting return: leaves of the proofs of this seat; conditions: none but that the trees lie in memory.
-/
import Derived.Test.YtmeeombadkgneaaGreatRows
import Derived.WalkKit
import Derived.WalkSpells
import Derived.WalkLawsBesides
import Derived.Lib.Hide
import Derived.StillTailTactics
namespace Go.Proofs.YtmeeombadkgneaaGreat
open Go.RowKit

inductive Nd where
  | mk (op so : Int) (nm : ByteArray) (nu : Int) (ks : List Nd)

namespace Nd
def op : Nd → Int | .mk a _ _ _ _ => a
def so : Nd → Int | .mk _ a _ _ _ => a
def nm : Nd → ByteArray | .mk _ _ a _ _ => a
def nu : Nd → Int | .mk _ _ _ a _ => a
def ks : Nd → List Nd | .mk _ _ _ _ a => a
theorem eta (t : Nd) : Nd.mk t.op t.so t.nm t.nu t.ks = t := by cases t; rfl
theorem size_kid (t : Nd) {k : Nd} (h : k ∈ t.ks) : SizeOf.sizeOf k < SizeOf.sizeOf t := by
  obtain ⟨a, b, c, d, l⟩ := t
  have := List.sizeOf_lt_of_mem (show k ∈ l from h)
  rw [Nd.mk.sizeOf_spec]
  omega
end Nd

theorem Nd.ind {p : Nd → Prop} (h : ∀ t : Nd, (∀ i (hi : i < t.ks.length), p t.ks[i]) → p t) : ∀ t, p t := by
  intro t
  induction hs : SizeOf.sizeOf t using Nat.strongRecOn generalizing t with
  | ind n ih =>
    subst hs
    exact h t fun i hi => ih _ (t.size_kid (List.getElem_mem hi)) _ rfl

/-- The value of a node whose list of kids is the value s. -/
abbrev nv (op so : Int) (nm : ByteArray) (nu : Int) (s : Value) : Value := .agg #[.int .i64 op, .int .i64 so, .string nm, .int .i64 nu, s]

/-- The five cells of a node at ⟨b, o⟩. -/
structure Five (w : World) (b o : Nat) (t : Nd) (s : Value) : Prop where
  c0 : w.cell? ⟨b, o, none⟩ = some (.int .i64 t.op)
  c1 : w.cell? ⟨b, o + 1, none⟩ = some (.int .i64 t.so)
  c2 : w.cell? ⟨b, o + 2, none⟩ = some (.string t.nm)
  c3 : w.cell? ⟨b, o + 3, none⟩ = some (.int .i64 t.nu)
  c4 : w.cell? ⟨b, o + 4, none⟩ = some s

/-- What a node's own fields are, as they are read: the name is no longer than a string can be, and the numbers are of their kind. -/
structure Fine (t : Nd) : Prop where
  nm : t.nm.size ≤ maxLen
  op : (Lit.int .i64 t.op).wf = true
  so : (Lit.int .i64 t.so).wf = true
  nu : (Lit.int .i64 t.nu).wf = true

/-- A slice value A, the list's length, cap holds the nodes of a list in w. -/
inductive Lies (w : World) : Option Addr → Nat → List Nd → Prop
  | mk (A : Option Addr) (cap : Nat) (ks : List Nd) (hcap : ks.length ≤ maxLen) (b o : Nat) (A' : Nat → Option Addr) (C' : Nat → Nat)
      (hA : 0 < ks.length → A = some ⟨b, o, none⟩)
      (h5 : ∀ i (hi : i < ks.length), Five w b (o + i * 5) ks[i] (.slice (A' i) ks[i].ks.length (C' i)))
      (hk : ∀ i (hi : i < ks.length), Lies w (A' i) (C' i) ks[i].ks) (hf : ∀ i (hi : i < ks.length), Fine ks[i]) : Lies w A cap ks

theorem Lies.len {w : World} {A : Option Addr} {cap : Nat} {ks : List Nd} (h : Lies w A cap ks) : ks.length ≤ maxLen := by cases h; assumption

theorem Lies.kid {w : World} {A : Option Addr} {cap : Nat} {ks : List Nd} (h : Lies w A cap ks) {i : Nat} (hi : i < ks.length) :
    ∃ b o A' C', A = some ⟨b, o, none⟩ ∧ Five w b (o + i * 5) ks[i] (.slice A' ks[i].ks.length C') ∧ Lies w A' C' ks[i].ks := by
  cases h with
  | mk _ _ _ hcap b o A' C' hA h5 hk => exact ⟨b, o, A' i, C' i, hA (by omega), h5 i hi, hk i hi⟩

theorem Lies.fine {w : World} {A : Option Addr} {cap : Nat} {ks : List Nd} (h : Lies w A cap ks) {i : Nat} (hi : i < ks.length) : Fine ks[i] := by
  cases h with
  | mk _ _ _ hcap b o A' C' hA h5 hk hf => exact hf i hi

theorem cellB {w w' : World} {B : Nat} (hb : Below B w w') (hB : w.heap.size ≤ B) {a : Addr} {v : Value} (h : w.cell? a = some v) : w'.cell? a = some v :=
  (hb.cell (Nat.lt_of_lt_of_le (World.block_lt_of_cell? _ _ h) hB)).trans h

theorem Five.later {w w' : World} {b o : Nat} {t : Nd} {s : Value} (h : Five w b o t s) (hb : Below w.heap.size w w') : Five w' b o t s :=
  ⟨cellB hb (Nat.le_refl _) h.c0, cellB hb (Nat.le_refl _) h.c1, cellB hb (Nat.le_refl _) h.c2, cellB hb (Nat.le_refl _) h.c3, cellB hb (Nat.le_refl _) h.c4⟩

theorem Lies.later {w w' : World} {A : Option Addr} {cap : Nat} {ks : List Nd} (h : Lies w A cap ks) (hb : Below w.heap.size w w') : Lies w' A cap ks := by
  induction h with
  | mk A cap ks hcap b o A' C' hA h5 hk hf ih => exact .mk A cap ks hcap b o A' C' hA (fun i hi => (h5 i hi).later hb) (fun i hi => ih i hi) hf

/-- The number of nodes as the code counts it. -/
def sizeW : Nd → Int
  | .mk _ _ _ _ ks => ks.attach.foldl (fun s k => wrap64 (s + sizeW k.1)) 1
termination_by t => SizeOf.sizeOf t
decreasing_by
  have := List.sizeOf_lt_of_mem k.2
  simp only [Nd.mk.sizeOf_spec]
  omega

def sizeL (s : Int) (ks : List Nd) : Int := ks.foldl (fun s k => wrap64 (s + sizeW k)) s
theorem sizeW_eq (t : Nd) : sizeW t = sizeL 1 t.ks := by
  cases t
  rw [sizeW, sizeL]
  simp only [Nd.ks]
  exact List.foldl_attach (f := fun s k => wrap64 (s + sizeW k))
theorem sizeL_snoc (s : Int) (ks : List Nd) (k : Nat) (hk : k < ks.length) : sizeL s (ks.take (k + 1)) = wrap64 (sizeL s (ks.take k) + sizeW ks[k]) := by
  rw [sizeL, sizeL, List.take_succ_eq_append_getElem hk, List.foldl_append]
  rfl
theorem refSize_any (t : Nd) : ∀ (A : Option Addr) (cap : Nat) (w : World), Lies w A cap t.ks →
    Calls Tryz.prog 20 #[nv t.op t.so t.nm t.nu (.slice A t.ks.length cap)] w fun e w' => e = .returned (.int .i64 (sizeW t)) ∧ Below w.heap.size w w' := by
  induction t using Nd.ind with
  | h t ih =>
  intro A cap w hL
  rw [sizeW_eq]
  have hn := hL.len
  unfold maxLen at hn
  have IH := Lib.hid ih
  clear ih
  have HL := Lib.hid hL
  clear hL
  generalize t.ks = ks at *
  go_enter Tryz.func20, Tryz.ntmps20
  go_wp2_with fail
  go_loopw [3, 9] (fun s i wr => ∃ k : Nat, k ≤ ks.length ∧ i = .int .i64 k ∧ s = .int .i64 (sizeL 1 (ks.take k)) ∧ Below w.heap.size w wr) (fun _ i wr => ks.length - (intOf i).toNat)
  case atStart => exact ⟨0, Nat.zero_le _, rfl, rfl, (Below.refl _ _).alloc (Nat.le_refl _) _⟩
  case round =>
    obtain ⟨k, hk, rfl, rfl, hB⟩ := hrel
    by_cases hlt : k < ks.length
    · obtain ⟨b, o, A', C', rfl, h5, hK⟩ := HL.out.kid hlt
      have HS := Lib.hid (sizeL_snoc 1 ks k hlt)
      have c := Lib.hid (IH.out k hlt A' C')
      have h5' := h5.later hB
      have hK' := Lib.hid (hK.later hB)
      generalize ks[k] = q at *
      obtain ⟨a0, a1, a2, a3, a4⟩ := h5'
      clear h5 hK IH HL
      go_wp2_with fail
      refine (c.out _ (hK'.out.later ((Below.refl _ _).alloc (Nat.le_refl _) _))).mono ?_
      rintro e w1 ⟨rfl, hb1⟩
      have hB1 : Below w.heap.size w w1 := (hB.alloc hB.size _).trans (hb1.mono (by have := hB.size; simp; omega))
      clear hb1
      go_wp2_with fail
      go_roundw
      case rel => exact ⟨k + 1, by omega, by go_num, by rw [HS.out], hB1⟩
      case measure => simp [intOf]; omega
    · go_wp2_with fail
      go_ret
      exact ⟨by rw [List.take_of_length_le (by omega)]; rfl, hB⟩

def cmpI (a b : Int) : Int := if a < b then -1 else if b < a then 1 else 0
/-- How strings are compared, bytewise. -/
def cmpS (a b : ByteArray) : Int := if Op.bytesLess a.toList b.toList = true then -1 else if (a.toList == b.toList) = true then 0 else 1

mutual
def cmpN : Nd → Nd → Int
  | .mk a b c d l, .mk a' b' c' d' l' =>
    if a ≠ a' then cmpI a a' else if b ≠ b' then cmpI b b' else if c.toList ≠ c'.toList then cmpS c c' else if d ≠ d' then cmpI d d'
    else if l.length ≠ l'.length then cmpI l.length l'.length else cmpNs l l'
def cmpNs : List Nd → List Nd → Int
  | x :: xs, y :: ys => if cmpN x y ≠ 0 then cmpN x y else cmpNs xs ys
  | _, _ => 0
end

theorem cmpN_eq (t u : Nd) : cmpN t u = if t.op ≠ u.op then cmpI t.op u.op else if t.so ≠ u.so then cmpI t.so u.so else if t.nm.toList ≠ u.nm.toList then cmpS t.nm u.nm else if t.nu ≠ u.nu then cmpI t.nu u.nu
    else if t.ks.length ≠ u.ks.length then cmpI t.ks.length u.ks.length else cmpNs t.ks u.ks := by
  obtain ⟨a, b, c, d, l⟩ := t
  obtain ⟨a', b', c', d', l'⟩ := u
  rw [cmpN]
  rfl

theorem cmpNs_drop {l l' : List Nd} {k : Nat} (h : k < l.length) (h' : k < l'.length) :
    cmpNs (l.drop k) (l'.drop k) = if cmpN l[k] l'[k] ≠ 0 then cmpN l[k] l'[k] else cmpNs (l.drop (k + 1)) (l'.drop (k + 1)) := by
  rw [List.drop_eq_getElem_cons h, List.drop_eq_getElem_cons h', cmpNs]

set_option maxHeartbeats 400000 in
theorem cmpInt_any (a b : Int) (w : World) :
    Calls Tryz.prog 58 #[.int .i64 a, .int .i64 b] w fun e w' => e = .returned (.int .i64 (cmpI a b)) ∧ w = w' := by
  unfold cmpI
  go_enter Tryz.func58, Tryz.ntmps58
  go_wp2
  all_goals go_ret
  all_goals exact ⟨rfl, rfl⟩
set_option maxHeartbeats 400000 in
theorem cmp64_any (a b : Int) (w : World) :
    Calls Tryz.prog 87 #[.int .i64 a, .int .i64 b] w fun e w' => e = .returned (.int .i64 (cmpI a b)) ∧ w = w' := by
  unfold cmpI
  go_enter Tryz.func87, Tryz.ntmps87
  go_wp2
  all_goals go_ret
  all_goals exact ⟨rfl, rfl⟩
set_option maxHeartbeats 400000 in
theorem sign_any (a b : Int) (w : World) :
    Calls Tryz.prog 136 #[.int .i64 a, .int .i64 b] w fun e w' => e = .returned (.int .i64 (cmpI a b)) ∧ w = w' := by
  unfold cmpI
  go_enter Tryz.func136, Tryz.ntmps136
  go_wp2
  all_goals go_ret
  all_goals exact ⟨rfl, rfl⟩
set_option maxHeartbeats 400000 in
theorem cmpStr_any (a b : ByteArray) (w : World) :
    Calls Tryz.prog 57 #[.string a, .string b] w fun e w' => e = .returned (.int .i64 (cmpS a b)) ∧ w = w' := by
  unfold cmpS
  by_cases h1 : Op.bytesLess a.toList b.toList = true
  · go_enter Tryz.func57, Tryz.ntmps57
    go_wp2
    all_goals go_ret
    all_goals exact ⟨rfl, rfl⟩
  · by_cases h2 : (a.toList == b.toList) = true
    all_goals
      go_enter Tryz.func57, Tryz.ntmps57
      go_wp2
      all_goals go_ret
      exact ⟨rfl, rfl⟩
end Go.Proofs.YtmeeombadkgneaaGreat
