/-
  Reading a text as the grammar says, as a plain function with fuel: what the parser of the page answers at a position; no program is spoken of; conditions: none.
-/
import Derived.Test.YtgkjcimgghflmaaGreatDoorYRp0
import Derived.Test.YtgkjcimgghflmaaGreatDoorYShw2
namespace Go.Proofs.YtgkjcimgghflmaaGreatDoor
open Go.RowKit Go.Shelf
/-- An answer: a node and the position behind it; an error and its place; or that the fuel is used up. -/
inductive PR where
  | ok (t : Nd) (a : Nat)
  | err (e : Int) (w : Nat)
  | out
def PR.bind : PR → (Nd → Nat → PR) → PR
  | .ok t a, k => k t a
  | .err e w, _ => .err e w
  | .out, _ => .out
def noNm : ByteArray := ⟨#[]⟩
def oneN (op : Int) (k : Nd) : Nd := .mk op 0 noNm 0 [k]
def twoN (op : Int) (l r : Nd) : Nd := .mk op 0 noNm 0 [l, r]
def intN (n : Int) : Nd := .mk 2 0 noNm n []
def leafN (op : Int) : Nd := .mk op 0 noNm 0 []
def opn (o : Nat) (r : PR) : PR := if 90 < o then .err 2 0 else r
def want (s : ByteArray) (t : List UInt8) (a : Nat) (k : Nat → PR) : PR := if T s a = t then k (nxt s a) else .err 20 a
/-- Is a token a number? -/
def isNum : List UInt8 → Bool
  | [] => false
  | c :: _ => digB c.toNat
def numV (t : List UInt8) : Nat := t.foldl (fun n c => 10 * n + (c.toNat - 48)) 0
def number (s : ByteArray) (a : Nat) (k : Nat → Nat → PR) : PR :=
  if 13 < (T s a).length then .err 20 a else if 1000000000000 < numV (T s a) then .err 20 a else k (numV (T s a)) (nxt s a)
/-- The operators that a comparison may stand for. -/
def isCmp (t : List UInt8) : Bool := t == [61] || (t == [33, 61] || (t == [60] || (t == [60, 61] || (t == [62] || (t == [62, 61] || (t == [105, 110] || t == [115, 117, 98]))))))
def cmpN2 (t : List UInt8) (l r : Nd) : Nd :=
  if t = [61] then twoN 37 l r else if t = [33, 61] then oneN 32 (twoN 37 l r) else if t = [60] then twoN 39 l r else if t = [60, 61] then twoN 38 l r
  else if t = [62] then twoN 39 r l else if t = [62, 61] then twoN 38 r l else if t = [105, 110] then twoN 40 l r else twoN 41 l r
/-- The words with arguments: operator and number of them. -/
def wordA (t : List UInt8) : Option (Int × Nat) :=
  if t = [115, 105, 110, 103] then some (10, 1) else if t = [99, 117, 112] then some (11, 2) else if t = [99, 97, 112] then some (12, 2) else if t = [100, 105, 102, 102] then some (13, 2)
  else if t = [115, 101, 108] then some (14, 2) else if t = [115, 116, 111] then some (15, 3) else if t = [105, 116, 101] then some (8, 3) else if t = [118, 108, 101, 110] then some (16, 1) else none
inductive NT where
  | form | imp | or | orL (l : Nd) | and | andL (l : Nd) | not | cmp | sum | sumL (l : Nd) | una | prim | app (nm : List UInt8) (ks : List Nd) | word (op : Int) (n : Nat) (ks : List Nd)
def PA (s : ByteArray) : Nat → NT → Nat → Nat → PR
  | 0, _, _, _ => .out
  | f + 1, .form, o, a => (PA s f .imp o a).bind fun l a1 => if T s a1 = [60, 61, 62] then opn (o + 1) ((PA s f .form (o + 1) (nxt s a1)).bind fun r a2 => .ok (twoN 36 l r) a2) else .ok l a1
  | f + 1, .imp, o, a => (PA s f .or o a).bind fun l a1 => if T s a1 = [61, 62] then opn (o + 1) ((PA s f .imp (o + 1) (nxt s a1)).bind fun r a2 => .ok (twoN 35 l r) a2) else .ok l a1
  | f + 1, .or, o, a => (PA s f .and o a).bind fun l a1 => PA s f (.orL l) o a1
  | f + 1, .orL l, o, a => if T s a = [124, 124] then (PA s f .and o (nxt s a)).bind fun r a1 => PA s f (.orL (twoN 34 l r)) o a1 else .ok l a
  | f + 1, .and, o, a => (PA s f .not o a).bind fun l a1 => PA s f (.andL l) o a1
  | f + 1, .andL l, o, a => if T s a = [38, 38] then (PA s f .not o (nxt s a)).bind fun r a1 => PA s f (.andL (twoN 33 l r)) o a1 else .ok l a
  | f + 1, .not, o, a => if T s a = [33] then opn (o + 1) ((PA s f .not (o + 1) (nxt s a)).bind fun k a1 => .ok (oneN 32 k) a1) else PA s f .cmp o a
  | f + 1, .cmp, o, a => (PA s f .sum o a).bind fun l a1 => if isCmp (T s a1) = true then (PA s f .sum o (nxt s a1)).bind fun r a2 => .ok (cmpN2 (T s a1) l r) a2 else .ok l a1
  | f + 1, .sum, o, a => (PA s f .una o a).bind fun l a1 => PA s f (.sumL l) o a1
  | f + 1, .sumL l, o, a =>
    if T s a = [45] then (PA s f .una o (nxt s a)).bind fun r a1 => PA s f (.sumL (twoN 5 l r)) o a1
    else if T s a = [43] then (PA s f .una o (nxt s a)).bind fun r a1 => PA s f (.sumL (twoN 4 l r)) o a1
    else .ok l a
  | f + 1, .una, o, a =>
    if T s a = [45] then
      if isNum (T s (nxt s a)) = true ∧ T s (nxt s (nxt s a)) ≠ [42] then number s (nxt s a) fun n a2 => .ok (intN (-n)) a2
      else opn (o + 1) ((PA s f .una (o + 1) (nxt s a)).bind fun k a2 => .ok (oneN 6 k) a2)
    else if isNum (T s a) = true then
      number s a fun n a1 => if T s a1 = [42] then opn (o + 1) ((PA s f .una (o + 1) (nxt s a1)).bind fun k a2 => .ok (.mk 7 0 noNm n [k]) a2) else .ok (intN n) a1
    else PA s f .prim o a
  | f + 1, .prim, o, a =>
    if T s a = [40] then opn (o + 1) ((PA s f .form (o + 1) (nxt s a)).bind fun k a1 => want s [41] a1 fun a2 => .ok k a2)
    else if T s a = [116, 114, 117, 101] then .ok (leafN 30) (nxt s a)
    else if T s a = [102, 97, 108, 115, 101] then .ok (leafN 31) (nxt s a)
    else if T s a = [101, 109, 112, 116, 121] then .ok (leafN 9) (nxt s a)
    else match wordA (T s a) with
      | some (op, n) => want s [40] (nxt s a) fun a1 => opn (o + 1) (PA s f (.word op n []) (o + 1) a1)
      | none =>
        if nameB (bs (T s a)) = true then
          if T s (nxt s a) = [40] then
            opn (o + 1) (if T s (nxt s (nxt s a)) = [41] then .ok (.mk 3 0 (bs (T s a)) 0 []) (nxt s (nxt s (nxt s a))) else PA s f (.app (T s a) []) (o + 1) (nxt s (nxt s a)))
          else .ok (.mk 1 0 (bs (T s a)) 0 []) (nxt s a)
        else .err 20 a
  | f + 1, .app nm ks, o, a =>
    if ks.length = 8 then .err 20 a
    else (PA s f .form o a).bind fun k a1 => if T s a1 = [44] then PA s f (.app nm (ks ++ [k])) o (nxt s a1) else want s [41] a1 fun a2 => .ok (.mk 3 0 (bs nm) 0 (ks ++ [k])) a2
  | f + 1, .word op n ks, o, a =>
    if ks.length = n then want s [41] a fun a1 => .ok (.mk op 0 noNm 0 ks) a1
    else if ks = [] then (PA s f .form o a).bind fun k a1 => PA s f (.word op n (ks ++ [k])) o a1
    else want s [44] a fun a0 => (PA s f .form o a0).bind fun k a1 => PA s f (.word op n (ks ++ [k])) o a1
/-- The answer about a whole text: without an error the node stands at 'ok', with an error its offset and number. -/
def PW (s : ByteArray) (f : Nat) : PR := (PA s f .form 0 (bl s 0)).bind fun n a => if a < s.size then .err 20 a else .ok n a
theorem nxt_lt {s : ByteArray} {a : Nat} {t : List UInt8} (ha : a ≤ s.size) (ht : T s a = t) (hne : t ≠ []) : a < nxt s a ∧ nxt s a ≤ s.size := by
  have h := nxt_le ha
  have : 0 < (T s a).length := by rw [ht]; exact List.length_pos_iff.2 hne
  omega
theorem isNum_ne {t : List UInt8} (h : isNum t = true) : t ≠ [] := fun e => by rw [e] at h; cases h
/-- How far a kind of phrase stands from the next token that it must take. -/
def rank : NT → Nat
  | .form => 16 | .imp => 15 | .or => 14 | .orL _ => 13 | .and => 12 | .andL _ => 11 | .not => 10 | .cmp => 9 | .sum => 8 | .sumL _ => 7 | .una => 6 | .prim => 5 | .app _ _ => 17 | .word _ _ _ => 18
/-- An answer within the text. -/
def Within (s : ByteArray) (a : Nat) (strict : Bool) : PR → Prop
  | .ok _ a' => a ≤ a' ∧ (strict = true → a < a') ∧ a' ≤ s.size
  | .err _ _ => True
  | .out => False
def strictN : NT → Bool
  | .orL _ => false
  | .andL _ => false
  | .sumL _ => false
  | _ => true
theorem Within.bind {s : ByteArray} {a : Nat} {b c : Bool} {r : PR} {k : Nd → Nat → PR} (h : Within s a b r) (hk : ∀ t a', a ≤ a' → (b = true → a < a') → a' ≤ s.size → Within s a c (k t a')) : Within s a c (r.bind k) := by
  cases r with
  | ok t a' => exact hk t a' h.1 h.2.1 h.2.2
  | err e w => trivial
  | out => exact h
theorem Within.from {s : ByteArray} {a a0 : Nat} {b c : Bool} {r : PR} (h : Within s a b r) (h0 : a0 ≤ a) (hc : c = true → b = true ∨ a0 < a) : Within s a0 c r := by
  cases r with
  | ok t a' =>
    refine ⟨Nat.le_trans h0 h.1, fun e => ?_, h.2.2⟩
    rcases hc e with hb | hlt
    · exact Nat.lt_of_le_of_lt h0 (h.2.1 hb)
    · exact Nat.lt_of_lt_of_le hlt h.1
  | err e w => trivial
  | out => exact h
theorem Within.opn {s : ByteArray} {a o : Nat} {c : Bool} {r : PR} (h : Within s a c r) : Within s a c (opn o r) := by
  unfold Go.Proofs.YtgkjcimgghflmaaGreatDoor.opn
  split
  · trivial
  · exact h
theorem Within.want {s : ByteArray} {a a0 : Nat} {c : Bool} {t : List UInt8} {k : Nat → PR} (ha : a ≤ s.size) (ht : t ≠ []) (hk : a < nxt s a → nxt s a ≤ s.size → Within s a0 c (k (nxt s a))) : Within s a0 c (want s t a k) := by
  unfold Go.Proofs.YtgkjcimgghflmaaGreatDoor.want
  split
  · rename_i h
    have := nxt_lt ha h ht
    exact hk this.1 this.2
  · trivial
theorem Within.number {s : ByteArray} {a a0 : Nat} {c : Bool} {k : Nat → Nat → PR} (ha : a ≤ s.size) (ht : isNum (T s a) = true) (hk : ∀ n, a < nxt s a → nxt s a ≤ s.size → Within s a0 c (k n (nxt s a))) : Within s a0 c (number s a k) := by
  unfold Go.Proofs.YtgkjcimgghflmaaGreatDoor.number
  split
  · trivial
  · split
    · trivial
    · have := nxt_lt ha rfl (isNum_ne ht)
      exact hk _ this.1 this.2
theorem ok_within {s : ByteArray} {a a' : Nat} {c : Bool} {t : Nd} (h1 : a < a') (h2 : a' ≤ s.size) : Within s a c (.ok t a') := ⟨by omega, fun _ => h1, h2⟩
/-- Enough fuel for what is left of the text. -/
theorem enough (s : ByteArray) : ∀ (f : Nat) (nt : NT) (o a : Nat), a ≤ s.size → 32 * (s.size - a) + rank nt < f → Within s a (strictN nt) (PA s f nt o a) := by
  intro f
  induction f with
  | zero => intro nt o a _ h; omega
  | succ f ih =>
    intro nt o a ha hf
    have step : ∀ (nt' : NT) (o' a' : Nat), a ≤ a' → a' ≤ s.size → (a < a' ∨ rank nt' < rank nt) → Within s a' (strictN nt') (PA s f nt' o' a') := fun nt' o' a' h1 h2 h3 => ih nt' o' a' h2 (by
      have : rank nt' ≤ 18 := by cases nt' <;> simp [rank]
      rcases h3 with h3 | h3 <;> omega)
    cases nt with
    | form =>
      rw [PA]
      refine (step .imp o a (Nat.le_refl _) ha (.inr (by simp [rank]))).bind fun l a1 h1 h2 h3 => ?_
      have h2 := h2 rfl
      split
      · rename_i ht
        have hn := nxt_lt h3 ht (by decide)
        exact Within.opn ((step .form _ _ (by omega) hn.2 (.inl (by omega))).from (by omega) (fun _ => .inl rfl) |>.bind fun r a2 g1 g2 g3 => ok_within (g2 rfl) g3)
      · exact ok_within h2 h3
    | imp =>
      rw [PA]
      refine (step .or o a (Nat.le_refl _) ha (.inr (by simp [rank]))).bind fun l a1 h1 h2 h3 => ?_
      have h2 := h2 rfl
      split
      · rename_i ht
        have hn := nxt_lt h3 ht (by decide)
        exact Within.opn ((step .imp _ _ (by omega) hn.2 (.inl (by omega))).from (by omega) (fun _ => .inl rfl) |>.bind fun r a2 g1 g2 g3 => ok_within (g2 rfl) g3)
      · exact ok_within h2 h3
    | or =>
      rw [PA]
      refine (step .and o a (Nat.le_refl _) ha (.inr (by simp [rank]))).bind fun l a1 h1 h2 h3 => ?_
      have h2 := h2 rfl
      exact (step (.orL l) o a1 (by omega) h3 (.inl h2)).from (by omega) (fun _ => .inr h2)
    | orL l =>
      rw [PA]
      split
      · rename_i ht
        have hn := nxt_lt ha ht (by decide)
        refine ((step .and o _ (by omega) hn.2 (.inl hn.1)).from (by omega) (fun _ => .inl rfl) : Within s a true _).bind fun r a1 h1 h2 h3 => ?_
        have h2 := h2 rfl
        exact (step (.orL _) o a1 (by omega) h3 (.inl h2)).from (by omega) (fun e => by cases e)
      · exact ⟨Nat.le_refl _, fun e => (by cases e), ha⟩
    | and =>
      rw [PA]
      refine (step .not o a (Nat.le_refl _) ha (.inr (by simp [rank]))).bind fun l a1 h1 h2 h3 => ?_
      have h2 := h2 rfl
      exact (step (.andL l) o a1 (by omega) h3 (.inl h2)).from (by omega) (fun _ => .inr h2)
    | andL l =>
      rw [PA]
      split
      · rename_i ht
        have hn := nxt_lt ha ht (by decide)
        refine ((step .not o _ (by omega) hn.2 (.inl hn.1)).from (by omega) (fun _ => .inl rfl) : Within s a true _).bind fun r a1 h1 h2 h3 => ?_
        have h2 := h2 rfl
        exact (step (.andL _) o a1 (by omega) h3 (.inl h2)).from (by omega) (fun e => by cases e)
      · exact ⟨Nat.le_refl _, fun e => (by cases e), ha⟩
    | not =>
      rw [PA]
      split
      · rename_i ht
        have hn := nxt_lt ha ht (by decide)
        exact Within.opn ((step .not _ _ (by omega) hn.2 (.inl hn.1)).from (by omega) (fun _ => .inl rfl) |>.bind fun r a2 g1 g2 g3 => ok_within (g2 rfl) g3)
      · exact step .cmp o a (Nat.le_refl _) ha (.inr (by simp [rank]))
    | cmp =>
      rw [PA]
      refine (step .sum o a (Nat.le_refl _) ha (.inr (by simp [rank]))).bind fun l a1 h1 h2 h3 => ?_
      have h2 := h2 rfl
      split
      · rename_i ht
        have hn := nxt_lt h3 rfl (show T s a1 ≠ [] from fun e => by rw [e] at ht; exact absurd ht (by decide))
        exact ((step .sum o _ (by omega) hn.2 (.inl (by omega))).from (by omega) (fun _ => .inl rfl) : Within s a true _).bind fun r a2 g1 g2 g3 => ok_within (g2 rfl) g3
      · exact ok_within h2 h3
    | sum =>
      rw [PA]
      refine (step .una o a (Nat.le_refl _) ha (.inr (by simp [rank]))).bind fun l a1 h1 h2 h3 => ?_
      have h2 := h2 rfl
      exact (step (.sumL l) o a1 (by omega) h3 (.inl h2)).from (by omega) (fun _ => .inr h2)
    | sumL l =>
      rw [PA]
      split
      · rename_i ht
        have hn := nxt_lt ha ht (by decide)
        refine ((step .una o _ (by omega) hn.2 (.inl hn.1)).from (by omega) (fun _ => .inl rfl) : Within s a true _).bind fun r a1 h1 h2 h3 => ?_
        have h2 := h2 rfl
        exact (step (.sumL _) o a1 (by omega) h3 (.inl h2)).from (by omega) (fun e => by cases e)
      · split
        · rename_i ht
          have hn := nxt_lt ha ht (by decide)
          refine ((step .una o _ (by omega) hn.2 (.inl hn.1)).from (by omega) (fun _ => .inl rfl) : Within s a true _).bind fun r a1 h1 h2 h3 => ?_
          have h2 := h2 rfl
          exact (step (.sumL _) o a1 (by omega) h3 (.inl h2)).from (by omega) (fun e => by cases e)
        · exact ⟨Nat.le_refl _, fun e => (by cases e), ha⟩
    | una =>
      rw [PA]
      split
      · rename_i ht
        have hn := nxt_lt ha ht (by decide)
        split
        · rename_i hu
          exact Within.number hn.2 hu.1 fun n g1 g2 => ok_within (by omega) g2
        · exact Within.opn ((step .una _ _ (by omega) hn.2 (.inl hn.1)).from (by omega) (fun _ => .inl rfl) |>.bind fun r a2 g1 g2 g3 => ok_within (g2 rfl) g3)
      · split
        · rename_i hu
          refine Within.number ha hu fun n g1 g2 => ?_
          split
          · rename_i ht
            have hn := nxt_lt g2 ht (by decide)
            exact Within.opn ((step .una _ _ (by omega) hn.2 (.inl (by omega))).from (by omega) (fun _ => .inl rfl) |>.bind fun r a2 k1 k2 k3 => ok_within (k2 rfl) k3)
          · exact ok_within g1 g2
        · exact step .prim o a (Nat.le_refl _) ha (.inr (by simp [rank]))
    | prim =>
      rw [PA]
      split
      · rename_i ht
        have hn := nxt_lt ha ht (by decide)
        exact Within.opn (((step .form _ _ (by omega) hn.2 (.inl hn.1)).from (by omega) (fun _ => .inl rfl) : Within s a true _).bind fun k a1 h1 h2 h3 => Within.want h3 (by decide) fun g1 g2 => ok_within (by omega) g2)
      · split
        · rename_i ht
          have hn := nxt_lt ha ht (by decide)
          exact ok_within hn.1 hn.2
        · split
          · rename_i ht
            have hn := nxt_lt ha ht (by decide)
            exact ok_within hn.1 hn.2
          · split
            · rename_i ht
              have hn := nxt_lt ha ht (by decide)
              exact ok_within hn.1 hn.2
            · split
              · rename_i op n hw
                have hne : T s a ≠ [] := fun e => by rw [e] at hw; cases hw
                have hn := nxt_lt ha rfl hne
                exact Within.want hn.2 (by decide) fun g1 g2 => Within.opn ((step (.word op n []) _ _ (by omega) g2 (.inl (by omega))).from (by omega) (fun _ => .inl rfl))
              · split
                · rename_i hb
                  have hne : T s a ≠ [] := fun e => by rw [e] at hb; exact absurd hb (by decide)
                  have hn := nxt_lt ha rfl hne
                  split
                  · rename_i h40
                    have hn2 := nxt_lt hn.2 h40 (by decide)
                    refine Within.opn ?_
                    split
                    · rename_i h41
                      have hn3 := nxt_lt hn2.2 h41 (by decide)
                      exact ok_within (by omega) hn3.2
                    · exact (step (.app _ []) _ _ (by omega) hn2.2 (.inl (by omega))).from (by omega) (fun _ => .inl rfl)
                  · exact ok_within hn.1 hn.2
                · trivial
    | app nm ks =>
      rw [PA]
      split
      · trivial
      · refine (step .form o a (Nat.le_refl _) ha (.inr (by simp [rank]))).bind fun k a1 h1 h2 h3 => ?_
        have h2 := h2 rfl
        split
        · rename_i ht
          have hn := nxt_lt h3 ht (by decide)
          exact (step (.app nm _) o _ (by omega) hn.2 (.inl (by omega))).from (by omega) (fun _ => .inl rfl)
        · exact Within.want h3 (by decide) fun g1 g2 => ok_within (by omega) g2
    | word op n ks =>
      rw [PA]
      split
      · exact Within.want ha (by decide) fun g1 g2 => ok_within g1 g2
      · split
        · refine (step .form o a (Nat.le_refl _) ha (.inr (by simp [rank]))).bind fun k a1 h1 h2 h3 => ?_
          have h2 := h2 rfl
          exact (step (.word op n _) o a1 (by omega) h3 (.inl h2)).from (by omega) (fun _ => .inl rfl)
        · refine Within.want ha (by decide) fun g1 g2 => ?_
          refine ((step .form o _ (by omega) g2 (.inl g1)).from (by omega) (fun _ => .inl rfl) : Within s a true _).bind fun k a1 h1 h2 h3 => ?_
          have h2 := h2 rfl
          exact (step (.word op n _) o a1 (by omega) h3 (.inl h2)).from (by omega) (fun _ => .inl rfl)
end Go.Proofs.YtgkjcimgghflmaaGreatDoor
