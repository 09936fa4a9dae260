/-
  The token at a position of a text, and what the document's own token returns; conditions: none but that the text is no longer than a string can be.
-/
import Derived.Test.YtgkjcimgghflmaaGreatDoorYTxt
import Derived.Test.YtgkjcimgghflmaaGreatDoorYFns
namespace Go.Proofs.YtgkjcimgghflmaaGreatDoor
open Go.RowKit Go.Shelf
def blankC (c : UInt8) : Bool := c == 32 || (c == 9 || c == 10)
/-- How many bytes of blanks and comments stand at a list's head; the flag: within a comment. -/
def skipN : Bool → List UInt8 → Nat
  | _, [] => 0
  | true, c :: l => if c = 10 then 1 + skipN false l else 1 + skipN true l
  | false, c :: l => if c = 35 then 1 + skipN true l else if blankC c = true then 1 + skipN false l else 0
def lst (s : ByteArray) : List UInt8 := s.data.toList
theorem lst_len (s : ByteArray) : (lst s).length = s.size := by unfold lst; rw [Array.length_toList]; rfl
theorem lst_get (s : ByteArray) (k : Nat) (h : k < s.size) : (lst s)[k]'(by rw [lst_len]; exact h) = s[k] := rfl
theorem drop_cons (s : ByteArray) (k : Nat) (h : k < s.size) : (lst s).drop k = s[k] :: (lst s).drop (k + 1) := by
  rw [List.drop_eq_getElem_cons (by rw [lst_len]; exact h), lst_get s k h]
theorem drop_nil (s : ByteArray) (k : Nat) (h : s.size ≤ k) : (lst s).drop k = [] := List.drop_of_length_le (by rw [lst_len]; exact h)
/-- The position behind blanks and comments; ln: from within a comment. -/
def bl (s : ByteArray) (k : Nat) : Nat := k + skipN false ((lst s).drop k)
def ln (s : ByteArray) (k : Nat) : Nat := k + skipN true ((lst s).drop k)
theorem bl_end {s : ByteArray} {k : Nat} (h : s.size ≤ k) : bl s k = k := by unfold bl; rw [drop_nil s k h]; rfl
theorem ln_end {s : ByteArray} {k : Nat} (h : s.size ≤ k) : ln s k = k := by unfold ln; rw [drop_nil s k h]; rfl
theorem bl_hash {s : ByteArray} {k : Nat} (h : k < s.size) (hc : s[k] = 35) : bl s k = ln s k := by
  unfold bl ln; rw [drop_cons s k h, skipN, skipN, if_pos hc, if_neg (by rw [hc]; decide)]
theorem bl_blank {s : ByteArray} {k : Nat} (h : k < s.size) (hc : blankC s[k] = true) : bl s k = bl s (k + 1) := by
  have h35 : s[k] ≠ 35 := fun e => by rw [e] at hc; cases hc
  unfold bl; rw [drop_cons s k h, skipN, if_neg h35, if_pos hc]; omega
theorem bl_stop {s : ByteArray} {k : Nat} (h : k < s.size) (h1 : s[k] ≠ 35) (h2 : blankC s[k] = false) : bl s k = k := by
  unfold bl; rw [drop_cons s k h, skipN, if_neg h1, if_neg (by rw [h2]; decide)]; rfl
theorem ln_go {s : ByteArray} {k : Nat} (h : k < s.size) (hc : s[k] ≠ 10) : ln s k = ln s (k + 1) := by
  unfold ln; rw [drop_cons s k h, skipN, if_neg hc]; omega
theorem ln_stop {s : ByteArray} {k : Nat} (h : k < s.size) (hc : s[k] = 10) : ln s k = bl s k := by
  unfold ln bl; rw [drop_cons s k h, skipN, skipN, if_pos hc, if_neg (by rw [hc]; decide), if_pos (by rw [hc]; decide)]
theorem u8_eq {c : UInt8} {n : Nat} (hn : n < 256) : ((c.toNat : Int) == (n : Int)) = (c == UInt8.ofNat n) := by
  rw [Bool.eq_iff_iff]
  simp only [beq_iff_eq]
  constructor
  · intro h
    have : c.toNat = n := by omega
    rw [← this]; simp
  · intro h
    rw [h]; simp; omega
theorem blankC_iff (c : UInt8) : blankC c = true ↔ ((c.toNat : Int) = 32 ∨ (c.toNat : Int) = 9 ∨ (c.toNat : Int) = 10) := by
  have e : ∀ n : Nat, n < 256 → (c = UInt8.ofNat n ↔ (c.toNat : Int) = n) := fun n hn => by
    have := u8_eq (c := c) hn
    rw [Bool.eq_iff_iff] at this
    simp only [beq_iff_eq] at this
    exact this.symm
  unfold blankC
  simp only [Bool.or_eq_true, beq_iff_eq]
  rw [show (32 : UInt8) = UInt8.ofNat 32 from rfl, show (9 : UInt8) = UInt8.ofNat 9 from rfl, show (10 : UInt8) = UInt8.ofNat 10 from rfl, e 32 (by omega), e 9 (by omega), e 10 (by omega)]
  rfl
theorem u8_num (c : UInt8) (n : Nat) (hn : n < 256) : c = UInt8.ofNat n ↔ (c.toNat : Int) = n := by
  have := u8_eq (c := c) hn
  rw [Bool.eq_iff_iff] at this
  simp only [beq_iff_eq] at this
  exact this.symm
end Go.Proofs.YtgkjcimgghflmaaGreatDoor
namespace Go.Proofs.YtgkjcimgghflmaaGreatDoor
open Go.RowKit Go.Shelf
def signL : List (List UInt8) := [[60, 61, 62], [61, 62], [60, 61], [62, 61], [33, 61], [38, 38], [124, 124], [40], [41], [44], [43], [45], [42], [61], [60], [62], [33]]
/-- The sign that stands at a list's head, the longest that fits. -/
def sgnAt (l : List UInt8) : List UInt8 := (signL.find? fun t => t.isPrefixOf l).getD []
theorem find_at {α : Type} {p : α → Bool} : ∀ {l : List α} {k : Nat} (h : k < l.length), (∀ j (hj : j < l.length), j < k → p l[j] = false) → p l[k] = true → l.find? p = some l[k]
  | a :: l, 0, _, _, hp => by
    have h0 : p a = true := hp
    rw [List.find?_cons, h0]; rfl
  | a :: l, k + 1, h, hn, hp => by
    have h0 : p a = false := hn 0 (by simp) (by omega)
    rw [List.find?_cons, h0]
    exact find_at (by simpa using h) (fun j hj hjk => hn (j + 1) (by simpa using hj) (by omega)) hp
theorem find_none' {α : Type} {p : α → Bool} {l : List α} (hn : ∀ j (hj : j < l.length), p l[j] = false) : l.find? p = none := by
  rw [List.find?_eq_none]
  intro x hx
  obtain ⟨i, hi, rfl⟩ := List.getElem_of_mem hx
  rw [hn i hi]; decide
theorem bs_back' (b : ByteArray) : bs b.data.toList = b := by cases b; simp [bs]
theorem extract_bs (s : ByteArray) (a b : Nat) : s.extract a b = bs (((lst s).drop a).take (b - a)) := by
  rw [← bs_back' (s.extract a b), Lib.extract_data]; rfl
theorem bs_toList (l : List UInt8) : (bs l).toList = l := by rw [ByteArray.toList_eq]; simp [bs]
theorem take_prefix {t l : List UInt8} : (l.take t.length == t) = t.isPrefixOf l := by
  rw [Bool.eq_iff_iff, beq_iff_eq, List.isPrefixOf_iff_prefix, List.prefix_iff_eq_take]
  exact ⟨fun h => h.symm, fun h => h.symm⟩
theorem no_prefix {t l : List UInt8} (h : l.length < t.length) : t.isPrefixOf l = false := by
  rw [← Bool.not_eq_true, List.isPrefixOf_iff_prefix]
  intro hp
  have := hp.length_le
  omega
def signCs : Array Value := #[.string ⟨#[60, 61, 62]⟩, .string ⟨#[61, 62]⟩, .string ⟨#[60, 61]⟩, .string ⟨#[62, 61]⟩, .string ⟨#[33, 61]⟩, .string ⟨#[38, 38]⟩, .string ⟨#[124, 124]⟩, .string ⟨#[40]⟩, .string ⟨#[41]⟩, .string ⟨#[44]⟩, .string ⟨#[43]⟩, .string ⟨#[45]⟩, .string ⟨#[42]⟩, .string ⟨#[61]⟩, .string ⟨#[60]⟩, .string ⟨#[62]⟩, .string ⟨#[33]⟩]
end Go.Proofs.YtgkjcimgghflmaaGreatDoor
namespace Go.Proofs.YtgkjcimgghflmaaGreatDoor
open Go.RowKit Go.Shelf
def nmC (c : UInt8) : Bool := okC c.toNat
def dgC (c : UInt8) : Bool := digB c.toNat
/-- The token at a list's head: empty at the end or at another byte. -/
def tokL : List UInt8 → List UInt8
  | [] => []
  | c :: l => if letB c.toNat = true then (c :: l).takeWhile nmC else if digB c.toNat = true then (c :: l).takeWhile dgC else sgnAt (c :: l)
/-- The token at a position. -/
def T (s : ByteArray) (a : Nat) : List UInt8 := tokL ((lst s).drop a)
theorem takeWhile_at {p : UInt8 → Bool} : ∀ {l : List UInt8} {n : Nat}, n ≤ l.length → (∀ j (h : j < l.length), j < n → p l[j] = true) → (n = l.length ∨ ∃ h : n < l.length, p l[n] = false) → l.takeWhile p = l.take n
  | [], n, h, _, _ => by simp
  | c :: l, 0, _, _, he => by
    rcases he with h | ⟨h, e⟩
    · simp at h
    · have : p c = false := e
      simp [this]
  | c :: l, n + 1, h, hp, he => by
    have h0 : p c = true := hp 0 (by simp) (by omega)
    have := takeWhile_at (p := p) (l := l) (n := n) (by simpa using h) (fun j hj hjn => hp (j + 1) (by simpa using hj) (by omega)) (by
      rcases he with h | ⟨h, e⟩
      · exact .inl (by simpa using h)
      · exact .inr ⟨by simpa using h, e⟩)
    simp [h0, this]
theorem T_end {s : ByteArray} {a : Nat} (h : s.size ≤ a) : T s a = [] := by unfold T; rw [drop_nil s a h]; rfl
theorem T_name {s : ByteArray} {a : Nat} (h : a < s.size) (hl : letB s[a].toNat = true) : T s a = ((lst s).drop a).takeWhile nmC := by
  unfold T; rw [drop_cons s a h, tokL, if_pos hl]
theorem T_num {s : ByteArray} {a : Nat} (h : a < s.size) (hl : letB s[a].toNat = false) (hd : digB s[a].toNat = true) : T s a = ((lst s).drop a).takeWhile dgC := by
  unfold T; rw [drop_cons s a h, tokL, if_neg (by rw [hl]; decide), if_pos hd]
theorem T_sign {s : ByteArray} {a : Nat} (h : a < s.size) (hl : letB s[a].toNat = false) (hd : digB s[a].toNat = false) : T s a = sgnAt ((lst s).drop a) := by
  unfold T; rw [drop_cons s a h, tokL, if_neg (by rw [hl]; decide), if_neg (by rw [hd]; decide)]
end Go.Proofs.YtgkjcimgghflmaaGreatDoor
