/-
  The token at a position of a text, and what the document's own token returns; conditions: none but that the text is no longer than a string can be.
-/
import Derived.Test.YtgkjcimgghflmaaGreatDoorZTxt
import Derived.Test.YtgkjcimgghflmaaGreatDoorZRefWords
namespace Go.Proofs.YtgkjcimgghflmaaGreatDoor
set_option maxRecDepth 100000
set_option maxHeartbeats 8000000
open Go.RowKit Go.Shelf
def blankC (c : UInt8) : Bool := c == 32 || (c == 9 || c == 10)
def skipN : Bool → List UInt8 → Nat
 | _, [] => 0
 | true, c :: l => if c = 10 then 1 + skipN false l else 1 + skipN true l
 | false, c :: l => if c = 35 then 1 + skipN true l else if blankC c = true then 1 + skipN false l else 0
def lst (s : ByteArray) : List UInt8 := s.data.toList
theorem lst_len (s : ByteArray) : (lst s).length = s.size := by unfold lst; rw [Array.length_toList]; rfl
theorem lst_get (s : ByteArray) (k : Nat) (h : k < s.size) : (lst s)[k]'(by rw [lst_len]; exact h) = s[k] := rfl
theorem drop_cons (s : ByteArray) (k : Nat) (h : k < s.size) : (lst s).drop k = s[k] :: (lst s).drop (k + 1) := by
 rw [List.drop_eq_getElem_cons (by rw [lst_len]; exact h), lst_get s k h]
theorem drop_nil (s : ByteArray) (k : Nat) (h : s.size ≤ k) : (lst s).drop k = [] := List.drop_of_length_le (by rw [lst_len]; exact h)
def bl (s : ByteArray) (k : Nat) : Nat := k + skipN false ((lst s).drop k)
def ln (s : ByteArray) (k : Nat) : Nat := k + skipN true ((lst s).drop k)
theorem bl_end {s : ByteArray} {k : Nat} (h : s.size ≤ k) : bl s k = k := by unfold bl; rw [drop_nil s k h]; rfl
theorem ln_end {s : ByteArray} {k : Nat} (h : s.size ≤ k) : ln s k = k := by unfold ln; rw [drop_nil s k h]; rfl
theorem bl_hash {s : ByteArray} {k : Nat} (h : k < s.size) (hc : s[k] = 35) : bl s k = ln s k := by
 unfold bl ln; rw [drop_cons s k h, skipN, skipN, if_pos hc, if_neg (by rw [hc]; decide)]
theorem bl_blank {s : ByteArray} {k : Nat} (h : k < s.size) (hc : blankC s[k] = true) : bl s k = bl s (k + 1) := by
 have h35 : s[k] ≠ 35 := fun e => by rw [e] at hc; cases hc
 unfold bl; rw [drop_cons s k h, skipN, if_neg h35, if_pos hc]; omega
theorem bl_stop {s : ByteArray} {k : Nat} (h : k < s.size) (h1 : s[k] ≠ 35) (h2 : blankC s[k] = false) : bl s k = k := by
 unfold bl; rw [drop_cons s k h, skipN, if_neg h1, if_neg (by rw [h2]; decide)]; rfl
theorem ln_go {s : ByteArray} {k : Nat} (h : k < s.size) (hc : s[k] ≠ 10) : ln s k = ln s (k + 1) := by
 unfold ln; rw [drop_cons s k h, skipN, if_neg hc]; omega
theorem ln_stop {s : ByteArray} {k : Nat} (h : k < s.size) (hc : s[k] = 10) : ln s k = bl s k := by
 unfold ln bl; rw [drop_cons s k h, skipN, skipN, if_pos hc, if_neg (by rw [hc]; decide), if_pos (by rw [hc]; decide)]
theorem u8_eq {c : UInt8} {n : Nat} (hn : n < 256) : ((c.toNat : Int) == (n : Int)) = (c == UInt8.ofNat n) := by
 rw [Bool.eq_iff_iff]
 simp only [beq_iff_eq]
 constructor
 ·intro h
  have : c.toNat = n := by omega
  rw [← this]; simp
 ·intro h
  rw [h]; simp; omega
theorem blankC_iff (c : UInt8) : blankC c = true ↔ ((c.toNat : Int) = 32 ∨ (c.toNat : Int) = 9 ∨ (c.toNat : Int) = 10) := by
 have e : ∀ n : Nat, n < 256 → (c = UInt8.ofNat n ↔ (c.toNat : Int) = n) := fun n hn => by
  have := u8_eq (c := c) hn
  rw [Bool.eq_iff_iff] at this
  simp only [beq_iff_eq] at this
  exact this.symm
 unfold blankC
 simp only [Bool.or_eq_true, beq_iff_eq]
 rw [show (32 : UInt8) = UInt8.ofNat 32 from rfl, show (9 : UInt8) = UInt8.ofNat 9 from rfl, show (10 : UInt8) = UInt8.ofNat 10 from rfl, e 32 (by omega), e 9 (by omega), e 10 (by omega)]
 rfl
theorem u8_num (c : UInt8) (n : Nat) (hn : n < 256) : c = UInt8.ofNat n ↔ (c.toNat : Int) = n := by
 have := u8_eq (c := c) hn
 rw [Bool.eq_iff_iff] at this
 simp only [beq_iff_eq] at this
 exact this.symm
theorem refBlank_any (s : ByteArray) (a : Nat) (ha : a ≤ s.size) (hs : s.size ≤ 9223372036854775806) (w : World) :
  Calls Tryz.prog 20 #[.string s, .int .i64 a] w fun e w' => e = .returned (.int .i64 (bl s a)) ∧ w = w' := by
 go_enter Tryz.func20, Tryz.ntmps20
 go_wp2_with fail
 go_loop [1] (fun i => ∃ k : Nat, k ≤ s.size ∧ i = .int .i64 k ∧ Hid (bl s k = bl s a)) (fun i => s.size - (intOf i).toNat)
 case atStart => exact ⟨a, ha, rfl, rfl⟩
 case round =>
  obtain ⟨k, hk, rfl, hb⟩ := hrel
  by_cases hlt : k < s.size
  ·by_cases h35 : (s[k].toNat : Int) = 35
   ·have e35 : ((s[k].toNat : Int) == 35) = true := by simpa using h35
    have hl := Lib.hid ((bl_hash hlt ((u8_num s[k] 35 (by omega)).2 h35)).symm.trans hb.out)
    clear hb
    go_wp2_with fail
    go_loop [1] (fun i => ∃ k' : Nat, k ≤ k' ∧ k' ≤ s.size ∧ i = .int .i64 k' ∧ Hid (ln s k' = bl s a)) (fun i => s.size - (intOf i).toNat)
    case atStart => exact ⟨k, Nat.le_refl _, hk, rfl, hl⟩
    case round =>
     obtain ⟨k', hk1, hk2, rfl, hb⟩ := hrel
     by_cases hlt' : k' < s.size
     ·by_cases h10 : (s[k'].toNat : Int) = 10
      ·have e10 : ((s[k'].toNat : Int) != 10) = false := by simpa using h10
       have hl2 := Lib.hid ((ln_stop hlt' ((u8_num s[k'] 10 (by omega)).2 h10)).symm.trans hb.out)
       have hne : k < k' := by
        rcases Nat.lt_or_ge k k' with h | h
        ·exact h
        ·obtain rfl : k = k' := by omega
         omega
       clear hb e35 h35 hl h10
       go_wp2_with fail
       go_round
       case rel => exact ⟨k', by omega, by go_num, hl2⟩
       case measure => simp [intOf]; omega
      ·have e10 : ((s[k'].toNat : Int) != 10) = true := by simpa using h10
       have hl2 := Lib.hid ((ln_go hlt' (fun e => h10 ((u8_num s[k'] 10 (by omega)).1 e))).symm.trans hb.out)
       clear hb e35 h35 hl h10
       go_wp2_with fail
       go_round
       case rel => exact ⟨k' + 1, by omega, by omega, by go_num, hl2⟩
       case measure => simp [intOf]; omega
     ·obtain rfl : k' = s.size := by omega
      have hl2 := Lib.hid (((bl_end (Nat.le_refl s.size)).trans (ln_end (Nat.le_refl s.size)).symm).trans hb.out)
      clear hb e35 h35 hl
      go_wp2_with fail
      go_round
      case rel => exact ⟨s.size, by omega, by go_num, hl2⟩
      case measure => simp [intOf]; omega
   ·have e35 : ((s[k].toNat : Int) == 35) = false := by simpa using h35
    have n35 : s[k] ≠ 35 := fun e => h35 ((u8_num s[k] 35 (by omega)).1 e)
    cases hbc : blankC s[k]
    case false =>
     have hst := bl_stop hlt n35 hbc
     have hnb : ¬ ((s[k].toNat : Int) = 32 ∨ (s[k].toNat : Int) = 9 ∨ (s[k].toNat : Int) = 10) := fun h => by rw [(blankC_iff _).2 h] at hbc; cases hbc
     have e1 : ((s[k].toNat : Int) != 32) = true := by simpa using fun e => hnb (.inl e)
     have e2 : ((s[k].toNat : Int) != 9) = true := by simpa using fun e => hnb (.inr (.inl e))
     have e3 : ((s[k].toNat : Int) != 10) = true := by simpa using fun e => hnb (.inr (.inr e))
     have hv := Lib.hid (hst.symm.trans hb.out)
     clear hb h35 n35 hbc hst hnb
     go_wp2_with fail
     go_ret
     exact ⟨by rw [← hv.out]; rfl, rfl⟩
    case true =>
     have hst := Lib.hid ((bl_blank hlt hbc).symm.trans hb.out)
     have hyb := (blankC_iff _).1 hbc
     have key : ((s[k].toNat : Int) != 32) = false ∨ ((s[k].toNat : Int) != 32) = true ∧ (((s[k].toNat : Int) != 9) = false ∨ ((s[k].toNat : Int) != 9) = true ∧ ((s[k].toNat : Int) != 10) = false) := by
      by_cases e1 : (s[k].toNat : Int) = 32
      ·exact .inl (by simpa using e1)
      ·refine .inr ⟨by simpa using e1, ?_⟩
       by_cases e2 : (s[k].toNat : Int) = 9
       ·exact .inl (by simpa using e2)
       ·exact .inr ⟨by simpa using e2, by simpa using (hyb.resolve_left e1).resolve_left e2⟩
     clear hb h35 n35 hbc hyb
     rcases key with e1 | ⟨e1, e2 | ⟨e2, e3⟩⟩
     all_goals
      go_wp2_with fail
      go_round
      case rel => exact ⟨k + 1, by omega, by go_num, hst⟩
      case measure => simp [intOf]; omega
  ·obtain rfl : k = s.size := by omega
   have hv := Lib.hid ((bl_end (Nat.le_refl s.size)).symm.trans hb.out)
   clear hb
   go_wp2_with fail
   go_ret
   exact ⟨by rw [← hv.out]; rfl, rfl⟩
end Go.Proofs.YtgkjcimgghflmaaGreatDoor
namespace Go.Proofs.YtgkjcimgghflmaaGreatDoor
set_option maxRecDepth 100000
set_option maxHeartbeats 8000000
open Go.RowKit Go.Shelf
def signL : List (List UInt8) := [[60, 61, 62], [61, 62], [60, 61], [62, 61], [33, 61], [38, 38], [124, 124], [40], [41], [44], [43], [45], [42], [61], [60], [62], [33]]
def sgnAt (l : List UInt8) : List UInt8 := (signL.find? fun t => t.isPrefixOf l).getD []
theorem signL_len {k : Nat} (h : k < signL.length) : 1 ≤ signL[k].length ∧ signL[k].length ≤ 3 := by
 have : ∀ t ∈ signL, 1 ≤ t.length ∧ t.length ≤ 3 := by decide
 exact this _ (List.getElem_mem h)
theorem find_at {α : Type} {p : α → Bool} : ∀ {l : List α} {k : Nat} (h : k < l.length), (∀ j (hj : j < l.length), j < k → p l[j] = false) → p l[k] = true → l.find? p = some l[k]
 | a :: l, 0, _, _, hp => by
  have h0 : p a = true := hp
  rw [List.find?_cons, h0]; rfl
 | a :: l, k + 1, h, hn, hp => by
  have h0 : p a = false := hn 0 (by simp) (by omega)
  rw [List.find?_cons, h0]
  exact find_at (by simpa using h) (fun j hj hjk => hn (j + 1) (by simpa using hj) (by omega)) hp
theorem find_none' {α : Type} {p : α → Bool} {l : List α} (hn : ∀ j (hj : j < l.length), p l[j] = false) : l.find? p = none := by
 rw [List.find?_eq_none]
 intro x hx
 obtain ⟨i, hi, rfl⟩ := List.getElem_of_mem hx
 rw [hn i hi]; decide
theorem bs_back' (b : ByteArray) : bs b.data.toList = b := by cases b; simp [bs]
theorem extract_bs (s : ByteArray) (a b : Nat) : s.extract a b = bs (((lst s).drop a).take (b - a)) := by
 rw [← bs_back' (s.extract a b), Lib.extract_data]; rfl
theorem bs_toList (l : List UInt8) : (bs l).toList = l := by rw [ByteArray.toList_eq]; simp [bs]
theorem take_prefix {t l : List UInt8} : (l.take t.length == t) = t.isPrefixOf l := by
 rw [Bool.eq_iff_iff, beq_iff_eq, List.isPrefixOf_iff_prefix, List.prefix_iff_eq_take]
 exact ⟨fun h => h.symm, fun h => h.symm⟩
theorem no_prefix {t l : List UInt8} (h : l.length < t.length) : t.isPrefixOf l = false := by
 rw [← Bool.not_eq_true, List.isPrefixOf_iff_prefix]
 intro hp
 have := hp.length_le
 omega
def signCs : Array Value := #[.string ⟨#[60, 61, 62]⟩, .string ⟨#[61, 62]⟩, .string ⟨#[60, 61]⟩, .string ⟨#[62, 61]⟩, .string ⟨#[33, 61]⟩, .string ⟨#[38, 38]⟩, .string ⟨#[124, 124]⟩, .string ⟨#[40]⟩, .string ⟨#[41]⟩, .string ⟨#[44]⟩, .string ⟨#[43]⟩, .string ⟨#[45]⟩, .string ⟨#[42]⟩, .string ⟨#[61]⟩, .string ⟨#[60]⟩, .string ⟨#[62]⟩, .string ⟨#[33]⟩]
theorem sign_cell : ∀ k (h : k < signL.length), signCs[k]? = some (.string (bs signL[k])) := by
 intro k h
 match k, h with
 | 0, _ => rfl
 | 1, _ => rfl
 | 2, _ => rfl
 | 3, _ => rfl
 | 4, _ => rfl
 | 5, _ => rfl
 | 6, _ => rfl
 | 7, _ => rfl
 | 8, _ => rfl
 | 9, _ => rfl
 | 10, _ => rfl
 | 11, _ => rfl
 | 12, _ => rfl
 | 13, _ => rfl
 | 14, _ => rfl
 | 15, _ => rfl
 | 16, _ => rfl
 | k + 17, h => exact absurd h (by simp [signL])
theorem refSign_any (s : ByteArray) (a : Nat) (ha : a ≤ s.size) (hs : s.size ≤ 9223372036854775000) (w : World) :
  Calls Tryz.prog 130 #[.string s, .int .i64 a] w fun e w' => e = .returned (.string (bs (sgnAt ((lst s).drop a)))) ∧ Below w.heap.size w w' := by
 have hlen : ((lst s).drop a).length = s.size - a := by rw [List.length_drop, lst_len]
 have hfold : (#[.string ⟨#[60, 61, 62]⟩, .string ⟨#[61, 62]⟩, .string ⟨#[60, 61]⟩, .string ⟨#[62, 61]⟩, .string ⟨#[33, 61]⟩, .string ⟨#[38, 38]⟩, .string ⟨#[124, 124]⟩, .string ⟨#[40]⟩, .string ⟨#[41]⟩, .string ⟨#[44]⟩, .string ⟨#[43]⟩, .string ⟨#[45]⟩, .string ⟨#[42]⟩, .string ⟨#[61]⟩, .string ⟨#[60]⟩, .string ⟨#[62]⟩, .string ⟨#[33]⟩] : Array Value) = signCs := rfl
 go_enter Tryz.func130, Tryz.ntmps130
 go_wp2_with fail
 clear hfold
 have hc : ∀ k (h : k < signL.length), (w.alloc (.cells signCs 9)).cell? ⟨w.heap.size, k, none⟩ = some (.string (bs signL[k])) := fun k h => by
  rw [Lib.cell_of_heap (World.alloc_heap_new w (.cells signCs 9)), sign_cell k h]
 have HC := Lib.hid hc
 have HB := Lib.hid (show Below w.heap.size w (w.alloc (.cells signCs 9)) from (Below.refl _ _).alloc (Nat.le_refl _) _)
 clear hc
 generalize w.alloc (.cells signCs 9) = W at *
 go_loop [9] (fun i => ∃ k : Nat, k ≤ 17 ∧ i = .int .i64 k ∧ Hid (∀ j (h : j < signL.length), j < k → signL[j].isPrefixOf ((lst s).drop a) = false)) (fun i => 17 - (intOf i).toNat)
 case atStart => exact ⟨0, by omega, rfl, fun j _ hj => absurd hj (by omega)⟩
 case round =>
  obtain ⟨k, hk, rfl, hj⟩ := hrel
  by_cases hlt : k < 17
  ·have hx := HC.out k hlt
   have hl := signL_len (k := k) hlt
   have hsn := Lib.hid (fun (e : (signL[k]'hlt).isPrefixOf ((lst s).drop a) = false) => (show Hid (∀ j (h : j < signL.length), j < k + 1 → signL[j].isPrefixOf ((lst s).drop a) = false) from fun j hjs hjk => by
    by_cases e' : j = k
    ·subst e'; exact e
    ·exact hj.out j hjs (by omega)))
   have hyes := Lib.hid (fun (e : (signL[k]'hlt).isPrefixOf ((lst s).drop a) = true) => show sgnAt ((lst s).drop a) = signL[k]'hlt by unfold sgnAt; rw [find_at hlt hj.out e]; rfl)
   have hz : (bs (signL[k]'hlt)).size = (signL[k]'hlt).length := by simp [bs, ByteArray.size]
   have hex := extract_bs s a (a + (signL[k]'hlt).length)
   rw [show a + (signL[k]'hlt).length - a = (signL[k]'hlt).length by omega] at hex
   have htk := take_prefix (t := signL[k]'hlt) (l := (lst s).drop a)
   have hnp := no_prefix (t := signL[k]'hlt) (l := (lst s).drop a)
   rw [hlen] at hnp
   generalize signL[k]'hlt = t at *
   clear hj HC
   have hbeq : ((s.extract a (a + t.length)).toList == (bs t).toList) = t.isPrefixOf ((lst s).drop a) := by rw [hex, bs_toList, bs_toList, htk]
   by_cases hfit : t.length ≤ s.size - a
   ·cases hp : t.isPrefixOf ((lst s).drop a)
    case false =>
     have Hn := hsn.out hp
     rw [hp] at hbeq
     clear hp hsn hyes hex htk hnp
     rw [← hz] at hbeq hfit hl
     generalize bs t = bt at *
     clear hz
     go_wp2_with fail
     go_round
     case rel => exact ⟨k + 1, by omega, by go_num, Hn⟩
     case measure => simp [intOf]; omega
    case true =>
     have Hy := Lib.hid (show bs (sgnAt ((lst s).drop a)) = bs t by rw [hyes.out hp])
     rw [hp] at hbeq
     clear hp hsn hyes hex htk hnp
     rw [← hz] at hbeq hfit hl
     generalize bs t = bt at *
     clear hz
     go_wp2_with fail
     go_ret
     exact ⟨by rw [Hy.out]; rfl, HB.out⟩
   ·have Hn := hsn.out (hnp (by omega))
    clear hsn hyes hex htk hnp hbeq
    rw [← hz] at hfit hl
    generalize bs t = bt at *
    clear hz
    go_wp2_with fail
    go_round
    case rel => exact ⟨k + 1, by omega, by go_num, Hn⟩
    case measure => simp [intOf]; omega
  ·obtain rfl : k = 17 := by omega
   have Hy := Lib.hid (show bs (sgnAt ((lst s).drop a)) = ⟨#[]⟩ by
    unfold sgnAt; rw [find_none' fun j hj' => hj.out j hj' (by simpa [signL] using hj')]; rfl)
   clear hj HC
   go_wp2_with fail
   go_ret
   exact ⟨by rw [Hy.out]; rfl, HB.out⟩
end Go.Proofs.YtgkjcimgghflmaaGreatDoor
namespace Go.Proofs.YtgkjcimgghflmaaGreatDoor
set_option maxRecDepth 100000
set_option maxHeartbeats 8000000
open Go.RowKit Go.Shelf
def nmC (c : UInt8) : Bool := okC c.toNat
def dgC (c : UInt8) : Bool := digB c.toNat
def tokL : List UInt8 → List UInt8
 | [] => []
 | c :: l => if letB c.toNat = true then (c :: l).takeWhile nmC else if digB c.toNat = true then (c :: l).takeWhile dgC else sgnAt (c :: l)
def T (s : ByteArray) (a : Nat) : List UInt8 := tokL ((lst s).drop a)
theorem takeWhile_at {p : UInt8 → Bool} : ∀ {l : List UInt8} {n : Nat}, n ≤ l.length → (∀ j (h : j < l.length), j < n → p l[j] = true) → (n = l.length ∨ ∃ h : n < l.length, p l[n] = false) → l.takeWhile p = l.take n
 | [], n, h, _, _ => by simp
 | c :: l, 0, _, _, he => by
  rcases he with h | ⟨h, e⟩
  ·simp at h
  ·have : p c = false := e
   simp [this]
 | c :: l, n + 1, h, hp, he => by
  have h0 : p c = true := hp 0 (by simp) (by omega)
  have := takeWhile_at (p := p) (l := l) (n := n) (by simpa using h) (fun j hj hjn => hp (j + 1) (by simpa using hj) (by omega)) (by
   rcases he with h | ⟨h, e⟩
   ·exact .inl (by simpa using h)
   ·exact .inr ⟨by simpa using h, e⟩)
  simp [h0, this]
theorem tw_at {p : UInt8 → Bool} {s : ByteArray} {a k : Nat} (hk0 : a ≤ k) (hk : k ≤ s.size) (hj : ∀ j (h : j < s.size), a ≤ j → j < k → p s[j] = true) (he : k = s.size ∨ ∃ h : k < s.size, p s[k] = false) :
  ((lst s).drop a).takeWhile p = ((lst s).drop a).take (k - a) := by
 have hl : ((lst s).drop a).length = s.size - a := by rw [List.length_drop, lst_len]
 refine takeWhile_at (by omega) (fun j h hjn => ?_) ?_
 ·rw [List.getElem_drop]
  have := hj (a + j) (by omega) (by omega) (by omega)
  exact this
 ·rcases he with h | ⟨h, e⟩
  ·exact .inl (by omega)
  ·refine .inr ⟨by omega, ?_⟩
   have he' : ((lst s).drop a)[k - a]'(by omega) = s[k] := by
    rw [List.getElem_drop]
    have : a + (k - a) = k := by omega
    simp only [this]; rfl
   rw [he']; exact e
theorem T_end {s : ByteArray} {a : Nat} (h : s.size ≤ a) : T s a = [] := by unfold T; rw [drop_nil s a h]; rfl
theorem T_name {s : ByteArray} {a : Nat} (h : a < s.size) (hl : letB s[a].toNat = true) : T s a = ((lst s).drop a).takeWhile nmC := by
 unfold T; rw [drop_cons s a h, tokL, if_pos hl]
theorem T_num {s : ByteArray} {a : Nat} (h : a < s.size) (hl : letB s[a].toNat = false) (hd : digB s[a].toNat = true) : T s a = ((lst s).drop a).takeWhile dgC := by
 unfold T; rw [drop_cons s a h, tokL, if_neg (by rw [hl]; decide), if_pos hd]
theorem T_sign {s : ByteArray} {a : Nat} (h : a < s.size) (hl : letB s[a].toNat = false) (hd : digB s[a].toNat = false) : T s a = sgnAt ((lst s).drop a) := by
 unfold T; rw [drop_cons s a h, tokL, if_neg (by rw [hl]; decide), if_neg (by rw [hd]; decide)]
theorem cut_T {p : UInt8 → Bool} {s : ByteArray} {a k : Nat} (hT : T s a = ((lst s).drop a).takeWhile p) (hk0 : a ≤ k) (hk : k ≤ s.size) (hj : ∀ j (h : j < s.size), a ≤ j → j < k → p s[j] = true) (he : k = s.size ∨ ∃ h : k < s.size, p s[k] = false) :
  bs (T s a) = s.extract a k := by
 rw [hT, tw_at hk0 hk hj he, extract_bs]
theorem token_name (s : ByteArray) (a : Nat) (ha : a < s.size) (hs : s.size ≤ 9223372036854775000) (hl : letB s[a].toNat = true) (w : World) :
  Calls Tryz.prog 112 #[.string s, .int .i64 a] w fun e w' => e = .returned (.string (bs (T s a))) ∧ w = w' := by
 have Hl := Lib.hid hl
 have HT := Lib.hid (T_name ha hl)
 clear hl
 go_enter Tryz.func112, Tryz.ntmps112
 go_wp2_with fail
 refine (refLetter_any _ _).mono ?_
 rintro e w1 ⟨rfl, rfl⟩
 rw [Hl.out]
 go_wp2_with fail
 go_loop [5] (fun i => ∃ k : Nat, a ≤ k ∧ k ≤ s.size ∧ i = .int .i64 k ∧ Hid (∀ j (h : j < s.size), a ≤ j → j < k → nmC s[j] = true)) (fun i => s.size - (intOf i).toNat)
 case atStart => exact ⟨a, Nat.le_refl _, by omega, rfl, fun j _ _ hj => absurd hj (by omega)⟩
 case round =>
  obtain ⟨k, hk0, hk, rfl, hj⟩ := hrel
  by_cases hlt : k < s.size
  ·have hsn := Lib.hid (fun (e : nmC s[k] = true) => (show Hid (∀ j (h : j < s.size), a ≤ j → j < k + 1 → nmC s[j] = true) from fun j hjs hja hjk => by
    by_cases e' : j = k
    ·subst e'; exact e
    ·exact hj.out j hjs hja (by omega)))
   have hfin := Lib.hid (fun (e : nmC s[k] = false) => cut_T HT.out hk0 hk hj.out (.inr ⟨hlt, e⟩))
   have hnm : nmC s[k] = (letB s[k].toNat || (digB s[k].toNat || (s[k].toNat : Int) == 46)) := rfl
   clear hj HT Hl
   cases h1 : letB s[k].toNat
   case true =>
    have Hn := hsn.out (by rw [hnm, h1]; rfl)
    have H1 := Lib.hid h1
    clear h1 hsn hfin hnm
    go_wp2_with fail
    refine (refLetter_any _ _).mono ?_
    rintro e w1 ⟨rfl, rfl⟩
    rw [H1.out]
    go_wp2_with fail
    go_round
    case rel => exact ⟨k + 1, by omega, by omega, by go_num, Hn⟩
    case measure => simp [intOf]; omega
   cases h2 : digB s[k].toNat
   case true =>
    have Hn := hsn.out (by rw [hnm, h1, h2]; rfl)
    have H1 := Lib.hid h1
    have H2 := Lib.hid h2
    clear h1 h2 hsn hfin hnm
    go_wp2_with fail
    refine (refLetter_any _ _).mono ?_
    rintro e w1 ⟨rfl, rfl⟩
    rw [H1.out]
    go_wp2_with fail
    refine (refDigit_any _ _).mono ?_
    rintro e w1 ⟨rfl, rfl⟩
    rw [H2.out]
    go_wp2_with fail
    go_round
    case rel => exact ⟨k + 1, by omega, by omega, by go_num, Hn⟩
    case measure => simp [intOf]; omega
   cases h3 : ((s[k].toNat : Int) == 46)
   case true =>
    have Hn := hsn.out (by rw [hnm, h1, h2, h3]; rfl)
    have H1 := Lib.hid h1
    have H2 := Lib.hid h2
    clear h1 h2 hsn hfin hnm
    go_wp2_with fail
    refine (refLetter_any _ _).mono ?_
    rintro e w1 ⟨rfl, rfl⟩
    rw [H1.out]
    go_wp2_with fail
    refine (refDigit_any _ _).mono ?_
    rintro e w1 ⟨rfl, rfl⟩
    rw [H2.out]
    go_wp2_with fail
    go_round
    case rel => exact ⟨k + 1, by omega, by omega, by go_num, Hn⟩
    case measure => simp [intOf]; omega
   case false =>
    have Hf := Lib.hid (hfin.out (by rw [hnm, h1, h2, h3]; rfl))
    have H1 := Lib.hid h1
    have H2 := Lib.hid h2
    clear h1 h2 hsn hfin hnm
    go_wp2_with fail
    refine (refLetter_any _ _).mono ?_
    rintro e w1 ⟨rfl, rfl⟩
    rw [H1.out]
    go_wp2_with fail
    refine (refDigit_any _ _).mono ?_
    rintro e w1 ⟨rfl, rfl⟩
    rw [H2.out]
    go_wp2_with fail
    go_ret
    exact ⟨by rw [Hf.out]; rfl, rfl⟩
  ·obtain rfl : k = s.size := by omega
   have Hf := Lib.hid (cut_T HT.out hk0 hk hj.out (.inl rfl))
   clear hj HT Hl
   go_wp2_with fail
   go_ret
   exact ⟨by rw [Hf.out]; rfl, rfl⟩
theorem token_num (s : ByteArray) (a : Nat) (ha : a < s.size) (hs : s.size ≤ 9223372036854775000) (hl : letB s[a].toNat = false) (hd : digB s[a].toNat = true) (w : World) :
  Calls Tryz.prog 112 #[.string s, .int .i64 a] w fun e w' => e = .returned (.string (bs (T s a))) ∧ w = w' := by
 have Hl := Lib.hid hl
 have Hd := Lib.hid hd
 have HT := Lib.hid (T_num ha hl hd)
 clear hl hd
 go_enter Tryz.func112, Tryz.ntmps112
 go_wp2_with fail
 refine (refLetter_any _ _).mono ?_
 rintro e w1 ⟨rfl, rfl⟩
 rw [Hl.out]
 go_wp2_with fail
 refine (refDigit_any _ _).mono ?_
 rintro e w1 ⟨rfl, rfl⟩
 rw [Hd.out]
 go_wp2_with fail
 go_loop [5] (fun i => ∃ k : Nat, a ≤ k ∧ k ≤ s.size ∧ i = .int .i64 k ∧ Hid (∀ j (h : j < s.size), a ≤ j → j < k → dgC s[j] = true)) (fun i => s.size - (intOf i).toNat)
 case atStart => exact ⟨a, Nat.le_refl _, by omega, rfl, fun j _ _ hj => absurd hj (by omega)⟩
 case round =>
  obtain ⟨k, hk0, hk, rfl, hj⟩ := hrel
  by_cases hlt : k < s.size
  ·have hsn := Lib.hid (fun (e : dgC s[k] = true) => (show Hid (∀ j (h : j < s.size), a ≤ j → j < k + 1 → dgC s[j] = true) from fun j hjs hja hjk => by
    by_cases e' : j = k
    ·subst e'; exact e
    ·exact hj.out j hjs hja (by omega)))
   have hfin := Lib.hid (fun (e : dgC s[k] = false) => cut_T HT.out hk0 hk hj.out (.inr ⟨hlt, e⟩))
   clear hj HT Hl Hd
   cases h1 : digB s[k].toNat
   case true =>
    have Hn := hsn.out h1
    have H1 := Lib.hid h1
    clear h1 hsn hfin
    go_wp2_with fail
    refine (refDigit_any _ _).mono ?_
    rintro e w1 ⟨rfl, rfl⟩
    rw [H1.out]
    go_wp2_with fail
    go_round
    case rel => exact ⟨k + 1, by omega, by omega, by go_num, Hn⟩
    case measure => simp [intOf]; omega
   case false =>
    have Hf := Lib.hid (hfin.out h1)
    have H1 := Lib.hid h1
    clear h1 hsn hfin
    go_wp2_with fail
    refine (refDigit_any _ _).mono ?_
    rintro e w1 ⟨rfl, rfl⟩
    rw [H1.out]
    go_wp2_with fail
    go_ret
    exact ⟨by rw [Hf.out]; rfl, rfl⟩
  ·obtain rfl : k = s.size := by omega
   have Hf := Lib.hid (cut_T HT.out hk0 hk hj.out (.inl rfl))
   clear hj HT Hl Hd
   go_wp2_with fail
   go_ret
   exact ⟨by rw [Hf.out]; rfl, rfl⟩
theorem refToken_any (s : ByteArray) (a : Nat) (ha : a ≤ s.size) (hs : s.size ≤ 9223372036854775000) (w : World) :
  Calls Tryz.prog 112 #[.string s, .int .i64 a] w fun e w' => e = .returned (.string (bs (T s a))) ∧ Below w.heap.size w w' := by
 by_cases hlt : a < s.size
 ·cases hl : letB s[a].toNat
  case true => exact (token_name s a hlt hs hl w).mono fun e w' h => ⟨h.1, h.2 ▸ Below.refl _ _⟩
  cases hd : digB s[a].toNat
  case true => exact (token_num s a hlt hs hl hd w).mono fun e w' h => ⟨h.1, h.2 ▸ Below.refl _ _⟩
  have HT := Lib.hid (T_sign hlt hl hd)
  have c := refSign_any s a ha hs
  have Hl := Lib.hid hl
  have Hd := Lib.hid hd
  clear hl hd
  go_enter Tryz.func112, Tryz.ntmps112
  go_wp2_with fail
  refine (refLetter_any _ _).mono ?_
  rintro e w1 ⟨rfl, rfl⟩
  rw [Hl.out]
  go_wp2_with fail
  refine (refDigit_any _ _).mono ?_
  rintro e w1 ⟨rfl, rfl⟩
  rw [Hd.out]
  go_wp2_with fail
  refine (c _).mono ?_
  rintro e w1 ⟨rfl, hb⟩
  have HB := Lib.hid hb
  clear hb c
  go_wp2_with fail
  go_ret
  exact ⟨by rw [HT.out]; rfl, HB.out⟩
 ·obtain rfl : a = s.size := by omega
  have HT := Lib.hid (T_end (s := s) (Nat.le_refl _))
  go_enter Tryz.func112, Tryz.ntmps112
  go_wp2_with fail
  go_ret
  exact ⟨by rw [HT.out]; rfl, Below.refl _ _⟩
end Go.Proofs.YtgkjcimgghflmaaGreatDoor
