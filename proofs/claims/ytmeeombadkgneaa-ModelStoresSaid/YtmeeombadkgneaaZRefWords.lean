/-
  What the document's own functions on names and sorts return; conditions: none but that the tree lies in memory.
-/
import Derived.Test.YtmeeombadkgneaaZFns
namespace Go.Proofs.Ytmeeombadkgneaa
open Go.RowKit

/-- The words, as bytes. -/
def wordL : List (List UInt8) := [[116, 114, 117, 101], [102, 97, 108, 115, 101], [105, 110], [115, 117, 98], [101, 109, 112, 116, 121], [115, 105, 110, 103], [99, 117, 112], [99, 97, 112], [100, 105, 102, 102], [115, 101, 108], [115, 116, 111], [118, 108, 101, 110], [105, 116, 101]]
theorem wordB_any (l : List UInt8) : wordB l = wordL.any (fun x => l == x) := by
  have key : ∀ c r : Bool, (if c = true then true else r) = (c || r) := by decide
  simp only [wordB, wordL, List.any_cons, List.any_nil, key, Bool.or_false]

/-- The block of the words. -/
@[reducible] def wordO : Obj := .cells #[.string ⟨#[116, 114, 117, 101]⟩, .string ⟨#[102, 97, 108, 115, 101]⟩, .string ⟨#[105, 110]⟩, .string ⟨#[115, 117, 98]⟩, .string ⟨#[101, 109, 112, 116, 121]⟩, .string ⟨#[115, 105, 110, 103]⟩, .string ⟨#[99, 117, 112]⟩, .string ⟨#[99, 97, 112]⟩, .string ⟨#[100, 105, 102, 102]⟩, .string ⟨#[115, 101, 108]⟩, .string ⟨#[115, 116, 111]⟩, .string ⟨#[118, 108, 101, 110]⟩, .string ⟨#[105, 116, 101]⟩] 9

/-- A word of the list lies in its cell. -/
theorem wordO_cell (W : World) (k : Nat) (h : k < 13) : ∃ s : ByteArray, (W.alloc wordO).cell? ⟨W.heap.size, k, none⟩ = some (.string s) ∧ wordL[k]? = some s.toList := by
  have hc : ∀ k, (W.alloc wordO).cell? ⟨W.heap.size, k, none⟩ = (#[.string ⟨#[116, 114, 117, 101]⟩, .string ⟨#[102, 97, 108, 115, 101]⟩, .string ⟨#[105, 110]⟩, .string ⟨#[115, 117, 98]⟩, .string ⟨#[101, 109, 112, 116, 121]⟩, .string ⟨#[115, 105, 110, 103]⟩, .string ⟨#[99, 117, 112]⟩, .string ⟨#[99, 97, 112]⟩, .string ⟨#[100, 105, 102, 102]⟩, .string ⟨#[115, 101, 108]⟩, .string ⟨#[115, 116, 111]⟩, .string ⟨#[118, 108, 101, 110]⟩, .string ⟨#[105, 116, 101]⟩] : Array Value)[k]? := fun k => World.cell?_alloc_new W _ _ k
  rw [hc]
  have : ∀ k, k < 13 → ∃ s : ByteArray, (#[.string ⟨#[116, 114, 117, 101]⟩, .string ⟨#[102, 97, 108, 115, 101]⟩, .string ⟨#[105, 110]⟩, .string ⟨#[115, 117, 98]⟩, .string ⟨#[101, 109, 112, 116, 121]⟩, .string ⟨#[115, 105, 110, 103]⟩, .string ⟨#[99, 117, 112]⟩, .string ⟨#[99, 97, 112]⟩, .string ⟨#[100, 105, 102, 102]⟩, .string ⟨#[115, 101, 108]⟩, .string ⟨#[115, 116, 111]⟩, .string ⟨#[118, 108, 101, 110]⟩, .string ⟨#[105, 116, 101]⟩] : Array Value)[k]? = some (.string s) ∧ wordL[k]? = some s.data.toList := by
    intro k h
    match k, h with
    | 0, _ => exact ⟨⟨#[116, 114, 117, 101]⟩, rfl, rfl⟩
    | 1, _ => exact ⟨⟨#[102, 97, 108, 115, 101]⟩, rfl, rfl⟩
    | 2, _ => exact ⟨⟨#[105, 110]⟩, rfl, rfl⟩
    | 3, _ => exact ⟨⟨#[115, 117, 98]⟩, rfl, rfl⟩
    | 4, _ => exact ⟨⟨#[101, 109, 112, 116, 121]⟩, rfl, rfl⟩
    | 5, _ => exact ⟨⟨#[115, 105, 110, 103]⟩, rfl, rfl⟩
    | 6, _ => exact ⟨⟨#[99, 117, 112]⟩, rfl, rfl⟩
    | 7, _ => exact ⟨⟨#[99, 97, 112]⟩, rfl, rfl⟩
    | 8, _ => exact ⟨⟨#[100, 105, 102, 102]⟩, rfl, rfl⟩
    | 9, _ => exact ⟨⟨#[115, 101, 108]⟩, rfl, rfl⟩
    | 10, _ => exact ⟨⟨#[115, 116, 111]⟩, rfl, rfl⟩
    | 11, _ => exact ⟨⟨#[118, 108, 101, 110]⟩, rfl, rfl⟩
    | 12, _ => exact ⟨⟨#[105, 116, 101]⟩, rfl, rfl⟩
  obtain ⟨s, h1, h2⟩ := this k h
  exact ⟨s, h1, by rw [ByteArray.toList_eq]; exact h2⟩

theorem first_ok {s : ByteArray} {hp : 0 < s.size} (h : letB (s[0]).toNat = true) : Hid (∀ j (h : j < s.size), j < 1 → okC (s[j]).toNat = true) := fun j hj h1 => by
  obtain rfl : j = 0 := by omega
  unfold okC
  rw [h]
  rfl
theorem nameB_word {s : ByteArray} (h : wordB s.toList = true) : nameB s = false := by unfold nameB; rw [h]; simp

theorem sortO_range {op so : Int} (h1 : 30 ≤ op) (h2 : op ≤ 42) : sortO op so = 2 := by
  obtain rfl | rfl | rfl | rfl | rfl | rfl | rfl | rfl | rfl | rfl | rfl | rfl | rfl : op = 30 ∨ op = 31 ∨ op = 32 ∨ op = 33 ∨ op = 34 ∨ op = 35 ∨ op = 36 ∨ op = 37 ∨ op = 38 ∨ op = 39 ∨ op = 40 ∨ op = 41 ∨ op = 42 := by omega
  all_goals rfl

set_option maxRecDepth 100000 in
set_option maxHeartbeats 2000000 in
theorem refSort_any (t : Nd) : ∀ (A : Option Addr) (cap : Nat) (w : World), Lies w A cap t.ks →
    Calls Try.prog 5 #[nv t.op t.so t.nm t.nu (.slice A t.ks.length cap)] w fun e w' => e = .returned (.int .i64 (sortN t)) ∧ Below w.heap.size w w' := by
  induction t using Nd.ind with
  | h t ih =>
  intro A cap w hL
  have HB : ∀ O, Below w.heap.size w (w.alloc O) := fun O => (Below.refl _ _).alloc (Nat.le_refl _) _
  have hn := hL.len
  unfold maxLen at hn
  have HL := Lib.hid hL
  have IH := Lib.hid ih
  clear hL ih
  by_cases h8 : t.op = 8
  · have hop : t.op = 8 := h8
    by_cases hl : t.ks.length < 2
    · have hr := Lib.hid (sortN_short h8 hl)
      rw [h8]
      clear h8 hop
      go_enter Try.func5, Try.ntmps5
      go_wp2_with fail
      go_ret
      exact ⟨by rw [hr.out]; rfl, HB _⟩
    · have hl' : 1 < t.ks.length := by omega
      obtain ⟨b, o, B', C', rfl, g5, hK⟩ := HL.out.kid hl'
      have hr := Lib.hid (sortN_ite h8 hl')
      have c := Lib.hid (IH.out 1 hl' B' C')
      rw [h8]
      have hB1 := HB (.cells #[.int .i64 8, .int .i64 t.so, .string t.nm, .int .i64 t.nu, .slice (some ⟨b, o, none⟩) t.ks.length cap] 24)
      generalize t.ks[1] = r at *
      obtain ⟨b0, b1, b2, b3, b4⟩ := g5.later hB1
      have hK' := Lib.hid (hK.later hB1)
      have HB1 := Lib.hid hB1
      clear h8 hop g5 hK IH HL HB hB1
      go_enter Try.func5, Try.ntmps5
      go_wp2_with fail
      refine (c.out _ hK'.out).mono ?_
      rintro e w1 ⟨rfl, hb⟩
      have HB2 := Lib.hid (HB1.out.trans (hb.mono (by simp)))
      clear hb b0 b1 b2 b3 b4
      go_wp2_with fail
      go_ret
      exact ⟨by rw [hr.out]; rfl, HB2.out⟩
  · have h8' : (t.op == 8) = false := by simpa using h8
    have hr := Lib.hid (sortN_no h8)
    have hB1 := Lib.hid (HB (.cells #[.int .i64 t.op, .int .i64 t.so, .string t.nm, .int .i64 t.nu, .slice A t.ks.length cap] 24))
    clear h8 IH HL HB
    by_cases hin : 30 ≤ t.op ∧ t.op ≤ 42
    · obtain ⟨i1, i2⟩ := hin
      have hv := Lib.hid (hr.out.trans (sortO_range (so := t.so) i1 i2))
      have e1 : (t.op == 1) = false := beq_eq_false_iff_ne.2 (by omega)
      have e3 : (t.op == 3) = false := beq_eq_false_iff_ne.2 (by omega)
      have e2 : (t.op == 2) = false := beq_eq_false_iff_ne.2 (by omega)
      have e4 : (t.op == 4) = false := beq_eq_false_iff_ne.2 (by omega)
      have e5 : (t.op == 5) = false := beq_eq_false_iff_ne.2 (by omega)
      have e6 : (t.op == 6) = false := beq_eq_false_iff_ne.2 (by omega)
      have e7 : (t.op == 7) = false := beq_eq_false_iff_ne.2 (by omega)
      have e14 : (t.op == 14) = false := beq_eq_false_iff_ne.2 (by omega)
      have e16 : (t.op == 16) = false := beq_eq_false_iff_ne.2 (by omega)
      have e9 : (t.op == 9) = false := beq_eq_false_iff_ne.2 (by omega)
      have e10 : (t.op == 10) = false := beq_eq_false_iff_ne.2 (by omega)
      have e11 : (t.op == 11) = false := beq_eq_false_iff_ne.2 (by omega)
      have e12 : (t.op == 12) = false := beq_eq_false_iff_ne.2 (by omega)
      have e13 : (t.op == 13) = false := beq_eq_false_iff_ne.2 (by omega)
      have e15 : (t.op == 15) = false := beq_eq_false_iff_ne.2 (by omega)
      go_enter Try.func5, Try.ntmps5
      go_wp2_with fail
      go_ret
      exact ⟨by rw [hv.out]; rfl, hB1.out⟩
    have e30 : (t.op == 30) = false := beq_eq_false_iff_ne.2 (by omega)
    have e31 : (t.op == 31) = false := beq_eq_false_iff_ne.2 (by omega)
    have e32 : (t.op == 32) = false := beq_eq_false_iff_ne.2 (by omega)
    have e33 : (t.op == 33) = false := beq_eq_false_iff_ne.2 (by omega)
    have e34 : (t.op == 34) = false := beq_eq_false_iff_ne.2 (by omega)
    have e35 : (t.op == 35) = false := beq_eq_false_iff_ne.2 (by omega)
    have e36 : (t.op == 36) = false := beq_eq_false_iff_ne.2 (by omega)
    have e37 : (t.op == 37) = false := beq_eq_false_iff_ne.2 (by omega)
    have e38 : (t.op == 38) = false := beq_eq_false_iff_ne.2 (by omega)
    have e39 : (t.op == 39) = false := beq_eq_false_iff_ne.2 (by omega)
    have e40 : (t.op == 40) = false := beq_eq_false_iff_ne.2 (by omega)
    have e41 : (t.op == 41) = false := beq_eq_false_iff_ne.2 (by omega)
    have e42 : (t.op == 42) = false := beq_eq_false_iff_ne.2 (by omega)
    by_cases h30 : 30 ≤ t.op
    · have h42 : ¬ t.op ≤ 42 := fun h' => hin ⟨h30, h'⟩
      clear hin
      go_enter Try.func5, Try.ntmps5
      go_wp2_with fail
      all_goals go_ret
      all_goals (refine ⟨?_, hB1.out⟩; rw [hr.out]; first | rfl | (simp [sortO, *]; done) | done)
    · clear hin
      go_enter Try.func5, Try.ntmps5
      go_wp2_with fail
      all_goals go_ret
      all_goals (refine ⟨?_, hB1.out⟩; rw [hr.out]; first | rfl | (simp [sortO, *]; done) | done)
end Go.Proofs.Ytmeeombadkgneaa
