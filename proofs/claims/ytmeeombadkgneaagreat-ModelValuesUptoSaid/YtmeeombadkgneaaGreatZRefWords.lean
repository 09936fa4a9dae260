/-
  What the document's own functions on names and sorts return; conditions: none but that the tree lies in memory.
-/
import Derived.Test.YtmeeombadkgneaaGreatZFns
namespace Go.Proofs.YtmeeombadkgneaaGreat
open Go.RowKit

set_option maxHeartbeats 400000 in
theorem refLetter_any (c : Int) (w : World) : Calls Tryz.prog 49 #[.int .u8 c] w fun e w' => e = .returned (.bool (letB c)) ∧ w = w' := by
  have hb : ∀ b, letB c = b ↔ decide (97 ≤ c ∧ c ≤ 122 ∨ 65 ≤ c ∧ c ≤ 90) = b := fun b => Iff.rfl
  generalize letB c = B at *
  by_cases h1 : 97 ≤ c
  · by_cases h2 : c ≤ 122
    · obtain rfl : B = true := (hb _).2 (by simp; omega)
      clear hb
      go_enter Tryz.func49, Tryz.ntmps49
      go_wp2
      go_ret
      exact ⟨rfl, rfl⟩
    · obtain rfl : B = false := (hb _).2 (by simp; omega)
      clear hb
      have h3 : 65 ≤ c := by omega
      have h4 : ¬ c ≤ 90 := by omega
      go_enter Tryz.func49, Tryz.ntmps49
      go_wp2
      go_ret
      exact ⟨rfl, rfl⟩
  · by_cases h3 : 65 ≤ c
    · by_cases h4 : c ≤ 90
      · obtain rfl : B = true := (hb _).2 (by simp; omega)
        clear hb
        go_enter Tryz.func49, Tryz.ntmps49
        go_wp2
        go_ret
        exact ⟨rfl, rfl⟩
      · obtain rfl : B = false := (hb _).2 (by simp; omega)
        clear hb
        go_enter Tryz.func49, Tryz.ntmps49
        go_wp2
        go_ret
        exact ⟨rfl, rfl⟩
    · obtain rfl : B = false := (hb _).2 (by simp; omega)
      clear hb
      go_enter Tryz.func49, Tryz.ntmps49
      go_wp2
      go_ret
      exact ⟨rfl, rfl⟩

set_option maxHeartbeats 400000 in
theorem refDigit_any (c : Int) (w : World) : Calls Tryz.prog 51 #[.int .u8 c] w fun e w' => e = .returned (.bool (digB c)) ∧ w = w' := by
  have hb : ∀ b, digB c = b ↔ decide (48 ≤ c ∧ c ≤ 57) = b := fun b => Iff.rfl
  generalize digB c = B at *
  by_cases h1 : 48 ≤ c
  · by_cases h2 : c ≤ 57
    · obtain rfl : B = true := (hb _).2 (by simp; omega)
      clear hb
      go_enter Tryz.func51, Tryz.ntmps51
      go_wp2
      go_ret
      exact ⟨rfl, rfl⟩
    · obtain rfl : B = false := (hb _).2 (by simp; omega)
      clear hb
      go_enter Tryz.func51, Tryz.ntmps51
      go_wp2
      go_ret
      exact ⟨rfl, rfl⟩
  · obtain rfl : B = false := (hb _).2 (by simp; omega)
    clear hb
    go_enter Tryz.func51, Tryz.ntmps51
    go_wp2
    go_ret
    exact ⟨rfl, rfl⟩


/-- The words, as bytes. -/
def wordL : List (List UInt8) := [[116, 114, 117, 101], [102, 97, 108, 115, 101], [105, 110], [115, 117, 98], [101, 109, 112, 116, 121], [115, 105, 110, 103], [99, 117, 112], [99, 97, 112], [100, 105, 102, 102], [115, 101, 108], [115, 116, 111], [118, 108, 101, 110], [105, 116, 101]]
theorem wordB_any (l : List UInt8) : wordB l = wordL.any (fun x => l == x) := by
  have key : ∀ c r : Bool, (if c = true then true else r) = (c || r) := by decide
  simp only [wordB, wordL, List.any_cons, List.any_nil, key, Bool.or_false]

/-- The block of the words. -/
@[reducible] def wordO : Obj := .cells #[.string ⟨#[116, 114, 117, 101]⟩, .string ⟨#[102, 97, 108, 115, 101]⟩, .string ⟨#[105, 110]⟩, .string ⟨#[115, 117, 98]⟩, .string ⟨#[101, 109, 112, 116, 121]⟩, .string ⟨#[115, 105, 110, 103]⟩, .string ⟨#[99, 117, 112]⟩, .string ⟨#[99, 97, 112]⟩, .string ⟨#[100, 105, 102, 102]⟩, .string ⟨#[115, 101, 108]⟩, .string ⟨#[115, 116, 111]⟩, .string ⟨#[118, 108, 101, 110]⟩, .string ⟨#[105, 116, 101]⟩] 9

set_option maxRecDepth 100000 in
set_option maxHeartbeats 1000000 in
theorem words_any (w : World) : Calls Tryz.prog 78 #[] w fun e w' => e = .returned (.slice (some ⟨w.heap.size, 0, none⟩) 13 13) ∧ w.alloc wordO = w' := by
  go_enter Tryz.func78, Tryz.ntmps78
  go_wp2_with fail
  go_ret
  exact ⟨rfl, rfl⟩

/-- A word of the list lies in its cell. -/
theorem wordO_cell (W : World) (k : Nat) (h : k < 13) : ∃ s : ByteArray, (W.alloc wordO).cell? ⟨W.heap.size, k, none⟩ = some (.string s) ∧ wordL[k]? = some s.toList := by
  have hc : ∀ k, (W.alloc wordO).cell? ⟨W.heap.size, k, none⟩ = (#[.string ⟨#[116, 114, 117, 101]⟩, .string ⟨#[102, 97, 108, 115, 101]⟩, .string ⟨#[105, 110]⟩, .string ⟨#[115, 117, 98]⟩, .string ⟨#[101, 109, 112, 116, 121]⟩, .string ⟨#[115, 105, 110, 103]⟩, .string ⟨#[99, 117, 112]⟩, .string ⟨#[99, 97, 112]⟩, .string ⟨#[100, 105, 102, 102]⟩, .string ⟨#[115, 101, 108]⟩, .string ⟨#[115, 116, 111]⟩, .string ⟨#[118, 108, 101, 110]⟩, .string ⟨#[105, 116, 101]⟩] : Array Value)[k]? := fun k => World.cell?_alloc_new W _ _ k
  rw [hc]
  have : ∀ k, k < 13 → ∃ s : ByteArray, (#[.string ⟨#[116, 114, 117, 101]⟩, .string ⟨#[102, 97, 108, 115, 101]⟩, .string ⟨#[105, 110]⟩, .string ⟨#[115, 117, 98]⟩, .string ⟨#[101, 109, 112, 116, 121]⟩, .string ⟨#[115, 105, 110, 103]⟩, .string ⟨#[99, 117, 112]⟩, .string ⟨#[99, 97, 112]⟩, .string ⟨#[100, 105, 102, 102]⟩, .string ⟨#[115, 101, 108]⟩, .string ⟨#[115, 116, 111]⟩, .string ⟨#[118, 108, 101, 110]⟩, .string ⟨#[105, 116, 101]⟩] : Array Value)[k]? = some (.string s) ∧ wordL[k]? = some s.data.toList := by
    intro k h
    match k, h with
    | 0, _ => exact ⟨⟨#[116, 114, 117, 101]⟩, rfl, rfl⟩
    | 1, _ => exact ⟨⟨#[102, 97, 108, 115, 101]⟩, rfl, rfl⟩
    | 2, _ => exact ⟨⟨#[105, 110]⟩, rfl, rfl⟩
    | 3, _ => exact ⟨⟨#[115, 117, 98]⟩, rfl, rfl⟩
    | 4, _ => exact ⟨⟨#[101, 109, 112, 116, 121]⟩, rfl, rfl⟩
    | 5, _ => exact ⟨⟨#[115, 105, 110, 103]⟩, rfl, rfl⟩
    | 6, _ => exact ⟨⟨#[99, 117, 112]⟩, rfl, rfl⟩
    | 7, _ => exact ⟨⟨#[99, 97, 112]⟩, rfl, rfl⟩
    | 8, _ => exact ⟨⟨#[100, 105, 102, 102]⟩, rfl, rfl⟩
    | 9, _ => exact ⟨⟨#[115, 101, 108]⟩, rfl, rfl⟩
    | 10, _ => exact ⟨⟨#[115, 116, 111]⟩, rfl, rfl⟩
    | 11, _ => exact ⟨⟨#[118, 108, 101, 110]⟩, rfl, rfl⟩
    | 12, _ => exact ⟨⟨#[105, 116, 101]⟩, rfl, rfl⟩
  obtain ⟨s, h1, h2⟩ := this k h
  exact ⟨s, h1, by rw [ByteArray.toList_eq]; exact h2⟩

set_option maxRecDepth 100000 in
set_option maxHeartbeats 1000000 in
theorem refWord_any (s : ByteArray) (w : World) : Calls Tryz.prog 50 #[.string s] w fun e w' => e = .returned (.bool (wordB s.toList)) ∧ Below w.heap.size w w' := by
  have hB : Below w.heap.size w (w.alloc wordO) := (Below.refl _ _).alloc (Nat.le_refl _) _
  have HC := Lib.hid (wordO_cell w)
  have HW := Lib.hid (wordB_any s.toList)
  generalize wordB s.toList = B at *
  go_enter Tryz.func50, Tryz.ntmps50
  go_wp2_with fail
  refine (words_any _).mono ?_
  rintro e w' ⟨rfl, rfl⟩
  generalize w.alloc wordO = W at *
  go_wp2_with fail
  go_loop [7] (fun i => ∃ k : Nat, k ≤ 13 ∧ i = .int .i64 k ∧ Hid ((wordL.take k).any (fun x => s.toList == x) = false)) (fun i => 13 - (intOf i).toNat)
  case atStart => exact ⟨0, by omega, rfl, rfl⟩
  case round =>
    obtain ⟨k, hk, rfl, hj⟩ := hrel
    by_cases hlt : k < 13
    · obtain ⟨x, hx, hx2⟩ := HC.out k hlt
      have hlen : k < wordL.length := hlt
      have hx3 : wordL[k] = x.toList := by
        have := List.getElem?_eq_getElem hlen
        rw [hx2] at this
        exact (Option.some.inj this).symm
      have htk : wordL.take (k + 1) = wordL.take k ++ [x.toList] := by rw [List.take_succ_eq_append_getElem hlen, hx3]
      have hmem : x.toList ∈ wordL := by rw [← hx3]; exact List.getElem_mem hlen
      clear hx2 hx3 hlen
      have HT := Lib.hid htk
      have HM := Lib.hid hmem
      clear htk hmem
      cases he : x.toList == s.toList
      case true =>
        have Hr := Lib.hid (show B = true from HW.out.trans (List.any_eq_true.2 ⟨_, HM.out, by rw [beq_iff_eq] at he ⊢; exact he.symm⟩))
        go_wp2_with fail
        go_ret
        exact ⟨by rw [Hr.out]; rfl, hB⟩
      case false =>
        have Hn : Hid ((wordL.take (k + 1)).any (fun x => s.toList == x) = false) := by
          show _ = _
          have he2 : (s.toList == x.toList) = false := by rw [beq_eq_false_iff_ne] at he ⊢; exact fun e => he e.symm
          rw [HT.out, List.any_append, hj.out]
          simp [he2]
        go_wp2_with fail
        go_round
        case rel => exact ⟨k + 1, by omega, by go_num, Hn⟩
        case measure => simp [intOf]; omega
    · have Hr := Lib.hid (show B = false from HW.out.trans (by have := hj.out; rwa [List.take_of_length_le (show wordL.length ≤ k from by show 13 ≤ k; omega)] at this))
      go_wp2_with fail
      go_ret
      exact ⟨by rw [Hr.out]; rfl, hB⟩

theorem first_ok {s : ByteArray} {hp : 0 < s.size} (h : letB (s[0]).toNat = true) : Hid (∀ j (h : j < s.size), j < 1 → okC (s[j]).toNat = true) := fun j hj h1 => by
  obtain rfl : j = 0 := by omega
  unfold okC
  rw [h]
  rfl
theorem nameB_word {s : ByteArray} (h : wordB s.toList = true) : nameB s = false := by unfold nameB; rw [h]; simp

set_option maxRecDepth 100000 in
set_option maxHeartbeats 2000000 in
theorem refName_any (s : ByteArray) (w : World) : Calls Tryz.prog 25 #[.string s] w fun e w' => e = .returned (.bool (nameB s)) ∧ Below w.heap.size w w' := by
  by_cases h0 : s.size = 0
  · rw [nameB_no (fun h => by obtain ⟨_, ⟨h, _⟩, _⟩ := h; omega)]
    go_enter Tryz.func25, Tryz.ntmps25
    go_wp2_with fail
    go_ret
    exact ⟨rfl, Below.refl _ _⟩
  by_cases h1 : 24 < s.size
  · rw [nameB_no (fun h => by obtain ⟨h, _, _⟩ := h; omega)]
    have e0 : ((s.size : Int) == 0) = false := by rw [beq_eq_false_iff_ne]; omega
    clear h0
    go_enter Tryz.func25, Tryz.ntmps25
    go_wp2_with fail
    go_ret
    exact ⟨rfl, Below.refl _ _⟩
  have e0 : ((s.size : Int) == 0) = false := by rw [beq_eq_false_iff_ne]; omega
  have hp : 0 < s.size := by omega
  by_cases h2 : letB (s[0]).toNat = true
  case neg =>
    rw [nameB_no (fun h => by obtain ⟨_, ⟨_, h⟩, _⟩ := h; exact h2 h)]
    have h2' : letB (s[0]).toNat = false := by simpa using h2
    have H2 := Lib.hid h2'
    clear h2 h2' h0
    go_enter Tryz.func25, Tryz.ntmps25
    go_wp2_with fail
    refine (refLetter_any _ _).mono ?_
    rintro e w' ⟨rfl, rfl⟩
    rw [H2.out]
    go_wp2_with fail
    go_ret
    exact ⟨rfl, Below.refl _ _⟩
  have H2 := Lib.hid h2
  clear h2 h0
  cases hw : wordB s.toList
  case true =>
    rw [nameB_word hw]
    have HW := Lib.hid hw
    clear hw
    go_enter Tryz.func25, Tryz.ntmps25
    go_wp2_with fail
    refine (refLetter_any _ _).mono ?_
    rintro e w' ⟨rfl, rfl⟩
    rw [H2.out]
    go_wp2_with fail
    refine (refWord_any _ _).mono ?_
    rintro e w1 ⟨rfl, hb⟩
    rw [HW.out]
    go_wp2_with fail
    go_ret
    exact ⟨rfl, hb⟩
  have HW := Lib.hid hw
  clear hw
  go_enter Tryz.func25, Tryz.ntmps25
  go_wp2_with fail
  refine (refLetter_any _ _).mono ?_
  rintro e w' ⟨rfl, rfl⟩
  rw [H2.out]
  go_wp2_with fail
  refine (refWord_any _ _).mono ?_
  rintro e w1 ⟨rfl, hb⟩
  rw [HW.out]
  go_wp2_with fail
  go_loop [3] (fun i => ∃ k : Nat, 1 ≤ k ∧ k ≤ s.size ∧ i = .int .i64 k ∧ Hid (∀ j (h : j < s.size), j < k → okC (s[j]).toNat = true)) (fun i => s.size - (intOf i).toNat)
  case atStart => exact ⟨1, by omega, by omega, rfl, first_ok H2.out⟩
  case round =>
    obtain ⟨k, hk1, hk, rfl, hj⟩ := hrel
    by_cases hlt : k < s.size
    · have hsn : okC (s[k]).toNat = true → Hid (∀ j (h : j < s.size), j < k + 1 → okC (s[j]).toNat = true) := fun ho j hjs hjk => by
        by_cases e : j = k
        · subst e; exact ho
        · exact hj.out j hjs (by omega)
      have hno : okC (s[k]).toNat = false → Hid (nameB s = false) := fun ho => nameB_no (fun h => by have := h.2.2 k hlt; rw [ho] at this; cases this)
      have hsn := Lib.hid hsn
      have hno := Lib.hid hno
      have hok := Lib.hid (show okC (s[k]).toNat = (letB (s[k]).toNat || (digB (s[k]).toNat || ((s[k]).toNat : Int) == 46)) from rfl)
      cases hL : letB (s[k]).toNat
      case true =>
        have HL := Lib.hid hL
        clear hL
        go_wp2_with fail
        refine (refLetter_any _ _).mono ?_
        rintro e w' ⟨rfl, rfl⟩
        rw [HL.out]
        go_wp2_with fail
        go_round
        case rel => exact ⟨k + 1, by omega, by omega, by go_num, hsn.out (by rw [hok.out, HL.out]; rfl)⟩
        case measure => simp [intOf]; omega
      case false =>
        have HL := Lib.hid hL
        clear hL
        cases hD : digB (s[k]).toNat
        case true =>
          have HD := Lib.hid hD
          clear hD
          go_wp2_with fail
          refine (refLetter_any _ _).mono ?_
          rintro e w' ⟨rfl, rfl⟩
          rw [HL.out]
          go_wp2_with fail
          refine (refDigit_any _ _).mono ?_
          rintro e w' ⟨rfl, rfl⟩
          rw [HD.out]
          go_wp2_with fail
          go_round
          case rel => exact ⟨k + 1, by omega, by omega, by go_num, hsn.out (by rw [hok.out, HL.out, HD.out]; rfl)⟩
          case measure => simp [intOf]; omega
        case false =>
          have HD := Lib.hid hD
          clear hD
          cases hP : ((s[k]).toNat : Int) == 46
          case true =>
            go_wp2_with fail
            refine (refLetter_any _ _).mono ?_
            rintro e w' ⟨rfl, rfl⟩
            rw [HL.out]
            go_wp2_with fail
            refine (refDigit_any _ _).mono ?_
            rintro e w' ⟨rfl, rfl⟩
            rw [HD.out]
            go_wp2_with fail
            go_round
            case rel => exact ⟨k + 1, by omega, by omega, by go_num, hsn.out (by rw [hok.out, HL.out, HD.out, hP]; rfl)⟩
            case measure => simp [intOf]; omega
          case false =>
            have Hno := Lib.hid (hno.out (by rw [hok.out, HL.out, HD.out, hP]; rfl)).out
            go_wp2_with fail
            refine (refLetter_any _ _).mono ?_
            rintro e w' ⟨rfl, rfl⟩
            rw [HL.out]
            go_wp2_with fail
            refine (refDigit_any _ _).mono ?_
            rintro e w' ⟨rfl, rfl⟩
            rw [HD.out]
            go_wp2_with fail
            go_ret
            exact ⟨by rw [Hno.out]; rfl, hb⟩
    · have HY := Lib.hid ((nameB_yes (s := s) ⟨by omega, ⟨hp, H2.out⟩, fun k h => hj.out k h (by omega)⟩).trans (by rw [HW.out]))
      go_wp2_with fail
      go_ret
      exact ⟨by rw [HY.out]; rfl, hb⟩

theorem sortO_range {op so : Int} (h1 : 30 ≤ op) (h2 : op ≤ 42) : sortO op so = 2 := by
  obtain rfl | rfl | rfl | rfl | rfl | rfl | rfl | rfl | rfl | rfl | rfl | rfl | rfl : op = 30 ∨ op = 31 ∨ op = 32 ∨ op = 33 ∨ op = 34 ∨ op = 35 ∨ op = 36 ∨ op = 37 ∨ op = 38 ∨ op = 39 ∨ op = 40 ∨ op = 41 ∨ op = 42 := by omega
  all_goals rfl

set_option maxRecDepth 100000 in
set_option maxHeartbeats 2000000 in
theorem refSort_any (t : Nd) : ∀ (A : Option Addr) (cap : Nat) (w : World), Lies w A cap t.ks →
    Calls Tryz.prog 27 #[nv t.op t.so t.nm t.nu (.slice A t.ks.length cap)] w fun e w' => e = .returned (.int .i64 (sortN t)) ∧ Below w.heap.size w w' := by
  induction t using Nd.ind with
  | h t ih =>
  intro A cap w hL
  have HB : ∀ O, Below w.heap.size w (w.alloc O) := fun O => (Below.refl _ _).alloc (Nat.le_refl _) _
  have hn := hL.len
  unfold maxLen at hn
  have HL := Lib.hid hL
  have IH := Lib.hid ih
  clear hL ih
  by_cases h8 : t.op = 8
  · have hop : t.op = 8 := h8
    by_cases hl : t.ks.length < 2
    · have hr := Lib.hid (sortN_short h8 hl)
      rw [h8]
      clear h8 hop
      go_enter Tryz.func27, Tryz.ntmps27
      go_wp2_with fail
      go_ret
      exact ⟨by rw [hr.out]; rfl, HB _⟩
    · have hl' : 1 < t.ks.length := by omega
      obtain ⟨b, o, B', C', rfl, g5, hK⟩ := HL.out.kid hl'
      have hr := Lib.hid (sortN_ite h8 hl')
      have c := Lib.hid (IH.out 1 hl' B' C')
      rw [h8]
      have hB1 := HB (.cells #[.int .i64 8, .int .i64 t.so, .string t.nm, .int .i64 t.nu, .slice (some ⟨b, o, none⟩) t.ks.length cap] 44)
      generalize t.ks[1] = r at *
      obtain ⟨b0, b1, b2, b3, b4⟩ := g5.later hB1
      have hK' := Lib.hid (hK.later hB1)
      have HB1 := Lib.hid hB1
      clear h8 hop g5 hK IH HL HB hB1
      go_enter Tryz.func27, Tryz.ntmps27
      go_wp2_with fail
      refine (c.out _ hK'.out).mono ?_
      rintro e w1 ⟨rfl, hb⟩
      have HB2 := Lib.hid (HB1.out.trans (hb.mono (by simp)))
      clear hb b0 b1 b2 b3 b4
      go_wp2_with fail
      go_ret
      exact ⟨by rw [hr.out]; rfl, HB2.out⟩
  · have h8' : (t.op == 8) = false := by simpa using h8
    have hr := Lib.hid (sortN_no h8)
    have hB1 := Lib.hid (HB (.cells #[.int .i64 t.op, .int .i64 t.so, .string t.nm, .int .i64 t.nu, .slice A t.ks.length cap] 44))
    clear h8 IH HL HB
    by_cases hin : 30 ≤ t.op ∧ t.op ≤ 42
    · obtain ⟨i1, i2⟩ := hin
      have hv := Lib.hid (hr.out.trans (sortO_range (so := t.so) i1 i2))
      have e1 : (t.op == 1) = false := beq_eq_false_iff_ne.2 (by omega)
      have e3 : (t.op == 3) = false := beq_eq_false_iff_ne.2 (by omega)
      have e2 : (t.op == 2) = false := beq_eq_false_iff_ne.2 (by omega)
      have e4 : (t.op == 4) = false := beq_eq_false_iff_ne.2 (by omega)
      have e5 : (t.op == 5) = false := beq_eq_false_iff_ne.2 (by omega)
      have e6 : (t.op == 6) = false := beq_eq_false_iff_ne.2 (by omega)
      have e7 : (t.op == 7) = false := beq_eq_false_iff_ne.2 (by omega)
      have e14 : (t.op == 14) = false := beq_eq_false_iff_ne.2 (by omega)
      have e16 : (t.op == 16) = false := beq_eq_false_iff_ne.2 (by omega)
      have e9 : (t.op == 9) = false := beq_eq_false_iff_ne.2 (by omega)
      have e10 : (t.op == 10) = false := beq_eq_false_iff_ne.2 (by omega)
      have e11 : (t.op == 11) = false := beq_eq_false_iff_ne.2 (by omega)
      have e12 : (t.op == 12) = false := beq_eq_false_iff_ne.2 (by omega)
      have e13 : (t.op == 13) = false := beq_eq_false_iff_ne.2 (by omega)
      have e15 : (t.op == 15) = false := beq_eq_false_iff_ne.2 (by omega)
      go_enter Tryz.func27, Tryz.ntmps27
      go_wp2_with fail
      go_ret
      exact ⟨by rw [hv.out]; rfl, hB1.out⟩
    have e30 : (t.op == 30) = false := beq_eq_false_iff_ne.2 (by omega)
    have e31 : (t.op == 31) = false := beq_eq_false_iff_ne.2 (by omega)
    have e32 : (t.op == 32) = false := beq_eq_false_iff_ne.2 (by omega)
    have e33 : (t.op == 33) = false := beq_eq_false_iff_ne.2 (by omega)
    have e34 : (t.op == 34) = false := beq_eq_false_iff_ne.2 (by omega)
    have e35 : (t.op == 35) = false := beq_eq_false_iff_ne.2 (by omega)
    have e36 : (t.op == 36) = false := beq_eq_false_iff_ne.2 (by omega)
    have e37 : (t.op == 37) = false := beq_eq_false_iff_ne.2 (by omega)
    have e38 : (t.op == 38) = false := beq_eq_false_iff_ne.2 (by omega)
    have e39 : (t.op == 39) = false := beq_eq_false_iff_ne.2 (by omega)
    have e40 : (t.op == 40) = false := beq_eq_false_iff_ne.2 (by omega)
    have e41 : (t.op == 41) = false := beq_eq_false_iff_ne.2 (by omega)
    have e42 : (t.op == 42) = false := beq_eq_false_iff_ne.2 (by omega)
    by_cases h30 : 30 ≤ t.op
    · have h42 : ¬ t.op ≤ 42 := fun h' => hin ⟨h30, h'⟩
      clear hin
      go_enter Tryz.func27, Tryz.ntmps27
      go_wp2_with fail
      all_goals go_ret
      all_goals (refine ⟨?_, hB1.out⟩; rw [hr.out]; first | rfl | (simp [sortO, *]; done) | done)
    · clear hin
      go_enter Tryz.func27, Tryz.ntmps27
      go_wp2_with fail
      all_goals go_ret
      all_goals (refine ⟨?_, hB1.out⟩; rw [hr.out]; first | rfl | (simp [sortO, *]; done) | done)
end Go.Proofs.YtmeeombadkgneaaGreat
