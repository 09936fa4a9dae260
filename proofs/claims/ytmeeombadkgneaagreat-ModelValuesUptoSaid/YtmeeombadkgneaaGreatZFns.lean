/-
  What package logic's functions that walk through a tree return; conditions: the tree lies in memory.
-/
import Derived.Deep.LoopGhost
import Derived.Test.YtmeeombadkgneaaGreatZIter
namespace Go.Proofs.YtmeeombadkgneaaGreat
open Go.RowKit Go.Shelf

attribute [local go_sem] Oper.semAt_some

theorem cell_of_box_l {W : World} {B : Nat} {v : Value} {t : TypeId} (h : W.heap[B]? = some (.cells #[v] t (0, 0))) : W.cell? ⟨B, 0, none⟩ = some v ∧ W.frozen? ⟨B, 0, none⟩ = false := by
  constructor <;> simp [World.cell?, World.frozen?, h]
theorem cell_new_l (W : World) (v : Value) (t : TypeId) : (W.alloc (.cells #[v] t)).cell? ⟨W.heap.size, 0, none⟩ = some v ∧ (W.alloc (.cells #[v] t)).frozen? ⟨W.heap.size, 0, none⟩ = false :=
  cell_of_box_l (World.alloc_heap_new W _)
theorem cell_alloc_l {W : World} {a : Addr} {v : Value} (o : Obj) (h : W.cell? a = some v) : (W.alloc o).cell? a = some v := cell_kept h (World.grownBy_alloc W o none) (fun r e => by cases e)
theorem frozen_alloc_l {W : World} {a : Addr} {v : Value} (o : Obj) (h : W.cell? a = some v) (hf : W.frozen? a = false) : (W.alloc o).frozen? a = false := (frozen_kept h (World.grownBy_alloc W o none) (fun r e => by cases e)).trans hf

theorem five_new (W : World) (t : Nd) (s : Value) (ty : TypeId) : Five (W.alloc (.cells #[.int .i64 t.op, .int .i64 t.so, .string t.nm, .int .i64 t.nu, s] ty)) W.heap.size 0 t s :=
  ⟨by simp [go_sem], by simp [go_sem], by simp [go_sem], by simp [go_sem], by simp [go_sem]⟩

/-- A store into a cell below m₀, at or beyond n₀. -/
theorem KpC.setCell {n₀ m₀ : Nat} {A B : World} (h : KpC n₀ m₀ A B) {p : Addr} (hn : n₀ ≤ p.block) (hm : p.block < m₀) (u : Value) : KpC n₀ m₀ A (B.setCell p u) :=
  ⟨h.1.setCell hn u, fun i o hi ho hc => (Below.heap_setCell B p u i (by omega)).trans (h.2 i o hi ho hc)⟩

def cntW : Nat → Int
  | 0 => 0
  | n + 1 => wrap64 (cntW n + 1)

/-- Five cells of a block that may be written. -/
structure Thawed (W : World) (b : Nat) : Prop where
  f0 : W.frozen? ⟨b, 0, none⟩ = false
  f1 : W.frozen? ⟨b, 1, none⟩ = false
  f2 : W.frozen? ⟨b, 2, none⟩ = false
  f3 : W.frozen? ⟨b, 3, none⟩ = false
  f4 : W.frozen? ⟨b, 4, none⟩ = false

theorem thawed_new (W : World) (v0 v1 v2 v3 v4 : Value) (ty : TypeId) : Thawed (W.alloc (.cells #[v0, v1, v2, v3, v4] ty)) W.heap.size :=
  ⟨by simp [go_sem], by simp [go_sem], by simp [go_sem], by simp [go_sem], by simp [go_sem]⟩

/-- The world where a node has been stored into a box. -/
abbrev stored (W : World) (b : Nat) (t : Nd) (s : Value) : World :=
  ((((W.setCell ⟨b, 0, none⟩ (.int .i64 t.op)).setCell ⟨b, 1, none⟩ (.int .i64 t.so)).setCell ⟨b, 2, none⟩ (.string t.nm)).setCell ⟨b, 3, none⟩ (.int .i64 t.nu)).setCell ⟨b, 4, none⟩ s

theorem cell_set_ne {W : World} {b i j : Nat} {v : Value} (u : Value) (h : W.cell? ⟨b, i, none⟩ = some v) (hij : j ≠ i) : (W.setCell ⟨b, j, none⟩ u).cell? ⟨b, i, none⟩ = some v := by
  exact (World.cell?_setCell_other W ⟨b, j, none⟩ ⟨b, i, none⟩ u (fun e => hij (Addr.mk.inj e).2.1)).trans h

theorem five_stored {W : World} {b : Nat} {t : Nd} {s : Value} (h : Five W b 0 t s) (t' : Nd) (s' : Value) : Five (stored W b t' s') b 0 t' s' := by
  have k0 := World.cell?_setCell_same' W ⟨b, 0, none⟩ (.int .i64 t'.op) (by rw [h.c0]; rfl)
  have k1 := World.cell?_setCell_same' (W.setCell ⟨b, 0, none⟩ (.int .i64 t'.op)) ⟨b, 1, none⟩ (.int .i64 t'.so) (by rw [cell_set_ne _ h.c1 (by decide)]; rfl)
  have k2 := World.cell?_setCell_same' ((W.setCell ⟨b, 0, none⟩ (.int .i64 t'.op)).setCell ⟨b, 1, none⟩ (.int .i64 t'.so)) ⟨b, 2, none⟩ (.string t'.nm) (by rw [cell_set_ne _ (cell_set_ne _ h.c2 (by decide)) (by decide)]; rfl)
  have k3 := World.cell?_setCell_same' (((W.setCell ⟨b, 0, none⟩ (.int .i64 t'.op)).setCell ⟨b, 1, none⟩ (.int .i64 t'.so)).setCell ⟨b, 2, none⟩ (.string t'.nm)) ⟨b, 3, none⟩ (.int .i64 t'.nu) (by rw [cell_set_ne _ (cell_set_ne _ (cell_set_ne _ h.c3 (by decide)) (by decide)) (by decide)]; rfl)
  have k4 := World.cell?_setCell_same' ((((W.setCell ⟨b, 0, none⟩ (.int .i64 t'.op)).setCell ⟨b, 1, none⟩ (.int .i64 t'.so)).setCell ⟨b, 2, none⟩ (.string t'.nm)).setCell ⟨b, 3, none⟩ (.int .i64 t'.nu)) ⟨b, 4, none⟩ s' (by rw [cell_set_ne _ (cell_set_ne _ (cell_set_ne _ (cell_set_ne _ h.c4 (by decide)) (by decide)) (by decide)) (by decide)]; rfl)
  exact ⟨cell_set_ne _ (cell_set_ne _ (cell_set_ne _ (cell_set_ne _ k0 (by decide)) (by decide)) (by decide)) (by decide), cell_set_ne _ (cell_set_ne _ (cell_set_ne _ k1 (by decide)) (by decide)) (by decide),
    cell_set_ne _ (cell_set_ne _ k2 (by decide)) (by decide), cell_set_ne _ k3 (by decide), k4⟩

theorem Thawed.stored {W : World} {b : Nat} (h : Thawed W b) (t' : Nd) (s' : Value) : Thawed (stored W b t' s') b :=
  ⟨by simp only [World.frozen?_setCell]; exact h.f0, by simp only [World.frozen?_setCell]; exact h.f1, by simp only [World.frozen?_setCell]; exact h.f2, by simp only [World.frozen?_setCell]; exact h.f3, by simp only [World.frozen?_setCell]; exact h.f4⟩

theorem below_stored {B : Nat} {A W : World} {b : Nat} (h : Below B A W) (hb : B ≤ b) (t' : Nd) (s' : Value) : Below B A (stored W b t' s') :=
  ((((h.setCell hb _).setCell hb _).setCell hb _).setCell hb _).setCell hb _
/-- The sort of a node that is no Ite, by its operator. -/
def sortO (op so : Int) : Int :=
  if (op == 1) = true then so else if (op == 3) = true then so
  else if (op == 2) = true then 1 else if (op == 4) = true then 1 else if (op == 5) = true then 1 else if (op == 6) = true then 1 else if (op == 7) = true then 1 else if (op == 14) = true then 1 else if (op == 16) = true then 1
  else if (op == 9) = true then 4 else if (op == 10) = true then 4 else if (op == 11) = true then 4 else if (op == 12) = true then 4 else if (op == 13) = true then 4
  else if (op == 15) = true then 5
  else if (op == 30) = true then 2 else if (op == 31) = true then 2 else if (op == 32) = true then 2 else if (op == 33) = true then 2 else if (op == 34) = true then 2 else if (op == 35) = true then 2 else if (op == 36) = true then 2 else if (op == 37) = true then 2 else if (op == 38) = true then 2 else if (op == 39) = true then 2 else if (op == 40) = true then 2 else if (op == 41) = true then 2 else if (op == 42) = true then 2
  else 0

/-- The sort of a node: of an Ite that of its second kid. -/
def sortN : Nd → Int
  | .mk op so _ _ [] => if op = 8 then 0 else sortO op so
  | .mk op so _ _ [_] => if op = 8 then 0 else sortO op so
  | .mk op so _ _ (_ :: k :: _) => if op = 8 then sortN k else sortO op so

theorem sortN_no {t : Nd} (h : t.op ≠ 8) : sortN t = sortO t.op t.so := by
  obtain ⟨op, so, nm, nu, ks⟩ := t
  match ks with
  | [] => rw [sortN]; exact if_neg h
  | [_] => rw [sortN]; exact if_neg h
  | _ :: _ :: _ => rw [sortN]; exact if_neg h
theorem sortN_short {t : Nd} (h : t.op = 8) (hl : t.ks.length < 2) : sortN t = 0 := by
  obtain ⟨op, so, nm, nu, ks⟩ := t
  match ks, hl with
  | [], _ => rw [sortN]; exact if_pos h
  | [_], _ => rw [sortN]; exact if_pos h
theorem sortN_ite {t : Nd} (h : t.op = 8) (hl : 1 < t.ks.length) : sortN t = sortN t.ks[1] := by
  obtain ⟨op, so, nm, nu, ks⟩ := t
  match ks, hl with
  | _ :: k :: _, _ => rw [sortN]; exact if_pos h

set_option maxRecDepth 100000 in
set_option maxHeartbeats 2000000 in
theorem sort_any (t : Nd) (A : Option Addr) (cap : Nat) (w : World) (hL : Lies w A cap t.ks) :
    Calls Tryz.prog 96 #[nv t.op t.so t.nm t.nu (.slice A t.ks.length cap)] w fun e w' => e = .returned (.int .i64 (sortN t)) ∧ Below w.heap.size w w' := by
  have HL := Lib.hid hL
  clear hL
  go_enter Tryz.func96, Tryz.ntmps96
  go_wp2_with fail
  go_loopg [3] (SizeOf.sizeOf t) (fun k s wr => ∃ (q : Nd) (B : Option Addr) (C : Nat), SizeOf.sizeOf q = k ∧ Hid (Lies w B C q.ks) ∧ Hid (sortN t = sortN q) ∧ Below w.heap.size w wr ∧ Five wr w.heap.size 0 q (.slice B q.ks.length C) ∧ Thawed wr w.heap.size)
  case atStart => exact ⟨t, A, cap, rfl, HL, rfl, (Below.refl _ _).alloc (Nat.le_refl _) _, five_new _ _ _ _, thawed_new _ _ _ _ _ _ _⟩
  case round =>
    obtain ⟨q, B, C, hk, hq, hs, hB, h5, hf⟩ := hrel
    have H5 := Lib.hid h5
    have HF := Lib.hid hf
    obtain ⟨a0, a1, a2, a3, a4⟩ := h5
    obtain ⟨f0, f1, f2, f3, f4⟩ := hf
    by_cases h8 : q.op = 8
    · have h8' : (q.op == 8) = true := by simpa using h8
      by_cases hl : q.ks.length < 2
      · have hr := Lib.hid (sortN_short h8 hl)
        clear h8
        go_wp2_with fail
        go_ret
        exact ⟨by rw [hs.out, hr.out]; rfl, hB⟩
      · have hl' : 1 < q.ks.length := by omega
        obtain ⟨b, o, B', C', rfl, g5, hK⟩ := hq.out.kid hl'
        have hr := Lib.hid (sortN_ite h8 hl')
        have hsz := Lib.hid (q.size_kid (List.getElem_mem hl'))
        generalize q.ks[1] = r at *
        obtain ⟨b0, b1, b2, b3, b4⟩ := g5.later hB
        clear h8 g5
        go_wp2_with fail
        go_roundg (SizeOf.sizeOf r)
        case measure => have := hsz.out; omega
        case rel => exact ⟨r, B', C', rfl, hK, by rw [hs.out, hr.out]; rfl, below_stored hB (Nat.le_refl _) r _, five_stored H5.out r _, HF.out.stored r _⟩
    · have h8' : (q.op == 8) = false := by simpa using h8
      have hr := Lib.hid (sortN_no h8)
      clear h8
      go_wp2_with fail
      all_goals go_ret
      all_goals exact ⟨by rw [hs.out, hr.out]; simp [sortO, *], hB⟩
def letB (c : Int) : Bool := decide (97 ≤ c ∧ c ≤ 122 ∨ 65 ≤ c ∧ c ≤ 90)
def digB (c : Int) : Bool := decide (48 ≤ c ∧ c ≤ 57)

set_option maxHeartbeats 400000 in
theorem letter_any (c : Int) (w : World) : Calls Tryz.prog 82 #[.int .u8 c] w fun e w' => e = .returned (.bool (letB c)) ∧ w = w' := by
  have hb : ∀ b, letB c = b ↔ decide (97 ≤ c ∧ c ≤ 122 ∨ 65 ≤ c ∧ c ≤ 90) = b := fun b => Iff.rfl
  generalize letB c = B at *
  by_cases h1 : 97 ≤ c
  · by_cases h2 : c ≤ 122
    · obtain rfl : B = true := (hb _).2 (by simp; omega)
      clear hb
      go_enter Tryz.func82, Tryz.ntmps82
      go_wp2
      go_ret
      exact ⟨rfl, rfl⟩
    · obtain rfl : B = false := (hb _).2 (by simp; omega)
      clear hb
      have h3 : 65 ≤ c := by omega
      have h4 : ¬ c ≤ 90 := by omega
      go_enter Tryz.func82, Tryz.ntmps82
      go_wp2
      go_ret
      exact ⟨rfl, rfl⟩
  · by_cases h3 : 65 ≤ c
    · by_cases h4 : c ≤ 90
      · obtain rfl : B = true := (hb _).2 (by simp; omega)
        clear hb
        go_enter Tryz.func82, Tryz.ntmps82
        go_wp2
        go_ret
        exact ⟨rfl, rfl⟩
      · obtain rfl : B = false := (hb _).2 (by simp; omega)
        clear hb
        go_enter Tryz.func82, Tryz.ntmps82
        go_wp2
        go_ret
        exact ⟨rfl, rfl⟩
    · obtain rfl : B = false := (hb _).2 (by simp; omega)
      clear hb
      go_enter Tryz.func82, Tryz.ntmps82
      go_wp2
      go_ret
      exact ⟨rfl, rfl⟩

set_option maxHeartbeats 400000 in
theorem digit_any (c : Int) (w : World) : Calls Tryz.prog 83 #[.int .u8 c] w fun e w' => e = .returned (.bool (digB c)) ∧ w = w' := by
  have hb : ∀ b, digB c = b ↔ decide (48 ≤ c ∧ c ≤ 57) = b := fun b => Iff.rfl
  generalize digB c = B at *
  by_cases h1 : 48 ≤ c
  · by_cases h2 : c ≤ 57
    · obtain rfl : B = true := (hb _).2 (by simp; omega)
      clear hb
      go_enter Tryz.func83, Tryz.ntmps83
      go_wp2
      go_ret
      exact ⟨rfl, rfl⟩
    · obtain rfl : B = false := (hb _).2 (by simp; omega)
      clear hb
      go_enter Tryz.func83, Tryz.ntmps83
      go_wp2
      go_ret
      exact ⟨rfl, rfl⟩
  · obtain rfl : B = false := (hb _).2 (by simp; omega)
    clear hb
    go_enter Tryz.func83, Tryz.ntmps83
    go_wp2
    go_ret
    exact ⟨rfl, rfl⟩

/-- The words of formulas. -/
def wordB (l : List UInt8) : Bool :=
  if (l == [116, 114, 117, 101]) = true then true
  else if (l == [102, 97, 108, 115, 101]) = true then true
  else if (l == [105, 110]) = true then true
  else if (l == [115, 117, 98]) = true then true
  else if (l == [101, 109, 112, 116, 121]) = true then true
  else if (l == [115, 105, 110, 103]) = true then true
  else if (l == [99, 117, 112]) = true then true
  else if (l == [99, 97, 112]) = true then true
  else if (l == [100, 105, 102, 102]) = true then true
  else if (l == [115, 101, 108]) = true then true
  else if (l == [115, 116, 111]) = true then true
  else if (l == [118, 108, 101, 110]) = true then true
  else if (l == [105, 116, 101]) = true then true
  else false

set_option maxHeartbeats 2000000 in
theorem word_any (s : ByteArray) (w : World) : Calls Tryz.prog 84 #[.string s] w fun e w' => e = .returned (.bool (wordB s.toList)) ∧ w = w' := by
  go_enter Tryz.func84, Tryz.ntmps84
  go_wp2
  all_goals go_ret
  all_goals first
    | exact ⟨by simp only [wordB, *]; rfl, rfl⟩
    | (exfalso; simp_all; done)
/-- A byte that a name may hold behind its first. -/
def okC (c : Int) : Bool := letB c || (digB c || c == 46)
/-- Whether a string is a name. -/
def nameB (s : ByteArray) : Bool := decide (s.size ≤ 24 ∧ (∃ h : 0 < s.size, letB (s[0]).toNat = true) ∧ (∀ k (h : k < s.size), okC (s[k]).toNat = true)) && !wordB s.toList
theorem nameB_no {s : ByteArray} (h : ¬ (s.size ≤ 24 ∧ (∃ h : 0 < s.size, letB (s[0]).toNat = true) ∧ (∀ k (h : k < s.size), okC (s[k]).toNat = true))) : nameB s = false := by
  unfold nameB; rw [decide_eq_false h]; rfl
theorem nameB_yes {s : ByteArray} (h : (s.size ≤ 24 ∧ (∃ h : 0 < s.size, letB (s[0]).toNat = true) ∧ (∀ k (h : k < s.size), okC (s[k]).toNat = true))) : nameB s = !wordB s.toList := by
  unfold nameB; rw [decide_eq_true h]; rfl
theorem toList_size (s : ByteArray) : s.toList.length = s.size := by rw [ByteArray.toList_eq]; rfl

set_option maxRecDepth 100000 in
set_option maxHeartbeats 2000000 in
theorem name_any (s : ByteArray) (w : World) : Calls Tryz.prog 55 #[.string s] w fun e w' => e = .returned (.bool (nameB s)) ∧ w = w' := by
  by_cases h0 : s.size = 0
  · have e0 : (s.toList == []) = true := by rw [beq_iff_eq, ← List.length_eq_zero_iff, toList_size]; exact h0
    rw [nameB_no (fun h => by obtain ⟨_, ⟨h, _⟩, _⟩ := h; omega)]
    go_enter Tryz.func55, Tryz.ntmps55
    go_wp2_with fail
    go_ret
    exact ⟨rfl, rfl⟩
  have e0 : (s.toList == []) = false := by rw [beq_eq_false_iff_ne, ne_eq, ← List.length_eq_zero_iff, toList_size]; exact h0
  by_cases h1 : 24 < s.size
  · rw [nameB_no (fun h => by obtain ⟨h, _, _⟩ := h; omega)]
    go_enter Tryz.func55, Tryz.ntmps55
    go_wp2_with fail
    go_ret
    exact ⟨rfl, rfl⟩
  have hp : 0 < s.size := by omega
  by_cases h2 : letB (s[0]).toNat = true
  case neg =>
    rw [nameB_no (fun h => by obtain ⟨_, ⟨_, h⟩, _⟩ := h; exact h2 h)]
    have h2' : letB (s[0]).toNat = false := by simpa using h2
    have H2 := Lib.hid h2'
    clear h2 h2' h0
    go_enter Tryz.func55, Tryz.ntmps55
    go_wp2_with fail
    refine (letter_any _ _).mono ?_
    rintro e w' ⟨rfl, rfl⟩
    rw [H2.out]
    go_wp2_with fail
    go_ret
    exact ⟨rfl, rfl⟩
  have H2 := Lib.hid h2
  clear h2 h0
  go_enter Tryz.func55, Tryz.ntmps55
  go_wp2_with fail
  refine (letter_any _ _).mono ?_
  rintro e w' ⟨rfl, rfl⟩
  rw [H2.out]
  go_wp2_with fail
  go_loop [20] (fun i => ∃ k : Nat, k ≤ s.size ∧ i = .int .i64 k ∧ Hid (∀ j (h : j < s.size), j < k → okC (s[j]).toNat = true)) (fun i => s.size - (intOf i).toNat)
  case atStart => exact ⟨0, Nat.zero_le _, rfl, fun j _ h => by omega⟩
  case round =>
    obtain ⟨k, hk, rfl, hj⟩ := hrel
    by_cases hlt : k < s.size
    · have hsn : okC (s[k]).toNat = true → Hid (∀ j (h : j < s.size), j < k + 1 → okC (s[j]).toNat = true) := fun ho j hjs hjk => by
        by_cases e : j = k
        · subst e; exact ho
        · exact hj.out j hjs (by omega)
      have hno : okC (s[k]).toNat = false → Hid (nameB s = false) := fun ho => nameB_no (fun h => by have := h.2.2 k hlt; rw [ho] at this; cases this)
      have hsn := Lib.hid hsn
      have hno := Lib.hid hno
      have hok := Lib.hid (show okC (s[k]).toNat = (letB (s[k]).toNat || (digB (s[k]).toNat || ((s[k]).toNat : Int) == 46)) from rfl)
      cases hL : letB (s[k]).toNat
      case true =>
        have HL := Lib.hid hL
        clear hL
        go_wp2_with fail
        refine (letter_any _ _).mono ?_
        rintro e w' ⟨rfl, rfl⟩
        rw [HL.out]
        go_wp2_with fail
        go_round
        case rel => exact ⟨k + 1, by omega, by go_num, hsn.out (by rw [hok.out, HL.out]; rfl)⟩
        case measure => simp [intOf]; omega
      case false =>
        have HL := Lib.hid hL
        clear hL
        cases hD : digB (s[k]).toNat
        case true =>
          have HD := Lib.hid hD
          clear hD
          go_wp2_with fail
          refine (letter_any _ _).mono ?_
          rintro e w' ⟨rfl, rfl⟩
          rw [HL.out]
          go_wp2_with fail
          refine (digit_any _ _).mono ?_
          rintro e w' ⟨rfl, rfl⟩
          rw [HD.out]
          go_wp2_with fail
          go_round
          case rel => exact ⟨k + 1, by omega, by go_num, hsn.out (by rw [hok.out, HL.out, HD.out]; rfl)⟩
          case measure => simp [intOf]; omega
        case false =>
          have HD := Lib.hid hD
          clear hD
          cases hP : ((s[k]).toNat : Int) == 46
          case true =>
            go_wp2_with fail
            refine (letter_any _ _).mono ?_
            rintro e w' ⟨rfl, rfl⟩
            rw [HL.out]
            go_wp2_with fail
            refine (digit_any _ _).mono ?_
            rintro e w' ⟨rfl, rfl⟩
            rw [HD.out]
            go_wp2_with fail
            go_round
            case rel => exact ⟨k + 1, by omega, by go_num, hsn.out (by rw [hok.out, HL.out, HD.out, hP]; rfl)⟩
            case measure => simp [intOf]; omega
          case false =>
            have Hno := Lib.hid (hno.out (by rw [hok.out, HL.out, HD.out, hP]; rfl)).out
            go_wp2_with fail
            refine (letter_any _ _).mono ?_
            rintro e w' ⟨rfl, rfl⟩
            rw [HL.out]
            go_wp2_with fail
            refine (digit_any _ _).mono ?_
            rintro e w' ⟨rfl, rfl⟩
            rw [HD.out]
            go_wp2_with fail
            go_ret
            exact ⟨by rw [Hno.out]; rfl, rfl⟩
    · have HY := Lib.hid (nameB_yes (s := s) ⟨by omega, ⟨hp, H2.out⟩, fun k h => hj.out k h (by omega)⟩)
      go_wp2_with fail
      refine (word_any _ _).mono ?_
      rintro e w' ⟨rfl, rfl⟩
      go_wp2_with fail
      go_ret
      exact ⟨by rw [HY.out]; rfl, rfl⟩
/-- A slice value holds a list of ints in w. -/
def Ints (w : World) (SA : Option Addr) (sl : List Int) : Prop := ∃ b o, (0 < sl.length → SA = some ⟨b, o, none⟩) ∧ ∀ i (hi : i < sl.length), w.cell? ⟨b, o + i, none⟩ = some (.int .i64 sl[i])
theorem Ints.later {w w' : World} {SA : Option Addr} {sl : List Int} (h : Ints w SA sl) (hb : Below w.heap.size w w') : Ints w' SA sl := by
  obtain ⟨b, o, h1, h2⟩ := h
  exact ⟨b, o, h1, fun i hi => cellB hb (Nat.le_refl _) (h2 i hi)⟩

def takesB (ks : List Nd) (sl : List Int) : Bool := decide (ks.map sortN = sl)

set_option maxRecDepth 100000 in
set_option maxHeartbeats 2000000 in
theorem takes_any (ks : List Nd) (sl : List Int) (A SA : Option Addr) (cap scap : Nat) (w : World) (hL : Lies w A cap ks) (hS : Ints w SA sl) (hsl : sl.length ≤ 10) :
    Calls Tryz.prog 142 #[.slice A ks.length cap, .slice SA sl.length scap] w fun e w' => e = .returned (.bool (takesB ks sl)) ∧ Below w.heap.size w w' := by
  have hn := hL.len
  unfold maxLen at hn
  have HL := Lib.hid hL
  have HS := Lib.hid hS
  clear hL hS
  by_cases h1 : ks.length = sl.length
  case neg =>
    have h1' : ((ks.length : Int) == (sl.length : Int)) = false := by rw [beq_eq_false_iff_ne]; omega
    have Hr := Lib.hid (show takesB ks sl = false from decide_eq_false (fun h => h1 (by rw [← h, List.length_map])))
    clear h1
    go_enter Tryz.func142, Tryz.ntmps142
    go_wp2_with fail
    go_ret
    exact ⟨by rw [Hr.out]; rfl, Below.refl _ _⟩
  have h1' : ((ks.length : Int) == (sl.length : Int)) = true := by rw [beq_iff_eq]; omega
  have h1'' : ((ks.length : Int) != (sl.length : Int)) = false := by simp; omega
  have H1 := Lib.hid h1
  clear h1
  go_enter Tryz.func142, Tryz.ntmps142
  go_wp2_with fail
  go_loopw [14] (fun i wr => ∃ k : Nat, k ≤ sl.length ∧ i = .int .i64 k ∧ Hid ((ks.take k).map sortN = sl.take k) ∧ Below w.heap.size w wr) (fun i _ => sl.length - (intOf i).toNat)
  case atStart => exact ⟨0, Nat.zero_le _, rfl, rfl, Below.refl _ _⟩
  case round =>
    obtain ⟨k, hk, rfl, hj, hB⟩ := hrel
    by_cases hlt : k < sl.length
    · have hltk : k < ks.length := by have := H1.out; omega
      obtain ⟨b, o, A', C', rfl, h5, hK⟩ := HL.out.kid hltk
      obtain ⟨sb, so, hsa, hsc⟩ := HS.out.later hB
      obtain rfl := hsa (by omega)
      have c0 := hsc k hlt
      obtain ⟨a0, a1, a2, a3, a4⟩ := h5.later hB
      have hK' := Lib.hid (hK.later hB)
      have hsn : sortN ks[k] = sl[k] → Hid ((ks.take (k + 1)).map sortN = sl.take (k + 1)) := fun e => by
        show _ = _
        rw [List.take_succ_eq_append_getElem hltk, List.take_succ_eq_append_getElem hlt, List.map_append, hj.out]
        simp [e]
      have hno : sortN ks[k] ≠ sl[k] → Hid (takesB ks sl = false) := fun e => decide_eq_false (fun h => e (by subst h; simp))
      have hsn := Lib.hid hsn
      have hno := Lib.hid hno
      generalize sl[k] = z at *
      generalize ks[k] = q at *
      clear h5 hK hsc HS HL hj
      by_cases hz : sortN q = z
      · have hz' : (sortN q == z) = true := by simpa using hz
        have Hz := Lib.hid hz
        clear hz
        go_wp2_with fail
        refine (sort_any q _ _ _ hK'.out).mono ?_
        rintro e w1 ⟨rfl, hb1⟩
        have hB1 : Below w.heap.size w w1 := hB.trans (hb1.mono hB.size)
        clear hb1
        go_wp2_with fail
        go_roundw
        case rel => exact ⟨k + 1, by omega, by go_num, hsn.out Hz.out, hB1⟩
        case measure => simp [intOf]; omega
      · have hz' : (sortN q == z) = false := by simpa using hz
        have Hr := Lib.hid (hno.out hz).out
        clear hz
        go_wp2_with fail
        refine (sort_any q _ _ _ hK'.out).mono ?_
        rintro e w1 ⟨rfl, hb1⟩
        have hB1 : Below w.heap.size w w1 := hB.trans (hb1.mono hB.size)
        clear hb1
        go_wp2_with fail
        go_ret
        exact ⟨by rw [Hr.out]; rfl, hB1⟩
    · have Hr := Lib.hid (show takesB ks sl = true from decide_eq_true (by have := hj.out; rwa [List.take_of_length_le (by have := H1.out; omega), List.take_of_length_le (by omega)] at this))
      go_wp2_with fail
      go_ret
      exact ⟨by rw [Hr.out]; rfl, hB⟩

def alikeB (t u : Nd) : Bool := decide (sortN t = sortN u ∧ (sortN t = 1 ∨ sortN t = 3 ∨ sortN t = 4 ∨ sortN t = 5))

set_option maxRecDepth 100000 in
set_option maxHeartbeats 2000000 in
theorem alike_any (t u : Nd) (A A' : Option Addr) (cap cap' : Nat) (w : World) (hL : Lies w A cap t.ks) (hL' : Lies w A' cap' u.ks) :
    Calls Tryz.prog 143 #[nv t.op t.so t.nm t.nu (.slice A t.ks.length cap), nv u.op u.so u.nm u.nu (.slice A' u.ks.length cap')] w fun e w' => e = .returned (.bool (alikeB t u)) ∧ Below w.heap.size w w' := by
  have hal : Hid (alikeB t u = decide (sortN t = sortN u ∧ (sortN t = 1 ∨ sortN t = 3 ∨ sortN t = 4 ∨ sortN t = 5))) := rfl
  have HB : ∀ O O', Below w.heap.size w ((w.alloc O).alloc O') := fun O O' => ((Below.refl _ _).alloc (Nat.le_refl _) _).alloc (by simp) _
  have HL := Lib.hid hL
  have HL' := Lib.hid hL'
  clear hL hL'
  go_enter Tryz.func143, Tryz.ntmps143
  go_wp2_with fail
  refine (sort_any t _ _ _ (HL.out.later (HB _ _))).mono ?_
  rintro e w1 ⟨rfl, hb1⟩
  have hB1 : Below w.heap.size w w1 := (HB _ _).trans (hb1.mono (by simp; omega))
  have d0 : w1.cell? ⟨w.heap.size + 1, 0, none⟩ = some (.int .i64 u.op) := (hb1.cell (by simp)).trans (by simp [go_sem])
  have d1 : w1.cell? ⟨w.heap.size + 1, 1, none⟩ = some (.int .i64 u.so) := (hb1.cell (by simp)).trans (by simp [go_sem])
  have d2 : w1.cell? ⟨w.heap.size + 1, 2, none⟩ = some (.string u.nm) := (hb1.cell (by simp)).trans (by simp [go_sem])
  have d3 : w1.cell? ⟨w.heap.size + 1, 3, none⟩ = some (.int .i64 u.nu) := (hb1.cell (by simp)).trans (by simp [go_sem])
  have d4 : w1.cell? ⟨w.heap.size + 1, 4, none⟩ = some (.slice A' u.ks.length cap') := (hb1.cell (by simp)).trans (by simp [go_sem])
  clear hb1 HL
  have HL1 := Lib.hid (HL'.out.later hB1)
  clear HL'
  go_wp2_with fail
  refine (sort_any u _ _ _ HL1.out).mono ?_
  rintro e w2 ⟨rfl, hb2⟩
  have hB2 : Below w.heap.size w w2 := hB1.trans (hb2.mono hB1.size)
  clear hb2 d0 d1 d2 d3 d4 HL1
  generalize sortN t = x at *
  generalize sortN u = y at *
  by_cases e1 : x = y
  case neg =>
    have e1' : (x == y) = false := by simpa using e1
    have Hr := Lib.hid (hal.out.trans (decide_eq_false (fun h => e1 h.1)))
    clear hal e1
    go_wp2_with fail
    go_ret
    exact ⟨by rw [Hr.out]; rfl, hB2⟩
  subst e1
  have hal2 := Lib.hid hal.out
  clear hal
  by_cases f1 : x = 1
  · subst f1
    have Hr := Lib.hid (hal2.out.trans (decide_eq_true (by simp)))
    go_wp2_with fail
    go_ret
    exact ⟨by rw [Hr.out]; rfl, hB2⟩
  by_cases f3 : x = 3
  · subst f3
    have Hr := Lib.hid (hal2.out.trans (decide_eq_true (by simp)))
    go_wp2_with fail
    go_ret
    exact ⟨by rw [Hr.out]; rfl, hB2⟩
  by_cases f4 : x = 4
  · subst f4
    have Hr := Lib.hid (hal2.out.trans (decide_eq_true (by simp)))
    go_wp2_with fail
    go_ret
    exact ⟨by rw [Hr.out]; rfl, hB2⟩
  by_cases f5 : x = 5
  · subst f5
    have Hr := Lib.hid (hal2.out.trans (decide_eq_true (by simp)))
    go_wp2_with fail
    go_ret
    exact ⟨by rw [Hr.out]; rfl, hB2⟩
  have Hr := Lib.hid (hal2.out.trans (decide_eq_false (by simp [f1, f3, f4, f5])))
  have g0 : (x == x) = true := by simp
  have g1 : (x == 1) = false := by simpa using f1
  have g3 : (x == 3) = false := by simpa using f3
  have g4 : (x == 4) = false := by simpa using f4
  have g5 : (x == 5) = false := by simpa using f5
  clear f1 f3 f4 f5
  go_wp2_with fail
  go_ret
  exact ⟨by rw [Hr.out]; rfl, hB2⟩
end Go.Proofs.YtmeeombadkgneaaGreat
