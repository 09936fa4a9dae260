/-
  The state of the program's scanner in memory, and what its method skip does to it: it goes behind blanks and comments; conditions: the text is no longer than a string can be.
-/
import Derived.Deep.QuietTactic
import Derived.BigQuiet
import Derived.Deep.RegionWith
import Derived.Test.YtgkjcimgghflmaaGreatDoorZPq0
import Derived.Test.YtgkjcimgghflmaaGreatDoorZPsp
namespace Go.Proofs.YtgkjcimgghflmaaGreatDoor
open Go.RowKit Go.Shelf

attribute [local go_sem] Oper.semAt_some
theorem spn_spec (q : UInt8 → Bool) : ∀ l : List UInt8, spn q l ≤ l.length ∧ (∀ j (h : j < l.length), j < spn q l → q l[j] = true) ∧ (spn q l = l.length ∨ ∃ h : spn q l < l.length, q l[spn q l] = false)
  | [] => ⟨Nat.le_refl _, fun j h => by simp at h, .inl rfl⟩
  | c :: l => by
    obtain ⟨h1, h2, h3⟩ := spn_spec q l
    cases hc : q c
    case false =>
      have e : spn q (c :: l) = 0 := by simp [spn, hc]
      rw [e]
      exact ⟨Nat.zero_le _, fun j _ hj => absurd hj (by omega), .inr ⟨by simp, hc⟩⟩
    case true =>
      have e : spn q (c :: l) = spn q l + 1 := by simp [spn, hc]
      rw [e]
      refine ⟨by simpa using h1, fun j h hj => ?_, ?_⟩
      · match j with
        | 0 => exact hc
        | j + 1 => exact h2 j (by simpa using h) (by omega)
      · rcases h3 with h3 | ⟨h, h3⟩
        · exact .inl (by simp [h3])
        · exact .inr ⟨by simpa using h, by simpa using h3⟩
/-- The bytes of a kind from a position on, over positions of the text. -/
theorem spn_pos (q : UInt8 → Bool) (s : ByteArray) {a : Nat} (ha : a ≤ s.size) : a + spn q ((lst s).drop a) ≤ s.size ∧ (∀ j (h : j < s.size), a ≤ j → j < a + spn q ((lst s).drop a) → q s[j] = true) ∧
    (a + spn q ((lst s).drop a) = s.size ∨ ∃ h : a + spn q ((lst s).drop a) < s.size, q s[a + spn q ((lst s).drop a)] = false) := by
  obtain ⟨h1, h2, h3⟩ := spn_spec q ((lst s).drop a)
  have hl : ((lst s).drop a).length = s.size - a := by rw [List.length_drop, lst_len]
  have hg : ∀ j (h : j < s.size) (h0 : a ≤ j), ((lst s).drop a)[j - a]'(by omega) = s[j] := fun j h h0 => by
    rw [List.getElem_drop]
    have : a + (j - a) = j := by omega
    simp only [this]; rfl
  generalize spn q ((lst s).drop a) = n at *
  refine ⟨by omega, fun j h h0 hj => ?_, ?_⟩
  · rw [← hg j h h0]; exact h2 _ _ (by omega)
  · rcases h3 with h3 | ⟨h, h3⟩
    · exact .inl (by omega)
    · refine .inr ⟨by omega, ?_⟩
      rw [← hg (a + n) (by omega) (by omega)]
      have : a + n - a = n := by omega
      simpa only [this] using h3
theorem lst_cut (s : ByteArray) (a : Nat) : lst (s.extract a s.size) = (lst s).drop a := by
  rw [extract_bs]
  show ((lst s).drop a).take (s.size - a) = _
  exact List.take_of_length_le (by rw [List.length_drop, lst_len]; omega)
theorem blB_eq (c : UInt8) : blB c.toNat = blankC c := by
  rw [Bool.eq_iff_iff, blankC_iff]
  simp [blB]
theorem bl_run {s : ByteArray} : ∀ (n a : Nat), a + n ≤ s.size → (∀ j (h : j < s.size), a ≤ j → j < a + n → blankC s[j] = true) → bl s (a + n) = bl s a
  | 0, a, _, _ => rfl
  | n + 1, a, h, hb => by
    rw [bl_blank (by omega) (hb a (by omega) (Nat.le_refl _) (by omega)), ← bl_run n (a + 1) (by omega) (fun j hj h1 h2 => hb j hj (by omega) (by omega))]
    congr 1; omega
theorem ln_run {s : ByteArray} : ∀ (n a : Nat), a + n ≤ s.size → (∀ j (h : j < s.size), a ≤ j → j < a + n → s[j] ≠ 10) → ln s (a + n) = ln s a
  | 0, a, _, _ => rfl
  | n + 1, a, h, hb => by
    rw [ln_go (by omega) (hb a (by omega) (Nat.le_refl _) (by omega)), ← ln_run n (a + 1) (by omega) (fun j hj h1 h2 => hb j hj (by omega) (by omega))]
    congr 1; omega
def bq (c : UInt8) : Bool := blB c.toNat
def lq (c : UInt8) : Bool := (c.toNat : Int) != 10
theorem lq_iff (c : UInt8) : lq c = true ↔ c ≠ 10 := by
  unfold lq
  rw [show (10 : UInt8) = UInt8.ofNat 10 from rfl, ne_eq, u8_num c 10 (by omega)]
  simp
/-- A round of skip: behind the blanks no comment follows. -/
theorem skip_stop {s : ByteArray} {a : Nat} (ha : a ≤ s.size) (h : [35].isPrefixOf ((lst s).drop (a + spn bq ((lst s).drop a))) = false) : a + spn bq ((lst s).drop a) = bl s a ∧ a + spn bq ((lst s).drop a) ≤ s.size := by
  obtain ⟨h1, h2, h3⟩ := spn_pos bq s ha
  have hr := bl_run (s := s) (spn bq ((lst s).drop a)) a h1 (fun j hj h0 hlt => by rw [← blB_eq]; exact h2 j hj h0 hlt)
  generalize spn bq ((lst s).drop a) = n at *
  refine ⟨?_, h1⟩
  rw [← hr]
  rcases h3 with h3 | ⟨hlt, h3⟩
  · exact (bl_end (by omega)).symm
  · rw [drop_cons s _ hlt] at h
    refine (bl_stop hlt (fun e => ?_) (by rw [← blB_eq]; exact h3)).symm
    rw [e] at h; simp at h
/-- A round of skip: a comment follows, and is passed. -/
theorem skip_go {s : ByteArray} {a : Nat} (ha : a ≤ s.size) (h : [35].isPrefixOf ((lst s).drop (a + spn bq ((lst s).drop a))) = true) :
    a + spn bq ((lst s).drop a) ≤ s.size ∧ a < a + spn bq ((lst s).drop a) + spn lq ((lst s).drop (a + spn bq ((lst s).drop a))) ∧ a + spn bq ((lst s).drop a) + spn lq ((lst s).drop (a + spn bq ((lst s).drop a))) ≤ s.size ∧ bl s (a + spn bq ((lst s).drop a) + spn lq ((lst s).drop (a + spn bq ((lst s).drop a)))) = bl s a := by
  obtain ⟨h1, h2, h3⟩ := spn_pos bq s ha
  have hr := bl_run (s := s) (spn bq ((lst s).drop a)) a h1 (fun j hj h0 hlt => by rw [← blB_eq]; exact h2 j hj h0 hlt)
  generalize spn bq ((lst s).drop a) = n at *
  rcases Nat.lt_or_ge (a + n) s.size with hlt | hge
  · have hc : s[a + n] = 35 := by
      rw [drop_cons s _ hlt] at h
      simp at h
      exact h.symm
    obtain ⟨k1, k2, k3⟩ := spn_pos lq s h1
    have hl := ln_run (s := s) (spn lq ((lst s).drop (a + n))) (a + n) k1 (fun j hj h0 hj2 => (lq_iff _).1 (k2 j hj h0 hj2))
    have hpos : 0 < spn lq ((lst s).drop (a + n)) := by
      rw [drop_cons s _ hlt, spn, List.takeWhile_cons_of_pos (by rw [hc]; decide)]
      simp
    generalize spn lq ((lst s).drop (a + n)) = m at *
    refine ⟨h1, by omega, k1, ?_⟩
    rw [← hr, bl_hash hlt hc, ← hl]
    rcases k3 with k3 | ⟨hm, k3⟩
    · rw [bl_end (by omega), ln_end (by omega)]
    · exact (ln_stop hm (by
        refine Classical.byContradiction fun hne => ?_
        rw [(lq_iff _).2 hne] at k3; cases k3)).symm
  · rw [drop_nil s _ hge] at h; cases h

/-- The cells of a scanner; o: those of a parser, with its open levels. -/
def scRow (s : ByteArray) (at' : Nat) (k na : Int) (nt : ByteArray) (rdy : Bool) : Option Int → Array Value
  | none => #[.string s, .int .i64 at', .int .i64 k, .int .i64 na, .string nt, .bool rdy]
  | some o => #[.string s, .int .i64 at', .int .i64 k, .int .i64 na, .string nt, .bool rdy, .int .i64 o]
def scTy : Option Int → Nat
  | none => 43
  | some _ => 45
def QSt (W : World) (p : Nat) (s : ByteArray) (at' : Nat) (k na : Int) (nt : ByteArray) (rdy : Bool) (o : Option Int) : Prop := W.heap[p]? = some (.cells (scRow s at' k na nt rdy o) (scTy o) (0, 0))
theorem QSt.later {W W' : World} {p : Nat} {s : ByteArray} {at' : Nat} {k na : Int} {nt : ByteArray} {rdy : Bool} {o : Option Int} (h : QSt W p s at' k na nt rdy o) (hb : Below W.heap.size W W') : QSt W' p s at' k na nt rdy o :=
  (hb.block p (Array.getElem?_eq_some_iff.1 h).1).trans h
theorem QSt.lt {W : World} {p : Nat} {s : ByteArray} {at' : Nat} {k na : Int} {nt : ByteArray} {rdy : Bool} {o : Option Int} (h : QSt W p s at' k na nt rdy o) : p < W.heap.size := (Array.getElem?_eq_some_iff.1 h).1
structure QCells (W : World) (p : Nat) (s : ByteArray) (at' : Nat) (k na : Int) (nt : ByteArray) (rdy : Bool) : Prop where
  c0 : W.cell? ⟨p, 0, none⟩ = some (.string s)
  c1 : W.cell? ⟨p, 1, none⟩ = some (.int .i64 at')
  c2 : W.cell? ⟨p, 2, none⟩ = some (.int .i64 k)
  c3 : W.cell? ⟨p, 3, none⟩ = some (.int .i64 na)
  c4 : W.cell? ⟨p, 4, none⟩ = some (.string nt)
  c5 : W.cell? ⟨p, 5, none⟩ = some (.bool rdy)
  f1 : W.frozen? ⟨p, 1, none⟩ = false
  f2 : W.frozen? ⟨p, 2, none⟩ = false
  f3 : W.frozen? ⟨p, 3, none⟩ = false
  f4 : W.frozen? ⟨p, 4, none⟩ = false
  f5 : W.frozen? ⟨p, 5, none⟩ = false
theorem QSt.cells {W : World} {p : Nat} {s : ByteArray} {at' : Nat} {k na : Int} {nt : ByteArray} {rdy : Bool} {o : Option Int} (h : QSt W p s at' k na nt rdy o) : QCells W p s at' k na nt rdy := by
  cases o <;> exact ⟨by rw [Lib.cell_of_heap h]; rfl, by rw [Lib.cell_of_heap h]; rfl, by rw [Lib.cell_of_heap h]; rfl, by rw [Lib.cell_of_heap h]; rfl, by rw [Lib.cell_of_heap h]; rfl, by rw [Lib.cell_of_heap h]; rfl,
    Lib.frozen_of_heap h 1, Lib.frozen_of_heap h 2, Lib.frozen_of_heap h 3, Lib.frozen_of_heap h 4, Lib.frozen_of_heap h 5⟩
theorem QSt.set1 {W : World} {p : Nat} {s : ByteArray} {at' : Nat} {k na : Int} {nt : ByteArray} {rdy : Bool} {o : Option Int} (h : QSt W p s at' k na nt rdy o) (a' : Nat) : QSt (W.setCell ⟨p, 1, none⟩ (.int .i64 a')) p s a' k na nt rdy o := by
  cases o <;> exact heap_set h
theorem QSt.set5 {W : World} {p : Nat} {s : ByteArray} {at' : Nat} {k na : Int} {nt : ByteArray} {rdy : Bool} {o : Option Int} (h : QSt W p s at' k na nt rdy o) (b : Bool) : QSt (W.setCell ⟨p, 5, none⟩ (.bool b)) p s at' k na nt b o := by
  cases o <;> exact heap_set h
theorem QSt.setT {W : World} {p : Nat} {s : ByteArray} {at' : Nat} {k na : Int} {nt : ByteArray} {rdy : Bool} {o : Option Int} (h : QSt W p s at' k na nt rdy o) (k' na' : Int) (nt' : ByteArray) :
    QSt (((W.setCell ⟨p, 2, none⟩ (.int .i64 k')).setCell ⟨p, 3, none⟩ (.int .i64 na')).setCell ⟨p, 4, none⟩ (.string nt')) p s at' k' na' nt' rdy o := by
  cases o <;> exact heap_set (heap_set (heap_set h))
/-- The place in the text, read from memory. -/
def scAt (W : World) (p : Nat) : Nat := match W.cell? ⟨p, 1, none⟩ with
  | some (.int _ n) => n.toNat
  | _ => 0
theorem QSt.at {W : World} {p : Nat} {s : ByteArray} {at' : Nat} {k na : Int} {nt : ByteArray} {rdy : Bool} {o : Option Int} (h : QSt W p s at' k na nt rdy o) : scAt W p = at' := by
  unfold scAt; rw [h.cells.c1]; simp

theorem Fr.drew {p : Nat} {A B : World} (h : Fr p A B) : Fr p A B.drew := ⟨h.os, h.tape, h.output, h.size, h.block⟩
theorem Fr.drewN {p : Nat} {A B : World} (h : Fr p A B) (n : Nat) : Fr p A (B.drewN n) := ⟨h.os, h.tape, h.output, h.size, h.block⟩
theorem below_drewN (W : World) (n : Nat) : Below W.heap.size W (W.drewN n) := ⟨rfl, rfl, rfl, Nat.le_refl _, fun _ _ => rfl⟩

set_option maxRecDepth 100000 in
set_option maxHeartbeats 4000000 in
theorem skip_any (p : Nat) (s : ByteArray) (a : Nat) (k na : Int) (nt : ByteArray) (rdy : Bool) (o : Option Int) (W : World) (h : QSt W p s a k na nt rdy o) (ha : a ≤ s.size) (hs : s.size ≤ 9223372036854775000) :
    Calls Tryz.prog 103 #[.pointer (some ⟨p, 0, none⟩)] W fun e W' => e = .returned (.tuple #[]) ∧ QSt W' p s (bl s a) k na nt rdy o ∧ Fr p W W' := by
  have H := Lib.hid h
  clear h
  go_enter Tryz.func103, Tryz.ntmps103
  go_wp2_with fail
  go_loopw [2, 3] (fun _ _ wr => ∃ j : Nat, j ≤ s.size ∧ QSt wr p s j k na nt rdy o ∧ Hid (bl s j = bl s a) ∧ Hid (Fr p W wr)) (fun _ _ wr => s.size - scAt wr p)
  case atStart => exact ⟨a, ha, H.out, rfl, Fr.refl _ _⟩
  case round =>
    obtain ⟨j, hj, hq, hb, hf⟩ := hrel
    obtain ⟨c0, c1, c2, c3, c4, c5, f1, f2, f3, f4, f5⟩ := hq.cells
    have HQ := Lib.hid hq
    have hsz : (s.extract j s.size).size = s.size - j := by simp
    have hlr := lst_cut s j
    have KD := Lib.hid (fun (n : Nat) => below_drewN wr n)
    have cs := Lib.hid (fun (W' : World) => span_any 125 bq ent125 (fun c w => pBlank_any c.toNat w) (s.extract j s.size) (by omega) W')
    rw [hlr] at cs
    obtain ⟨sp1, _, _⟩ := spn_pos bq s hj
    have ch := Lib.hid (fun (W' : World) => pHas_any ((s.extract j s.size).extract (spn bq ((lst s).drop j)) (s.extract j s.size).size) ⟨#[35]⟩ W')
    rw [lst_cut, hlr, List.drop_drop] at ch
    have cl := Lib.hid (fun (W' : World) => span_any 127 lq ent127 (fun c w => pLine_any c.toNat w) ((s.extract j s.size).extract (spn bq ((lst s).drop j)) (s.extract j s.size).size) (by simp; omega) W')
    rw [lst_cut, hlr, List.drop_drop] at cl
    have e35 : lst ⟨#[35]⟩ = [35] := rfl
    rw [e35] at ch
    have hst := Lib.hid (skip_stop (s := s) hj)
    have hgo := Lib.hid (skip_go (s := s) hj)
    clear hlr e35 hq
    go_wp2_with fail
    go_quiet (fail)
    have hw1 := KD.out nq
    generalize wr.drewN nq = w1 at *
    clear KD
    obtain ⟨c0, c1, c2, c3, c4, c5, f1, f2, f3, f4, f5⟩ := (HQ.out.later hw1).cells
    have HF1 := Lib.hid (hf.out.trans (Fr.of hw1))
    have HQ1 := Lib.hid (HQ.out.later hw1)
    clear hw1 hf
    go_wp2_with fail
    generalize s.extract j s.size = r at *
    generalize spn bq ((lst s).drop j) = n at *
    generalize spn lq ((lst s).drop (j + n)) = m at *
    generalize [35].isPrefixOf ((lst s).drop (j + n)) = b at *
    refine (cs.out _).mono ?_
    rintro e w2 ⟨rfl, rfl⟩
    clear cs
    cases b
    case false =>
      obtain ⟨k1, k2⟩ := hst.out rfl
      have HE := Lib.hid (k1.trans hb.out)
      have hn : n ≤ r.size := by omega
      clear hst hgo cl k1 hb
      rw [hsz] at ch
      go_wp2_with fail
      have HQ2 := Lib.hid (show QSt (w1.setCell ⟨p, 1, none⟩ (.int .i64 ((j : Int) + n))) p s (bl s a) k na nt rdy o from HE.out ▸ HQ1.out.set1 (j + n))
      have HF2 := Lib.hid (HF1.out.trans (Fr.set w1 1 (.int .i64 ((j : Int) + n))))
      refine (ch.out _).mono ?_
      rintro e w3 ⟨rfl, rfl⟩
      clear ch
      go_wp2_with fail
      refine bodyPost_ret (results_none rfl _ _ _) rfl ?_
      exact ⟨rfl, HQ2.out, HF2.out⟩
    case true =>
      obtain ⟨k0, k1, k2, k3⟩ := hgo.out rfl
      have HE := Lib.hid (k3.trans hb.out)
      have hn : n ≤ r.size := by omega
      clear hst hgo k3 hb
      rw [hsz] at ch cl
      go_wp2_with fail
      refine (ch.out _).mono ?_
      rintro e w3 ⟨rfl, rfl⟩
      clear ch
      have HQ2 := Lib.hid (HQ1.out.set1 (j + n))
      have HF2 := Lib.hid (HF1.out.trans (Fr.set w1 1 (.int .i64 ((j + n : Nat) : Int))))
      obtain ⟨c0, c1, c2, c3, c4, c5, f1, f2, f3, f4, f5⟩ := HQ2.out.cells
      have c1' : (w1.setCell ⟨p, 1, none⟩ (.int .i64 ((j + n : Nat) : Int))).cell? ⟨p, 1, none⟩ = some (.int .i64 ((j + n : Nat) : Int)) := c1
      rw [show (((j + n : Nat)) : Int) = (j : Int) + n from rfl] at c0 c1 c2 c3 c4 c5 f1 f2 f3 f4 f5 HQ2 HF2
      generalize (w1.setCell ⟨p, 1, none⟩ (.int .i64 ((j : Int) + n))) = w2 at *
      clear HQ1 HF1 c1'
      have hwr : IntKind.i64.wrap ((j : Int) + n + m) = (j : Int) + n + m := IntWalk.i64_in _ (by omega)
      go_wp2_with fail
      go_region_with ((go_at_call 105; ((with_reducible refine (cl.out _).mono ?_); rintro e w4 ⟨rfl, rfl⟩)))
      all_goals
        go_wp2_with fail
        go_roundw
        case rel =>
          refine ⟨j + n + m, k2, ?_, HE, ?_⟩
          · exact (HQ2.out.set1 (j + n + m))
          · exact (HF2.out.trans (Fr.set w2 1 _)).drew
        case measure =>
          have e1 := QSt.at (W := wr) HQ.out
          have e2 := QSt.at (show QSt (w2.setCell ⟨p, 1, none⟩ (.int .i64 ((j : Int) + n + m))).drew p s (j + n + m) k na nt rdy o from HQ2.out.set1 (j + n + m))
          rw [e1, e2]
          omega
end Go.Proofs.YtgkjcimgghflmaaGreatDoor
