/-
  What the method scan of the program's scanner returns: the token behind blanks and comments; conditions: the text is no longer than a string can be, and the table of signs holds what the program's text lays.
-/
import Derived.Deep.QuietTactic
import Derived.BigQuiet
import Derived.Deep.RegionWith
import Derived.StillTailTactics
import Derived.Deep.Cut
import Derived.Test.YtgkjcimgghflmaaGreatDoorYPq0
import Derived.Test.YtgkjcimgghflmaaGreatDoorYPsp
import Derived.Test.YtgkjcimgghflmaaGreatDoorYRd
namespace Go.Proofs.YtgkjcimgghflmaaGreatDoor
open Go.RowKit Go.Shelf
attribute [local go_sem] Oper.semAt_some
theorem spn_spec (q : UInt8 → Bool) : ∀ l : List UInt8, spn q l ≤ l.length ∧ (∀ j (h : j < l.length), j < spn q l → q l[j] = true) ∧ (spn q l = l.length ∨ ∃ h : spn q l < l.length, q l[spn q l] = false)
  | [] => ⟨Nat.le_refl _, fun j h => by simp at h, .inl rfl⟩
  | c :: l => by
    obtain ⟨h1, h2, h3⟩ := spn_spec q l
    cases hc : q c
    case false =>
      have e : spn q (c :: l) = 0 := by simp [spn, hc]
      rw [e]
      exact ⟨Nat.zero_le _, fun j _ hj => absurd hj (by omega), .inr ⟨by simp, hc⟩⟩
    case true =>
      have e : spn q (c :: l) = spn q l + 1 := by simp [spn, hc]
      rw [e]
      refine ⟨by simpa using h1, fun j h hj => ?_, ?_⟩
      · match j with
        | 0 => exact hc
        | j + 1 => exact h2 j (by simpa using h) (by omega)
      · rcases h3 with h3 | ⟨h, h3⟩
        · exact .inl (by simp [h3])
        · exact .inr ⟨by simpa using h, by simpa using h3⟩
/-- The bytes of a kind from a position on, over positions of the text. -/
theorem spn_pos (q : UInt8 → Bool) (s : ByteArray) {a : Nat} (ha : a ≤ s.size) : a + spn q ((lst s).drop a) ≤ s.size ∧ (∀ j (h : j < s.size), a ≤ j → j < a + spn q ((lst s).drop a) → q s[j] = true) ∧
    (a + spn q ((lst s).drop a) = s.size ∨ ∃ h : a + spn q ((lst s).drop a) < s.size, q s[a + spn q ((lst s).drop a)] = false) := by
  obtain ⟨h1, h2, h3⟩ := spn_spec q ((lst s).drop a)
  have hl : ((lst s).drop a).length = s.size - a := by rw [List.length_drop, lst_len]
  have hg : ∀ j (h : j < s.size) (h0 : a ≤ j), ((lst s).drop a)[j - a]'(by omega) = s[j] := fun j h h0 => by
    rw [List.getElem_drop]
    have : a + (j - a) = j := by omega
    simp only [this]; rfl
  generalize spn q ((lst s).drop a) = n at *
  refine ⟨by omega, fun j h h0 hj => ?_, ?_⟩
  · rw [← hg j h h0]; exact h2 _ _ (by omega)
  · rcases h3 with h3 | ⟨h, h3⟩
    · exact .inl (by omega)
    · refine .inr ⟨by omega, ?_⟩
      rw [← hg (a + n) (by omega) (by omega)]
      have : a + n - a = n := by omega
      simpa only [this] using h3
theorem lst_cut (s : ByteArray) (a : Nat) : lst (s.extract a s.size) = (lst s).drop a := by
  rw [extract_bs]
  show ((lst s).drop a).take (s.size - a) = _
  exact List.take_of_length_le (by rw [List.length_drop, lst_len]; omega)
theorem blB_eq (c : UInt8) : blB c.toNat = blankC c := by
  rw [Bool.eq_iff_iff, blankC_iff]
  simp [blB]
theorem bl_run {s : ByteArray} : ∀ (n a : Nat), a + n ≤ s.size → (∀ j (h : j < s.size), a ≤ j → j < a + n → blankC s[j] = true) → bl s (a + n) = bl s a
  | 0, a, _, _ => rfl
  | n + 1, a, h, hb => by
    rw [bl_blank (by omega) (hb a (by omega) (Nat.le_refl _) (by omega)), ← bl_run n (a + 1) (by omega) (fun j hj h1 h2 => hb j hj (by omega) (by omega))]
    congr 1; omega
theorem ln_run {s : ByteArray} : ∀ (n a : Nat), a + n ≤ s.size → (∀ j (h : j < s.size), a ≤ j → j < a + n → s[j] ≠ 10) → ln s (a + n) = ln s a
  | 0, a, _, _ => rfl
  | n + 1, a, h, hb => by
    rw [ln_go (by omega) (hb a (by omega) (Nat.le_refl _) (by omega)), ← ln_run n (a + 1) (by omega) (fun j hj h1 h2 => hb j hj (by omega) (by omega))]
    congr 1; omega
def bq (c : UInt8) : Bool := blB c.toNat
def lq (c : UInt8) : Bool := (c.toNat : Int) != 10
theorem lq_iff (c : UInt8) : lq c = true ↔ c ≠ 10 := by
  unfold lq
  rw [show (10 : UInt8) = UInt8.ofNat 10 from rfl, ne_eq, u8_num c 10 (by omega)]
  simp
/-- A round of skip: behind the blanks no comment follows. -/
theorem skip_stop {s : ByteArray} {a : Nat} (ha : a ≤ s.size) (h : [35].isPrefixOf ((lst s).drop (a + spn bq ((lst s).drop a))) = false) : a + spn bq ((lst s).drop a) = bl s a ∧ a + spn bq ((lst s).drop a) ≤ s.size := by
  obtain ⟨h1, h2, h3⟩ := spn_pos bq s ha
  have hr := bl_run (s := s) (spn bq ((lst s).drop a)) a h1 (fun j hj h0 hlt => by rw [← blB_eq]; exact h2 j hj h0 hlt)
  generalize spn bq ((lst s).drop a) = n at *
  refine ⟨?_, h1⟩
  rw [← hr]
  rcases h3 with h3 | ⟨hlt, h3⟩
  · exact (bl_end (by omega)).symm
  · rw [drop_cons s _ hlt] at h
    refine (bl_stop hlt (fun e => ?_) (by rw [← blB_eq]; exact h3)).symm
    rw [e] at h; simp at h
/-- A round of skip: a comment follows, and is passed. -/
theorem skip_go {s : ByteArray} {a : Nat} (ha : a ≤ s.size) (h : [35].isPrefixOf ((lst s).drop (a + spn bq ((lst s).drop a))) = true) :
    a + spn bq ((lst s).drop a) ≤ s.size ∧ a < a + spn bq ((lst s).drop a) + spn lq ((lst s).drop (a + spn bq ((lst s).drop a))) ∧ a + spn bq ((lst s).drop a) + spn lq ((lst s).drop (a + spn bq ((lst s).drop a))) ≤ s.size ∧ bl s (a + spn bq ((lst s).drop a) + spn lq ((lst s).drop (a + spn bq ((lst s).drop a)))) = bl s a := by
  obtain ⟨h1, h2, h3⟩ := spn_pos bq s ha
  have hr := bl_run (s := s) (spn bq ((lst s).drop a)) a h1 (fun j hj h0 hlt => by rw [← blB_eq]; exact h2 j hj h0 hlt)
  generalize spn bq ((lst s).drop a) = n at *
  rcases Nat.lt_or_ge (a + n) s.size with hlt | hge
  · have hc : s[a + n] = 35 := by
      rw [drop_cons s _ hlt] at h
      simp at h
      exact h.symm
    obtain ⟨k1, k2, k3⟩ := spn_pos lq s h1
    have hl := ln_run (s := s) (spn lq ((lst s).drop (a + n))) (a + n) k1 (fun j hj h0 hj2 => (lq_iff _).1 (k2 j hj h0 hj2))
    have hpos : 0 < spn lq ((lst s).drop (a + n)) := by
      rw [drop_cons s _ hlt, spn, List.takeWhile_cons_of_pos (by rw [hc]; decide)]
      simp
    generalize spn lq ((lst s).drop (a + n)) = m at *
    refine ⟨h1, by omega, k1, ?_⟩
    rw [← hr, bl_hash hlt hc, ← hl]
    rcases k3 with k3 | ⟨hm, k3⟩
    · rw [bl_end (by omega), ln_end (by omega)]
    · exact (ln_stop hm (by
        refine Classical.byContradiction fun hne => ?_
        rw [(lq_iff _).2 hne] at k3; cases k3)).symm
  · rw [drop_nil s _ hge] at h; cases h
/-- The cells of a scanner; o: those of a parser, with its open levels. -/
def scRow (s : ByteArray) (at' : Nat) (k na : Int) (nt : ByteArray) (rdy : Bool) : Option Int → Array Value
  | none => #[.string s, .int .i64 at', .int .i64 k, .int .i64 na, .string nt, .bool rdy]
  | some o => #[.string s, .int .i64 at', .int .i64 k, .int .i64 na, .string nt, .bool rdy, .int .i64 o]
def scTy : Option Int → Nat
  | none => 43
  | some _ => 45
def QSt (W : World) (p : Nat) (s : ByteArray) (at' : Nat) (k na : Int) (nt : ByteArray) (rdy : Bool) (o : Option Int) : Prop := W.heap[p]? = some (.cells (scRow s at' k na nt rdy o) (scTy o) (0, 0))
theorem QSt.later {W W' : World} {p : Nat} {s : ByteArray} {at' : Nat} {k na : Int} {nt : ByteArray} {rdy : Bool} {o : Option Int} (h : QSt W p s at' k na nt rdy o) (hb : Below W.heap.size W W') : QSt W' p s at' k na nt rdy o :=
  (hb.block p (Array.getElem?_eq_some_iff.1 h).1).trans h
theorem QSt.lt {W : World} {p : Nat} {s : ByteArray} {at' : Nat} {k na : Int} {nt : ByteArray} {rdy : Bool} {o : Option Int} (h : QSt W p s at' k na nt rdy o) : p < W.heap.size := (Array.getElem?_eq_some_iff.1 h).1
structure QCells (W : World) (p : Nat) (s : ByteArray) (at' : Nat) (k na : Int) (nt : ByteArray) (rdy : Bool) : Prop where
  c0 : W.cell? ⟨p, 0, none⟩ = some (.string s)
  c1 : W.cell? ⟨p, 1, none⟩ = some (.int .i64 at')
  c2 : W.cell? ⟨p, 2, none⟩ = some (.int .i64 k)
  c3 : W.cell? ⟨p, 3, none⟩ = some (.int .i64 na)
  c4 : W.cell? ⟨p, 4, none⟩ = some (.string nt)
  c5 : W.cell? ⟨p, 5, none⟩ = some (.bool rdy)
  f1 : W.frozen? ⟨p, 1, none⟩ = false
  f2 : W.frozen? ⟨p, 2, none⟩ = false
  f3 : W.frozen? ⟨p, 3, none⟩ = false
  f4 : W.frozen? ⟨p, 4, none⟩ = false
  f5 : W.frozen? ⟨p, 5, none⟩ = false
theorem QSt.cells {W : World} {p : Nat} {s : ByteArray} {at' : Nat} {k na : Int} {nt : ByteArray} {rdy : Bool} {o : Option Int} (h : QSt W p s at' k na nt rdy o) : QCells W p s at' k na nt rdy := by
  cases o <;> exact ⟨by rw [Lib.cell_of_heap h]; rfl, by rw [Lib.cell_of_heap h]; rfl, by rw [Lib.cell_of_heap h]; rfl, by rw [Lib.cell_of_heap h]; rfl, by rw [Lib.cell_of_heap h]; rfl, by rw [Lib.cell_of_heap h]; rfl,
    Lib.frozen_of_heap h 1, Lib.frozen_of_heap h 2, Lib.frozen_of_heap h 3, Lib.frozen_of_heap h 4, Lib.frozen_of_heap h 5⟩
theorem QSt.set1 {W : World} {p : Nat} {s : ByteArray} {at' : Nat} {k na : Int} {nt : ByteArray} {rdy : Bool} {o : Option Int} (h : QSt W p s at' k na nt rdy o) (a' : Nat) : QSt (W.setCell ⟨p, 1, none⟩ (.int .i64 a')) p s a' k na nt rdy o := by
  cases o <;> exact heap_set h
theorem QSt.set5 {W : World} {p : Nat} {s : ByteArray} {at' : Nat} {k na : Int} {nt : ByteArray} {rdy : Bool} {o : Option Int} (h : QSt W p s at' k na nt rdy o) (b : Bool) : QSt (W.setCell ⟨p, 5, none⟩ (.bool b)) p s at' k na nt b o := by
  cases o <;> exact heap_set h
theorem QSt.setT {W : World} {p : Nat} {s : ByteArray} {at' : Nat} {k na : Int} {nt : ByteArray} {rdy : Bool} {o : Option Int} (h : QSt W p s at' k na nt rdy o) (k' na' : Int) (nt' : ByteArray) :
    QSt (((W.setCell ⟨p, 2, none⟩ (.int .i64 k')).setCell ⟨p, 3, none⟩ (.int .i64 na')).setCell ⟨p, 4, none⟩ (.string nt')) p s at' k' na' nt' rdy o := by
  cases o <;> exact heap_set (heap_set (heap_set h))
/-- The place in the text, read from memory. -/
def scAt (W : World) (p : Nat) : Nat := match W.cell? ⟨p, 1, none⟩ with
  | some (.int _ n) => n.toNat
  | _ => 0
theorem QSt.at {W : World} {p : Nat} {s : ByteArray} {at' : Nat} {k na : Int} {nt : ByteArray} {rdy : Bool} {o : Option Int} (h : QSt W p s at' k na nt rdy o) : scAt W p = at' := by
  unfold scAt; rw [h.cells.c1]; simp
theorem Fr.drew {p : Nat} {A B : World} (h : Fr p A B) : Fr p A B.drew := ⟨h.os, h.tape, h.output, h.size, h.block⟩
theorem Fr.drewN {p : Nat} {A B : World} (h : Fr p A B) (n : Nat) : Fr p A (B.drewN n) := ⟨h.os, h.tape, h.output, h.size, h.block⟩
theorem below_drewN (W : World) (n : Nat) : Below W.heap.size W (W.drewN n) := ⟨rfl, rfl, rfl, Nat.le_refl _, fun _ _ => rfl⟩
set_option maxRecDepth 100000 in
set_option maxHeartbeats 4000000 in
theorem skip_any (p : Nat) (s : ByteArray) (a : Nat) (k na : Int) (nt : ByteArray) (rdy : Bool) (o : Option Int) (W : World) (h : QSt W p s a k na nt rdy o) (ha : a ≤ s.size) (hs : s.size ≤ 9223372036854775000) :
    Calls Tryz.prog 103 #[.pointer (some ⟨p, 0, none⟩)] W fun e W' => e = .returned (.tuple #[]) ∧ QSt W' p s (bl s a) k na nt rdy o ∧ Fr p W W' := by
  have H := Lib.hid h
  clear h
  go_enter Tryz.func103, Tryz.ntmps103
  go_wp2_with fail
  go_loopw [2, 3] (fun _ _ wr => ∃ j : Nat, j ≤ s.size ∧ QSt wr p s j k na nt rdy o ∧ Hid (bl s j = bl s a) ∧ Hid (Fr p W wr)) (fun _ _ wr => s.size - scAt wr p)
  case atStart => exact ⟨a, ha, H.out, rfl, Fr.refl _ _⟩
  case round =>
    obtain ⟨j, hj, hq, hb, hf⟩ := hrel
    obtain ⟨c0, c1, c2, c3, c4, c5, f1, f2, f3, f4, f5⟩ := hq.cells
    have HQ := Lib.hid hq
    have hsz : (s.extract j s.size).size = s.size - j := by simp
    have hlr := lst_cut s j
    have KD := Lib.hid (fun (n : Nat) => below_drewN wr n)
    have cs := Lib.hid (fun (W' : World) => span_any 125 bq ent125 (fun c w => pBlank_any c.toNat w) (s.extract j s.size) (by omega) W')
    rw [hlr] at cs
    obtain ⟨sp1, _, _⟩ := spn_pos bq s hj
    have ch := Lib.hid (fun (W' : World) => pHas_any ((s.extract j s.size).extract (spn bq ((lst s).drop j)) (s.extract j s.size).size) ⟨#[35]⟩ W')
    rw [lst_cut, hlr, List.drop_drop] at ch
    have cl := Lib.hid (fun (W' : World) => span_any 127 lq ent127 (fun c w => pLine_any c.toNat w) ((s.extract j s.size).extract (spn bq ((lst s).drop j)) (s.extract j s.size).size) (by simp; omega) W')
    rw [lst_cut, hlr, List.drop_drop] at cl
    have e35 : lst ⟨#[35]⟩ = [35] := rfl
    rw [e35] at ch
    have hst := Lib.hid (skip_stop (s := s) hj)
    have hgo := Lib.hid (skip_go (s := s) hj)
    clear hlr e35 hq
    go_wp2_with fail
    go_quiet (fail)
    have hw1 := KD.out nq
    generalize wr.drewN nq = w1 at *
    clear KD
    obtain ⟨c0, c1, c2, c3, c4, c5, f1, f2, f3, f4, f5⟩ := (HQ.out.later hw1).cells
    have HF1 := Lib.hid (hf.out.trans (Fr.of hw1))
    have HQ1 := Lib.hid (HQ.out.later hw1)
    clear hw1 hf
    go_wp2_with fail
    generalize s.extract j s.size = r at *
    generalize spn bq ((lst s).drop j) = n at *
    generalize spn lq ((lst s).drop (j + n)) = m at *
    generalize [35].isPrefixOf ((lst s).drop (j + n)) = b at *
    refine (cs.out _).mono ?_
    rintro e w2 ⟨rfl, rfl⟩
    clear cs
    cases b
    case false =>
      obtain ⟨k1, k2⟩ := hst.out rfl
      have HE := Lib.hid (k1.trans hb.out)
      have hn : n ≤ r.size := by omega
      clear hst hgo cl k1 hb
      rw [hsz] at ch
      go_wp2_with fail
      have HQ2 := Lib.hid (show QSt (w1.setCell ⟨p, 1, none⟩ (.int .i64 ((j : Int) + n))) p s (bl s a) k na nt rdy o from HE.out ▸ HQ1.out.set1 (j + n))
      have HF2 := Lib.hid (HF1.out.trans (Fr.set w1 1 (.int .i64 ((j : Int) + n))))
      refine (ch.out _).mono ?_
      rintro e w3 ⟨rfl, rfl⟩
      clear ch
      go_wp2_with fail
      refine bodyPost_ret (results_none rfl _ _ _) rfl ?_
      exact ⟨rfl, HQ2.out, HF2.out⟩
    case true =>
      obtain ⟨k0, k1, k2, k3⟩ := hgo.out rfl
      have HE := Lib.hid (k3.trans hb.out)
      have hn : n ≤ r.size := by omega
      clear hst hgo k3 hb
      rw [hsz] at ch cl
      go_wp2_with fail
      refine (ch.out _).mono ?_
      rintro e w3 ⟨rfl, rfl⟩
      clear ch
      have HQ2 := Lib.hid (HQ1.out.set1 (j + n))
      have HF2 := Lib.hid (HF1.out.trans (Fr.set w1 1 (.int .i64 ((j + n : Nat) : Int))))
      obtain ⟨c0, c1, c2, c3, c4, c5, f1, f2, f3, f4, f5⟩ := HQ2.out.cells
      have c1' : (w1.setCell ⟨p, 1, none⟩ (.int .i64 ((j + n : Nat) : Int))).cell? ⟨p, 1, none⟩ = some (.int .i64 ((j + n : Nat) : Int)) := c1
      rw [show (((j + n : Nat)) : Int) = (j : Int) + n from rfl] at c0 c1 c2 c3 c4 c5 f1 f2 f3 f4 f5 HQ2 HF2
      generalize (w1.setCell ⟨p, 1, none⟩ (.int .i64 ((j : Int) + n))) = w2 at *
      clear HQ1 HF1 c1'
      have hwr : IntKind.i64.wrap ((j : Int) + n + m) = (j : Int) + n + m := IntWalk.i64_in _ (by omega)
      go_wp2_with fail
      go_region_with ((go_at_call 105; ((with_reducible refine (cl.out _).mono ?_); rintro e w4 ⟨rfl, rfl⟩)))
      all_goals
        go_wp2_with fail
        go_roundw
        case rel =>
          refine ⟨j + n + m, k2, ?_, HE, ?_⟩
          · exact (HQ2.out.set1 (j + n + m))
          · exact (HF2.out.trans (Fr.set w2 1 _)).drew
        case measure =>
          have e1 := QSt.at (W := wr) HQ.out
          have e2 := QSt.at (show QSt (w2.setCell ⟨p, 1, none⟩ (.int .i64 ((j : Int) + n + m))).drew p s (j + n + m) k na nt rdy o from HQ2.out.set1 (j + n + m))
          rw [e1, e2]
          omega
end Go.Proofs.YtgkjcimgghflmaaGreatDoor
namespace Go.Proofs.YtgkjcimgghflmaaGreatDoor
open Go.RowKit Go.Shelf
attribute [local go_sem] Oper.semAt_some
theorem info41s : (Tryz.prog.info? 41).map (·.size) = some 3 := by kernel_rfl
theorem res41 {fn : Func} {q : Tmp} (h : fn.results = #[.cell q 41]) (tmps : Array Value) (w : World) (g : Nat) (v0 v1 v2 : Value) (hp : tmps.getD q undef = .pointer (some ⟨g, 0, none⟩)) (hg : w.heap[g]? = some (.cells #[v0, v1, v2] 41 (0, 0))) :
    (results fn tmps).run Tryz.prog w = .ok (.agg #[v0, v1, v2]) w :=
  results_cell_row h tmps w g 41 _ (0, 0) _ hp hg Tryz.underlying41 rfl info41s
abbrev zero3 : Array Value := #[.int .i64 0, .int .i64 0, .string ⟨#[]⟩]
abbrev set3 (w : World) (b : Nat) (c0 c1 c2 : Value) : World := ((w.setCell ⟨b, 0, none⟩ c0).setCell ⟨b, 1, none⟩ c1).setCell ⟨b, 2, none⟩ c2
theorem set3_same {w : World} {b : Nat} {d0 d1 d2 : Value} (c0 c1 c2 : Value) (h : w.heap[b]? = some (.cells #[d0, d1, d2] 41 (0, 0))) : (set3 w b c0 c1 c2).heap[b]? = some (.cells #[c0, c1, c2] 41 (0, 0)) := by
  have h0 := heap_setCell_same w b 0 _ _ c0 h
  have h1 := heap_setCell_same _ b 1 _ _ c1 h0
  exact heap_setCell_same _ b 2 _ _ c2 h1
theorem set3_other {w : World} {b : Nat} (c0 c1 c2 : Value) {k : Nat} (h : k ≠ b) : (set3 w b c0 c1 c2).heap[k]? = w.heap[k]? := by
  rw [set3, heap_setCell_other _ _ _ _ h, heap_setCell_other _ _ _ _ h, heap_setCell_other _ _ _ _ h]
theorem Fr.setCell' {p : Nat} {A B : World} (h : Fr p A B) (x : Addr) (hx : A.heap.size ≤ x.block) (c : Value) : Fr p A (B.setCell x c) :=
  ⟨by simpa [World.setCell] using h.os, by simpa [World.setCell] using h.tape, by simpa [World.setCell] using h.output, by simpa [World.setCell] using h.size, fun k hk hp => (Below.heap_setCell B x c k (by omega)).trans (h.block k hk hp)⟩
theorem Fr.set3 {p x : Nat} {A B : World} (h : Fr p A B) (hx : A.heap.size ≤ x) (c0 c1 c2 : Value) : Fr p A (set3 B x c0 c1 c2) :=
  ((h.setCell' _ hx c0).setCell' _ hx c1).setCell' _ hx c2
theorem QSt.other {W W' : World} {p : Nat} {s : ByteArray} {at' : Nat} {k na : Int} {nt : ByteArray} {rdy : Bool} {o : Option Int} (h : QSt W p s at' k na nt rdy o) (hk : W'.heap[p]? = W.heap[p]?) : QSt W' p s at' k na nt rdy o := hk.trans h
/-- What is known of a block of three cells. -/
structure BoxT (w : World) (g : Nat) (v0 v1 v2 : Value) : Prop where
  z0 : w.cell? ⟨g, 0, none⟩ = some v0
  z1 : w.cell? ⟨g, 1, none⟩ = some v1
  z2 : w.cell? ⟨g, 2, none⟩ = some v2
  f0 : w.frozen? ⟨g, 0, none⟩ = false
  f1 : w.frozen? ⟨g, 1, none⟩ = false
  f2 : w.frozen? ⟨g, 2, none⟩ = false
theorem boxT_facts {w : World} {g : Nat} {v0 v1 v2 : Value} (h : w.heap[g]? = some (.cells #[v0, v1, v2] 41 (0, 0))) : BoxT w g v0 v1 v2 :=
  ⟨cell_row h rfl, cell_row h rfl, cell_row h rfl, Lib.frozen_of_heap h 0, Lib.frozen_of_heap h 1, Lib.frozen_of_heap h 2⟩
/-- The kind of the token at a position. -/
def kd (s : ByteArray) (a : Nat) : Int := if h : a < s.size then (if letB s[a].toNat = true then 1 else if digB s[a].toNat = true then 2 else 3) else 0
abbrev tokV (k na : Int) (t : ByteArray) : Value := .agg #[.int .i64 k, .int .i64 na, .string t]
/-- In the midst of scan: the result's block, the token's block, the scanner behind the blanks. -/
structure ScA (p : Nat) (s : ByteArray) (a : Nat) (k na : Int) (nt : ByteArray) (rdy : Bool) (o : Option Int) (W : World) (tb : Nat) (w : World) : Prop where
  fr : Fr p W w
  rt : W.heap.size < tb
  pr : p < W.heap.size
  res : w.heap[W.heap.size]? = some (.cells zero3 41 (0, 0))
  tok : w.heap[tb]? = some (.cells #[.int .i64 0, .int .i64 a, .string ⟨#[]⟩] 41 (0, 0))
  st : QSt w p s a k na nt rdy o
/-- The token is cut. -/
structure ScB (p : Nat) (s : ByteArray) (a : Nat) (kk : Int) (t : ByteArray) (k na : Int) (nt : ByteArray) (rdy : Bool) (o : Option Int) (W : World) (tb : Nat) (w : World) : Prop where
  fr : Fr p W w
  rt : W.heap.size < tb
  pr : p < W.heap.size
  res : w.heap[W.heap.size]? = some (.cells zero3 41 (0, 0))
  tok : w.heap[tb]? = some (.cells #[.int .i64 kk, .int .i64 a, .string t] 41 (0, 0))
  st : QSt w p s a k na nt rdy o
theorem ScA.cut {p : Nat} {s : ByteArray} {a : Nat} {k na : Int} {nt : ByteArray} {rdy : Bool} {o : Option Int} {W : World} {tb : Nat} {w : World} (h : ScA p s a k na nt rdy o W tb w) (kk : Int) (t : ByteArray) :
    ScB p s a kk t k na nt rdy o W tb ((w.setCell ⟨tb, 0, none⟩ (.int .i64 kk)).setCell ⟨tb, 2, none⟩ (.string t)) := by
  have h1 := h.rt
  have h2 := h.pr
  have oth : ∀ x, x ≠ tb → (((w.setCell ⟨tb, 0, none⟩ (.int .i64 kk)).setCell ⟨tb, 2, none⟩ (.string t)).heap[x]? = w.heap[x]?) := fun x hx => by
    rw [heap_setCell_other _ _ _ _ hx, heap_setCell_other _ _ _ _ hx]
  exact ⟨(h.fr.setCell' _ (by simp; omega) _).setCell' _ (by simp; omega) _, h1, h2, (oth _ (by omega)).trans h.res, heap_setCell_same _ _ 2 _ _ _ (heap_setCell_same _ _ 0 _ _ _ h.tok), h.st.other (oth _ (by omega))⟩
theorem ScA.step {p : Nat} {s : ByteArray} {a : Nat} {k na : Int} {nt : ByteArray} {rdy : Bool} {o : Option Int} {W : World} {tb : Nat} {w w' : World} (h : ScA p s a k na nt rdy o W tb w) (hb : Below w.heap.size w w') : ScA p s a k na nt rdy o W tb w' :=
  ⟨h.fr.trans (Fr.of hb), h.rt, h.pr, (hb.block _ (Array.getElem?_eq_some_iff.1 h.res).1).trans h.res, (hb.block _ (Array.getElem?_eq_some_iff.1 h.tok).1).trans h.tok, h.st.later hb⟩
def ScanPost (p : Nat) (s : ByteArray) (a : Nat) (k na : Int) (nt : ByteArray) (rdy : Bool) (o : Option Int) (W : World) (e : Ending) (W' : World) : Prop :=
  e = .returned (tokV (kd s a) a (bs (T s a))) ∧ QSt W' p s (a + (T s a).length) k na nt rdy o ∧ Fr p W W'
theorem cut_run {q : UInt8 → Bool} {s r : ByteArray} {a : Nat} (hT : T s a = ((lst s).drop a).takeWhile q) (hr : lst r = (lst s).drop a) : r.extract 0 (spn q ((lst s).drop a)) = bs (T s a) := by
  rw [extract_bs, hr, List.drop_zero, Nat.sub_zero, hT]
  exact congrArg bs (List.prefix_iff_eq_take.1 (List.takeWhile_prefix _)).symm
theorem kd_name {s : ByteArray} {a : Nat} (h : a < s.size) (hl : letB s[a].toNat = true) : kd s a = 1 := by unfold kd; rw [dif_pos h, if_pos hl]
theorem kd_num {s : ByteArray} {a : Nat} (h : a < s.size) (hl : letB s[a].toNat = false) (hd : digB s[a].toNat = true) : kd s a = 2 := by unfold kd; rw [dif_pos h, if_neg (by rw [hl]; decide), if_pos hd]
theorem kd_sign {s : ByteArray} {a : Nat} (h : a < s.size) (hl : letB s[a].toNat = false) (hd : digB s[a].toNat = false) : kd s a = 3 := by unfold kd; rw [dif_pos h, if_neg (by rw [hl]; decide), if_neg (by rw [hd]; decide)]
theorem head_at {s r : ByteArray} {a : Nat} (h : a < s.size) (hr : lst r = (lst s).drop a) (h0 : 0 < r.size) : r[0] = s[a] := by
  have : (lst r)[0]'(by rw [lst_len]; exact h0) = s[a] := by
    have e := drop_cons s a h
    rw [← hr] at e
    simp only [e, List.getElem_cons_zero]
  exact this
set_option maxRecDepth 100000 in
set_option maxHeartbeats 4000000 in
theorem scan_end (p : Nat) (s : ByteArray) (a0 : Nat) (k na : Int) (nt : ByteArray) (rdy : Bool) (o : Option Int) (W : World) (h : QSt W p s a0 k na nt rdy o) (ha : a0 ≤ s.size) (hs : s.size ≤ 9223372036854775000) (he : bl s a0 = s.size) :
    Calls Tryz.prog 69 #[.pointer (some ⟨p, 0, none⟩)] W (ScanPost p s (bl s a0) k na nt rdy o W) := by
  have hp0 := h.lt
  have hx := Lib.hid (h.later ((Below.refl W.heap.size W).alloc (Nat.le_refl _) (.cells zero3 41)))
  have c := skip_any p s a0 k na nt rdy o _ hx.out ha hs
  obtain ⟨hb1, hb2⟩ := bl_le ha
  have hr0 := World.alloc_heap_new W (.cells zero3 41)
  have He := Lib.hid he
  clear he
  generalize bl s a0 = a at *
  clear h
  go_enter Tryz.func69, Tryz.ntmps69
  go_wp2_with fail
  refine c.mono ?_
  rintro e w1 ⟨rfl, q1, f1⟩
  have hsz1 : W.heap.size < w1.heap.size := by have := f1.size; simp at this; omega
  have HC := Lib.hid (show ScA p s a k na nt rdy o W w1.heap.size (w1.alloc (.cells #[.int .i64 0, .int .i64 a, .string ⟨#[]⟩] 41)) from
    ⟨((Fr.of ((Below.refl _ _).alloc (Nat.le_refl _) _)).trans f1).trans (Fr.of ((Below.refl _ _).alloc (Nat.le_refl _) _)), hsz1, hp0,
      (Lib.alloc_old w1 _ _ hsz1).trans (f1.at hr0 (by omega)), World.alloc_heap_new _ _, q1.later ((Below.refl _ _).alloc (Nat.le_refl _) _)⟩)
  obtain ⟨c0, c1, c2, c3, c4, c5, g1, g2, g3, g4, g5⟩ := q1.cells
  clear c f1 hr0 hx
  go_wp2_with fail
  clear c0 c1 c2 c3 c4 c5 g1 g2 g3 g4 g5 q1
  obtain ⟨c0, c1, c2, c3, c4, c5, g1, g2, g3, g4, g5⟩ := HC.out.st.cells
  generalize w1.alloc (.cells #[.int .i64 0, .int .i64 a, .string ⟨#[]⟩] 41) = w2 at *
  go_quiet (fail)
  have HD : ScA p s a k na nt rdy o W w1.heap.size (w2.drewN nq) := have g := HC.out; ⟨g.fr.drewN nq, g.rt, g.pr, g.res, g.tok, g.st⟩
  generalize w2.drewN nq = w3 at *
  clear HC c0 c1 c2 c3 c4 c5 g1 g2 g3 g4 g5
  generalize w1.heap.size = tb at *
  obtain ⟨t0, t1, t2, k0, k1, k2⟩ := boxT_facts HD.tok
  obtain ⟨c0, c1, c2, c3, c4, c5, g1, g2, g3, g4, g5⟩ := HD.st.cells
  obtain ⟨r0, r1, r2, n0, n1, n2⟩ := boxT_facts HD.res
  have hszr : (s.extract a s.size).size = s.size - a := by simp
  have hlr := lst_cut s a
  have HD := Lib.hid HD
  generalize s.extract a s.size = r at *
  have he := He.out
  have HT := Lib.hid (show bs (T s a) = ⟨#[]⟩ by rw [T_end (by omega)]; rfl)
  have HL := Lib.hid (show (T s a).length = 0 by rw [T_end (by omega)]; rfl)
  have HK := Lib.hid (show kd s a = 0 by unfold kd; rw [dif_neg (by omega)])
  have e0 : (r.toList == []) = true := by rw [beq_iff_eq, ← List.length_eq_zero_iff, toList_size]; omega
  go_wp2_with fail
  have hd := HD.out
  refine bodyPost_ret (res41 Tryz.results69 _ _ W.heap.size _ _ _ rfl (set3_same _ _ _ hd.res)) rfl ⟨?_, ?_, ?_⟩
  · rw [HT.out, HK.out, he]
  · rw [HL.out]; exact hd.st.other (set3_other _ _ _ (by have := hd.pr; omega))
  · exact hd.fr.set3 (Nat.le_refl _) _ _ _
set_option maxRecDepth 100000 in
set_option maxHeartbeats 8000000 in
theorem scan_name (p : Nat) (s : ByteArray) (a0 : Nat) (k na : Int) (nt : ByteArray) (rdy : Bool) (o : Option Int) (W : World) (h : QSt W p s a0 k na nt rdy o) (ha : a0 ≤ s.size) (hs : s.size ≤ 9223372036854775000) (he : ∃ h : bl s a0 < s.size, letB s[bl s a0].toNat = true) :
    Calls Tryz.prog 69 #[.pointer (some ⟨p, 0, none⟩)] W (ScanPost p s (bl s a0) k na nt rdy o W) := by
  have hp0 := h.lt
  have hx := Lib.hid (h.later ((Below.refl W.heap.size W).alloc (Nat.le_refl _) (.cells zero3 41)))
  have c := skip_any p s a0 k na nt rdy o _ hx.out ha hs
  obtain ⟨hb1, hb2⟩ := bl_le ha
  have hr0 := World.alloc_heap_new W (.cells zero3 41)
  have He := Lib.hid he
  clear he
  generalize bl s a0 = a at *
  clear h
  go_enter Tryz.func69, Tryz.ntmps69
  go_wp2_with fail
  refine c.mono ?_
  rintro e w1 ⟨rfl, q1, f1⟩
  have hsz1 : W.heap.size < w1.heap.size := by have := f1.size; simp at this; omega
  have HC := Lib.hid (show ScA p s a k na nt rdy o W w1.heap.size (w1.alloc (.cells #[.int .i64 0, .int .i64 a, .string ⟨#[]⟩] 41)) from
    ⟨((Fr.of ((Below.refl _ _).alloc (Nat.le_refl _) _)).trans f1).trans (Fr.of ((Below.refl _ _).alloc (Nat.le_refl _) _)), hsz1, hp0,
      (Lib.alloc_old w1 _ _ hsz1).trans (f1.at hr0 (by omega)), World.alloc_heap_new _ _, q1.later ((Below.refl _ _).alloc (Nat.le_refl _) _)⟩)
  obtain ⟨c0, c1, c2, c3, c4, c5, g1, g2, g3, g4, g5⟩ := q1.cells
  clear c f1 hr0 hx
  go_wp2_with fail
  clear c0 c1 c2 c3 c4 c5 g1 g2 g3 g4 g5 q1
  obtain ⟨c0, c1, c2, c3, c4, c5, g1, g2, g3, g4, g5⟩ := HC.out.st.cells
  generalize w1.alloc (.cells #[.int .i64 0, .int .i64 a, .string ⟨#[]⟩] 41) = w2 at *
  go_quiet (fail)
  have HD : ScA p s a k na nt rdy o W w1.heap.size (w2.drewN nq) := have g := HC.out; ⟨g.fr.drewN nq, g.rt, g.pr, g.res, g.tok, g.st⟩
  generalize w2.drewN nq = w3 at *
  clear HC c0 c1 c2 c3 c4 c5 g1 g2 g3 g4 g5
  generalize w1.heap.size = tb at *
  obtain ⟨t0, t1, t2, k0, k1, k2⟩ := boxT_facts HD.tok
  obtain ⟨c0, c1, c2, c3, c4, c5, g1, g2, g3, g4, g5⟩ := HD.st.cells
  obtain ⟨r0, r1, r2, n0, n1, n2⟩ := boxT_facts HD.res
  have hszr : (s.extract a s.size).size = s.size - a := by simp
  have hlr := lst_cut s a
  have HD := Lib.hid HD
  generalize s.extract a s.size = r at *
  obtain ⟨hlt, hl⟩ := He.out
  have HTT := Lib.hid (T_name hlt hl)
  have HCut := Lib.hid (cut_run HTT.out hlr)
  have HK := Lib.hid (kd_name hlt hl)
  have hlen : spn nmC ((lst s).drop a) = (T s a).length := by rw [HTT.out]; rfl
  have hfit := T_fit hb2
  have hbz : (bs (T s a)).size = (T s a).length := by simp [bs, ByteArray.size]
  have e0 : (r.toList == []) = false := by rw [beq_eq_false_iff_ne, ne_eq, ← List.length_eq_zero_iff, toList_size]; omega
  have h0 : 0 < r.size := by omega
  have hr0 := head_at hlt hlr h0
  have c1 := Lib.hid (fun W' => pLetter_any (r[0].toNat) W')
  rw [hr0, hl] at c1
  have c2 := Lib.hid (fun W' => span_any 106 nmC ent106 (fun c w => pName_any c.toNat w) r (by omega) W')
  rw [hlr, hlen] at c2
  rw [hlen] at HCut
  rw [← hbz] at c2 HCut hfit
  obtain ⟨st, hst⟩ : ∃ st, bs (T s a) = st := ⟨_, rfl⟩
  rw [hst] at hbz c2 HCut hfit
  have HS := Lib.hid hst
  have HL := Lib.hid hbz
  clear HTT hlen hbz He hlr hst
  have hr0i : (r[0].toNat : Int) = (s[a].toNat : Int) := by rw [hr0]
  clear hr0
  go_wp2_with fail
  refine (c1.out _).mono ?_
  rintro e w4 ⟨rfl, rfl⟩
  clear c1
  go_wp2_with fail
  go_region_with ((go_at_call 105; ((with_reducible refine (c2.out _).mono ?_); rintro e w4 ⟨rfl, rfl⟩)))
  all_goals
    rw [HCut.out]
    have HE : ScB p s a 1 st k na nt rdy o W tb ((w3.setCell ⟨tb, 0, none⟩ (.int .i64 1)).setCell ⟨tb, 2, none⟩ (.string st)).drew := (have q := HD.out.cut 1 st; ⟨q.fr.drew, q.rt, q.pr, q.res, q.tok, q.st⟩)
    generalize ((w3.setCell ⟨tb, 0, none⟩ (.int .i64 1)).setCell ⟨tb, 2, none⟩ (.string st)).drew = w5 at *
    clear HD t0 t1 t2 k0 k1 k2 c0 c1 c2 c3 c4 c5 g1 g2 g3 g4 g5 r0 r1 r2 n0 n1 n2
    obtain ⟨t0, t1, t2, k0, k1, k2⟩ := boxT_facts HE.tok
    obtain ⟨c0, c1, c2, c3, c4, c5, g1, g2, g3, g4, g5⟩ := HE.st.cells
    have htp : ¬ tb = p := by have := HE.rt; have := HE.pr; omega
    have htr : ¬ tb = W.heap.size := by have := HE.rt; omega
    have HE := Lib.hid HE
    have hwr : IntKind.i64.wrap ((a : Int) + st.size) = (a : Int) + st.size := IntWalk.i64_in _ (by omega)
    go_wp2_with fail
    go_still_tail 10, (by kernel_rfl)
    change wpList _ _ _ _ _ w5.drew
    go_upto_region 12 with fail
    · have HF := Lib.hid (show ScB p s a 1 st k na nt rdy o W tb w5 ∧ QSt ((w5.setCell ⟨p, 1, none⟩ (.int .i64 ((a : Int) + st.size))).drew) p s (a + st.size) k na nt rdy o from ⟨HE.out, HE.out.st.set1 (a + st.size)⟩)
      have HRW := Lib.hid (show (w5.setCell ⟨p, 1, none⟩ (.int .i64 ((a : Int) + st.size))).drew.heap[W.heap.size]? = some (.cells zero3 41 (0, 0)) from (heap_setCell_other w5 ⟨p, 1, none⟩ _ _ (Nat.ne_of_gt HE.out.pr)).trans HE.out.res)
      obtain ⟨r0, r1, r2, n0, n1, n2⟩ := boxT_facts HRW.out
      have TT := Lib.hid (show (w5.setCell ⟨p, 1, none⟩ (.int .i64 ((a : Int) + st.size))).drew.heap[tb]? = some (.cells #[.int .i64 1, .int .i64 a, .string st] 41 (0, 0)) from (heap_setCell_other w5 ⟨p, 1, none⟩ _ _ htp).trans HE.out.tok)
      have FF := Lib.hid (show Fr p W (w5.setCell ⟨p, 1, none⟩ (.int .i64 ((a : Int) + st.size))).drew from (HE.out.fr.trans (Fr.set w5 1 _)).drew)
      clear t0 t1 t2 k0 k1 k2 c0 c1 c2 c3 c4 c5 g1 g2 g3 g4 g5
      obtain ⟨t0, t1, t2, k0, k1, k2⟩ := boxT_facts TT.out
      generalize (w5.setCell ⟨p, 1, none⟩ (.int .i64 ((a : Int) + st.size))).drew = w6 at *
      go_wp2_with fail
      have hpr : p ≠ W.heap.size := Nat.ne_of_lt HF.out.1.pr
      exact bodyPost_ret (res41 Tryz.results69 _ _ W.heap.size _ _ _ rfl (set3_same _ _ _ HRW.out)) rfl ⟨by rw [HS.out, HK.out], HL.out ▸ HF.out.2.other (set3_other _ _ _ hpr), FF.out.set3 (Nat.le_refl _) _ _ _⟩
set_option maxRecDepth 100000 in
set_option maxHeartbeats 8000000 in
theorem scan_num (p : Nat) (s : ByteArray) (a0 : Nat) (k na : Int) (nt : ByteArray) (rdy : Bool) (o : Option Int) (W : World) (h : QSt W p s a0 k na nt rdy o) (ha : a0 ≤ s.size) (hs : s.size ≤ 9223372036854775000) (he : ∃ h : bl s a0 < s.size, letB s[bl s a0].toNat = false ∧ digB s[bl s a0].toNat = true) :
    Calls Tryz.prog 69 #[.pointer (some ⟨p, 0, none⟩)] W (ScanPost p s (bl s a0) k na nt rdy o W) := by
  have hp0 := h.lt
  have hx := Lib.hid (h.later ((Below.refl W.heap.size W).alloc (Nat.le_refl _) (.cells zero3 41)))
  have c := skip_any p s a0 k na nt rdy o _ hx.out ha hs
  obtain ⟨hb1, hb2⟩ := bl_le ha
  have hr0 := World.alloc_heap_new W (.cells zero3 41)
  have He := Lib.hid he
  clear he
  generalize bl s a0 = a at *
  clear h
  go_enter Tryz.func69, Tryz.ntmps69
  go_wp2_with fail
  refine c.mono ?_
  rintro e w1 ⟨rfl, q1, f1⟩
  have hsz1 : W.heap.size < w1.heap.size := by have := f1.size; simp at this; omega
  have HC := Lib.hid (show ScA p s a k na nt rdy o W w1.heap.size (w1.alloc (.cells #[.int .i64 0, .int .i64 a, .string ⟨#[]⟩] 41)) from
    ⟨((Fr.of ((Below.refl _ _).alloc (Nat.le_refl _) _)).trans f1).trans (Fr.of ((Below.refl _ _).alloc (Nat.le_refl _) _)), hsz1, hp0,
      (Lib.alloc_old w1 _ _ hsz1).trans (f1.at hr0 (by omega)), World.alloc_heap_new _ _, q1.later ((Below.refl _ _).alloc (Nat.le_refl _) _)⟩)
  obtain ⟨c0, c1, c2, c3, c4, c5, g1, g2, g3, g4, g5⟩ := q1.cells
  clear c f1 hr0 hx
  go_wp2_with fail
  clear c0 c1 c2 c3 c4 c5 g1 g2 g3 g4 g5 q1
  obtain ⟨c0, c1, c2, c3, c4, c5, g1, g2, g3, g4, g5⟩ := HC.out.st.cells
  generalize w1.alloc (.cells #[.int .i64 0, .int .i64 a, .string ⟨#[]⟩] 41) = w2 at *
  go_quiet (fail)
  have HD : ScA p s a k na nt rdy o W w1.heap.size (w2.drewN nq) := have g := HC.out; ⟨g.fr.drewN nq, g.rt, g.pr, g.res, g.tok, g.st⟩
  generalize w2.drewN nq = w3 at *
  clear HC c0 c1 c2 c3 c4 c5 g1 g2 g3 g4 g5
  generalize w1.heap.size = tb at *
  obtain ⟨t0, t1, t2, k0, k1, k2⟩ := boxT_facts HD.tok
  obtain ⟨c0, c1, c2, c3, c4, c5, g1, g2, g3, g4, g5⟩ := HD.st.cells
  obtain ⟨r0, r1, r2, n0, n1, n2⟩ := boxT_facts HD.res
  have hszr : (s.extract a s.size).size = s.size - a := by simp
  have hlr := lst_cut s a
  have HD := Lib.hid HD
  generalize s.extract a s.size = r at *
  obtain ⟨hlt, hl, hd⟩ := He.out
  have HTT := Lib.hid (T_num hlt hl hd)
  have HCut := Lib.hid (cut_run HTT.out hlr)
  have HK := Lib.hid (kd_num hlt hl hd)
  have hlen : spn dgC ((lst s).drop a) = (T s a).length := by rw [HTT.out]; rfl
  have hfit := T_fit hb2
  have hbz : (bs (T s a)).size = (T s a).length := by simp [bs, ByteArray.size]
  have e0 : (r.toList == []) = false := by rw [beq_eq_false_iff_ne, ne_eq, ← List.length_eq_zero_iff, toList_size]; omega
  have h0 : 0 < r.size := by omega
  have hr0 := head_at hlt hlr h0
  have c1 := Lib.hid (fun W' => pLetter_any (r[0].toNat) W')
  rw [hr0, hl] at c1
  have c3 := Lib.hid (fun W' => pDigit_any (r[0].toNat) W')
  rw [hr0, hd] at c3
  have c2 := Lib.hid (fun W' => span_any 107 dgC ent107 (fun c w => pDigit_any c.toNat w) r (by omega) W')
  rw [hlr, hlen] at c2
  rw [hlen] at HCut
  rw [← hbz] at c2 HCut hfit
  obtain ⟨st, hst⟩ : ∃ st, bs (T s a) = st := ⟨_, rfl⟩
  rw [hst] at hbz c2 HCut hfit
  have HS := Lib.hid hst
  have HL := Lib.hid hbz
  clear HTT hlen hbz He hlr hst
  have hr0i : (r[0].toNat : Int) = (s[a].toNat : Int) := by rw [hr0]
  clear hr0
  go_wp2_with fail
  refine (c1.out _).mono ?_
  rintro e w4 ⟨rfl, rfl⟩
  clear c1
  go_wp2_with fail
  refine (c3.out _).mono ?_
  rintro e w4 ⟨rfl, rfl⟩
  clear c3
  go_wp2_with fail
  go_region_with ((go_at_call 105; ((with_reducible refine (c2.out _).mono ?_); rintro e w4 ⟨rfl, rfl⟩)))
  all_goals
    rw [HCut.out]
    have HE : ScB p s a 2 st k na nt rdy o W tb ((w3.setCell ⟨tb, 0, none⟩ (.int .i64 2)).setCell ⟨tb, 2, none⟩ (.string st)).drew := (have q := HD.out.cut 2 st; ⟨q.fr.drew, q.rt, q.pr, q.res, q.tok, q.st⟩)
    generalize ((w3.setCell ⟨tb, 0, none⟩ (.int .i64 2)).setCell ⟨tb, 2, none⟩ (.string st)).drew = w5 at *
    clear HD t0 t1 t2 k0 k1 k2 c0 c1 c2 c3 c4 c5 g1 g2 g3 g4 g5 r0 r1 r2 n0 n1 n2
    obtain ⟨t0, t1, t2, k0, k1, k2⟩ := boxT_facts HE.tok
    obtain ⟨c0, c1, c2, c3, c4, c5, g1, g2, g3, g4, g5⟩ := HE.st.cells
    have htp : ¬ tb = p := by have := HE.rt; have := HE.pr; omega
    have htr : ¬ tb = W.heap.size := by have := HE.rt; omega
    have HE := Lib.hid HE
    have hwr : IntKind.i64.wrap ((a : Int) + st.size) = (a : Int) + st.size := IntWalk.i64_in _ (by omega)
    go_wp2_with fail
    go_still_tail 10, (by kernel_rfl)
    change wpList _ _ _ _ _ w5.drew
    go_upto_region 12 with fail
    · have HF := Lib.hid (show ScB p s a 2 st k na nt rdy o W tb w5 ∧ QSt ((w5.setCell ⟨p, 1, none⟩ (.int .i64 ((a : Int) + st.size))).drew) p s (a + st.size) k na nt rdy o from ⟨HE.out, HE.out.st.set1 (a + st.size)⟩)
      have HRW := Lib.hid (show (w5.setCell ⟨p, 1, none⟩ (.int .i64 ((a : Int) + st.size))).drew.heap[W.heap.size]? = some (.cells zero3 41 (0, 0)) from (heap_setCell_other w5 ⟨p, 1, none⟩ _ _ (Nat.ne_of_gt HE.out.pr)).trans HE.out.res)
      obtain ⟨r0, r1, r2, n0, n1, n2⟩ := boxT_facts HRW.out
      have TT := Lib.hid (show (w5.setCell ⟨p, 1, none⟩ (.int .i64 ((a : Int) + st.size))).drew.heap[tb]? = some (.cells #[.int .i64 2, .int .i64 a, .string st] 41 (0, 0)) from (heap_setCell_other w5 ⟨p, 1, none⟩ _ _ htp).trans HE.out.tok)
      have FF := Lib.hid (show Fr p W (w5.setCell ⟨p, 1, none⟩ (.int .i64 ((a : Int) + st.size))).drew from (HE.out.fr.trans (Fr.set w5 1 _)).drew)
      clear t0 t1 t2 k0 k1 k2 c0 c1 c2 c3 c4 c5 g1 g2 g3 g4 g5
      obtain ⟨t0, t1, t2, k0, k1, k2⟩ := boxT_facts TT.out
      generalize (w5.setCell ⟨p, 1, none⟩ (.int .i64 ((a : Int) + st.size))).drew = w6 at *
      go_wp2_with fail
      have hpr : p ≠ W.heap.size := Nat.ne_of_lt HF.out.1.pr
      exact bodyPost_ret (res41 Tryz.results69 _ _ W.heap.size _ _ _ rfl (set3_same _ _ _ HRW.out)) rfl ⟨by rw [HS.out, HK.out], HL.out ▸ HF.out.2.other (set3_other _ _ _ hpr), FF.out.set3 (Nat.le_refl _) _ _ _⟩
theorem SigTab.fr' {p : Nat} {W W' : World} (h : SigTab W) (hf : Fr p W W') (hn : p ≠ 2) : SigTab W' := by
  obtain ⟨t, fr, hk⟩ := block_of_var sig_place h
  have h2 := hf.at hk (fun e => hn e.symm)
  unfold SigTab World.var?
  rw [sig_place]
  simp only [Option.bind_some, h2]
theorem QSt.noSig {W : World} {p : Nat} {s : ByteArray} {at' : Nat} {k na : Int} {nt : ByteArray} {rdy : Bool} {o : Option Int} (h : QSt W p s at' k na nt rdy o) (hT : SigTab W) : p ≠ 2 := by
  obtain ⟨t, fr, hk⟩ := block_of_var sig_place hT
  intro e
  subst e
  have h' : W.heap[2]? = _ := h
  rw [hk] at h'
  cases o <;> simp [scRow, signCs] at h'
set_option maxRecDepth 100000 in
set_option maxHeartbeats 8000000 in
theorem scan_sign (p : Nat) (s : ByteArray) (a0 : Nat) (k na : Int) (nt : ByteArray) (rdy : Bool) (o : Option Int) (W : World) (h : QSt W p s a0 k na nt rdy o) (ha : a0 ≤ s.size) (hs : s.size ≤ 9223372036854775000) (he : ∃ h : bl s a0 < s.size, letB s[bl s a0].toNat = false ∧ digB s[bl s a0].toNat = false) (hT : SigTab W) :
    Calls Tryz.prog 69 #[.pointer (some ⟨p, 0, none⟩)] W (ScanPost p s (bl s a0) k na nt rdy o W) := by
  have hp0 := h.lt
  have hTH := Lib.hid hT
  have hp2 := h.noSig hT
  clear hT
  have hx := Lib.hid (h.later ((Below.refl W.heap.size W).alloc (Nat.le_refl _) (.cells zero3 41)))
  have c := skip_any p s a0 k na nt rdy o _ hx.out ha hs
  obtain ⟨hb1, hb2⟩ := bl_le ha
  have hr0 := World.alloc_heap_new W (.cells zero3 41)
  have He := Lib.hid he
  clear he
  generalize bl s a0 = a at *
  clear h
  go_enter Tryz.func69, Tryz.ntmps69
  go_wp2_with fail
  refine c.mono ?_
  rintro e w1 ⟨rfl, q1, f1⟩
  have hsz1 : W.heap.size < w1.heap.size := by have := f1.size; simp at this; omega
  have HC := Lib.hid (show ScA p s a k na nt rdy o W w1.heap.size (w1.alloc (.cells #[.int .i64 0, .int .i64 a, .string ⟨#[]⟩] 41)) from
    ⟨((Fr.of ((Below.refl _ _).alloc (Nat.le_refl _) _)).trans f1).trans (Fr.of ((Below.refl _ _).alloc (Nat.le_refl _) _)), hsz1, hp0,
      (Lib.alloc_old w1 _ _ hsz1).trans (f1.at hr0 (by omega)), World.alloc_heap_new _ _, q1.later ((Below.refl _ _).alloc (Nat.le_refl _) _)⟩)
  obtain ⟨c0, c1, c2, c3, c4, c5, g1, g2, g3, g4, g5⟩ := q1.cells
  clear c f1 hr0 hx
  go_wp2_with fail
  clear c0 c1 c2 c3 c4 c5 g1 g2 g3 g4 g5 q1
  obtain ⟨c0, c1, c2, c3, c4, c5, g1, g2, g3, g4, g5⟩ := HC.out.st.cells
  generalize w1.alloc (.cells #[.int .i64 0, .int .i64 a, .string ⟨#[]⟩] 41) = w2 at *
  go_quiet (fail)
  have HD : ScA p s a k na nt rdy o W w1.heap.size (w2.drewN nq) := have g := HC.out; ⟨g.fr.drewN nq, g.rt, g.pr, g.res, g.tok, g.st⟩
  generalize w2.drewN nq = w3 at *
  clear HC c0 c1 c2 c3 c4 c5 g1 g2 g3 g4 g5
  generalize w1.heap.size = tb at *
  obtain ⟨t0, t1, t2, k0, k1, k2⟩ := boxT_facts HD.tok
  obtain ⟨c0, c1, c2, c3, c4, c5, g1, g2, g3, g4, g5⟩ := HD.st.cells
  obtain ⟨r0, r1, r2, n0, n1, n2⟩ := boxT_facts HD.res
  have hszr : (s.extract a s.size).size = s.size - a := by simp
  have hlr := lst_cut s a
  have HD := Lib.hid HD
  generalize s.extract a s.size = r at *
  obtain ⟨hlt, hl, hd⟩ := He.out
  have HTT := Lib.hid (T_sign hlt hl hd)
  have HK := Lib.hid (kd_sign hlt hl hd)
  have hfit := T_fit hb2
  have hbz : (bs (T s a)).size = (T s a).length := by simp [bs, ByteArray.size]
  have e0 : (r.toList == []) = false := by rw [beq_eq_false_iff_ne, ne_eq, ← List.length_eq_zero_iff, toList_size]; omega
  have h0 : 0 < r.size := by omega
  have hr0 := head_at hlt hlr h0
  have c1 := Lib.hid (fun W' => pLetter_any (r[0].toNat) W')
  rw [hr0, hl] at c1
  have c3 := Lib.hid (fun W' => pDigit_any (r[0].toNat) W')
  rw [hr0, hd] at c3
  have hT3 : SigTab w3 := hTH.out.fr' HD.out.fr hp2
  have c2 := signAt_any r w3 hT3
  rw [hlr, ← HTT.out] at c2
  obtain ⟨st, hst⟩ : ∃ st, bs (T s a) = st := ⟨_, rfl⟩
  rw [← hbz, hst] at hfit
  rw [hst] at hbz c2
  have HS := Lib.hid hst
  have HL := Lib.hid hbz
  clear HTT hbz He hlr hst hT3
  have hr0i : (r[0].toNat : Int) = (s[a].toNat : Int) := by rw [hr0]
  clear hr0
  go_wp2_with fail
  refine (c1.out _).mono ?_
  rintro e w4 ⟨rfl, rfl⟩
  clear c1
  go_wp2_with fail
  refine (c3.out _).mono ?_
  rintro e w4 ⟨rfl, rfl⟩
  clear c3
  go_wp2_with fail
  refine c2.mono ?_
  rintro e w4 ⟨rfl, b4⟩
  clear c2
  have HD := Lib.hid (HD.out.step b4)
  clear t0 t1 t2 k0 k1 k2 c0 c1 c2 c3 c4 c5 g1 g2 g3 g4 g5 r0 r1 r2 n0 n1 n2 b4
  obtain ⟨t0, t1, t2, k0, k1, k2⟩ := boxT_facts HD.out.tok
  obtain ⟨c0, c1, c2, c3, c4, c5, g1, g2, g3, g4, g5⟩ := HD.out.st.cells
  obtain ⟨r0, r1, r2, n0, n1, n2⟩ := boxT_facts HD.out.res
  go_upto_region 11 with fail
  · have HE : ScB p s a 3 st k na nt rdy o W tb ((w4.setCell ⟨tb, 0, none⟩ (.int .i64 3)).setCell ⟨tb, 2, none⟩ (.string st)) := HD.out.cut 3 st
    generalize ((w4.setCell ⟨tb, 0, none⟩ (.int .i64 3)).setCell ⟨tb, 2, none⟩ (.string st)) = w5 at *
    clear HD t0 t1 t2 k0 k1 k2 c0 c1 c2 c3 c4 c5 g1 g2 g3 g4 g5 r0 r1 r2 n0 n1 n2
    obtain ⟨t0, t1, t2, k0, k1, k2⟩ := boxT_facts HE.tok
    obtain ⟨c0, c1, c2, c3, c4, c5, g1, g2, g3, g4, g5⟩ := HE.st.cells
    have htp : ¬ tb = p := by have := HE.rt; have := HE.pr; omega
    have htr : ¬ tb = W.heap.size := by have := HE.rt; omega
    have HE := Lib.hid HE
    have hwr : IntKind.i64.wrap ((a : Int) + st.size) = (a : Int) + st.size := IntWalk.i64_in _ (by omega)
    go_wp2_with fail
    go_still_tail 10, (by kernel_rfl)
    change wpList _ _ _ _ _ w5.drew
    go_upto_region 12 with fail
    · have HF := Lib.hid (show ScB p s a 3 st k na nt rdy o W tb w5 ∧ QSt ((w5.setCell ⟨p, 1, none⟩ (.int .i64 ((a : Int) + st.size))).drew) p s (a + st.size) k na nt rdy o from ⟨HE.out, HE.out.st.set1 (a + st.size)⟩)
      have HRW := Lib.hid (show (w5.setCell ⟨p, 1, none⟩ (.int .i64 ((a : Int) + st.size))).drew.heap[W.heap.size]? = some (.cells zero3 41 (0, 0)) from (heap_setCell_other w5 ⟨p, 1, none⟩ _ _ (Nat.ne_of_gt HE.out.pr)).trans HE.out.res)
      obtain ⟨r0, r1, r2, n0, n1, n2⟩ := boxT_facts HRW.out
      have TT := Lib.hid (show (w5.setCell ⟨p, 1, none⟩ (.int .i64 ((a : Int) + st.size))).drew.heap[tb]? = some (.cells #[.int .i64 3, .int .i64 a, .string st] 41 (0, 0)) from (heap_setCell_other w5 ⟨p, 1, none⟩ _ _ htp).trans HE.out.tok)
      have FF := Lib.hid (show Fr p W (w5.setCell ⟨p, 1, none⟩ (.int .i64 ((a : Int) + st.size))).drew from (HE.out.fr.trans (Fr.set w5 1 _)).drew)
      clear t0 t1 t2 k0 k1 k2 c0 c1 c2 c3 c4 c5 g1 g2 g3 g4 g5
      obtain ⟨t0, t1, t2, k0, k1, k2⟩ := boxT_facts TT.out
      generalize (w5.setCell ⟨p, 1, none⟩ (.int .i64 ((a : Int) + st.size))).drew = w6 at *
      go_wp2_with fail
      have hpr : p ≠ W.heap.size := Nat.ne_of_lt HF.out.1.pr
      exact bodyPost_ret (res41 Tryz.results69 _ _ W.heap.size _ _ _ rfl (set3_same _ _ _ HRW.out)) rfl ⟨by rw [HS.out, HK.out], HL.out ▸ HF.out.2.other (set3_other _ _ _ hpr), FF.out.set3 (Nat.le_refl _) _ _ _⟩
/-- What scan does and returns. -/
theorem scan_any (p : Nat) (s : ByteArray) (a0 : Nat) (k na : Int) (nt : ByteArray) (rdy : Bool) (o : Option Int) (W : World) (h : QSt W p s a0 k na nt rdy o) (ha : a0 ≤ s.size) (hs : s.size ≤ 9223372036854775000) (hT : SigTab W) :
    Calls Tryz.prog 69 #[.pointer (some ⟨p, 0, none⟩)] W (ScanPost p s (bl s a0) k na nt rdy o W) := by
  obtain ⟨hb1, hb2⟩ := bl_le ha
  by_cases he : bl s a0 = s.size
  · exact scan_end p s a0 k na nt rdy o W h ha hs he
  have hlt : bl s a0 < s.size := by omega
  cases hl : letB s[bl s a0].toNat
  case true => exact scan_name p s a0 k na nt rdy o W h ha hs ⟨hlt, hl⟩
  cases hd : digB s[bl s a0].toNat
  case true => exact scan_num p s a0 k na nt rdy o W h ha hs ⟨hlt, hl, hd⟩
  exact scan_sign p s a0 k na nt rdy o W h ha hs ⟨hlt, hl, hd⟩ hT
end Go.Proofs.YtgkjcimgghflmaaGreatDoor
