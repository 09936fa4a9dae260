/-
  What the methods peek, take, accept and expect of the program's scanner do and return, and refuse; conditions: the text is no longer than a string can be, and the table of signs holds what the program's text lays.
-/
import Derived.Test.YtgkjcimgghflmaaGreatDoorZPq3
namespace Go.Proofs.YtgkjcimgghflmaaGreatDoor
open Go.RowKit Go.Shelf

attribute [local go_sem] Oper.semAt_some
/-- The scanner stands before the token at a position, read or not. -/
def Sca (W : World) (p : Nat) (s : ByteArray) (a : Nat) (o : Option Int) : Prop := ∃ at' k na nt rdy, QSt W p s at' k na nt rdy o ∧ a ≤ s.size ∧
  ((rdy = true ∧ at' = a + (T s a).length ∧ k = kd s a ∧ na = a ∧ nt = bs (T s a)) ∨ (rdy = false ∧ at' ≤ s.size ∧ bl s at' = a))
/-- It is read. -/
abbrev Rdy (W : World) (p : Nat) (s : ByteArray) (a : Nat) (o : Option Int) : Prop := QSt W p s (a + (T s a).length) (kd s a) a (bs (T s a)) true o
theorem Rdy.sca {W : World} {p : Nat} {s : ByteArray} {a : Nat} {o : Option Int} (h : Rdy W p s a o) (ha : a ≤ s.size) : Sca W p s a o := ⟨_, _, _, _, _, h, ha, .inl ⟨rfl, rfl, rfl, rfl, rfl⟩⟩
theorem Rdy.next {W : World} {p : Nat} {s : ByteArray} {a : Nat} {o : Option Int} (h : Rdy W p s a o) (ha : a ≤ s.size) : Sca (W.setCell ⟨p, 5, none⟩ (.bool false)) p s (nxt s a) o :=
  ⟨_, _, _, _, _, h.set5 false, (nxt_le ha).2, .inr ⟨rfl, T_fit ha, rfl⟩⟩
theorem Sca.later {W W' : World} {p : Nat} {s : ByteArray} {a : Nat} {o : Option Int} (h : Sca W p s a o) (hb : Below W.heap.size W W') : Sca W' p s a o := by
  obtain ⟨at', k, na, nt, rdy, h1, h2, h3⟩ := h
  exact ⟨at', k, na, nt, rdy, h1.later hb, h2, h3⟩
theorem Sca.other {W W' : World} {p : Nat} {s : ByteArray} {a : Nat} {o : Option Int} (h : Sca W p s a o) (hk : W'.heap[p]? = W.heap[p]?) : Sca W' p s a o := by
  obtain ⟨at', k, na, nt, rdy, h1, h2, h3⟩ := h
  exact ⟨at', k, na, nt, rdy, h1.other hk, h2, h3⟩
theorem Sca.le {W : World} {p : Nat} {s : ByteArray} {a : Nat} {o : Option Int} (h : Sca W p s a o) : a ≤ s.size := by obtain ⟨_, _, _, _, _, _, h2, _⟩ := h; exact h2
theorem Sca.lt {W : World} {p : Nat} {s : ByteArray} {a : Nat} {o : Option Int} (h : Sca W p s a o) : p < W.heap.size := by obtain ⟨_, _, _, _, _, h1, _⟩ := h; exact h1.lt
theorem Sca.noSig {W : World} {p : Nat} {s : ByteArray} {a : Nat} {o : Option Int} (h : Sca W p s a o) (hT : SigTab W) : p ≠ 2 := by obtain ⟨_, _, _, _, _, h1, _⟩ := h; exact h1.noSig hT

def PeekPost (p : Nat) (s : ByteArray) (a : Nat) (o : Option Int) (W : World) (e : Ending) (W' : World) : Prop :=
  e = .returned (tokV (kd s a) a (bs (T s a))) ∧ Rdy W' p s a o ∧ Fr p W W'

set_option maxRecDepth 100000 in
set_option maxHeartbeats 4000000 in
theorem peek_ready (p : Nat) (s : ByteArray) (a : Nat) (o : Option Int) (W : World) (h : Rdy W p s a o) :
    Calls Tryz.prog 33 #[.pointer (some ⟨p, 0, none⟩)] W (PeekPost p s a o W) := by
  have hp0 : p ≠ W.heap.size := Nat.ne_of_lt h.lt
  have hx : Rdy (W.alloc (.cells zero3 41)) p s a o := h.later ((Below.refl W.heap.size W).alloc (Nat.le_refl _) (.cells zero3 41))
  have hr0 := World.alloc_heap_new W (.cells zero3 41)
  have FF := Lib.hid (Fr.of (p := p) ((Below.refl W.heap.size W).alloc (Nat.le_refl _) (.cells zero3 41)))
  obtain ⟨c0, c1, c2, c3, c4, c5, g1, g2, g3, g4, g5⟩ := hx.cells
  obtain ⟨r0, r1, r2, n0, n1, n2⟩ := boxT_facts hr0
  have HX := Lib.hid hx
  have HR := Lib.hid hr0
  clear h hx hr0
  go_enter Tryz.func33, Tryz.ntmps33
  go_upto_region 1 with fail
  generalize W.alloc (.cells zero3 41) = w1 at *
  go_wp2_with fail
  exact bodyPost_ret (res41 Tryz.results33 _ _ W.heap.size _ _ _ rfl (set3_same _ _ _ HR.out)) rfl ⟨rfl, HX.out.other (set3_other _ _ _ hp0), FF.out.set3 (Nat.le_refl _) _ _ _⟩

set_option maxRecDepth 100000 in
set_option maxHeartbeats 4000000 in
theorem peek_unready (p : Nat) (s : ByteArray) (a0 : Nat) (k na : Int) (nt : ByteArray) (o : Option Int) (W : World) (h : QSt W p s a0 k na nt false o) (ha : a0 ≤ s.size) (hs : s.size ≤ 9223372036854775000) (hT : SigTab W) :
    Calls Tryz.prog 33 #[.pointer (some ⟨p, 0, none⟩)] W (PeekPost p s (bl s a0) o W) := by
  have hp0 : p ≠ W.heap.size := Nat.ne_of_lt h.lt
  have hB := (Below.refl W.heap.size W).alloc (Nat.le_refl _) (.cells zero3 41)
  have hx : QSt (W.alloc (.cells zero3 41)) p s a0 k na nt false o := h.later hB
  have hr0 := World.alloc_heap_new W (.cells zero3 41)
  have FF := Lib.hid (Fr.of (p := p) hB)
  have c := scan_any p s a0 k na nt false o _ hx ha hs (hT.later hB)
  obtain ⟨c0, c1, c2, c3, c4, c5, g1, g2, g3, g4, g5⟩ := hx.cells
  have HR := Lib.hid hr0
  clear h hx hr0 hT hB
  generalize bl s a0 = a at *
  go_enter Tryz.func33, Tryz.ntmps33
  go_upto_region 1 with fail
  generalize W.alloc (.cells zero3 41) = w1 at *
  go_wp2_with fail
  refine c.mono ?_
  rintro e w2 ⟨rfl, q2, f2⟩
  have Q2 := Lib.hid q2
  have F2 := Lib.hid (FF.out.trans f2)
  have R2 := Lib.hid (f2.at HR.out (Ne.symm hp0))
  clear c c0 c1 c2 c3 c4 c5 g1 g2 g3 g4 g5 f2 FF HR
  obtain ⟨c0, c1, c2, c3, c4, c5, g1, g2, g3, g4, g5⟩ := q2.cells
  clear q2
  go_upto_region 4 with fail
  · have Q3 := Lib.hid (show Rdy ((((w2.setCell ⟨p, 2, none⟩ (.int .i64 (kd s a))).setCell ⟨p, 3, none⟩ (.int .i64 a)).setCell ⟨p, 4, none⟩ (.string (bs (T s a)))).setCell ⟨p, 5, none⟩ (.bool true)) p s a o from (Q2.out.setT (kd s a) a (bs (T s a))).set5 true)
    have F3 := Lib.hid (show Fr p W ((((w2.setCell ⟨p, 2, none⟩ (.int .i64 (kd s a))).setCell ⟨p, 3, none⟩ (.int .i64 a)).setCell ⟨p, 4, none⟩ (.string (bs (T s a)))).setCell ⟨p, 5, none⟩ (.bool true)) from (((F2.out.trans (Fr.set _ 2 _)).trans (Fr.set _ 3 _)).trans (Fr.set _ 4 _)).trans (Fr.set _ 5 _))
    have R3 := Lib.hid (show ((((w2.setCell ⟨p, 2, none⟩ (.int .i64 (kd s a))).setCell ⟨p, 3, none⟩ (.int .i64 a)).setCell ⟨p, 4, none⟩ (.string (bs (T s a)))).setCell ⟨p, 5, none⟩ (.bool true)).heap[W.heap.size]? = some (.cells zero3 41 (0, 0)) from ((((Fr.refl p w2).trans (Fr.set _ 2 _)).trans (Fr.set _ 3 _)).trans (Fr.set _ 4 _) |>.trans (Fr.set _ 5 _)).at R2.out (Ne.symm hp0))
    clear c0 c1 c2 c3 c4 c5 g1 g2 g3 g4 g5
    generalize (((w2.setCell ⟨p, 2, none⟩ (.int .i64 (kd s a))).setCell ⟨p, 3, none⟩ (.int .i64 a)).setCell ⟨p, 4, none⟩ (.string (bs (T s a)))).setCell ⟨p, 5, none⟩ (.bool true) = w3 at *
    obtain ⟨c0, c1, c2, c3, c4, c5, g1, g2, g3, g4, g5⟩ := Q3.out.cells
    obtain ⟨r0, r1, r2, n0, n1, n2⟩ := boxT_facts R3.out
    go_wp2_with fail
    exact bodyPost_ret (res41 Tryz.results33 _ _ W.heap.size _ _ _ rfl (set3_same _ _ _ R3.out)) rfl ⟨rfl, Q3.out.other (set3_other _ _ _ hp0), F3.out.set3 (Nat.le_refl _) _ _ _⟩

theorem peek_any (p : Nat) (s : ByteArray) (a : Nat) (o : Option Int) (W : World) (h : Sca W p s a o) (hs : s.size ≤ 9223372036854775000) (hT : SigTab W) :
    Calls Tryz.prog 33 #[.pointer (some ⟨p, 0, none⟩)] W (PeekPost p s a o W) := by
  obtain ⟨at', k, na, nt, rdy, h1, h2, ⟨rfl, rfl, rfl, rfl, rfl⟩ | ⟨rfl, h3, rfl⟩⟩ := h
  · exact peek_ready p s a o W h1
  · exact peek_unready p s at' k na nt o W h1 h3 hs hT

set_option maxRecDepth 100000 in
set_option maxHeartbeats 4000000 in
theorem ptake_any (p : Nat) (s : ByteArray) (a : Nat) (o : Option Int) (W : World) (h : Sca W p s a o) (hs : s.size ≤ 9223372036854775000) (hT : SigTab W) :
    Calls Tryz.prog 137 #[.pointer (some ⟨p, 0, none⟩)] W fun e W' => e = .returned (tokV (kd s a) a (bs (T s a))) ∧ Sca W' p s (nxt s a) o ∧ Fr p W W' := by
  have hpl := h.lt
  have hp0 : p ≠ W.heap.size := Nat.ne_of_lt h.lt
  have ha := h.le
  have hB := (Below.refl W.heap.size W).alloc (Nat.le_refl _) (.cells zero3 41)
  have hr0 := World.alloc_heap_new W (.cells zero3 41)
  have FF := Lib.hid (Fr.of (p := p) hB)
  have c := peek_any p s a o _ (h.later hB) hs (hT.later hB)
  have HR := Lib.hid hr0
  clear h hr0 hT hB
  go_enter Tryz.func137, Tryz.ntmps137
  go_upto_region 1 with fail
  generalize W.alloc (.cells zero3 41) = w1 at *
  go_wp2_with fail
  refine c.mono ?_
  rintro e w2 ⟨rfl, q2, f2⟩
  have F2 := Lib.hid (FF.out.trans f2)
  have R2 := f2.at HR.out (Ne.symm hp0)
  have hsz : W.heap.size < w2.heap.size := (Array.getElem?_eq_some_iff.1 R2).1
  have hB := (Below.refl w2.heap.size w2).alloc (Nat.le_refl _) (.cells #[.int .i64 (kd s a), .int .i64 a, .string (bs (T s a))] 41)
  have Q3 := Lib.hid (q2.later hB)
  have F3 := Lib.hid (F2.out.trans (Fr.of (p := p) hB))
  have R3 := Lib.hid ((hB.block _ hsz).trans R2)
  have T3 := Lib.hid (World.alloc_heap_new w2 (.cells #[.int .i64 (kd s a), .int .i64 a, .string (bs (T s a))] 41))
  clear c f2 FF HR F2 R2 q2 hB
  go_upto_region 2 with fail
  · generalize hw3 : w2.alloc (.cells #[.int .i64 (kd s a), .int .i64 a, .string (bs (T s a))] 41) = w3 at *
    have htp : ¬ w2.heap.size = p := by omega
    clear hw3
    generalize w2.heap.size = tb at *
    obtain ⟨c0, c1, c2, c3, c4, c5, g1, g2, g3, g4, g5⟩ := Q3.out.cells
    go_upto_region 3 with fail
    · have S4 := Lib.hid (Rdy.next Q3.out ha)
      have F4 := Lib.hid (F3.out.trans (Fr.set w3 5 (.bool false)))
      have R4 := Lib.hid ((Fr.set w3 5 (.bool false)).at R3.out (Ne.symm hp0))
      have T4 := Lib.hid ((Fr.set w3 5 (.bool false)).at T3.out htp)
      clear c0 c1 c2 c3 c4 c5 g1 g2 g3 g4 g5 Q3 R3 T3 F3
      generalize w3.setCell ⟨p, 5, none⟩ (.bool false) = w4 at *
      obtain ⟨r0, r1, r2, n0, n1, n2⟩ := boxT_facts R4.out
      obtain ⟨t0, t1, t2, k0, k1, k2⟩ := boxT_facts T4.out
      go_wp2_with fail
      exact bodyPost_ret (res41 Tryz.results137 _ _ W.heap.size _ _ _ rfl (set3_same _ _ _ R4.out)) rfl ⟨rfl, S4.out.other (set3_other _ _ _ hp0), F4.out.set3 (Nat.le_refl _) _ _ _⟩

theorem tok_f0 (k na : Int) (t : ByteArray) (W : World) : (Instr.field 41 (tokV k na t) 0).run Tryz.prog W = .ok (.int .i64 k) W := by kernel_rfl
theorem tok_f2 (k na : Int) (t : ByteArray) (W : World) : (Instr.field 41 (tokV k na t) 2).run Tryz.prog W = .ok (.string t) W := by kernel_rfl

set_option maxRecDepth 100000 in
set_option maxHeartbeats 4000000 in
theorem paccept_yes (t : List UInt8) (p : Nat) (s : ByteArray) (a : Nat) (o : Option Int) (W : World) (h : Sca W p s a o) (hs : s.size ≤ 9223372036854775000) (hT : SigTab W) (ht : T s a = t) :
    Calls Tryz.prog 98 #[.pointer (some ⟨p, 0, none⟩), .string (bs t)] W fun e W' => e = .returned (.bool true) ∧ Sca W' p s (nxt s a) o ∧ Fr p W W' := by
  have ha := h.le
  have c := peek_any p s a o W h hs hT
  have hb1 : ((bs (T s a)).toList == (bs t).toList) = true := by rw [bs_toList, bs_toList]; simpa using ht
  have hb : ((bs (T s a)).toList != (bs t).toList) = false := by rw [bne, hb1]; rfl
  have q2 := tok_f2
  clear h hT ht
  go_enter Tryz.func98, Tryz.ntmps98
  go_wp2_with fail
  refine c.mono ?_
  rintro e w2 ⟨rfl, h2, f2⟩
  have Q2 := Lib.hid h2
  have F2 := Lib.hid f2
  obtain ⟨c0, c1, c2, c3, c4, c5, g1, g2, g3, g4, g5⟩ := h2.cells
  clear c f2 h2
  go_wp2_with fail
  go_ret
  exact ⟨rfl, Rdy.next Q2.out ha, F2.out.trans (Fr.set w2 5 _)⟩

set_option maxRecDepth 100000 in
set_option maxHeartbeats 4000000 in
theorem paccept_no (t : List UInt8) (p : Nat) (s : ByteArray) (a : Nat) (o : Option Int) (W : World) (h : Sca W p s a o) (hs : s.size ≤ 9223372036854775000) (hT : SigTab W) (ht : T s a ≠ t) :
    Calls Tryz.prog 98 #[.pointer (some ⟨p, 0, none⟩), .string (bs t)] W fun e W' => e = .returned (.bool false) ∧ Sca W' p s a o ∧ Fr p W W' := by
  have ha := h.le
  have c := peek_any p s a o W h hs hT
  have hb1 : ((bs (T s a)).toList == (bs t).toList) = false := by rw [bs_toList, bs_toList]; simpa using ht
  have hb : ((bs (T s a)).toList != (bs t).toList) = true := by rw [bne, hb1]; rfl
  have q2 := tok_f2
  clear h hT ht
  go_enter Tryz.func98, Tryz.ntmps98
  go_wp2_with fail
  refine c.mono ?_
  rintro e w2 ⟨rfl, h2, f2⟩
  have Q2 := Lib.hid h2
  have F2 := Lib.hid f2
  clear c f2 h2
  go_wp2_with fail
  go_ret
  exact ⟨rfl, Rdy.sca Q2.out ha, F2.out⟩

/-- What a wrong text panics with. -/
abbrev faultV (w : Int) (er : Int) : Value := .iface 63 (.agg #[.int .i64 w, .int .i64 er])
def Faults (w er : Int) (e : Ending) : Prop := e = .panicked [{ v := faultV w er, recovered := false }]

set_option maxRecDepth 100000 in
set_option maxHeartbeats 4000000 in
theorem refuse_any (k a : Int) (t : ByteArray) (W : World) : Calls Tryz.prog 34 #[tokV k a t] W fun e W' => Faults a 20 e ∧ Below W.heap.size W W' := by
  go_enter Tryz.func34, Tryz.ntmps34
  go_wp2_with fail
  exact ⟨rfl, rfl, (Below.refl _ _).alloc (Nat.le_refl _) _⟩

set_option maxRecDepth 100000 in
set_option maxHeartbeats 4000000 in
theorem pexpect_yes (t : List UInt8) (p : Nat) (s : ByteArray) (a : Nat) (o : Option Int) (W : World) (h : Sca W p s a o) (hs : s.size ≤ 9223372036854775000) (hT : SigTab W) (ht : T s a = t) :
    Calls Tryz.prog 173 #[.pointer (some ⟨p, 0, none⟩), .string (bs t)] W fun e W' => e = .returned (.tuple #[]) ∧ Sca W' p s (nxt s a) o ∧ Fr p W W' := by
  have c := paccept_yes t p s a o W h hs hT ht
  clear h hT ht
  go_enter Tryz.func173, Tryz.ntmps173
  go_wp2_with fail
  refine c.mono ?_
  rintro e w2 ⟨rfl, h2, f2⟩
  have Q2 := Lib.hid h2
  have F2 := Lib.hid f2
  clear c f2 h2
  go_wp2_with fail
  go_end0
  exact ⟨rfl, Q2.out, F2.out⟩

set_option maxRecDepth 100000 in
set_option maxHeartbeats 4000000 in
theorem pexpect_no (t : List UInt8) (p : Nat) (s : ByteArray) (a : Nat) (o : Option Int) (W : World) (h : Sca W p s a o) (hs : s.size ≤ 9223372036854775000) (hT : SigTab W) (ht : T s a ≠ t) :
    Calls Tryz.prog 173 #[.pointer (some ⟨p, 0, none⟩), .string (bs t)] W fun e W' => Faults a 20 e ∧ Fr p W W' := by
  have c := paccept_no t p s a o W h hs hT ht
  have HT := Lib.hid (fun (W' : World) (hf : Fr p W W') => hT.fr' hf (h.noSig hT))
  clear h hT ht
  go_enter Tryz.func173, Tryz.ntmps173
  go_wp2_with fail
  refine c.mono ?_
  rintro e w2 ⟨rfl, h2, f2⟩
  have F2 := Lib.hid f2
  have c2 := peek_any p s a o w2 h2 hs (HT.out _ f2)
  clear c f2 h2
  go_wp2_with fail
  refine c2.mono ?_
  rintro e w3 ⟨rfl, _, f3⟩
  have F3 := Lib.hid (F2.out.trans f3)
  clear c2 f3
  go_wp2_with fail
  refine (refuse_any _ _ _ _).mono ?_
  rintro e w4 ⟨rfl, b4⟩
  have F4 := Lib.hid (F3.out.trans (Fr.of b4))
  clear b4
  go_wp2_with fail
  exact ⟨rfl, rfl, F4.out⟩
end Go.Proofs.YtgkjcimgghflmaaGreatDoor
