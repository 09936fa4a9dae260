/-
  What a phrase of the program's parser answers, and what its functions node, Contains and inside do; conditions: the text is no longer than a string can be, and the program's tables hold what its text lays.
-/
import Derived.Test.YtgkjcimgghflmaaGreatDoorYPq2
import Derived.Test.YtgkjcimgghflmaaGreatDoorYRl0
namespace Go.Proofs.YtgkjcimgghflmaaGreatDoor
open Go.RowKit Go.Shelf
attribute [local go_sem] Oper.semAt_some
/-- The scanner stands before the token at a position, read or not. -/
def Sca (W : World) (p : Nat) (s : ByteArray) (a : Nat) (o : Option Int) : Prop := ∃ at' k na nt rdy, QSt W p s at' k na nt rdy o ∧ a ≤ s.size ∧
  ((rdy = true ∧ at' = a + (T s a).length ∧ k = kd s a ∧ na = a ∧ nt = bs (T s a)) ∨ (rdy = false ∧ at' ≤ s.size ∧ bl s at' = a))
/-- It is read. -/
abbrev Rdy (W : World) (p : Nat) (s : ByteArray) (a : Nat) (o : Option Int) : Prop := QSt W p s (a + (T s a).length) (kd s a) a (bs (T s a)) true o
theorem Rdy.sca {W : World} {p : Nat} {s : ByteArray} {a : Nat} {o : Option Int} (h : Rdy W p s a o) (ha : a ≤ s.size) : Sca W p s a o := ⟨_, _, _, _, _, h, ha, .inl ⟨rfl, rfl, rfl, rfl, rfl⟩⟩
theorem Rdy.next {W : World} {p : Nat} {s : ByteArray} {a : Nat} {o : Option Int} (h : Rdy W p s a o) (ha : a ≤ s.size) : Sca (W.setCell ⟨p, 5, none⟩ (.bool false)) p s (nxt s a) o :=
  ⟨_, _, _, _, _, h.set5 false, (nxt_le ha).2, .inr ⟨rfl, T_fit ha, rfl⟩⟩
theorem Sca.later {W W' : World} {p : Nat} {s : ByteArray} {a : Nat} {o : Option Int} (h : Sca W p s a o) (hb : Below W.heap.size W W') : Sca W' p s a o := by
  obtain ⟨at', k, na, nt, rdy, h1, h2, h3⟩ := h
  exact ⟨at', k, na, nt, rdy, h1.later hb, h2, h3⟩
theorem Sca.other {W W' : World} {p : Nat} {s : ByteArray} {a : Nat} {o : Option Int} (h : Sca W p s a o) (hk : W'.heap[p]? = W.heap[p]?) : Sca W' p s a o := by
  obtain ⟨at', k, na, nt, rdy, h1, h2, h3⟩ := h
  exact ⟨at', k, na, nt, rdy, h1.other hk, h2, h3⟩
theorem Sca.le {W : World} {p : Nat} {s : ByteArray} {a : Nat} {o : Option Int} (h : Sca W p s a o) : a ≤ s.size := by obtain ⟨_, _, _, _, _, _, h2, _⟩ := h; exact h2
theorem Sca.lt {W : World} {p : Nat} {s : ByteArray} {a : Nat} {o : Option Int} (h : Sca W p s a o) : p < W.heap.size := by obtain ⟨_, _, _, _, _, h1, _⟩ := h; exact h1.lt
theorem Sca.noSig {W : World} {p : Nat} {s : ByteArray} {a : Nat} {o : Option Int} (h : Sca W p s a o) (hT : SigTab W) : p ≠ 2 := by obtain ⟨_, _, _, _, _, h1, _⟩ := h; exact h1.noSig hT
def PeekPost (p : Nat) (s : ByteArray) (a : Nat) (o : Option Int) (W : World) (e : Ending) (W' : World) : Prop :=
  e = .returned (tokV (kd s a) a (bs (T s a))) ∧ Rdy W' p s a o ∧ Fr p W W'
set_option maxRecDepth 100000 in
set_option maxHeartbeats 4000000 in
theorem peek_ready (p : Nat) (s : ByteArray) (a : Nat) (o : Option Int) (W : World) (h : Rdy W p s a o) :
    Calls Tryz.prog 33 #[.pointer (some ⟨p, 0, none⟩)] W (PeekPost p s a o W) := by
  have hp0 : p ≠ W.heap.size := Nat.ne_of_lt h.lt
  have hx : Rdy (W.alloc (.cells zero3 41)) p s a o := h.later ((Below.refl W.heap.size W).alloc (Nat.le_refl _) (.cells zero3 41))
  have hr0 := World.alloc_heap_new W (.cells zero3 41)
  have FF := Lib.hid (Fr.of (p := p) ((Below.refl W.heap.size W).alloc (Nat.le_refl _) (.cells zero3 41)))
  obtain ⟨c0, c1, c2, c3, c4, c5, g1, g2, g3, g4, g5⟩ := hx.cells
  obtain ⟨r0, r1, r2, n0, n1, n2⟩ := boxT_facts hr0
  have HX := Lib.hid hx
  have HR := Lib.hid hr0
  clear h hx hr0
  go_enter Tryz.func33, Tryz.ntmps33
  go_upto_region 1 with fail
  generalize W.alloc (.cells zero3 41) = w1 at *
  go_wp2_with fail
  exact bodyPost_ret (res41 Tryz.results33 _ _ W.heap.size _ _ _ rfl (set3_same _ _ _ HR.out)) rfl ⟨rfl, HX.out.other (set3_other _ _ _ hp0), FF.out.set3 (Nat.le_refl _) _ _ _⟩
set_option maxRecDepth 100000 in
set_option maxHeartbeats 4000000 in
theorem peek_unready (p : Nat) (s : ByteArray) (a0 : Nat) (k na : Int) (nt : ByteArray) (o : Option Int) (W : World) (h : QSt W p s a0 k na nt false o) (ha : a0 ≤ s.size) (hs : s.size ≤ 9223372036854775000) (hT : SigTab W) :
    Calls Tryz.prog 33 #[.pointer (some ⟨p, 0, none⟩)] W (PeekPost p s (bl s a0) o W) := by
  have hp0 : p ≠ W.heap.size := Nat.ne_of_lt h.lt
  have hB := (Below.refl W.heap.size W).alloc (Nat.le_refl _) (.cells zero3 41)
  have hx : QSt (W.alloc (.cells zero3 41)) p s a0 k na nt false o := h.later hB
  have hr0 := World.alloc_heap_new W (.cells zero3 41)
  have FF := Lib.hid (Fr.of (p := p) hB)
  have c := scan_any p s a0 k na nt false o _ hx ha hs (hT.later hB)
  obtain ⟨c0, c1, c2, c3, c4, c5, g1, g2, g3, g4, g5⟩ := hx.cells
  have HR := Lib.hid hr0
  clear h hx hr0 hT hB
  generalize bl s a0 = a at *
  go_enter Tryz.func33, Tryz.ntmps33
  go_upto_region 1 with fail
  generalize W.alloc (.cells zero3 41) = w1 at *
  go_wp2_with fail
  refine c.mono ?_
  rintro e w2 ⟨rfl, q2, f2⟩
  have Q2 := Lib.hid q2
  have F2 := Lib.hid (FF.out.trans f2)
  have R2 := Lib.hid (f2.at HR.out (Ne.symm hp0))
  clear c c0 c1 c2 c3 c4 c5 g1 g2 g3 g4 g5 f2 FF HR
  obtain ⟨c0, c1, c2, c3, c4, c5, g1, g2, g3, g4, g5⟩ := q2.cells
  clear q2
  go_upto_region 4 with fail
  · have Q3 := Lib.hid (show Rdy ((((w2.setCell ⟨p, 2, none⟩ (.int .i64 (kd s a))).setCell ⟨p, 3, none⟩ (.int .i64 a)).setCell ⟨p, 4, none⟩ (.string (bs (T s a)))).setCell ⟨p, 5, none⟩ (.bool true)) p s a o from (Q2.out.setT (kd s a) a (bs (T s a))).set5 true)
    have F3 := Lib.hid (show Fr p W ((((w2.setCell ⟨p, 2, none⟩ (.int .i64 (kd s a))).setCell ⟨p, 3, none⟩ (.int .i64 a)).setCell ⟨p, 4, none⟩ (.string (bs (T s a)))).setCell ⟨p, 5, none⟩ (.bool true)) from (((F2.out.trans (Fr.set _ 2 _)).trans (Fr.set _ 3 _)).trans (Fr.set _ 4 _)).trans (Fr.set _ 5 _))
    have R3 := Lib.hid (show ((((w2.setCell ⟨p, 2, none⟩ (.int .i64 (kd s a))).setCell ⟨p, 3, none⟩ (.int .i64 a)).setCell ⟨p, 4, none⟩ (.string (bs (T s a)))).setCell ⟨p, 5, none⟩ (.bool true)).heap[W.heap.size]? = some (.cells zero3 41 (0, 0)) from ((((Fr.refl p w2).trans (Fr.set _ 2 _)).trans (Fr.set _ 3 _)).trans (Fr.set _ 4 _) |>.trans (Fr.set _ 5 _)).at R2.out (Ne.symm hp0))
    clear c0 c1 c2 c3 c4 c5 g1 g2 g3 g4 g5
    generalize (((w2.setCell ⟨p, 2, none⟩ (.int .i64 (kd s a))).setCell ⟨p, 3, none⟩ (.int .i64 a)).setCell ⟨p, 4, none⟩ (.string (bs (T s a)))).setCell ⟨p, 5, none⟩ (.bool true) = w3 at *
    obtain ⟨c0, c1, c2, c3, c4, c5, g1, g2, g3, g4, g5⟩ := Q3.out.cells
    obtain ⟨r0, r1, r2, n0, n1, n2⟩ := boxT_facts R3.out
    go_wp2_with fail
    exact bodyPost_ret (res41 Tryz.results33 _ _ W.heap.size _ _ _ rfl (set3_same _ _ _ R3.out)) rfl ⟨rfl, Q3.out.other (set3_other _ _ _ hp0), F3.out.set3 (Nat.le_refl _) _ _ _⟩
theorem peek_any (p : Nat) (s : ByteArray) (a : Nat) (o : Option Int) (W : World) (h : Sca W p s a o) (hs : s.size ≤ 9223372036854775000) (hT : SigTab W) :
    Calls Tryz.prog 33 #[.pointer (some ⟨p, 0, none⟩)] W (PeekPost p s a o W) := by
  obtain ⟨at', k, na, nt, rdy, h1, h2, ⟨rfl, rfl, rfl, rfl, rfl⟩ | ⟨rfl, h3, rfl⟩⟩ := h
  · exact peek_ready p s a o W h1
  · exact peek_unready p s at' k na nt o W h1 h3 hs hT
set_option maxRecDepth 100000 in
set_option maxHeartbeats 4000000 in
theorem ptake_any (p : Nat) (s : ByteArray) (a : Nat) (o : Option Int) (W : World) (h : Sca W p s a o) (hs : s.size ≤ 9223372036854775000) (hT : SigTab W) :
    Calls Tryz.prog 137 #[.pointer (some ⟨p, 0, none⟩)] W fun e W' => e = .returned (tokV (kd s a) a (bs (T s a))) ∧ Sca W' p s (nxt s a) o ∧ Fr p W W' := by
  have hpl := h.lt
  have hp0 : p ≠ W.heap.size := Nat.ne_of_lt h.lt
  have ha := h.le
  have hB := (Below.refl W.heap.size W).alloc (Nat.le_refl _) (.cells zero3 41)
  have hr0 := World.alloc_heap_new W (.cells zero3 41)
  have FF := Lib.hid (Fr.of (p := p) hB)
  have c := peek_any p s a o _ (h.later hB) hs (hT.later hB)
  have HR := Lib.hid hr0
  clear h hr0 hT hB
  go_enter Tryz.func137, Tryz.ntmps137
  go_upto_region 1 with fail
  generalize W.alloc (.cells zero3 41) = w1 at *
  go_wp2_with fail
  refine c.mono ?_
  rintro e w2 ⟨rfl, q2, f2⟩
  have F2 := Lib.hid (FF.out.trans f2)
  have R2 := f2.at HR.out (Ne.symm hp0)
  have hsz : W.heap.size < w2.heap.size := (Array.getElem?_eq_some_iff.1 R2).1
  have hB := (Below.refl w2.heap.size w2).alloc (Nat.le_refl _) (.cells #[.int .i64 (kd s a), .int .i64 a, .string (bs (T s a))] 41)
  have Q3 := Lib.hid (q2.later hB)
  have F3 := Lib.hid (F2.out.trans (Fr.of (p := p) hB))
  have R3 := Lib.hid ((hB.block _ hsz).trans R2)
  have T3 := Lib.hid (World.alloc_heap_new w2 (.cells #[.int .i64 (kd s a), .int .i64 a, .string (bs (T s a))] 41))
  clear c f2 FF HR F2 R2 q2 hB
  go_upto_region 2 with fail
  · generalize hw3 : w2.alloc (.cells #[.int .i64 (kd s a), .int .i64 a, .string (bs (T s a))] 41) = w3 at *
    have htp : ¬ w2.heap.size = p := by omega
    clear hw3
    generalize w2.heap.size = tb at *
    obtain ⟨c0, c1, c2, c3, c4, c5, g1, g2, g3, g4, g5⟩ := Q3.out.cells
    go_upto_region 3 with fail
    · have S4 := Lib.hid (Rdy.next Q3.out ha)
      have F4 := Lib.hid (F3.out.trans (Fr.set w3 5 (.bool false)))
      have R4 := Lib.hid ((Fr.set w3 5 (.bool false)).at R3.out (Ne.symm hp0))
      have T4 := Lib.hid ((Fr.set w3 5 (.bool false)).at T3.out htp)
      clear c0 c1 c2 c3 c4 c5 g1 g2 g3 g4 g5 Q3 R3 T3 F3
      generalize w3.setCell ⟨p, 5, none⟩ (.bool false) = w4 at *
      obtain ⟨r0, r1, r2, n0, n1, n2⟩ := boxT_facts R4.out
      obtain ⟨t0, t1, t2, k0, k1, k2⟩ := boxT_facts T4.out
      go_wp2_with fail
      exact bodyPost_ret (res41 Tryz.results137 _ _ W.heap.size _ _ _ rfl (set3_same _ _ _ R4.out)) rfl ⟨rfl, S4.out.other (set3_other _ _ _ hp0), F4.out.set3 (Nat.le_refl _) _ _ _⟩
theorem tok_f0 (k na : Int) (t : ByteArray) (W : World) : (Instr.field 41 (tokV k na t) 0).run Tryz.prog W = .ok (.int .i64 k) W := by kernel_rfl
theorem tok_f2 (k na : Int) (t : ByteArray) (W : World) : (Instr.field 41 (tokV k na t) 2).run Tryz.prog W = .ok (.string t) W := by kernel_rfl
set_option maxRecDepth 100000 in
set_option maxHeartbeats 4000000 in
theorem paccept_yes (t : List UInt8) (p : Nat) (s : ByteArray) (a : Nat) (o : Option Int) (W : World) (h : Sca W p s a o) (hs : s.size ≤ 9223372036854775000) (hT : SigTab W) (ht : T s a = t) :
    Calls Tryz.prog 98 #[.pointer (some ⟨p, 0, none⟩), .string (bs t)] W fun e W' => e = .returned (.bool true) ∧ Sca W' p s (nxt s a) o ∧ Fr p W W' := by
  have ha := h.le
  have c := peek_any p s a o W h hs hT
  have hb1 : ((bs (T s a)).toList == (bs t).toList) = true := by rw [bs_toList, bs_toList]; simpa using ht
  have hb : ((bs (T s a)).toList != (bs t).toList) = false := by rw [bne, hb1]; rfl
  have q2 := tok_f2
  clear h hT ht
  go_enter Tryz.func98, Tryz.ntmps98
  go_wp2_with fail
  refine c.mono ?_
  rintro e w2 ⟨rfl, h2, f2⟩
  have Q2 := Lib.hid h2
  have F2 := Lib.hid f2
  obtain ⟨c0, c1, c2, c3, c4, c5, g1, g2, g3, g4, g5⟩ := h2.cells
  clear c f2 h2
  go_wp2_with fail
  go_ret
  exact ⟨rfl, Rdy.next Q2.out ha, F2.out.trans (Fr.set w2 5 _)⟩
set_option maxRecDepth 100000 in
set_option maxHeartbeats 4000000 in
theorem paccept_no (t : List UInt8) (p : Nat) (s : ByteArray) (a : Nat) (o : Option Int) (W : World) (h : Sca W p s a o) (hs : s.size ≤ 9223372036854775000) (hT : SigTab W) (ht : T s a ≠ t) :
    Calls Tryz.prog 98 #[.pointer (some ⟨p, 0, none⟩), .string (bs t)] W fun e W' => e = .returned (.bool false) ∧ Sca W' p s a o ∧ Fr p W W' := by
  have ha := h.le
  have c := peek_any p s a o W h hs hT
  have hb1 : ((bs (T s a)).toList == (bs t).toList) = false := by rw [bs_toList, bs_toList]; simpa using ht
  have hb : ((bs (T s a)).toList != (bs t).toList) = true := by rw [bne, hb1]; rfl
  have q2 := tok_f2
  clear h hT ht
  go_enter Tryz.func98, Tryz.ntmps98
  go_wp2_with fail
  refine c.mono ?_
  rintro e w2 ⟨rfl, h2, f2⟩
  have Q2 := Lib.hid h2
  have F2 := Lib.hid f2
  clear c f2 h2
  go_wp2_with fail
  go_ret
  exact ⟨rfl, Rdy.sca Q2.out ha, F2.out⟩
/-- What a wrong text panics with. -/
abbrev faultV (w : Int) (er : Int) : Value := .iface 63 (.agg #[.int .i64 w, .int .i64 er])
def Faults (w er : Int) (e : Ending) : Prop := e = .panicked [{ v := faultV w er, recovered := false }]
set_option maxRecDepth 100000 in
set_option maxHeartbeats 4000000 in
theorem refuse_any (k a : Int) (t : ByteArray) (W : World) : Calls Tryz.prog 34 #[tokV k a t] W fun e W' => Faults a 20 e ∧ Below W.heap.size W W' := by
  go_enter Tryz.func34, Tryz.ntmps34
  go_wp2_with fail
  exact ⟨rfl, rfl, (Below.refl _ _).alloc (Nat.le_refl _) _⟩
set_option maxRecDepth 100000 in
set_option maxHeartbeats 4000000 in
theorem pexpect_yes (t : List UInt8) (p : Nat) (s : ByteArray) (a : Nat) (o : Option Int) (W : World) (h : Sca W p s a o) (hs : s.size ≤ 9223372036854775000) (hT : SigTab W) (ht : T s a = t) :
    Calls Tryz.prog 173 #[.pointer (some ⟨p, 0, none⟩), .string (bs t)] W fun e W' => e = .returned (.tuple #[]) ∧ Sca W' p s (nxt s a) o ∧ Fr p W W' := by
  have c := paccept_yes t p s a o W h hs hT ht
  clear h hT ht
  go_enter Tryz.func173, Tryz.ntmps173
  go_wp2_with fail
  refine c.mono ?_
  rintro e w2 ⟨rfl, h2, f2⟩
  have Q2 := Lib.hid h2
  have F2 := Lib.hid f2
  clear c f2 h2
  go_wp2_with fail
  go_end0
  exact ⟨rfl, Q2.out, F2.out⟩
set_option maxRecDepth 100000 in
set_option maxHeartbeats 4000000 in
theorem pexpect_no (t : List UInt8) (p : Nat) (s : ByteArray) (a : Nat) (o : Option Int) (W : World) (h : Sca W p s a o) (hs : s.size ≤ 9223372036854775000) (hT : SigTab W) (ht : T s a ≠ t) :
    Calls Tryz.prog 173 #[.pointer (some ⟨p, 0, none⟩), .string (bs t)] W fun e W' => Faults a 20 e ∧ Fr p W W' := by
  have c := paccept_no t p s a o W h hs hT ht
  have HT := Lib.hid (fun (W' : World) (hf : Fr p W W') => hT.fr' hf (h.noSig hT))
  clear h hT ht
  go_enter Tryz.func173, Tryz.ntmps173
  go_wp2_with fail
  refine c.mono ?_
  rintro e w2 ⟨rfl, h2, f2⟩
  have F2 := Lib.hid f2
  have c2 := peek_any p s a o w2 h2 hs (HT.out _ f2)
  clear c f2 h2
  go_wp2_with fail
  refine c2.mono ?_
  rintro e w3 ⟨rfl, _, f3⟩
  have F3 := Lib.hid (F2.out.trans f3)
  clear c2 f3
  go_wp2_with fail
  refine (refuse_any _ _ _ _).mono ?_
  rintro e w4 ⟨rfl, b4⟩
  have F4 := Lib.hid (F3.out.trans (Fr.of b4))
  clear b4
  go_wp2_with fail
  exact ⟨rfl, rfl, F4.out⟩
end Go.Proofs.YtgkjcimgghflmaaGreatDoor
namespace Go.Proofs.YtgkjcimgghflmaaGreatDoor
open Go.RowKit Go.Shelf
attribute [local go_sem] Oper.semAt_some
/-- The tables, and that the parser's block is none of them. -/
structure Env (W : World) (p : Nat) : Prop where
  tabs : Tabs W
  sig : SigTab W
  p0 : p ≠ 0
  p1 : p ≠ 1
  p2 : p ≠ 2
theorem var_fr {p g : Nat} {W W' : World} {n : String} {cs : Array Value} (hg : Tryz.prog.globalNamed n = some g) (h : W.var? Tryz.prog n = some cs) (hf : Fr p W W') (hn : p ≠ g) : W'.var? Tryz.prog n = some cs := by
  obtain ⟨t, fr, hk⟩ := block_of_var hg h
  have h2 := hf.at hk (fun e => hn e.symm)
  unfold World.var?
  rw [hg]
  simp only [Option.bind_some, h2]
theorem Env.fr {W W' : World} {p : Nat} (h : Env W p) (hf : Fr p W W') : Env W' p :=
  ⟨⟨var_fr inf_place h.tabs.inf hf h.p0, var_fr word_place h.tabs.wor hf h.p1⟩, h.sig.fr' hf h.p2, h.p0, h.p1, h.p2⟩
theorem Env.later {W W' : World} {p : Nat} (h : Env W p) (hb : Below W.heap.size W W') : Env W' p := h.fr (Fr.of hb)
/-- What a phrase answers: a node in new memory and the scanner behind it; or it panics with a fault. -/
def Ans (p : Nat) (s : ByteArray) (o : Nat) (W : World) : PR → Ending → World → Prop
  | .ok t a, e, W' => ∃ A cap, e = .returned (nv t.op t.so t.nm t.nu (.slice A t.ks.length cap)) ∧ Rob W.heap.size W' none A cap t.ks ∧ Fine t ∧ Fr p W W' ∧ Sca W' p s a (some o)
  | .err er w, e, W' => Faults w er e ∧ Fr p W W'
  | .out, _, _ => False
/-- A phrase asked of the parser. -/
def LiveP (s : ByteArray) (f : Nat) (nt : NT) (F : Nat) : Prop := ∀ (p o a : Nat) (W : World), Sca W p s a (some o) → Env W p → o ≤ 90 → 32 * (s.size - a) + rank nt < f →
  Calls Tryz.prog F #[.pointer (some ⟨p, 0, none⟩)] W (Ans p s o W (PA s f nt o a))
theorem QSt.c6 {W : World} {p : Nat} {s : ByteArray} {at' : Nat} {k na : Int} {nt : ByteArray} {rdy : Bool} {o : Int} (h : QSt W p s at' k na nt rdy (some o)) : W.cell? ⟨p, 6, none⟩ = some (.int .i64 o) ∧ W.frozen? ⟨p, 6, none⟩ = false :=
  ⟨by rw [Lib.cell_of_heap h]; rfl, Lib.frozen_of_heap h 6⟩
theorem Sca.c6 {W : World} {p : Nat} {s : ByteArray} {a : Nat} {o : Int} (h : Sca W p s a (some o)) : W.cell? ⟨p, 6, none⟩ = some (.int .i64 o) ∧ W.frozen? ⟨p, 6, none⟩ = false := by
  obtain ⟨_, _, _, _, _, h1, _⟩ := h; exact h1.c6
theorem Sca.set6 {W : World} {p : Nat} {s : ByteArray} {a : Nat} {o : Int} (h : Sca W p s a (some o)) (o' : Int) : Sca (W.setCell ⟨p, 6, none⟩ (.int .i64 o')) p s a (some o') := by
  obtain ⟨at', k, na, nt, rdy, h1, h2⟩ := h
  exact ⟨at', k, na, nt, rdy, heap_set h1, h2⟩
theorem Sca.alloc {W : World} {p : Nat} {s : ByteArray} {a : Nat} {o : Option Int} (h : Sca W p s a o) (ob : Obj) : Sca (W.alloc ob) p s a o := h.later ((Below.refl _ _).alloc (Nat.le_refl _) _)
theorem Env.alloc {W : World} {p : Nat} (h : Env W p) (ob : Obj) : Env (W.alloc ob) p := h.later ((Below.refl _ _).alloc (Nat.le_refl _) _)
/-- node: a node over a list of kids. -/
theorem node_any (op : Int) (v : Value) (A : Option Addr) (n cap : Nat) (W : World) (hv : v = .slice A n cap) :
    Calls Tryz.prog 100 #[.int .i64 op, v] W fun e W' => e = .returned (nv op 0 noNm 0 v) ∧ Below W.heap.size W W' := by
  subst hv
  go_enter Tryz.func100, Tryz.ntmps100
  go_wp2_with fail
  exact bodyPost_ret (v := nv op 0 noNm 0 (.slice A n cap)) (by simp [results, Tryz.results100, go_sem]; rfl) rfl ⟨rfl, by
    first
      | exact (Below.refl _ _).alloc (Nat.le_refl _) _
      | exact Below.set5 ((Below.refl _ _).alloc (Nat.le_refl _) _) (Nat.le_refl _) _ _ _ _ _⟩
theorem inside_lim (p : Nat) (s : ByteArray) (a o : Nat) (fv : Value) (W : World) (h : Sca W p s a (some o)) (ho : o ≤ 90) (hl : 90 < o + 1) :
    Calls Tryz.prog 99 #[.pointer (some ⟨p, 0, none⟩), fv] W fun e W' => Faults 0 2 e ∧ Fr p W W' := by
  obtain ⟨c6, f6⟩ := (h.alloc (.cells zero5 27)).c6
  have FF := Lib.hid (Fr.of (p := p) ((Below.refl W.heap.size W).alloc (Nat.le_refl _) (.cells zero5 27)))
  clear h
  have h1 : (90 : Int) < o + 1 := by omega
  go_enter Tryz.func99, Tryz.ntmps99
  go_upto_region 1 with fail
  generalize W.alloc (.cells zero5 27) = w1 at *
  go_wp2_with fail
  exact ⟨rfl, rfl, FF.out.trans (Fr.set w1 6 _)⟩
/-- The result's block of a phrase, before anything is in it. -/
structure CX (p : Nat) (W : World) (w : World) : Prop where
  fr : Fr p W w
  px : p < W.heap.size
  box : w.heap[W.heap.size]? = some (.cells zero5 27 (0, 0))
theorem CX.step {p : Nat} {W w w' : World} (h : CX p W w) (hf : Fr p w w') : CX p W w' :=
  ⟨h.fr.trans hf, h.px, hf.at h.box (Nat.ne_of_gt h.px)⟩
theorem CX.start {p : Nat} {W : World} (h : p < W.heap.size) : CX p W (W.alloc (.cells zero5 27)) :=
  ⟨Fr.of ((Below.refl _ _).alloc (Nat.le_refl _) _), h, World.alloc_heap_new _ _⟩
theorem CX.lt {p : Nat} {W w : World} (h : CX p W w) : W.heap.size < w.heap.size := (Array.getElem?_eq_some_iff.1 h.box).1
/-- A node that came back, kept in a box of its own. -/
structure NB (p : Nat) (W : World) (b : Nat) (t : Nd) (A : Option Addr) (cap : Nat) (w : World) : Prop where
  gt : W.heap.size < b
  box : w.heap[b]? = some (.cells #[.int .i64 t.op, .int .i64 t.so, .string t.nm, .int .i64 t.nu, .slice A t.ks.length cap] 27 (0, 0))
  rob : Rob (W.heap.size + 1) w none A cap t.ks
  fine : Fine t
theorem NB.step {p : Nat} {W w w' : World} {b : Nat} {t : Nd} {A : Option Addr} {cap : Nat} (h : NB p W b t A cap w) (hp : p < W.heap.size) (hf : Fr p w w') : NB p W b t A cap w' :=
  ⟨h.gt, hf.at h.box (by have := h.gt; omega), h.rob.fr hf (by omega), h.fine⟩
theorem NB.start {p : Nat} {W w w1 : World} {t : Nd} {A : Option Addr} {cap : Nat} (h : CX p W w) (hr : Rob w.heap.size w1 none A cap t.ks) (hf : Fine t) (hfr : Fr p w w1) : NB p W w1.heap.size t A cap (w1.alloc (boxN t A cap)) := by
  have h1 := h.lt
  have h2 := hfr.size
  exact ⟨by omega, World.alloc_heap_new _ _, (hr.lower (by omega)).later ((Below.refl _ _).alloc (Nat.le_refl _) _), hf⟩
/-- The node in its box is handed back. -/
theorem NB.ret {p : Nat} {s : ByteArray} {a o : Nat} {W w : World} {b : Nat} {t : Nd} {A : Option Addr} {cap : Nat} {fn : Func} {q : Tmp} (h : NB p W b t A cap w) (hx : CX p W w) (hs : Sca w p s a (some o)) (hres : fn.results = #[.cell q 27]) (act : Act)
    (hq : act.tmps.getD q undef = .pointer (some ⟨W.heap.size, 0, none⟩)) (hd : act.defers = []) :
    bodyPost Tryz.prog fn (Ans p s o W (.ok t a)) .ret act (set5 w W.heap.size (.int .i64 t.op) (.int .i64 t.so) (.string t.nm) (.int .i64 t.nu) (.slice A t.ks.length cap)) :=
  bodyPost_ret (res27 hres act.tmps _ W.heap.size _ _ _ _ _ hq (set5_same _ _ _ _ _ hx.box)) hd
    ⟨A, cap, rfl, h.rob.set5 (by omega) (by omega) _ _ _ _ _, h.fine, hx.fr.set5 (Nat.le_refl _) _ _ _ _ _, hs.other (set5_other _ _ _ _ _ (by have := hx.px; omega))⟩
set_option maxRecDepth 100000 in
set_option maxHeartbeats 4000000 in
theorem inside_live (F : Nat) (hF : Ent F) (p : Nat) (s : ByteArray) (a o : Nat) (r : PR) (W : World) (h : Sca W p s a (some o)) (hE : Env W p) (hl : ¬ 90 < o + 1)
    (hc : ∀ W', Sca W' p s a (some (o + 1 : Nat)) → Env W' p → Calls Tryz.prog F #[.pointer (some ⟨p, 0, none⟩)] W' (Ans p s (o + 1) W' r)) :
    Calls Tryz.prog 99 #[.pointer (some ⟨p, 0, none⟩), .func (.func F) #[.pointer (some ⟨p, 0, none⟩)] #[]] W (Ans p s o W r) := by
  have ha := h.le
  have X1 := Lib.hid (CX.start h.lt)
  have S1 := Lib.hid (h.alloc (.cells zero5 27))
  have E1 := Lib.hid (hE.alloc (.cells zero5 27))
  have HC := Lib.hid hc
  have h1 : ¬ (90 : Int) < o + 1 := by omega
  unfold Ent at hF
  clear h hE hc hl
  obtain ⟨c6, f6⟩ := S1.out.c6
  go_enter Tryz.func99, Tryz.ntmps99
  go_upto_region 1 with fail
  generalize W.alloc (.cells zero5 27) = w1 at *
  go_upto_region 4 with fail
  · have S2 := Lib.hid (S1.out.set6 (o + 1))
    have X2 := Lib.hid (X1.out.step (Fr.set w1 6 (.int .i64 (o + 1))))
    have E2 := Lib.hid (E1.out.fr (Fr.set w1 6 (.int .i64 (o + 1))))
    clear c6 f6 S1 X1 E1
    generalize w1.setCell ⟨p, 6, none⟩ (.int .i64 (o + 1)) = w2 at *
    have c := HC.out w2 S2.out E2.out
    clear HC
    go_wp2_with fail
    refine c.mono ?_
    cases r with
    | out => exact fun _ _ h => h.elim
    | err er wh =>
      rintro e w3 ⟨rfl, f3⟩
      have F3 := Lib.hid (X2.out.fr.trans f3)
      clear f3 c
      go_wp2_with fail
      exact ⟨rfl, rfl, F3.out⟩
    | ok t a1 =>
      rintro e w3 ⟨A, cap, rfl, hr, hf, hfr, hs⟩
      have N3 := Lib.hid (NB.start X2.out hr hf hfr)
      have hB := (Below.refl w3.heap.size w3).alloc (Nat.le_refl _) (boxN t A cap)
      have X3 := Lib.hid ((X2.out.step hfr).step (Fr.of hB))
      have S3 := Lib.hid (hs.later hB)
      clear hr hf hfr hs hB c X2 S2 E2
      obtain ⟨c6, f6⟩ := S3.out.c6
      go_upto_region 5 with fail
      · generalize w3.alloc (boxN t A cap) = w4 at *
        generalize w3.heap.size = b at *
        go_upto_region 6 with fail
        · have S4 := Lib.hid (show Sca (w4.setCell ⟨p, 6, none⟩ (.int .i64 o)) p s a1 (some o) from S3.out.set6 o)
          have X4 := Lib.hid (X3.out.step (Fr.set w4 6 (.int .i64 o)))
          have N4 := Lib.hid (N3.out.step X3.out.px (Fr.set w4 6 (.int .i64 o)))
          clear c6 f6 S3 X3 N3
          generalize w4.setCell ⟨p, 6, none⟩ (.int .i64 o) = w5 at *
          obtain ⟨z0, z1, z2, z3, z4, f0, f1, f2, f3, f4⟩ := box_facts N4.out.box
          obtain ⟨y0, y1, y2, y3, y4, g0, g1, g2, g3, g4⟩ := box_facts X4.out.box
          go_wp2_with fail
          exact N4.out.ret X4.out S4.out Tryz.results99 _ rfl rfl
theorem opn_bind (o : Nat) (r : PR) (k : Nd → Nat → PR) : (opn o r).bind k = opn o (r.bind k) := by
  unfold opn
  split <;> rfl
theorem inside_any (F : Nat) (hF : Ent F) (p : Nat) (s : ByteArray) (a o : Nat) (r : PR) (W : World) (h : Sca W p s a (some o)) (hE : Env W p) (ho : o ≤ 90)
    (hc : ¬ 90 < o + 1 → ∀ W', Sca W' p s a (some (o + 1 : Nat)) → Env W' p → Calls Tryz.prog F #[.pointer (some ⟨p, 0, none⟩)] W' (Ans p s (o + 1) W' r)) :
    Calls Tryz.prog 99 #[.pointer (some ⟨p, 0, none⟩), .func (.func F) #[.pointer (some ⟨p, 0, none⟩)] #[]] W (Ans p s o W (opn (o + 1) r)) := by
  by_cases hl : 90 < o + 1
  · rw [opn, if_pos hl]
    exact inside_lim p s a o _ W h ho hl
  · rw [opn, if_neg hl]
    exact inside_live F hF p s a o r W h hE hl (hc hl)
/-- Is a text among some? -/
def inL (sg : List (List UInt8)) (t : List UInt8) : Bool := sg.contains t
set_option maxRecDepth 100000 in
set_option maxHeartbeats 4000000 in
theorem index_any (sg : List (List UInt8)) (t : List UInt8) (g cap : Nat) (W : World) (hS : ∀ i (h : i < sg.length), W.cell? ⟨g, i, none⟩ = some (.string (bs sg[i]))) (hm : sg.length ≤ 1000) :
    Calls Tryz.prog 148 #[.slice (some ⟨g, 0, none⟩) sg.length cap, .string (bs t)] W fun e W' => (∃ n : Int, e = .returned (.int .i64 n) ∧ Hid (decide (0 ≤ n) = inL sg t)) ∧ W = W' := by
  have HS := Lib.hid hS
  have hl : (bs t).toList = t := bs_toList t
  generalize bs t = bt at *
  clear hS
  go_enter Tryz.func148, Tryz.ntmps148
  go_wp2_with fail
  go_loop [8] (fun i => ∃ k : Nat, k ≤ sg.length ∧ i = .int .i64 k ∧ Hid (∀ j (h : j < sg.length), j < k → (t == sg[j]) = false)) (fun i => sg.length - (intOf i).toNat)
  case atStart => exact ⟨0, by omega, rfl, fun j _ hj => absurd hj (by omega)⟩
  case round =>
    obtain ⟨k, hk, rfl, hj⟩ := hrel
    by_cases hlt : k < sg.length
    · have hx := HS.out k hlt
      have hsn := Lib.hid (fun (e : (t == sg[k]) = false) => (show Hid (∀ j (h : j < sg.length), j < k + 1 → (t == sg[j]) = false) from fun j hjs hjk => by
        by_cases e' : j = k
        · subst e'; exact e
        · exact hj.out j hjs (by omega)))
      have hyes := Lib.hid (fun (e : (t == sg[k]) = true) => show inL sg t = true by
        rw [inL, List.contains_iff_mem, beq_iff_eq.1 e]; exact List.getElem_mem hlt)
      have e0 : (bt.toList == (bs sg[k]).toList) = (t == sg[k]) := by rw [bs_toList, hl]
      generalize (t == sg[k]) = b at *
      generalize bs sg[k] = q at *
      clear hj hl HS
      cases b
      case true =>
        have Hy := Lib.hid (hyes.out rfl)
        clear hyes hsn
        go_wp2_with fail
        go_ret
        exact ⟨⟨k, rfl, Lib.hid (by rw [Hy.out]; exact decide_eq_true (by omega))⟩, rfl⟩
      case false =>
        have Hn := hsn.out rfl
        clear hyes hsn
        go_wp2_with fail
        go_round
        case rel => exact ⟨k + 1, by omega, by go_num, Hn⟩
        case measure => simp [intOf]; omega
    · obtain rfl : k = sg.length := by omega
      have Hy := Lib.hid (show inL sg t = false by
        rw [inL, Bool.eq_false_iff, ne_eq, List.contains_iff_mem]
        intro hm
        obtain ⟨j, hj', e⟩ := List.getElem_of_mem hm
        have := hj.out j hj' hj'
        rw [e] at this
        simp at this)
      clear hj HS
      go_wp2_with fail
      go_ret
      exact ⟨⟨-1, rfl, Lib.hid (by rw [Hy.out]; rfl)⟩, rfl⟩
set_option maxRecDepth 100000 in
set_option maxHeartbeats 4000000 in
theorem contains_any (sg : List (List UInt8)) (t : List UInt8) (g cap : Nat) (W : World) (hS : ∀ i (h : i < sg.length), W.cell? ⟨g, i, none⟩ = some (.string (bs sg[i]))) (hm : sg.length ≤ 1000) :
    Calls Tryz.prog 136 #[.slice (some ⟨g, 0, none⟩) sg.length cap, .string (bs t)] W fun e W' => e = .returned (.bool (inL sg t)) ∧ W = W' := by
  have c := index_any sg t g cap W hS hm
  clear hS
  go_enter Tryz.func136, Tryz.ntmps136
  go_wp2_with fail
  refine c.mono ?_
  rintro e w1 ⟨⟨n, rfl, hn⟩, rfl⟩
  clear c
  go_wp2_with fail
  go_ret
  exact ⟨by rw [← hn.out]; rfl, rfl⟩
end Go.Proofs.YtgkjcimgghflmaaGreatDoor
