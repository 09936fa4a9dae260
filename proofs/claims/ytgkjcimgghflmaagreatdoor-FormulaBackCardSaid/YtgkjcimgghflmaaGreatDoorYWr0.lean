/-
  What the program's write does to the builder at every printable node: it appends its text; conditions: the tree lies in memory and the text is short.
-/
import Derived.Test.YtgkjcimgghflmaaGreatDoorYPfit
import Derived.Test.YtgkjcimgghflmaaGreatDoorYLib
namespace Go.Proofs.YtgkjcimgghflmaaGreatDoor
open Go.RowKit Go.Shelf Go.Sort
/-- All that lay in w0 stands, and a builder at b, behind it, holds l. -/
def St (w0 : World) (b : Nat) (l : List UInt8) (w : World) : Prop := Below w0.heap.size w0 w ∧ Bld w0.heap.size b l w
/-- All but the builder and rows of bytes stands. -/
def Kept (b : Nat) (w w' : World) : Prop := Lib.OthersKept 5 (some b) w w'
theorem Kept.refl (b : Nat) (w : World) : Kept b w w := Lib.OthersKept.refl _ _ _
theorem Kept.trans {b : Nat} {a c d : World} (h : Kept b a c) (k : Kept b c d) : Kept b a d := Lib.OthersKept.trans h k
theorem Kept.of {b : Nat} {w w' : World} (h : Below w.heap.size w w') : Kept b w w' := fun _ _ hk _ _ => (h.block _ (Array.getElem?_eq_some_iff.1 hk).1).trans hk
theorem Bld.later {B b : Nat} {l : List UInt8} {w w' : World} (h : Bld B b l w) (hb : Below w.heap.size w w') : Bld B b l w' := by
  have blk : ∀ {g : Nat} {o : Obj}, w.heap[g]? = some o → w'.heap[g]? = some o := fun hk => (hb.block _ (Array.getElem?_eq_some_iff.1 hk).1).trans hk
  have one : ∀ p, Lib.BuilderAtF 57 5 B b p (Lib.byteCells l) w → Lib.BuilderAtF 57 5 B b p (Lib.byteCells l) w' := by
    rintro p ⟨hB, v, hbk, hown, hne⟩
    refine ⟨hB, v, blk hbk, ⟨hown.1, ?_⟩, hne⟩
    rcases hown.2 with h | ⟨g, cap, cur, fz, hv, hg, hgg, r⟩
    · exact .inl h
    · exact .inr ⟨g, cap, cur, fz, hv, hg, blk hgg, r⟩
  exact Or.imp (one _) (one _) h
theorem St.later {w0 w w' : World} {b : Nat} {l : List UInt8} (h : St w0 b l w) (hb : Below w.heap.size w w') : St w0 b l w' := ⟨h.1.trans (hb.mono h.1.size), h.2.later hb⟩
theorem St.lt {w0 w : World} {b : Nat} {l : List UInt8} (h : St w0 b l w) : b < w.heap.size := by
  rcases h.2 with ⟨_, v, hbk, _⟩ | ⟨_, v, hbk, _⟩ <;> exact (Array.getElem?_eq_some_iff.1 hbk).1
theorem St.alloc {w0 w : World} {b : Nat} {l : List UInt8} (h : St w0 b l w) (o : Obj) : St w0 b l (w.alloc o) := h.later ((Below.refl _ _).alloc (Nat.le_refl _) _)
/-- A block of another kind that is not the builder's stands. -/
theorem Kept.block {b x : Nat} {w w' : World} (h : Kept b w w') {cs : Array Value} {t : TypeId} {fz : Nat × Nat} (hx : w.heap[x]? = some (.cells cs t fz)) (hb : x ≠ b) (ht : t ≠ 5) : w'.heap[x]? = some (.cells cs t fz) :=
  h x _ hx (fun e => hb (Option.some.inj e)) (fun c f e => by cases e; exact ht rfl)
theorem five_block {w : World} {x : Nat} {t : Nd} {s : Value} {ty : TypeId} {fz : Nat × Nat} (h : w.heap[x]? = some (.cells #[.int .i64 t.op, .int .i64 t.so, .string t.nm, .int .i64 t.nu, s] ty fz)) : Five w x 0 t s :=
  ⟨by rw [Lib.cell_of_heap h]; rfl, by rw [Lib.cell_of_heap h]; rfl, by rw [Lib.cell_of_heap h]; rfl, by rw [Lib.cell_of_heap h]; rfl, by rw [Lib.cell_of_heap h]; rfl⟩
/-- One step of printing: l is appended. -/
def Wrote (w0 : World) (b : Nat) (l : List UInt8) (w w' : World) : Prop := St w0 b l w' ∧ Kept b w w'
theorem wS_any {w0 w : World} {b : Nat} {l : List UInt8} (s : ByteArray) (h : St w0 b l w) (hlen : l.length + s.size ≤ 140737488355328) :
    Calls Tryz.prog 55 #[.pointer (some ⟨b, 0, none⟩), .string s] w fun e w' => e = .returned (.tuple #[.int .i64 s.size, .nilIface]) ∧ Wrote w0 b (l ++ s.data.toList) w w' := by
  refine (writeString_any w0.heap.size b l s w h.2 hlen h.1.size).mono ?_
  rintro e w' ⟨rfl, h1, h2, h3⟩
  exact ⟨rfl, ⟨h.1.trans h2, h1⟩, h3⟩
theorem wB_40 {w0 w : World} {b : Nat} {l : List UInt8} (h : St w0 b l w) (hlen : l.length + 1 ≤ 140737488355328) :
    Calls Tryz.prog 94 #[.pointer (some ⟨b, 0, none⟩), .int .u8 40] w fun e w' => e = .returned .nilIface ∧ Wrote w0 b (l ++ [40]) w w' := by
  refine (writeByte_any w0.heap.size b l 40 w h.2 hlen h.1.size).mono ?_
  rintro e w' ⟨rfl, h1, h2, h3⟩
  exact ⟨rfl, ⟨h.1.trans h2, h1⟩, h3⟩
theorem wB_41 {w0 w : World} {b : Nat} {l : List UInt8} (h : St w0 b l w) (hlen : l.length + 1 ≤ 140737488355328) :
    Calls Tryz.prog 94 #[.pointer (some ⟨b, 0, none⟩), .int .u8 41] w fun e w' => e = .returned .nilIface ∧ Wrote w0 b (l ++ [41]) w w' := by
  refine (writeByte_any w0.heap.size b l 41 w h.2 hlen h.1.size).mono ?_
  rintro e w' ⟨rfl, h1, h2, h3⟩
  exact ⟨rfl, ⟨h.1.trans h2, h1⟩, h3⟩
theorem pow_place : Tryz.prog.globalNamed "internal/strconv.uint64pow10" = some 3 := by kernel_rfl
/-- The table of powers of ten. -/
def PowTab (w : World) : Prop := Lib.TabIs Tryz.prog w "internal/strconv.uint64pow10" .u64 Lib.pow10Tab
theorem PowTab.later {w w' : World} (h : PowTab w) (hb : Below w.heap.size w w') : PowTab w' := var_later pow_place h hb
theorem below_grow_draw (w : World) (q : Nat) (os : Array Obj) : Below w.heap.size w (grow (w.drewN q) os) :=
  ⟨rfl, rfl, rfl, by simp [grow], fun i hi => by
    show ((w.drewN q).heap ++ os)[i]? = _
    rw [Array.getElem?_append_left (by show i < w.heap.size; omega)]
    rfl⟩
theorem fmt_any (n : Int) (h0 : -9223372036854775808 ≤ n) (h1 : n ≤ 9223372036854775807) (w : World) (hp : PowTab w) :
    Calls Tryz.prog 93 #[.int .i64 n, .int .i64 10] w fun e w' => e = .returned (.string (bs (Lib.itoa n))) ∧ Below w.heap.size w w' := by
  refine (Tryz.strconv_FormatInt_10 n h0 h1 w hp).mono ?_
  rintro e w' ⟨rfl, k, os, rfl⟩
  exact ⟨rfl, below_grow_draw _ _ _⟩
end Go.Proofs.YtgkjcimgghflmaaGreatDoor
namespace Go.Proofs.YtgkjcimgghflmaaGreatDoor
open Go.RowKit Go.Shelf Go.Sort
attribute [local go_sem] Oper.semAt_some
def WriteOk (w0 : World) (q : Nd) : Prop := ∀ (A : Option Addr) (cap b : Nat) (l : List UInt8) (w : World), Lies w0 A cap q.ks → St w0 b l w → l.length + (txt q).length ≤ 8000000 →
    Calls Tryz.prog 27 #[.pointer (some ⟨b, 0, none⟩), nv q.op q.so q.nm q.nu (.slice A q.ks.length cap)] w fun e w' => e = .returned (.tuple #[]) ∧ Wrote w0 b (l ++ txt q) w w'
theorem bs_data (l : List UInt8) : (bs l).data.toList = l := by simp [bs]
theorem bs_size (l : List UInt8) : (bs l).size = l.length := by simp [bs, ByteArray.size]
theorem wl_any {w0 w : World} {b : Nat} {l : List UInt8} (s : List UInt8) (h : St w0 b l w) (hlen : l.length + s.length ≤ 8000000) :
    Calls Tryz.prog 55 #[.pointer (some ⟨b, 0, none⟩), .string (bs s)] w fun e w' => e = .returned (.tuple #[.int .i64 s.length, .nilIface]) ∧ Wrote w0 b (l ++ s) w w' := by
  have := wS_any (bs s) h (by rw [bs_size]; omega)
  rw [bs_data, bs_size] at this
  exact this
set_option maxRecDepth 100000 in
set_option maxHeartbeats 4000000 in
theorem prefix_any (w0 : World) (q : Nd) (hq : WriteOk w0 q) (p : List UInt8) (A : Option Addr) (cap b : Nat) (l : List UInt8) (w : World) (hL : Lies w0 A cap q.ks) (hS : St w0 b l w) (hlen : l.length + (p.length + (txt q).length + 2) ≤ 8000000) :
    Calls Tryz.prog 58 #[.pointer (some ⟨b, 0, none⟩), .string (bs p), nv q.op q.so q.nm q.nu (.slice A q.ks.length cap)] w fun e w' => e = .returned (.tuple #[]) ∧ Wrote w0 b (l ++ paren (p ++ txt q)) w w' := by
  obtain ⟨W, hW⟩ : ∃ W, w.alloc (.cells #[.int .i64 q.op, .int .i64 q.so, .string q.nm, .int .i64 q.nu, .slice A q.ks.length cap] 27) = W := ⟨_, rfl⟩
  have hx : W.heap[w.heap.size]? = some (.cells #[.int .i64 q.op, .int .i64 q.so, .string q.nm, .int .i64 q.nu, .slice A q.ks.length cap] 27 (0, 0)) := by rw [← hW]; exact World.alloc_heap_new _ _
  have hbx : w.heap.size ≠ b := by have := hS.lt; omega
  have hS1 : St w0 b l W := by rw [← hW]; exact hS.alloc _
  have hK1 : Kept b w W := by rw [← hW]; exact Kept.of ((Below.refl _ _).alloc (Nat.le_refl _) _)
  have a1 : ∀ w, (Op.stringOp .add ⟨#[40]⟩ (bs p)).run Tryz.prog w = .ok (.string (bs (40 :: p))) w := cat (x := [40]) (y := p) (40 :: p) rfl (by simp only [List.length_cons]; omega)
  have c1 := wl_any (40 :: p) hS1 (by simp only [List.length_cons]; omega)
  have c2 := Lib.hid (fun w1 (h : St w0 b (l ++ (40 :: p)) w1) => hq A cap b (l ++ (40 :: p)) w1 hL h (by simp only [List.length_cons, List.length_append]; omega))
  have c3 := Lib.hid (fun w1 (h : St w0 b (l ++ (40 :: p) ++ txt q) w1) => wB_41 h (by simp only [List.length_cons, List.length_append]; omega))
  have hfin : l ++ (40 :: p) ++ txt q ++ [41] = l ++ paren (p ++ txt q) := by simp [paren]
  rw [hfin] at c3
  have HX := Lib.hid hx
  have HW := Lib.hid hW
  have HK := Lib.hid hK1
  generalize bs (40 :: p) = s1 at *
  generalize bs p = s0 at *
  clear hW hS hq hL hx hlen hS1 hK1 hfin
  go_enter Tryz.func58, Tryz.ntmps58
  go_wp2_with fail
  rw [HW.out]
  refine c1.mono ?_
  rintro e w1 ⟨rfl, h1⟩
  have HK1 := Lib.hid (HK.out.trans h1.2)
  obtain ⟨x0, x1, x2, x3, x4⟩ := five_block (t := q) (h1.2.block HX.out hbx (by decide))
  have S1 := Lib.hid h1.1
  clear h1 c1
  go_wp2_with fail
  refine (c2.out _ S1.out).mono ?_
  rintro e w2 ⟨rfl, h2⟩
  have HK2 := Lib.hid (HK1.out.trans h2.2)
  have S2 := Lib.hid h2.1
  clear h2 x0 x1 x2 x3 x4
  go_wp2_with fail
  refine (c3.out _ S2.out).mono ?_
  rintro e w3 ⟨rfl, h3⟩
  have HK3 := Lib.hid (HK2.out.trans h3.2)
  have S3 := Lib.hid h3.1
  clear h3
  go_wp2_with fail
  go_end0
  exact ⟨rfl, S3.out, HK3.out⟩
set_option maxRecDepth 100000 in
set_option maxHeartbeats 4000000 in
theorem int_any (w0 : World) (hP : PowTab w0) (n : Int) (h0 : -1000000000000 ≤ n) (h1 : n ≤ 1000000000000) (b : Nat) (l : List UInt8) (w : World) (hS : St w0 b l w) (hlen : l.length + (intT n).length ≤ 8000000) :
    Calls Tryz.prog 56 #[.pointer (some ⟨b, 0, none⟩), .int .i64 n] w fun e w' => e = .returned (.tuple #[]) ∧ Wrote w0 b (l ++ intT n) w w' := by
  have cf := fmt_any n (by omega) (by omega) w (hP.later hS.1)
  have ct := Lib.hid (fun w1 (h : St w0 b l w1) => wl_any (intT n) h hlen)
  have hl := itoa_len h0 h1
  by_cases hn : n < 0
  · have a1 : ∀ w, (Op.stringOp .add ⟨#[40]⟩ (bs (Lib.itoa n))).run Tryz.prog w = .ok (.string (bs (40 :: Lib.itoa n))) w := cat (x := [40]) (y := Lib.itoa n) (40 :: Lib.itoa n) rfl (by simp only [List.length_cons]; omega)
    have a2 : ∀ w, (Op.stringOp .add (bs (40 :: Lib.itoa n)) ⟨#[41]⟩).run Tryz.prog w = .ok (.string (bs (intT n))) w := by
      rw [intT, if_pos hn]
      exact cat (x := 40 :: Lib.itoa n) (y := [41]) (paren (Lib.itoa n)) rfl (by simp only [paren, List.length_cons, List.length_append, List.length_nil]; omega)
    generalize bs (40 :: Lib.itoa n) = s1 at *
    generalize hq : bs (intT n) = s2 at *
    generalize bs (Lib.itoa n) = s0 at *
    have HS := Lib.hid hS
    clear hlen hl hS hP hq
    go_enter Tryz.func56, Tryz.ntmps56
    go_wp2_with fail
    refine cf.mono ?_
    rintro e w1 ⟨rfl, b1⟩
    have HK := Lib.hid (Kept.of (b := b) b1)
    have S1 := Lib.hid (HS.out.later b1)
    clear b1 cf
    go_wp2_with fail
    refine (ct.out _ S1.out).mono ?_
    rintro e w2 ⟨rfl, h2⟩
    have H2 := Lib.hid h2
    clear h2
    go_wp2_with fail
    go_end0
    exact ⟨rfl, H2.out.1, HK.out.trans H2.out.2⟩
  · have hi : intT n = Lib.itoa n := if_neg hn
    rw [← hi] at cf
    generalize bs (intT n) = s2 at *
    have HS := Lib.hid hS
    clear hlen hl hS hP hi
    go_enter Tryz.func56, Tryz.ntmps56
    go_wp2_with fail
    refine cf.mono ?_
    rintro e w1 ⟨rfl, b1⟩
    have HK := Lib.hid (Kept.of (b := b) b1)
    have S1 := Lib.hid (HS.out.later b1)
    clear b1 cf
    go_wp2_with fail
    refine (ct.out _ S1.out).mono ?_
    rintro e w2 ⟨rfl, h2⟩
    have H2 := Lib.hid h2
    clear h2
    go_wp2_with fail
    go_end0
    exact ⟨rfl, H2.out.1, HK.out.trans H2.out.2⟩
set_option maxRecDepth 100000 in
set_option maxHeartbeats 4000000 in
theorem args_any (w0 : World) (ks : List Nd) (hK : ∀ i (hi : i < ks.length), WriteOk w0 ks[i]) (A : Option Addr) (cap b : Nat) (l : List UInt8) (w : World) (hL : Lies w0 A cap ks) (hS : St w0 b l w) (hlen : l.length + (commas (ks.map txt)).length + 2 ≤ 8000000) :
    Calls Tryz.prog 57 #[.pointer (some ⟨b, 0, none⟩), .slice A ks.length cap] w fun e w' => e = .returned (.tuple #[]) ∧ Wrote w0 b (l ++ paren (commas (ks.map txt))) w w' := by
  have hn := hL.len
  unfold maxLen at hn
  have c1 := wB_40 hS (by omega)
  have HL := Lib.hid hL
  have HK := Lib.hid hK
  have Hcl := Lib.hid (commas_le (ks.map txt))
  clear hL hS hK
  go_enter Tryz.func57, Tryz.ntmps57
  go_wp2_with fail
  refine c1.mono ?_
  rintro e w1 ⟨rfl, h1⟩
  have HW1 := Lib.hid h1
  clear h1 c1
  go_wp2_with fail
  go_loopw [10] (fun i wr => ∃ k : Nat, k ≤ ks.length ∧ i = .int .i64 k ∧ Hid (Wrote w0 b (l ++ (40 :: commas ((ks.map txt).take k))) w wr)) (fun i _ => ks.length - (intOf i).toNat)
  case atStart => exact ⟨0, Nat.zero_le _, rfl, Lib.hid (by simpa [commas] using HW1.out)⟩
  case round =>
    obtain ⟨k, hk, rfl, hWr⟩ := hrel
    by_cases hlt : k < ks.length
    · obtain ⟨b', o, A', C', rfl, g5, hKd⟩ := HL.out.kid hlt
      obtain ⟨y0, y1, y2, y3, y4⟩ := g5.later hWr.out.1.1
      have c := HK.out k hlt
      have hm : k < (ks.map txt).length := by simpa using hlt
      have hq : (ks.map txt)[k] = txt ks[k] := by simp
      have hle := Hcl.out (k + 1) (by simp; omega)
      have hlb := hWr.out.1.lt
      obtain ⟨x, hx⟩ : ∃ x, x = wr.heap.size := ⟨_, rfl⟩
      have hxb : x ≠ b := by omega
      by_cases h0 : k = 0
      · subst h0
        have hc1 : commas ((ks.map txt).take 1) = txt ks[0] := by
          rw [List.take_succ_eq_append_getElem hm, hq]; simp [commas]
        simp only [Nat.zero_mul, Nat.add_zero, Nat.zero_add] at y0 y1 y2 y3 y4 hle
        rw [hc1] at hle
        have c' := Lib.hid (fun w1 (h : St w0 b (l ++ [40]) w1) => c A' C' b (l ++ [40]) w1 hKd h (by simp only [List.length_append, List.length_cons, List.length_nil]; omega))
        have hW0 : Wrote w0 b (l ++ [40]) w wr := by simpa [commas] using hWr.out
        have HE := Lib.hid (show l ++ ([40] : List UInt8) ++ txt ks[0] = l ++ (40 :: commas ((ks.map txt).take (0 + 1))) by rw [hc1]; simp)
        have H0 := Lib.hid hW0
        generalize ks[0] = q at *
        clear c hc1 hq hm hle g5 hKd hWr hW0 hx HK HL Hcl HW1
        go_wp2_with fail
        refine (c'.out _ (H0.out.1.alloc _)).mono ?_
        rintro e w2 ⟨rfl, h2⟩
        rw [HE.out] at h2
        have H2 := Lib.hid h2
        clear h2
        go_wp2_with fail
        go_roundw
        case rel => exact ⟨0 + 1, by omega, by go_num, H2.out.1, (H0.out.2.trans (Kept.of ((Below.refl _ _).alloc (Nat.le_refl _) _))).trans H2.out.2⟩
        case measure => simp [intOf]; omega
      · have hcs := commas_snoc (ks.map txt) k hm h0
        rw [hq] at hcs
        rw [hcs] at hle
        simp only [List.length_append, List.length_cons] at hle
        have c0 := Lib.hid (fun w1 (h : St w0 b (l ++ (40 :: commas ((ks.map txt).take k))) w1) => wl_any [44, 32] h (by simp only [List.length_append, List.length_cons, List.length_nil]; omega))
        have c' := Lib.hid (fun w1 (h : St w0 b (l ++ (40 :: commas ((ks.map txt).take k)) ++ [44, 32]) w1) => c A' C' b (l ++ (40 :: commas ((ks.map txt).take k)) ++ [44, 32]) w1 hKd h (by simp only [List.length_append, List.length_cons, List.length_nil]; omega))
        have HE := Lib.hid (show l ++ (40 :: commas ((ks.map txt).take k)) ++ [44, 32] ++ txt ks[k] = l ++ (40 :: commas ((ks.map txt).take (k + 1))) by rw [hcs]; simp)
        have ha : (wr.alloc (.cells #[.int .i64 ks[k].op, .int .i64 ks[k].so, .string ks[k].nm, .int .i64 ks[k].nu, .slice A' ks[k].ks.length C'] 27)).heap[x]? = some (.cells #[.int .i64 ks[k].op, .int .i64 ks[k].so, .string ks[k].nm, .int .i64 ks[k].nu, .slice A' ks[k].ks.length C'] 27 (0, 0)) := by
          rw [hx]; exact World.alloc_heap_new _ _
        have HA := Lib.hid ha
        have HX := Lib.hid hx
        generalize ks[k] = q at *
        have hk0 : 0 < k := by omega
        have ec : bs [44, 32] = ⟨#[44, 32]⟩ := rfl
        rw [ec] at c0
        clear c hcs hq hm hle g5 hKd hx HK HL Hcl HW1 h0 ha ec
        go_wp2_with fail
        refine (c0.out _ (hWr.out.1.alloc _)).mono ?_
        rintro e w2 ⟨rfl, h2⟩
        have K2 := Lib.hid ((hWr.out.2.trans (Kept.of ((Below.refl _ _).alloc (Nat.le_refl _) _))).trans h2.2)
        have S2 := Lib.hid h2.1
        have hf := five_block (t := q) (h2.2.block HA.out hxb (by decide))
        rw [HX.out] at hf
        obtain ⟨z0, z1, z2, z3, z4⟩ := hf
        clear h2
        go_wp2_with fail
        refine (c'.out _ S2.out).mono ?_
        rintro e w3 ⟨rfl, h3⟩
        rw [HE.out] at h3
        have H3 := Lib.hid h3
        clear h3
        go_wp2_with fail
        go_roundw
        case rel => exact ⟨k + 1, by omega, by go_num, H3.out.1, K2.out.trans H3.out.2⟩
        case measure => simp [intOf]; omega
    · obtain rfl : k = ks.length := by omega
      have hl2 := Hcl.out ks.length (by simp)
      have c3 := wB_41 hWr.out.1 (by simp only [List.length_append, List.length_cons]; omega)
      have HE := Lib.hid (show l ++ (40 :: commas ((ks.map txt).take ks.length)) ++ [41] = l ++ paren (commas (ks.map txt)) by rw [List.take_of_length_le (by simp)]; simp [paren])
      clear hl2 Hcl
      go_wp2_with fail
      refine c3.mono ?_
      rintro e w2 ⟨rfl, h2⟩
      rw [HE.out] at h2
      have H2 := Lib.hid h2
      clear h2
      go_wp2_with fail
      go_end0
      exact ⟨rfl, H2.out.1, hWr.out.2.trans H2.out.2⟩
end Go.Proofs.YtgkjcimgghflmaaGreatDoor
namespace Go.Proofs.YtgkjcimgghflmaaGreatDoor
open Go.RowKit Go.Shelf Go.Sort
attribute [local go_sem] Oper.semAt_some
def negT (q : Nd) : List UInt8 := if q.op = 2 ∧ 0 ≤ q.nu then paren (45 :: paren (txt q)) else paren (45 :: txt q)
theorem txt_int {q : Nd} (h : q.op = 2) : txt q = intT q.nu := by
  rw [txt_eq, txtW, h]; simp [sgn]
theorem negT_int {q : Nd} (h : q.op = 2) : negT q = 40 :: 45 :: 40 :: (Lib.itoa q.nu ++ [41, 41]) := by
  unfold negT
  rw [txt_int h, intT]
  by_cases hn : q.nu < 0
  · rw [if_neg (by omega), if_pos hn]; simp [paren]
  · rw [if_pos ⟨h, by omega⟩, if_neg hn]; simp [paren]
set_option maxRecDepth 100000 in
set_option maxHeartbeats 4000000 in
theorem neg_any (w0 : World) (hP : PowTab w0) (q : Nd) (hq : WriteOk w0 q) (h01 : q.op = 2 → -1000000000000 ≤ q.nu ∧ q.nu ≤ 1000000000000) (A : Option Addr) (cap b : Nat) (l : List UInt8) (w : World) (hL : Lies w0 A cap q.ks) (hS : St w0 b l w) (hlen : l.length + (negT q).length ≤ 8000000) :
    Calls Tryz.prog 59 #[.pointer (some ⟨b, 0, none⟩), nv q.op q.so q.nm q.nu (.slice A q.ks.length cap)] w fun e w' => e = .returned (.tuple #[]) ∧ Wrote w0 b (l ++ negT q) w w' := by
  obtain ⟨W, hW⟩ : ∃ W, w.alloc (.cells #[.int .i64 q.op, .int .i64 q.so, .string q.nm, .int .i64 q.nu, .slice A q.ks.length cap] 27) = W := ⟨_, rfl⟩
  have X := five_new w q (.slice A q.ks.length cap) 27
  have hS1 : St w0 b l W := by rw [← hW]; exact hS.alloc _
  have hK1 : Kept b w W := by rw [← hW]; exact Kept.of ((Below.refl _ _).alloc (Nat.le_refl _) _)
  rw [hW] at X
  obtain ⟨x0, x1, x2, x3, x4⟩ := X
  have HW := Lib.hid hW
  have HK := Lib.hid hK1
  have HS := Lib.hid hS1
  clear hW hS hK1
  by_cases h2 : q.op = 2
  · have hb := h01 h2
    have cf := fmt_any q.nu (by omega) (by omega) W (hP.later hS1.1)
    have et := negT_int h2
    have hl := itoa_len hb.1 hb.2
    have a1 : ∀ w, (Op.stringOp .add ⟨#[40, 45, 40]⟩ (bs (Lib.itoa q.nu))).run Tryz.prog w = .ok (.string (bs (40 :: 45 :: 40 :: Lib.itoa q.nu))) w := cat (x := [40, 45, 40]) (y := Lib.itoa q.nu) (40 :: 45 :: 40 :: Lib.itoa q.nu) rfl (by simp only [List.length_cons]; omega)
    have a2 : ∀ w, (Op.stringOp .add (bs (40 :: 45 :: 40 :: Lib.itoa q.nu)) ⟨#[41, 41]⟩).run Tryz.prog w = .ok (.string (bs (negT q))) w := by
      rw [et]
      exact cat (x := 40 :: 45 :: 40 :: Lib.itoa q.nu) (y := [41, 41]) (40 :: 45 :: 40 :: (Lib.itoa q.nu ++ [41, 41])) rfl (by simp only [List.length_cons, List.length_append, List.length_nil]; omega)
    have ct := Lib.hid (fun w1 (h : St w0 b l w1) => wl_any (negT q) h hlen)
    have e1 : (q.op == 2) = true := by simpa using h2
    generalize bs (40 :: 45 :: 40 :: Lib.itoa q.nu) = s1 at *
    generalize bs (negT q) = s2 at *
    generalize bs (Lib.itoa q.nu) = s0 at *
    clear hlen hl et hb h01 h2 hq hS1 hP hL
    go_enter Tryz.func59, Tryz.ntmps59
    go_wp2_with fail
    rw [HW.out]
    refine cf.mono ?_
    rintro e w1 ⟨rfl, b1⟩
    have HK1 := Lib.hid (HK.out.trans (Kept.of (b := b) b1))
    have S1 := Lib.hid (HS.out.later b1)
    clear b1 cf
    go_wp2_with fail
    refine (ct.out _ S1.out).mono ?_
    rintro e w2 ⟨rfl, h2⟩
    have H2 := Lib.hid h2
    clear h2
    go_wp2_with fail
    exact bodyPost_ret (v := .tuple #[]) (by simp [results, Tryz.results59, go_sem]) rfl ⟨rfl, H2.out.1, HK1.out.trans H2.out.2⟩
  · have et : negT q = paren ([45] ++ txt q) := if_neg fun h => h2 h.1
    rw [et] at hlen ⊢
    simp only [paren, List.length_cons, List.length_append, List.length_nil] at hlen
    have cp := prefix_any w0 q hq [45] A cap b l W hL hS1 (by simp only [List.length_cons, List.length_nil]; omega)
    have e1 : (q.op == 2) = false := by simpa using h2
    clear hlen et h01 h2 hq hS1 hP hL
    go_enter Tryz.func59, Tryz.ntmps59
    go_wp2_with fail
    rw [HW.out]
    refine cp.mono ?_
    rintro e w1 ⟨rfl, h1⟩
    have H1 := Lib.hid h1
    clear h1
    go_wp2_with fail
    go_end0
    exact ⟨rfl, H1.out.1, HK.out.trans H1.out.2⟩
def sclT (n : Int) (t : List UInt8) : List UInt8 := if n < 0 then paren (45 :: paren (Lib.itoa (-n) ++ (32 :: 42 :: 32 :: t))) else paren (Lib.itoa n ++ (32 :: 42 :: 32 :: t))
set_option maxRecDepth 100000 in
set_option maxHeartbeats 8000000 in
theorem scale_pos (w0 : World) (hP : PowTab w0) (n : Nat) (hn : n ≤ 1000000000000) (q : Nd) (hq : WriteOk w0 q) (A : Option Addr) (cap b : Nat) (l : List UInt8) (w : World) (hL : Lies w0 A cap q.ks) (hS : St w0 b l w) (hlen : l.length + (sclT n (txt q)).length ≤ 8000000) :
    Calls Tryz.prog 60 #[.pointer (some ⟨b, 0, none⟩), .int .i64 n, nv q.op q.so q.nm q.nu (.slice A q.ks.length cap)] w fun e w' => e = .returned (.tuple #[]) ∧ Wrote w0 b (l ++ sclT n (txt q)) w w' := by
  obtain ⟨W, hW⟩ : ∃ W, w.alloc (.cells #[.int .i64 q.op, .int .i64 q.so, .string q.nm, .int .i64 q.nu, .slice A q.ks.length cap] 27) = W := ⟨_, rfl⟩
  have X := five_new w q (.slice A q.ks.length cap) 27
  have hx : W.heap[w.heap.size]? = some (.cells #[.int .i64 q.op, .int .i64 q.so, .string q.nm, .int .i64 q.nu, .slice A q.ks.length cap] 27 (0, 0)) := by rw [← hW]; exact World.alloc_heap_new _ _
  have hS1 : St w0 b l W := by rw [← hW]; exact hS.alloc _
  have hK1 : Kept b w W := by rw [← hW]; exact Kept.of ((Below.refl _ _).alloc (Nat.le_refl _) _)
  have hbx : w.heap.size ≠ b := by have := hS.lt; omega
  rw [hW] at X
  have et : sclT n (txt q) = paren ((Lib.itoa n ++ [32, 42, 32]) ++ txt q) := by unfold sclT; rw [if_neg (by omega)]; simp
  rw [et] at hlen ⊢
  simp only [paren, List.length_cons, List.length_append, List.length_nil] at hlen
  have hl := itoa_len (n := n) (by omega) (by omega)
  have a1 : ∀ w, (Op.stringOp .add (bs (Lib.itoa n)) ⟨#[32, 42, 32]⟩).run Tryz.prog w = .ok (.string (bs (Lib.itoa n ++ [32, 42, 32]))) w := cat (x := Lib.itoa n) (y := [32, 42, 32]) (Lib.itoa n ++ [32, 42, 32]) rfl (by simp only [List.length_append, List.length_cons, List.length_nil]; omega)
  have cf := Lib.hid (fun (W' : World) (h : Below W.heap.size W W') => fmt_any n (by omega) (by omega) W' (hP.later (hS1.later h).1))
  have cp := Lib.hid (fun (W' : World) (h : Below W.heap.size W W') => prefix_any w0 q hq (Lib.itoa n ++ [32, 42, 32]) A cap b l W' hL (hS1.later h) (by simp only [List.length_append, List.length_cons, List.length_nil]; omega))
  have KS := Lib.hid (fun (W' : World) (h : W'.heap[w.heap.size]? = some (.cells #[.int .i64 q.op, .int .i64 q.so, .string q.nm, .int .i64 q.nu, .slice A q.ks.length cap] 27 (0, 0))) => (show W'.cell? ⟨w.heap.size, 0, none⟩ = some (.int .i64 q.op) ∧ W'.cell? ⟨w.heap.size, 1, none⟩ = some (.int .i64 q.so) ∧ W'.cell? ⟨w.heap.size, 2, none⟩ = some (.string q.nm) ∧ W'.cell? ⟨w.heap.size, 3, none⟩ = some (.int .i64 q.nu) ∧ W'.cell? ⟨w.heap.size, 4, none⟩ = some (.slice A q.ks.length cap) from by
    obtain ⟨z0, z1, z2, z3, z4⟩ := five_block (t := q) h
    exact ⟨z0, z1, z2, z3, z4⟩))
  have KB := Lib.hid (fun (W' : World) (h : Below W.heap.size W W') => (h.block _ (Array.getElem?_eq_some_iff.1 hx).1).trans hx)
  have KK := Lib.hid (fun (W' : World) (h : Kept b W W') => h.block hx hbx (by decide))
  have HK0 := Lib.hid (fun (W' : World) (h : Below W.heap.size W W') => Kept.of (b := b) h)
  obtain ⟨x0, x1, x2, x3, x4⟩ := X
  have HW := Lib.hid hW
  have HK := Lib.hid hK1
  have hn1 : ¬ ((n : Int) < 0) := by omega
  generalize bs (Lib.itoa n ++ [32, 42, 32]) = s1 at *
  generalize bs (Lib.itoa n) = s0 at *
  generalize l ++ paren ((Lib.itoa n ++ [32, 42, 32]) ++ txt q) = fin at *
  clear hW hS hK1 hx hlen hl et hq hP hL hS1 hbx
  go_enter Tryz.func60, Tryz.ntmps60
  go_wp2_with fail
  rw [HW.out]
  go_region_held3 (fun W' => W'.cell? ⟨w.heap.size, 0, none⟩ = some (.int .i64 q.op) ∧ W'.cell? ⟨w.heap.size, 1, none⟩ = some (.int .i64 q.so) ∧ W'.cell? ⟨w.heap.size, 2, none⟩ = some (.string q.nm) ∧ W'.cell? ⟨w.heap.size, 3, none⟩ = some (.int .i64 q.nu) ∧ W'.cell? ⟨w.heap.size, 4, none⟩ = some (.slice A q.ks.length cap))
    ((refine KS.out _ ?_; first | exact KB.out _ (Below.refl _ _).drew | exact KB.out _ (by assumption) | exact KK.out _ (by assumption)))
    (first
      | (go_at_call 93; ((with_reducible refine (cf.out _ (Below.refl _ _).drew).mono ?_); rintro e w2 ⟨rfl, b2⟩; have b2 := (Below.refl W.heap.size W).drew.trans b2))
      | (go_at_call 58; ((with_reducible refine (cp.out _ (by assumption)).mono ?_); rintro e w3 ⟨rfl, b3⟩; have k3 := (HK0.out _ (by assumption)).trans b3.2)))
  all_goals
    go_wp2_with fail
    go_end0
    exact ⟨rfl, b3.1, HK.out.trans k3⟩
set_option maxRecDepth 100000 in
set_option maxHeartbeats 4000000 in
theorem scale_any (w0 : World) (hP : PowTab w0) (nu : Int) (h0 : -1000000000000 ≤ nu) (h1 : nu ≤ 1000000000000) (q : Nd) (hq : WriteOk w0 q) (A : Option Addr) (cap b : Nat) (l : List UInt8) (w : World) (hL : Lies w0 A cap q.ks) (hS : St w0 b l w) (hlen : l.length + (sclT nu (txt q)).length ≤ 8000000) :
    Calls Tryz.prog 60 #[.pointer (some ⟨b, 0, none⟩), .int .i64 nu, nv q.op q.so q.nm q.nu (.slice A q.ks.length cap)] w fun e w' => e = .returned (.tuple #[]) ∧ Wrote w0 b (l ++ sclT nu (txt q)) w w' := by
  by_cases hneg : nu < 0
  case neg =>
    obtain ⟨n, rfl⟩ : ∃ n : Nat, nu = (n : Int) := ⟨nu.natAbs, by omega⟩
    exact scale_pos w0 hP n (by omega) q hq A cap b l w hL hS hlen
  obtain ⟨n, rfl⟩ : ∃ n : Nat, nu = -(n : Int) := ⟨nu.natAbs, by omega⟩
  have et : sclT (-(n : Int)) (txt q) = [40, 45] ++ sclT n (txt q) ++ [41] := by
    unfold sclT; rw [if_pos hneg, if_neg (by omega)]; simp [paren]
  rw [et] at hlen ⊢
  simp only [List.length_append, List.length_cons, List.length_nil] at hlen
  obtain ⟨W, hW⟩ : ∃ W, w.alloc (.cells #[.int .i64 q.op, .int .i64 q.so, .string q.nm, .int .i64 q.nu, .slice A q.ks.length cap] 27) = W := ⟨_, rfl⟩
  have hx : W.heap[w.heap.size]? = some (.cells #[.int .i64 q.op, .int .i64 q.so, .string q.nm, .int .i64 q.nu, .slice A q.ks.length cap] 27 (0, 0)) := by rw [← hW]; exact World.alloc_heap_new _ _
  have hS1 : St w0 b l W := by rw [← hW]; exact hS.alloc _
  have hK1 : Kept b w W := by rw [← hW]; exact Kept.of ((Below.refl _ _).alloc (Nat.le_refl _) _)
  have hbx : w.heap.size ≠ b := by have := hS.lt; omega
  have c1 := wl_any [40, 45] hS1 (by simp only [List.length_cons, List.length_nil]; omega)
  have c2 := Lib.hid (fun (w1 : World) (h : St w0 b (l ++ [40, 45]) w1) => scale_pos w0 hP n (by omega) q hq A cap b _ w1 hL h (by simp only [List.length_cons, List.length_append, List.length_nil]; omega))
  have c3 := Lib.hid (fun (w1 : World) (h : St w0 b (l ++ [40, 45] ++ sclT n (txt q)) w1) => wB_41 h (by simp only [List.length_cons, List.length_append, List.length_nil]; omega))
  have hfin : l ++ [40, 45] ++ sclT n (txt q) ++ [41] = l ++ ([40, 45] ++ sclT n (txt q) ++ [41]) := by simp
  rw [hfin] at c3
  have hn2 : n ≤ 1000000000000 := by omega
  have HX := Lib.hid hx
  have HW := Lib.hid hW
  have HK := Lib.hid hK1
  have ec : bs [40, 45] = ⟨#[40, 45]⟩ := rfl
  rw [ec] at c1
  clear hW hS hq hL hx hlen hS1 hK1 hfin et ec h0 h1 hP
  go_enter Tryz.func60, Tryz.ntmps60
  go_wp2_with fail
  rw [HW.out]
  refine c1.mono ?_
  rintro e w1 ⟨rfl, h1⟩
  have HK1 := Lib.hid (HK.out.trans h1.2)
  obtain ⟨x0, x1, x2, x3, x4⟩ := five_block (t := q) (h1.2.block HX.out hbx (by decide))
  have S1 := Lib.hid h1.1
  clear h1 c1
  go_wp2_with fail
  refine (c2.out _ S1.out).mono ?_
  rintro e w2 ⟨rfl, h2⟩
  have HK2 := Lib.hid (HK1.out.trans h2.2)
  have S2 := Lib.hid h2.1
  clear h2 x0 x1 x2 x3 x4
  go_wp2_with fail
  refine (c3.out _ S2.out).mono ?_
  rintro e w3 ⟨rfl, h3⟩
  have HK3 := Lib.hid (HK2.out.trans h3.2)
  have S3 := Lib.hid h3.1
  clear h3
  go_wp2_with fail
  exact bodyPost_ret (v := .tuple #[]) (by simp [results, Tryz.results60, go_sem]) rfl ⟨rfl, S3.out, HK3.out⟩
end Go.Proofs.YtgkjcimgghflmaaGreatDoor
namespace Go.Proofs.YtgkjcimgghflmaaGreatDoor
open Go.RowKit Go.Shelf Go.Sort
attribute [local go_sem] Oper.semAt_some
set_option maxRecDepth 100000 in
set_option maxHeartbeats 8000000 in
theorem kw_sign (w0 : World) (hT : Tabs w0) (t : Nd) (hK : ∀ i (hi : i < t.ks.length), WriteOk w0 t.ks[i]) (hs : sgn t.op ≠ []) (h2 : t.ks.length = 2) (A : Option Addr) (cap b : Nat) (l : List UInt8) (w : World) (hL : Lies w0 A cap t.ks) (hS : St w0 b l w) (hlen : l.length + (txt t).length ≤ 8000000) :
    Calls Tryz.prog 61 #[.pointer (some ⟨b, 0, none⟩), nv t.op t.so t.nm t.nu (.slice A t.ks.length cap)] w fun e w' => e = .returned (.tuple #[]) ∧ Wrote w0 b (l ++ txt t) w w' := by
  have h0 : 0 < t.ks.length := by omega
  have h1 : 1 < t.ks.length := by omega
  have et : txt t = paren (txt t.ks[0] ++ (32 :: sgn t.op ++ (32 :: txt t.ks[1]))) := by
    rw [txt_eq, txtW, if_pos hs]
    have : t.ks.map txt = [txt t.ks[0], txt t.ks[1]] := by
      apply List.ext_getElem
      · simp [h2]
      · intro i _ hi
        match i, hi with
        | 0, _ => simp
        | 1, _ => simp
    rw [this]
    rfl
  rw [et] at hlen ⊢
  simp only [paren, List.length_cons, List.length_append, List.length_nil] at hlen
  obtain ⟨b', o, A0, C0, hA0, g0, L0⟩ := hL.kid h0
  obtain ⟨b'', o', A1, C1, hA1, g1, L1⟩ := hL.kid h1
  obtain rfl := hA0
  obtain ⟨rfl, rfl⟩ : b' = b'' ∧ o = o' := by cases hA1; exact ⟨rfl, rfl⟩
  have k0 := hK 0 h0
  have k1 := hK 1 h1
  have a1 : ∀ w, (Op.stringOp .add ⟨#[32]⟩ (bs (sgn t.op))).run Tryz.prog w = .ok (.string (bs (32 :: sgn t.op))) w := cat (x := [32]) (y := sgn t.op) (32 :: sgn t.op) rfl (by simp only [List.length_cons]; omega)
  have a2 : ∀ w, (Op.stringOp .add (bs (32 :: sgn t.op)) ⟨#[32]⟩).run Tryz.prog w = .ok (.string (bs (32 :: sgn t.op ++ [32]))) w := cat (x := 32 :: sgn t.op) (y := [32]) (32 :: sgn t.op ++ [32]) rfl (by simp only [List.length_append, List.length_cons, List.length_nil]; omega)
  have cs := fun w h => (show Calls Tryz.prog 90 #[.int .i64 t.op] w fun e w' => e = .returned (.string (bs (sgn t.op))) ∧ Below w.heap.size w w' from signOf_any t.op w h)
  have hbe : ((bs (sgn t.op)).toList == []) = false := by
    rw [ByteArray.toList_eq]; simpa [bs] using hs
  obtain ⟨W, hW⟩ : ∃ W, w.alloc (.cells #[.int .i64 t.op, .int .i64 t.so, .string t.nm, .int .i64 t.nu, .slice (some ⟨b', o, none⟩) t.ks.length cap] 27) = W := ⟨_, rfl⟩
  have hx : W.heap[w.heap.size]? = some (.cells #[.int .i64 t.op, .int .i64 t.so, .string t.nm, .int .i64 t.nu, .slice (some ⟨b', o, none⟩) t.ks.length cap] 27 (0, 0)) := by rw [← hW]; exact World.alloc_heap_new _ _
  have hS1 : St w0 b l W := by rw [← hW]; exact hS.alloc _
  have hK1 : Kept b w W := by rw [← hW]; exact Kept.of ((Below.refl _ _).alloc (Nat.le_refl _) _)
  have hbx : w.heap.size ≠ b := by have := hS.lt; omega
  have KX := Lib.hid (fun (w1 : World) (h : Kept b W w1) => five_block (t := t) (h.block hx hbx (by decide)))
  have c1 := Lib.hid (fun (w1 : World) (h : St w0 b l w1) => wB_40 h (by omega))
  have c2 := Lib.hid (fun (w1 : World) (h : St w0 b (l ++ ([40] : List UInt8)) w1) => k0 A0 C0 b _ w1 L0 h (by simp only [List.length_append, List.length_cons, List.length_nil]; omega))
  have c3 := Lib.hid (fun (w1 : World) (h : St w0 b (l ++ ([40] : List UInt8) ++ txt t.ks[0]) w1) => wl_any (32 :: sgn t.op ++ [32]) h (by simp only [List.length_append, List.length_cons, List.length_nil]; omega))
  have c4 := Lib.hid (fun (w1 : World) (h : St w0 b (l ++ ([40] : List UInt8) ++ txt t.ks[0] ++ (32 :: sgn t.op ++ [32])) w1) => k1 A1 C1 b _ w1 L1 h (by simp only [List.length_append, List.length_cons, List.length_nil]; omega))
  have c5 := Lib.hid (fun (w1 : World) (h : St w0 b (l ++ ([40] : List UInt8) ++ txt t.ks[0] ++ (32 :: sgn t.op ++ ([32] : List UInt8)) ++ txt t.ks[1]) w1) => wB_41 h (by simp only [List.length_append, List.length_cons, List.length_nil]; omega))
  have hfin : l ++ ([40] : List UInt8) ++ txt t.ks[0] ++ (32 :: sgn t.op ++ ([32] : List UInt8)) ++ txt t.ks[1] ++ ([41] : List UInt8) = l ++ paren (txt t.ks[0] ++ (32 :: sgn t.op ++ (32 :: txt t.ks[1]))) := by simp [paren]
  rw [hfin] at c5
  generalize l ++ paren (txt t.ks[0] ++ (32 :: sgn t.op ++ (32 :: txt t.ks[1]))) = fin at *
  generalize bs (32 :: sgn t.op ++ [32]) = s2 at *
  generalize bs (32 :: sgn t.op) = s1 at *
  generalize bs (sgn t.op) = s0 at *
  have G0 := Lib.hid (fun (w1 : World) (h : Below w0.heap.size w0 w1) => (show Five w1 b' o t.ks[0] (.slice A0 t.ks[0].ks.length C0) by simpa using g0.later h))
  have G1 := Lib.hid (fun (w1 : World) (h : Below w0.heap.size w0 w1) => (show Five w1 b' (o + 5) t.ks[1] (.slice A1 t.ks[1].ks.length C1) by simpa using g1.later h))
  generalize t.ks[0] = q0 at *
  generalize t.ks[1] = q1 at *
  have HT := Lib.hid (fun (w1 : World) (h : St w0 b l w1) => hT.later h.1)
  have HW := Lib.hid hW
  have HK := Lib.hid hK1
  have HS := Lib.hid hS1
  rw [h2] at HW KX ⊢
  have hz : (0 : Int) < (2 : Nat) := by omega
  obtain ⟨x0, x1, x2, x3, x4⟩ := KX.out _ (Kept.refl _ _)
  clear hK hs h0 h1 h2 et hlen g0 g1 L0 L1 k0 k1 hx hS1 hK1 hbx hW hS hL hT hfin hA1
  go_enter Tryz.func61, Tryz.ntmps61
  go_wp2_with fail
  rw [HW.out]
  refine (cs _ (HT.out _ HS.out)).mono ?_
  rintro e w1 ⟨rfl, b1⟩
  have S1 := Lib.hid (HS.out.later b1)
  have K1 := Lib.hid (Kept.of (b := b) b1)
  clear b1 cs
  obtain ⟨x0, x1, x2, x3, x4⟩ := KX.out _ K1.out
  go_wp2_with fail
  refine (c1.out _ S1.out).mono ?_
  rintro e w2 ⟨rfl, h⟩
  have S1 := Lib.hid h.1
  have K1 := Lib.hid (K1.out.trans h.2)
  clear h
  obtain ⟨x0, x1, x2, x3, x4⟩ := KX.out _ K1.out
  obtain ⟨y0, y1, y2, y3, y4⟩ := G0.out _ S1.out.1
  go_wp2_with fail
  refine (c2.out _ S1.out).mono ?_
  rintro e w3 ⟨rfl, h⟩
  have S1 := Lib.hid h.1
  have K1 := Lib.hid (K1.out.trans h.2)
  clear h
  obtain ⟨x0, x1, x2, x3, x4⟩ := KX.out _ K1.out
  go_wp2_with fail
  refine (c3.out _ S1.out).mono ?_
  rintro e w4 ⟨rfl, h⟩
  have S1 := Lib.hid h.1
  have K1 := Lib.hid (K1.out.trans h.2)
  clear h
  obtain ⟨x0, x1, x2, x3, x4⟩ := KX.out _ K1.out
  obtain ⟨y0, y1, y2, y3, y4⟩ := G1.out _ S1.out.1
  go_wp2_with fail
  refine (c4.out _ S1.out).mono ?_
  rintro e w5 ⟨rfl, h⟩
  have S1 := Lib.hid h.1
  have K1 := Lib.hid (K1.out.trans h.2)
  clear h
  go_wp2_with fail
  refine (c5.out _ S1.out).mono ?_
  rintro e w6 ⟨rfl, h⟩
  have S1 := Lib.hid h.1
  have K1 := Lib.hid (K1.out.trans h.2)
  clear h
  go_wp2_with fail
  exact bodyPost_ret (v := .tuple #[]) (by simp [results, Tryz.results61, go_sem]) rfl ⟨rfl, S1.out, HK.out.trans K1.out⟩
end Go.Proofs.YtgkjcimgghflmaaGreatDoor
namespace Go.Proofs.YtgkjcimgghflmaaGreatDoor
open Go.RowKit Go.Shelf Go.Sort
attribute [local go_sem] Oper.semAt_some
theorem txt_word {t : Nd} (h : t.op = 30 ∨ t.op = 31 ∨ t.op = 9 ∨ (restOp t.op ∧ t.op ≠ 3)) : sgn t.op = [] ∧ txt t = wrdS t.op ++ (if 0 < wrdN t.op then paren (commas (t.ks.map txt)) else []) := by
  rcases h with e | e | e | ⟨hr, h3⟩
  · rw [txt_eq, txtW, e]; simp [sgn, wrdN, wrd]
  · rw [txt_eq, txtW, e]; simp [sgn, wrdN, wrd]
  · rw [txt_eq, txtW, e]; simp [sgn, wrdN, wrd]
  · refine ⟨rest_sgn hr, ?_⟩
    rw [txt_rest hr]
    have : 0 < wrdN t.op := by
      rcases hr with e | e | e | e | e | e | e | e | e
      · exact absurd e h3
      all_goals (rw [e]; decide)
    rw [if_pos this, hdT, if_neg h3]
set_option maxRecDepth 100000 in
set_option maxHeartbeats 8000000 in
theorem kw_word (w0 : World) (hT : Tabs w0) (t : Nd) (hK : ∀ i (hi : i < t.ks.length), WriteOk w0 t.ks[i]) (h : t.op = 30 ∨ t.op = 31 ∨ t.op = 9 ∨ (restOp t.op ∧ t.op ≠ 3)) (A : Option Addr) (cap b : Nat) (l : List UInt8) (w : World) (hL : Lies w0 A cap t.ks) (hS : St w0 b l w) (hlen : l.length + (txt t).length ≤ 8000000) :
    Calls Tryz.prog 61 #[.pointer (some ⟨b, 0, none⟩), nv t.op t.so t.nm t.nu (.slice A t.ks.length cap)] w fun e w' => e = .returned (.tuple #[]) ∧ Wrote w0 b (l ++ txt t) w w' := by
  obtain ⟨hs, et⟩ := txt_word h
  rw [et] at hlen ⊢
  rw [List.length_append] at hlen
  have cs := fun w h => (show Calls Tryz.prog 90 #[.int .i64 t.op] w fun e w' => e = .returned (.string (bs (sgn t.op))) ∧ Below w.heap.size w w' from signOf_any t.op w h)
  have hbe : ((bs (sgn t.op)).toList == []) = true := by
    rw [hs, ByteArray.toList_eq]; simp [bs]
  have cw := fun w h => (show Calls Tryz.prog 91 #[.int .i64 t.op] w fun e w' => e = .returned (.tuple #[.agg #[.string (bs (wrdS t.op)), .int .i64 (if (wrd t.op).isSome = true then t.op else 0), .int .i64 (wrdN t.op)], .bool (wrd t.op).isSome]) ∧ Below w.heap.size w w' from wordOf_any t.op w h)
  generalize (if (wrd t.op).isSome = true then t.op else 0) = op' at *
  generalize (wrd t.op).isSome = ok at *
  generalize bs (sgn t.op) = s0 at *
  obtain ⟨W, hW⟩ : ∃ W, w.alloc (.cells #[.int .i64 t.op, .int .i64 t.so, .string t.nm, .int .i64 t.nu, .slice A t.ks.length cap] 27) = W := ⟨_, rfl⟩
  have hx : W.heap[w.heap.size]? = some (.cells #[.int .i64 t.op, .int .i64 t.so, .string t.nm, .int .i64 t.nu, .slice A t.ks.length cap] 27 (0, 0)) := by rw [← hW]; exact World.alloc_heap_new _ _
  have hS1 : St w0 b l W := by rw [← hW]; exact hS.alloc _
  have hK1 : Kept b w W := by rw [← hW]; exact Kept.of ((Below.refl _ _).alloc (Nat.le_refl _) _)
  have hbx : w.heap.size ≠ b := by have := hS.lt; omega
  have KX := Lib.hid (fun (w1 : World) (h : Kept b W w1) => five_block (t := t) (h.block hx hbx (by decide)))
  have c1 := Lib.hid (fun (w1 : World) (h : St w0 b l w1) => wl_any (wrdS t.op) h (by omega))
  have HT := Lib.hid (fun (w1 : World) (h : St w0 b l w1) => hT.later h.1)
  have HW := Lib.hid hW
  have HK := Lib.hid hK1
  have HS := Lib.hid hS1
  have hword := Lib.hid (fun (w1 : World) (h : St w0 b (l ++ wrdS t.op) w1) (hp : 0 < wrdN t.op) => args_any w0 t.ks hK A cap b _ w1 hL h (by rw [if_pos hp] at hlen; simp only [paren, List.length_append, List.length_cons, List.length_nil] at hlen ⊢; omega))
  have hfin : 0 < wrdN t.op → l ++ wrdS t.op ++ paren (commas (t.ks.map txt)) = l ++ (wrdS t.op ++ (if 0 < wrdN t.op then paren (commas (t.ks.map txt)) else [])) := fun hp => by rw [if_pos hp]; simp
  have hfin0 : ¬ 0 < wrdN t.op → l ++ wrdS t.op = l ++ (wrdS t.op ++ (if 0 < wrdN t.op then paren (commas (t.ks.map txt)) else [])) := fun hp => by rw [if_neg hp]; simp
  have HF := Lib.hid hfin
  have HF0 := Lib.hid hfin0
  generalize l ++ (wrdS t.op ++ (if 0 < wrdN t.op then paren (commas (t.ks.map txt)) else [])) = fin at *
  generalize bs (wrdS t.op) = sw at *
  obtain ⟨x0, x1, x2, x3, x4⟩ := KX.out _ (Kept.refl _ _)
  clear hK hs et hlen hx hS1 hK1 hbx hW hS hL hT hfin hfin0 h
  generalize wrdN t.op = wn at *
  by_cases hp : 0 < wn
  all_goals
    go_enter Tryz.func61, Tryz.ntmps61
    go_wp2_with fail
    rw [HW.out]
    refine (cs _ (HT.out _ HS.out)).mono ?_
    rintro e w1 ⟨rfl, b1⟩
    have S1 := Lib.hid (HS.out.later b1)
    have K1 := Lib.hid (Kept.of (b := b) b1)
    clear b1 cs
    obtain ⟨x0, x1, x2, x3, x4⟩ := KX.out _ K1.out
    go_wp2_with fail
    refine (cw _ (HT.out _ S1.out)).mono ?_
    rintro e w2 ⟨rfl, b2⟩
    have hlt := S1.out.lt
    have S2 := Lib.hid ((S1.out.later b2).alloc (.cells #[.string sw, .int .i64 op', .int .i64 wn] 115))
    have K2 := Lib.hid ((K1.out.trans (Kept.of (b := b) b2)).trans (Kept.of (b := b) ((Below.refl _ _).alloc (Nat.le_refl _) (.cells #[.string sw, .int .i64 op', .int .i64 wn] 115))))
    have hy : (w2.alloc (.cells #[.string sw, .int .i64 op', .int .i64 wn] 115)).heap[w2.heap.size]? = some (.cells #[.string sw, .int .i64 op', .int .i64 wn] 115 (0, 0)) := World.alloc_heap_new _ _
    have hyb : w2.heap.size ≠ b := by have := b2.size; omega
    have HY := Lib.hid (fun (w3 : World) (h : Kept b (w2.alloc (.cells #[.string sw, .int .i64 op', .int .i64 wn] 115)) w3) => (show w3.cell? ⟨w2.heap.size, 0, none⟩ = some (.string sw) ∧ w3.cell? ⟨w2.heap.size, 2, none⟩ = some (.int .i64 wn) from by
      have := h.block hy hyb (by decide)
      exact ⟨by rw [Lib.cell_of_heap this]; rfl, by rw [Lib.cell_of_heap this]; rfl⟩))
    clear b2 hy hyb hlt cw
    go_wp2_with fail
    refine (c1.out _ S2.out).mono ?_
    rintro e w3 ⟨rfl, h⟩
    have S3 := Lib.hid h.1
    have K3 := Lib.hid (K2.out.trans h.2)
    obtain ⟨y0, y2⟩ := HY.out _ h.2
    clear h
    obtain ⟨x0, x1, x2, x3, x4⟩ := KX.out _ K3.out
    go_wp2_with fail
    first
      | (refine (hword.out _ S3.out hp).mono ?_
         rintro e w4 ⟨rfl, h⟩
         rw [HF.out hp] at h
         have H := Lib.hid h
         clear h
         go_wp2_with fail
         go_end0
         exact ⟨rfl, H.out.1, HK.out.trans (K3.out.trans H.out.2)⟩)
      | (have HF1 := HF0.out hp
         go_end0
         exact ⟨rfl, HF1 ▸ S3.out, HK.out.trans K3.out⟩)
theorem rest_or {t : Nd} (h : cntOk t.op t.ks.length) (h1 : t.op ≠ 1) (h2 : t.op ≠ 2) (h3 : t.op ≠ 3) (h32 : t.op ≠ 32) (h6 : t.op ≠ 6) (h7 : t.op ≠ 7) :
    (sgn t.op ≠ [] ∧ t.ks.length = 2) ∨ (t.op = 30 ∨ t.op = 31 ∨ t.op = 9 ∨ (restOp t.op ∧ t.op ≠ 3)) := by
  rcases cnt_cases h with h | ⟨e, _⟩ | ⟨e, _⟩ | ⟨e, _⟩ | ⟨e, _⟩ | ⟨e, _⟩ | hr
  · exact .inl h
  · rcases e with e | e | e | e
    · exact absurd e h1
    · exact .inr (.inl e)
    · exact .inr (.inr (.inl e))
    · exact .inr (.inr (.inr (.inl e)))
  · exact absurd e h2
  · exact absurd e h32
  · exact absurd e h6
  · exact absurd e h7
  · exact .inr (.inr (.inr (.inr ⟨hr, h3⟩)))
end Go.Proofs.YtgkjcimgghflmaaGreatDoor
namespace Go.Proofs.YtgkjcimgghflmaaGreatDoor
open Go.RowKit Go.Shelf Go.Sort
attribute [local go_sem] Oper.semAt_some
set_option maxRecDepth 100000 in
set_option maxHeartbeats 4000000 in
theorem wr_var (w0 : World) (t : Nd) (h : t.op = 1) : WriteOk w0 t := by
  intro A cap b l w hL hS hlen
  obtain ⟨W, hW⟩ : ∃ W, w.alloc (.cells #[.int .i64 t.op, .int .i64 t.so, .string t.nm, .int .i64 t.nu, .slice A t.ks.length cap] 27) = W := ⟨_, rfl⟩
  have hx : W.heap[w.heap.size]? = some (.cells #[.int .i64 t.op, .int .i64 t.so, .string t.nm, .int .i64 t.nu, .slice A t.ks.length cap] 27 (0, 0)) := by rw [← hW]; exact World.alloc_heap_new _ _
  have hS1 : St w0 b l W := by rw [← hW]; exact hS.alloc _
  have hK1 : Kept b w W := by rw [← hW]; exact Kept.of ((Below.refl _ _).alloc (Nat.le_refl _) _)
  have hbx : w.heap.size ≠ b := by have := hS.lt; omega
  have KX := Lib.hid (fun (w1 : World) (h : Kept b W w1) => five_block (t := t) (h.block hx hbx (by decide)))
  have HW := Lib.hid hW
  have HK := Lib.hid hK1
  have HS := Lib.hid hS1
  obtain ⟨x0, x1, x2, x3, x4⟩ := KX.out _ (Kept.refl _ _)
  clear hx hW hS hK1 hbx hS1
  have et : txt t = t.nm.data.toList := by rw [txt_eq, txtW, h]; simp [sgn]
  rw [et] at hlen ⊢
  have c := wS_any t.nm HS.out (by have : t.nm.data.toList.length = t.nm.size := by rw [Array.length_toList]; rfl
                                   omega)
  have o1 : (t.op == 1) = true := by rw [h]; rfl
  clear hL hlen et h
  go_enter Tryz.func27, Tryz.ntmps27
  go_wp2_with fail
  rw [HW.out]
  refine c.mono ?_
  rintro e w1 ⟨rfl, h⟩
  have H := Lib.hid h
  clear h
  go_wp2_with fail
  go_end0
  exact ⟨rfl, H.out.1, HK.out.trans H.out.2⟩
set_option maxRecDepth 100000 in
set_option maxHeartbeats 4000000 in
theorem wr_int (w0 : World) (hP : PowTab w0) (t : Nd) (h : t.op = 2) (h0 : -1000000000000 ≤ t.nu) (h1 : t.nu ≤ 1000000000000) : WriteOk w0 t := by
  intro A cap b l w hL hS hlen
  obtain ⟨W, hW⟩ : ∃ W, w.alloc (.cells #[.int .i64 t.op, .int .i64 t.so, .string t.nm, .int .i64 t.nu, .slice A t.ks.length cap] 27) = W := ⟨_, rfl⟩
  have hx : W.heap[w.heap.size]? = some (.cells #[.int .i64 t.op, .int .i64 t.so, .string t.nm, .int .i64 t.nu, .slice A t.ks.length cap] 27 (0, 0)) := by rw [← hW]; exact World.alloc_heap_new _ _
  have hS1 : St w0 b l W := by rw [← hW]; exact hS.alloc _
  have hK1 : Kept b w W := by rw [← hW]; exact Kept.of ((Below.refl _ _).alloc (Nat.le_refl _) _)
  have hbx : w.heap.size ≠ b := by have := hS.lt; omega
  have KX := Lib.hid (fun (w1 : World) (h : Kept b W w1) => five_block (t := t) (h.block hx hbx (by decide)))
  have HW := Lib.hid hW
  have HK := Lib.hid hK1
  have HS := Lib.hid hS1
  obtain ⟨x0, x1, x2, x3, x4⟩ := KX.out _ (Kept.refl _ _)
  clear hx hW hS hK1 hbx hS1
  rw [txt_int h] at hlen ⊢
  have c := int_any w0 hP t.nu h0 h1 b l W HS.out hlen
  have o1 : (t.op == 1) = false := by rw [h]; rfl
  have o2 : (t.op == 2) = true := by rw [h]; rfl
  clear hL hlen h
  go_enter Tryz.func27, Tryz.ntmps27
  go_wp2_with fail
  rw [HW.out]
  refine c.mono ?_
  rintro e w1 ⟨rfl, h⟩
  have H := Lib.hid h
  clear h
  go_wp2_with fail
  go_end0
  exact ⟨rfl, H.out.1, HK.out.trans H.out.2⟩
set_option maxRecDepth 100000 in
set_option maxHeartbeats 4000000 in
theorem wr_app (w0 : World) (t : Nd) (hK : ∀ i (hi : i < t.ks.length), WriteOk w0 t.ks[i]) (h : t.op = 3) : WriteOk w0 t := by
  intro A cap b l w hL hS hlen
  obtain ⟨W, hW⟩ : ∃ W, w.alloc (.cells #[.int .i64 t.op, .int .i64 t.so, .string t.nm, .int .i64 t.nu, .slice A t.ks.length cap] 27) = W := ⟨_, rfl⟩
  have hx : W.heap[w.heap.size]? = some (.cells #[.int .i64 t.op, .int .i64 t.so, .string t.nm, .int .i64 t.nu, .slice A t.ks.length cap] 27 (0, 0)) := by rw [← hW]; exact World.alloc_heap_new _ _
  have hS1 : St w0 b l W := by rw [← hW]; exact hS.alloc _
  have hK1 : Kept b w W := by rw [← hW]; exact Kept.of ((Below.refl _ _).alloc (Nat.le_refl _) _)
  have hbx : w.heap.size ≠ b := by have := hS.lt; omega
  have KX := Lib.hid (fun (w1 : World) (h : Kept b W w1) => five_block (t := t) (h.block hx hbx (by decide)))
  have HW := Lib.hid hW
  have HK := Lib.hid hK1
  have HS := Lib.hid hS1
  obtain ⟨x0, x1, x2, x3, x4⟩ := KX.out _ (Kept.refl _ _)
  clear hx hW hS hK1 hbx hS1
  have et : txt t = t.nm.data.toList ++ paren (commas (t.ks.map txt)) := by rw [txt_rest (.inl h), hdT, if_pos h]
  rw [et] at hlen ⊢
  have hl : t.nm.data.toList.length = t.nm.size := by rw [Array.length_toList]; rfl
  rw [List.length_append] at hlen
  have c := wS_any t.nm HS.out (by omega)
  have c2 := Lib.hid (fun (w1 : World) (h : St w0 b (l ++ t.nm.data.toList) w1) => args_any w0 t.ks hK A cap b _ w1 hL h (by simp only [paren, List.length_append, List.length_cons, List.length_nil] at hlen ⊢; omega))
  rw [List.append_assoc] at c2
  have o1 : (t.op == 1) = false := by rw [h]; rfl
  have o2 : (t.op == 2) = false := by rw [h]; rfl
  have o3 : (t.op == 3) = true := by rw [h]; rfl
  generalize l ++ (t.nm.data.toList ++ paren (commas (t.ks.map txt))) = fin at *
  clear hL hlen et h hl hK
  go_enter Tryz.func27, Tryz.ntmps27
  go_wp2_with fail
  rw [HW.out]
  refine c.mono ?_
  rintro e w1 ⟨rfl, h1⟩
  have H1 := Lib.hid h1
  obtain ⟨x0, x1, x2, x3, x4⟩ := KX.out _ h1.2
  clear h1 c
  go_wp2_with fail
  refine (c2.out _ H1.out.1).mono ?_
  rintro e w2 ⟨rfl, h⟩
  have H := Lib.hid h
  clear h
  go_wp2_with fail
  go_end0
  exact ⟨rfl, H.out.1, HK.out.trans (H1.out.2.trans H.out.2)⟩
/-- One kid: where it lies, and that it is written. -/
theorem kid_one (w0 : World) (t : Nd) {A : Option Addr} {cap : Nat} (hL : Lies w0 A cap t.ks) (h1 : t.ks.length = 1) (hK : ∀ i (hi : i < t.ks.length), WriteOk w0 t.ks[i]) :
    ∃ (q : Nd) (b o : Nat) (A0 : Option Addr) (C0 : Nat), t.ks = [q] ∧ A = some ⟨b, o, none⟩ ∧ Five w0 b o q (.slice A0 q.ks.length C0) ∧ WriteOk w0 q ∧ Lies w0 A0 C0 q.ks := by
  have h0 : 0 < t.ks.length := by omega
  obtain ⟨b, o, A0, C0, hA, g, L⟩ := hL.kid h0
  refine ⟨t.ks[0], b, o, A0, C0, ?_, hA, by simpa using g, hK 0 h0, L⟩
  apply List.ext_getElem
  · simp [h1]
  · intro i _ hi
    match i, hi with
    | 0, _ => rfl
set_option maxRecDepth 100000 in
set_option maxHeartbeats 4000000 in
theorem wr_not (w0 : World) (t : Nd) (hK : ∀ i (hi : i < t.ks.length), WriteOk w0 t.ks[i]) (h : t.op = 32) (h1 : t.ks.length = 1) : WriteOk w0 t := by
  intro A cap b l w hL hS hlen
  obtain ⟨W, hW⟩ : ∃ W, w.alloc (.cells #[.int .i64 t.op, .int .i64 t.so, .string t.nm, .int .i64 t.nu, .slice A t.ks.length cap] 27) = W := ⟨_, rfl⟩
  have hx : W.heap[w.heap.size]? = some (.cells #[.int .i64 t.op, .int .i64 t.so, .string t.nm, .int .i64 t.nu, .slice A t.ks.length cap] 27 (0, 0)) := by rw [← hW]; exact World.alloc_heap_new _ _
  have hS1 : St w0 b l W := by rw [← hW]; exact hS.alloc _
  have hK1 : Kept b w W := by rw [← hW]; exact Kept.of ((Below.refl _ _).alloc (Nat.le_refl _) _)
  have hbx : w.heap.size ≠ b := by have := hS.lt; omega
  have KX := Lib.hid (fun (w1 : World) (h : Kept b W w1) => five_block (t := t) (h.block hx hbx (by decide)))
  have HK := Lib.hid hK1
  have HS := Lib.hid hS1
  obtain ⟨x0, x1, x2, x3, x4⟩ := KX.out _ (Kept.refl _ _)
  clear hx hS hK1 hbx hS1
  obtain ⟨q, b', o, A0, C0, hq, rfl, g, hKq, hLq⟩ := kid_one w0 t hL h1 hK
  obtain ⟨y0, y1, y2, y3, y4⟩ := g.later HS.out.1
  have et : txt t = paren ([33] ++ txt q) := by rw [txt_eq, txtW, hq, h]; simp [sgn]
  rw [et] at hlen ⊢
  simp only [paren, List.length_append, List.length_cons, List.length_nil] at hlen
  have c := prefix_any w0 q hKq [33] A0 C0 b l W hLq HS.out (by simp only [List.length_cons, List.length_nil]; omega)
  have ec : bs [33] = ⟨#[33]⟩ := rfl
  rw [ec] at c
  clear ec
  rw [h1] at hW x4 ⊢
  have o1 : (t.op == 1) = false := by rw [h]; rfl
  have o2 : (t.op == 2) = false := by rw [h]; rfl
  have o3 : (t.op == 3) = false := by rw [h]; rfl
  have o32 : (t.op == 32) = true := by rw [h]; rfl
  have hz : (0 : Int) < (1 : Nat) := by omega
  clear hL hlen et h h1 hK hKq hLq g hq KX
  go_enter Tryz.func27, Tryz.ntmps27
  go_wp2_with fail
  refine c.mono ?_
  rintro e w1 ⟨rfl, h⟩
  have H := Lib.hid h
  clear h
  go_wp2_with fail
  go_end0
  exact ⟨rfl, H.out.1, HK.out.trans H.out.2⟩
set_option maxRecDepth 100000 in
set_option maxHeartbeats 4000000 in
theorem wr_neg (w0 : World) (hP : PowTab w0) (t : Nd) (hK : ∀ i (hi : i < t.ks.length), WriteOk w0 t.ks[i]) (hb : ∀ i (hi : i < t.ks.length), t.ks[i].op = 2 → -1000000000000 ≤ t.ks[i].nu ∧ t.ks[i].nu ≤ 1000000000000) (h : t.op = 6) (h1 : t.ks.length = 1) : WriteOk w0 t := by
  intro A cap b l w hL hS hlen
  obtain ⟨W, hW⟩ : ∃ W, w.alloc (.cells #[.int .i64 t.op, .int .i64 t.so, .string t.nm, .int .i64 t.nu, .slice A t.ks.length cap] 27) = W := ⟨_, rfl⟩
  have hx : W.heap[w.heap.size]? = some (.cells #[.int .i64 t.op, .int .i64 t.so, .string t.nm, .int .i64 t.nu, .slice A t.ks.length cap] 27 (0, 0)) := by rw [← hW]; exact World.alloc_heap_new _ _
  have hS1 : St w0 b l W := by rw [← hW]; exact hS.alloc _
  have hK1 : Kept b w W := by rw [← hW]; exact Kept.of ((Below.refl _ _).alloc (Nat.le_refl _) _)
  have hbx : w.heap.size ≠ b := by have := hS.lt; omega
  have KX := Lib.hid (fun (w1 : World) (h : Kept b W w1) => five_block (t := t) (h.block hx hbx (by decide)))
  have HK := Lib.hid hK1
  have HS := Lib.hid hS1
  obtain ⟨x0, x1, x2, x3, x4⟩ := KX.out _ (Kept.refl _ _)
  clear hx hS hK1 hbx hS1
  obtain ⟨q, b', o, A0, C0, hq, rfl, g, hKq, hLq⟩ := kid_one w0 t hL h1 hK
  obtain ⟨y0, y1, y2, y3, y4⟩ := g.later HS.out.1
  have et : txt t = negT q := by rw [txt_eq, txtW, hq, h, negT]; simp [sgn, natKid, hq]
  rw [et] at hlen ⊢
  have hbq := hb 0 (by omega)
  simp only [hq, List.getElem_cons_zero] at hbq
  have c := neg_any w0 hP q hKq hbq A0 C0 b l W hLq HS.out hlen
  rw [h1] at hW x4 ⊢
  have o1 : (t.op == 1) = false := by rw [h]; rfl
  have o2 : (t.op == 2) = false := by rw [h]; rfl
  have o3 : (t.op == 3) = false := by rw [h]; rfl
  have o32 : (t.op == 32) = false := by rw [h]; rfl
  have o6 : (t.op == 6) = true := by rw [h]; rfl
  have hz : (0 : Int) < (1 : Nat) := by omega
  clear hL hlen et h h1 hK hKq hLq g hq KX hb hbq
  go_enter Tryz.func27, Tryz.ntmps27
  go_wp2_with fail
  refine c.mono ?_
  rintro e w1 ⟨rfl, h⟩
  have H := Lib.hid h
  clear h
  go_wp2_with fail
  go_end0
  exact ⟨rfl, H.out.1, HK.out.trans H.out.2⟩
set_option maxRecDepth 100000 in
set_option maxHeartbeats 4000000 in
theorem wr_scale (w0 : World) (hP : PowTab w0) (t : Nd) (hK : ∀ i (hi : i < t.ks.length), WriteOk w0 t.ks[i]) (h0 : -1000000000000 ≤ t.nu) (h2 : t.nu ≤ 1000000000000) (h : t.op = 7) (h1 : t.ks.length = 1) : WriteOk w0 t := by
  intro A cap b l w hL hS hlen
  obtain ⟨W, hW⟩ : ∃ W, w.alloc (.cells #[.int .i64 t.op, .int .i64 t.so, .string t.nm, .int .i64 t.nu, .slice A t.ks.length cap] 27) = W := ⟨_, rfl⟩
  have hx : W.heap[w.heap.size]? = some (.cells #[.int .i64 t.op, .int .i64 t.so, .string t.nm, .int .i64 t.nu, .slice A t.ks.length cap] 27 (0, 0)) := by rw [← hW]; exact World.alloc_heap_new _ _
  have hS1 : St w0 b l W := by rw [← hW]; exact hS.alloc _
  have hK1 : Kept b w W := by rw [← hW]; exact Kept.of ((Below.refl _ _).alloc (Nat.le_refl _) _)
  have hbx : w.heap.size ≠ b := by have := hS.lt; omega
  have KX := Lib.hid (fun (w1 : World) (h : Kept b W w1) => five_block (t := t) (h.block hx hbx (by decide)))
  have HK := Lib.hid hK1
  have HS := Lib.hid hS1
  obtain ⟨x0, x1, x2, x3, x4⟩ := KX.out _ (Kept.refl _ _)
  clear hx hS hK1 hbx hS1
  obtain ⟨q, b', o, A0, C0, hq, rfl, g, hKq, hLq⟩ := kid_one w0 t hL h1 hK
  obtain ⟨y0, y1, y2, y3, y4⟩ := g.later HS.out.1
  have et : txt t = sclT t.nu (txt q) := by rw [txt_eq, txtW, hq, h, sclT]; simp [sgn]
  rw [et] at hlen ⊢
  have c := Lib.hid (fun (w1 : World) (h : St w0 b l w1) => scale_any w0 hP t.nu h0 h2 q hKq A0 C0 b l w1 hLq h hlen)
  rw [h1] at hW x4 ⊢
  have o1 : (t.op == 1) = false := by rw [h]; rfl
  have o2 : (t.op == 2) = false := by rw [h]; rfl
  have o3 : (t.op == 3) = false := by rw [h]; rfl
  have o32 : (t.op == 32) = false := by rw [h]; rfl
  have o6 : (t.op == 6) = false := by rw [h]; rfl
  have o7 : (t.op == 7) = true := by rw [h]; rfl
  have hz : (0 : Int) < (1 : Nat) := by omega
  rw [h1] at KX
  have KG := Lib.hid (fun (W' : World) (hk : Kept b W W') (hb : Below w0.heap.size w0 W') => (show W'.cell? ⟨w.heap.size, 0, none⟩ = some (.int .i64 t.op) ∧ W'.cell? ⟨w.heap.size, 1, none⟩ = some (.int .i64 t.so) ∧ W'.cell? ⟨w.heap.size, 2, none⟩ = some (.string t.nm) ∧ W'.cell? ⟨w.heap.size, 3, none⟩ = some (.int .i64 t.nu) ∧ W'.cell? ⟨w.heap.size, 4, none⟩ = some (.slice (some ⟨b', o, none⟩) 1 cap) ∧ W'.cell? ⟨b', o, none⟩ = some (.int .i64 q.op) ∧ W'.cell? ⟨b', o + 1, none⟩ = some (.int .i64 q.so) ∧ W'.cell? ⟨b', o + 2, none⟩ = some (.string q.nm) ∧ W'.cell? ⟨b', o + 3, none⟩ = some (.int .i64 q.nu) ∧ W'.cell? ⟨b', o + 4, none⟩ = some (.slice A0 q.ks.length C0) from by
    obtain ⟨z0, z1, z2, z3, z4⟩ := KX.out _ hk
    obtain ⟨y0, y1, y2, y3, y4⟩ := g.later hb
    exact ⟨z0, z1, z2, z3, z4, y0, y1, y2, y3, y4⟩))
  have hkd : Kept b W W.drew := Kept.of (Below.refl _ _).drew
  have HKD := Lib.hid hkd
  have SD := Lib.hid (HS.out.later (Below.refl _ _).drew)
  clear hL hlen et h h1 hK hKq hLq g hq KX h0 h2 hkd
  go_enter Tryz.func27, Tryz.ntmps27
  go_wp2_with fail
  go_region_held3 (fun W' => W'.cell? ⟨w.heap.size, 0, none⟩ = some (.int .i64 t.op) ∧ W'.cell? ⟨w.heap.size, 1, none⟩ = some (.int .i64 t.so) ∧ W'.cell? ⟨w.heap.size, 2, none⟩ = some (.string t.nm) ∧ W'.cell? ⟨w.heap.size, 3, none⟩ = some (.int .i64 t.nu) ∧ W'.cell? ⟨w.heap.size, 4, none⟩ = some (.slice (some ⟨b', o, none⟩) 1 cap) ∧ W'.cell? ⟨b', o, none⟩ = some (.int .i64 q.op) ∧ W'.cell? ⟨b', o + 1, none⟩ = some (.int .i64 q.so) ∧ W'.cell? ⟨b', o + 2, none⟩ = some (.string q.nm) ∧ W'.cell? ⟨b', o + 3, none⟩ = some (.int .i64 q.nu) ∧ W'.cell? ⟨b', o + 4, none⟩ = some (.slice A0 q.ks.length C0))
    ((first | exact KG.out _ HKD.out SD.out.1 | exact KG.out _ (by assumption) (by assumption)))
    ((go_at_call 60; ((with_reducible refine (c.out _ SD.out).mono ?_); rintro e w2 ⟨rfl, h⟩; have hk := HKD.out.trans h.2; have hb := h.1.1)))
  all_goals
    have hst := h.1
    clear hb
    go_wp2_with fail
    go_end0
    exact ⟨rfl, hst, HK.out.trans hk⟩
end Go.Proofs.YtgkjcimgghflmaaGreatDoor
