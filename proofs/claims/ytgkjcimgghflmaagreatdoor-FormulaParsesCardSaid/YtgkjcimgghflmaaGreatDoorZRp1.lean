/-
  What a phrase of the document's own parser hands back, and what its constructors One and Two of nodes return; conditions: the kids lie in memory.
-/
import Derived.Deep.RegionWith
import Derived.Test.YtgkjcimgghflmaaGreatDoorZRp0
import Derived.Test.YtgkjcimgghflmaaGreatDoorZFresh
import Derived.Test.YtgkjcimgghflmaaGreatDoorZPsp
namespace Go.Proofs.YtgkjcimgghflmaaGreatDoor
set_option maxRecDepth 100000
set_option maxHeartbeats 8000000
open Go.RowKit Go.Shelf
attribute [local go_sem] Oper.semAt_some
theorem pass_live (p : Nat) (s : ByteArray) (a : Nat) (o : Int) (wh : Nat) (W : World) (h : PSt W p s a o 0 wh) (ha : a ≤ s.size) (hs : s.size ≤ 9223372036854775000) :
  Calls Tryz.prog 75 #[.pointer (some ⟨p, 0, none⟩)] W fun r W' => r = .returned (.tuple #[]) ∧ PSt W' p s (nxt s a) o 0 wh ∧ Fr p W W' := by
 obtain ⟨c0, c1, c2, c3, c4, f1, f2, f3, f4⟩ := h.cells
 have KT := Lib.hid (fun W' => refToken_any s a ha hs W')
 have hfit := T_fit ha
 have KB := Lib.hid (fun W' => refBlank_any s (a + (T s a).length) hfit (by omega) W')
 have hz : (bs (T s a)).size = (T s a).length := by simp [bs, ByteArray.size]
 have KC := Lib.hid (fun (W' : World) (hb : Below W.drew.heap.size W.drew W') => (show Hid (Below W.heap.size W W') ∧ W'.cell? ⟨p, 0, none⟩ = some (.string s) ∧ W'.cell? ⟨p, 1, none⟩ = some (.int .i64 a) ∧ W'.frozen? ⟨p, 1, none⟩ = false from by
  have hb' := (Below.refl W.heap.size W).drew.trans hb
  obtain ⟨d0, d1, d2, d3, d4, g1, _⟩ := (h.later hb').cells
  exact ⟨Lib.hid hb', d0, d1, g1⟩))
 have KF := Lib.hid (fun (W' : World) (hb : Hid (Below W.heap.size W W')) (nb : Nat) => (show PSt (W'.setCell ⟨p, 1, none⟩ (.int .i64 nb)) p s nb o 0 wh ∧ Fr p W (W'.setCell ⟨p, 1, none⟩ (.int .i64 nb)) from
  ⟨(h.later hb.out).set1 nb, (Fr.of hb.out).trans (Fr.set _ 1 _)⟩))
 have hw1 : IntKind.i64.wrap ((a : Int) + ((T s a).length : Int)) = (a : Int) + ((T s a).length : Int) := IntWalk.i64_in _ (by omega)
 unfold nxt
 generalize bl s (a + (T s a).length) = nb at *
 rw [← hz] at KB hw1
 rw [show ((a + (bs (T s a)).size : Nat) : Int) = (a : Int) + ((bs (T s a)).size : Int) by omega] at KB
 generalize bs (T s a) = st at *
 clear h f2 f3 f4 hz hfit ha hs c2 c4 f1
 go_enter Tryz.func75, Tryz.ntmps75
 go_wp2_with fail
 go_region_with (first
  | (go_at_call 112; ((with_reducible refine (KT.out _).mono ?_); rintro e w2 ⟨rfl, b2⟩; obtain ⟨HB2, d0, d1, g1⟩ := KC.out _ b2; clear b2 KT))
  | (go_at_call 20; ((with_reducible refine (KB.out _).mono ?_); rintro e w3 ⟨rfl, rfl⟩; clear KB)))
 all_goals
  go_wp2_with fail
  go_end0
  exact ⟨rfl, KF.out _ HB2 nb⟩
end Go.Proofs.YtgkjcimgghflmaaGreatDoor
namespace Go.Proofs.YtgkjcimgghflmaaGreatDoor
set_option maxRecDepth 100000
set_option maxHeartbeats 8000000
open Go.RowKit Go.Shelf
attribute [local go_sem] Oper.semAt_some
theorem take_no (t : List UInt8) (p : Nat) (s : ByteArray) (a : Nat) (o e : Int) (wh : Nat) (W : World) (h : PSt W p s a o e wh) (ha : a ≤ s.size) (hs : s.size ≤ 9223372036854775000) (hne : nT s a e ≠ t) :
  Calls Tryz.prog 37 #[.pointer (some ⟨p, 0, none⟩), .string (bs t)] W fun r W' => r = .returned (.bool false) ∧ Below W.heap.size W W' := by
 have c := next_any p s a o e wh W h ha hs
 have hq : ((bs (nT s a e)).toList == (bs t).toList) = false := by rw [bs_toList, bs_toList]; simpa using hne
 generalize bs (nT s a e) = sn at *
 generalize bs t = st at *
 clear h ha hs hne
 go_enter Tryz.func37, Tryz.ntmps37
 go_wp2_with fail
 refine c.mono ?_
 rintro e w1 ⟨rfl, b1⟩
 have B1 := Lib.hid b1
 clear b1 c
 go_wp2_with fail
 go_ret
 exact ⟨rfl, B1.out⟩
theorem take_yes (t : List UInt8) (p : Nat) (s : ByteArray) (a : Nat) (o : Int) (wh : Nat) (W : World) (h : PSt W p s a o 0 wh) (ha : a ≤ s.size) (hs : s.size ≤ 9223372036854775000) (ht : T s a = t) :
  Calls Tryz.prog 37 #[.pointer (some ⟨p, 0, none⟩), .string (bs t)] W fun r W' => r = .returned (.bool true) ∧ PSt W' p s (nxt s a) o 0 wh ∧ Fr p W W' := by
 have c := next_any p s a o 0 wh W h ha hs
 have hq : ((bs (nT s a 0)).toList == (bs t).toList) = true := by rw [bs_toList, bs_toList]; simp [nT, ht]
 have cp := Lib.hid (fun (W' : World) (hb : Below W.heap.size W W') => pass_live p s a o wh W' (h.later hb) ha hs)
 generalize bs (nT s a 0) = sn at *
 generalize bs t = st at *
 clear h ha hs ht
 go_enter Tryz.func37, Tryz.ntmps37
 go_wp2_with fail
 refine c.mono ?_
 rintro e w1 ⟨rfl, b1⟩
 have B1 := Lib.hid b1
 clear b1 c
 go_wp2_with fail
 refine (cp.out _ B1.out).mono ?_
 rintro e w2 ⟨rfl, h2, f2⟩
 have H2 := Lib.hid h2
 have F2 := Lib.hid ((Fr.of B1.out).trans f2)
 clear h2 f2
 go_wp2_with fail
 go_ret
 exact ⟨rfl, H2.out, F2.out⟩
theorem want_yes (t : List UInt8) (p : Nat) (s : ByteArray) (a : Nat) (o : Int) (wh : Nat) (W : World) (h : PSt W p s a o 0 wh) (ha : a ≤ s.size) (hs : s.size ≤ 9223372036854775000) (ht : T s a = t) :
  Calls Tryz.prog 164 #[.pointer (some ⟨p, 0, none⟩), .string (bs t)] W fun r W' => r = .returned (.tuple #[]) ∧ PSt W' p s (nxt s a) o 0 wh ∧ Fr p W W' := by
 have c := take_yes t p s a o wh W h ha hs ht
 generalize bs t = st at *
 clear h ha hs ht
 go_enter Tryz.func164, Tryz.ntmps164
 go_wp2_with fail
 refine c.mono ?_
 rintro e w1 ⟨rfl, h2, f2⟩
 have H2 := Lib.hid h2
 have F2 := Lib.hid f2
 clear h2 f2
 go_wp2_with fail
 go_end0
 exact ⟨rfl, H2.out, F2.out⟩
theorem want_no (t : List UInt8) (p : Nat) (s : ByteArray) (a : Nat) (o : Int) (wh : Nat) (W : World) (h : PSt W p s a o 0 wh) (ha : a ≤ s.size) (hs : s.size ≤ 9223372036854775000) (ht : T s a ≠ t) :
  Calls Tryz.prog 164 #[.pointer (some ⟨p, 0, none⟩), .string (bs t)] W fun r W' => r = .returned (.tuple #[]) ∧ PSt W' p s a o 20 a ∧ Fr p W W' := by
 have c := take_no t p s a o 0 wh W h ha hs (by simpa [nT] using ht)
 have cf := Lib.hid (fun (W' : World) (hb : Below W.heap.size W W') => fail_live p s a o wh W' (h.later hb))
 generalize bs t = st at *
 clear h ha hs ht
 go_enter Tryz.func164, Tryz.ntmps164
 go_wp2_with fail
 refine c.mono ?_
 rintro e w1 ⟨rfl, b1⟩
 have B1 := Lib.hid b1
 clear b1
 go_wp2_with fail
 refine (cf.out _ B1.out).mono ?_
 rintro e w2 ⟨rfl, h2, f2⟩
 have H2 := Lib.hid h2
 have F2 := Lib.hid ((Fr.of B1.out).trans f2)
 clear h2 f2
 go_wp2_with fail
 go_end0
 exact ⟨rfl, H2.out, F2.out⟩
theorem want_dead (t : List UInt8) (p : Nat) (s : ByteArray) (a : Nat) (o e : Int) (wh : Nat) (W : World) (h : PSt W p s a o e wh) (ha : a ≤ s.size) (hs : s.size ≤ 9223372036854775000) (he : e ≠ 0) (ht : t ≠ []) :
  Calls Tryz.prog 164 #[.pointer (some ⟨p, 0, none⟩), .string (bs t)] W fun r W' => r = .returned (.tuple #[]) ∧ Below W.heap.size W W' := by
 have c := take_no t p s a o e wh W h ha hs (by unfold nT; rw [if_neg he]; exact fun h => ht h.symm)
 have cf := Lib.hid (fun (W' : World) (hb : Below W.heap.size W W') => fail_dead p s a o e wh W' (h.later hb) he)
 generalize bs t = st at *
 clear h ha hs ht he
 go_enter Tryz.func164, Tryz.ntmps164
 go_wp2_with fail
 refine c.mono ?_
 rintro e w1 ⟨rfl, b1⟩
 have B1 := Lib.hid b1
 clear b1
 go_wp2_with fail
 refine (cf.out _ B1.out).mono ?_
 rintro e w2 ⟨rfl, rfl⟩
 go_wp2_with fail
 go_end0
 exact ⟨rfl, B1.out⟩
theorem open_live (p : Nat) (s : ByteArray) (a : Nat) (o : Int) (wh : Nat) (W : World) (h : PSt W p s a o 0 wh) (h0 : 0 ≤ o) (h90 : o + 1 ≤ 90) :
  Calls Tryz.prog 38 #[.pointer (some ⟨p, 0, none⟩)] W fun r W' => r = .returned (.tuple #[]) ∧ PSt W' p s a (o + 1) 0 wh ∧ Fr p W W' := by
 obtain ⟨c0, c1, c2, c3, c4, f1, f2, f3, f4⟩ := h.cells
 have H := Lib.hid h
 have hd : ¬ (90 < o + 1) := by omega
 have hx : o ≤ 100 := by omega
 clear h
 go_enter Tryz.func38, Tryz.ntmps38
 go_wp2_with fail
 go_end0
 exact ⟨rfl, H.out.set2 (o + 1), Fr.set _ 2 _⟩
theorem open_lim (p : Nat) (s : ByteArray) (a : Nat) (o : Int) (wh : Nat) (W : World) (h : PSt W p s a o 0 wh) (h0 : o ≤ 1000000) (h90 : 90 < o + 1) :
  Calls Tryz.prog 38 #[.pointer (some ⟨p, 0, none⟩)] W fun r W' => r = .returned (.tuple #[]) ∧ PSt W' p s a (o + 1) 2 0 ∧ Fr p W W' := by
 obtain ⟨c0, c1, c2, c3, c4, f1, f2, f3, f4⟩ := h.cells
 have H := Lib.hid h
 have hx : 0 ≤ o := by omega
 clear h
 go_enter Tryz.func38, Tryz.ntmps38
 go_wp2_with fail
 go_end0
 exact ⟨rfl, ((H.out.set2 (o + 1)).set3 2).set4 0, ((Fr.set _ 2 _).trans (Fr.set _ 3 _)).trans (Fr.set _ 4 _)⟩
end Go.Proofs.YtgkjcimgghflmaaGreatDoor
namespace Go.Proofs.YtgkjcimgghflmaaGreatDoor
set_option maxRecDepth 100000
set_option maxHeartbeats 8000000
open Go.RowKit Go.Shelf
attribute [local go_sem] Oper.semAt_some
theorem Rob.fr {n0 p : Nat} {w w' : World} {row : Option Nat} {A : Option Addr} {cap : Nat} {ks : List Nd} (h : Rob n0 w row A cap ks) (hf : Fr p w w') (hp : p < n0) : Rob n0 w' row A cap ks :=
 fun W hW => h W fun k h1 h2 h3 => (hW k h1 (Nat.lt_of_lt_of_le h2 hf.size) h3).trans (hf.block k h2 (by omega))
theorem fine_op {op : Int} {ks : List Nd} (h : (Lit.int .i64 op).wf = true) : Fine (.mk op 0 noNm 0 ks) := ⟨by show (ByteArray.mk #[]).size ≤ maxLen; decide, h, by show (Lit.int .i64 0).wf = true; decide, by show (Lit.int .i64 0).wf = true; decide⟩
theorem new_at {X : World} {O : Obj} {k : Nat} (h : k = X.heap.size) : (X.alloc O).heap[k]? = some O := by subst h; exact World.alloc_heap_new X O
theorem rob_one {n0 g : Nat} {w : World} {t : Nd} {A : Option Addr} {cap : Nat} (hg : n0 ≤ g) (h : w.heap[g]? = some (.cells #[.int .i64 t.op, .int .i64 t.so, .string t.nm, .int .i64 t.nu, .slice A t.ks.length cap] 27 (0, 0))) (hr : Rob n0 w none A cap t.ks) (hf : Fine t) :
  Rob n0 w none (some ⟨g, 0, none⟩) 1 [t] := fun W hW => by
 have hgW : W.heap[g]? = some _ := (hW g hg (Array.getElem?_eq_some_iff.1 h).1 (by simp)).trans h
 have c := fun (i : Nat) (v : Value) (hv : (#[Value.int .i64 t.op, .int .i64 t.so, .string t.nm, .int .i64 t.nu, .slice A t.ks.length cap] : Array Value)[i]? = some v) => cell_row hgW (i := i) hv
 refine .mk _ _ _ (by unfold maxLen; simp) g 0 (fun _ => A) (fun _ => cap) (fun _ => rfl) (fun i hi => ?_) (fun i hi => ?_) (fun i hi => ?_)
 all_goals
  obtain rfl : i = 0 := by simp at hi; omega
 ·exact ⟨c 0 _ rfl, c 1 _ rfl, c 2 _ rfl, c 3 _ rfl, c 4 _ rfl⟩
 ·exact hr W hW
 ·exact hf
theorem rob_two {n0 g : Nat} {w : World} {t u : Nd} {A B : Option Addr} {ca cb : Nat} (hg : n0 ≤ g)
  (h : w.heap[g]? = some (.cells #[.int .i64 t.op, .int .i64 t.so, .string t.nm, .int .i64 t.nu, .slice A t.ks.length ca, .int .i64 u.op, .int .i64 u.so, .string u.nm, .int .i64 u.nu, .slice B u.ks.length cb] 27 (0, 0)))
  (hr : Rob n0 w none A ca t.ks) (hs : Rob n0 w none B cb u.ks) (hf : Fine t) (hf' : Fine u) : Rob n0 w none (some ⟨g, 0, none⟩) 2 [t, u] := fun W hW => by
 have hgW : W.heap[g]? = some _ := (hW g hg (Array.getElem?_eq_some_iff.1 h).1 (by simp)).trans h
 have c := fun (i : Nat) (v : Value) (hv : (#[Value.int .i64 t.op, .int .i64 t.so, .string t.nm, .int .i64 t.nu, .slice A t.ks.length ca, .int .i64 u.op, .int .i64 u.so, .string u.nm, .int .i64 u.nu, .slice B u.ks.length cb] : Array Value)[i]? = some v) => cell_row hgW (i := i) hv
 refine .mk _ _ _ (by unfold maxLen; simp) g 0 (fun i => if i = 0 then A else B) (fun i => if i = 0 then ca else cb) (fun _ => rfl) (fun i hi => ?_) (fun i hi => ?_) (fun i hi => ?_)
 all_goals
  obtain rfl | rfl : i = 0 ∨ i = 1 := by simp at hi; omega
 ·exact ⟨c 0 _ rfl, c 1 _ rfl, c 2 _ rfl, c 3 _ rfl, c 4 _ rfl⟩
 ·exact ⟨c 5 _ rfl, c 6 _ rfl, c 7 _ rfl, c 8 _ rfl, c 9 _ rfl⟩
 ·exact hr W hW
 ·exact hs W hW
 ·exact hf
 ·exact hf'
def NewN (n0 : Nat) (W : World) (u : Nd) (e : Ending) (W' : World) : Prop := ∃ A cap, e = .returned (nv u.op u.so u.nm u.nu (.slice A u.ks.length cap)) ∧ Rob n0 W' none A cap u.ks ∧ Below W.heap.size W W'
theorem two_any (op : Int) (n0 : Nat) (t u : Nd) (A B : Option Addr) (ca cb : Nat) (W : World) (hr : Rob n0 W none A ca t.ks) (hs : Rob n0 W none B cb u.ks) (hf : Fine t) (hf' : Fine u) (hn : n0 ≤ W.heap.size) :
  Calls Tryz.prog 39 #[.int .i64 op, nv t.op t.so t.nm t.nu (.slice A t.ks.length ca), nv u.op u.so u.nm u.nu (.slice B u.ks.length cb)] W (NewN n0 W (twoN op t u)) := by
 go_enter Tryz.func39, Tryz.ntmps39
 go_wp2_with fail
 refine bodyPost_ret (v := nv op 0 ⟨#[]⟩ 0 (.slice (some ⟨W.heap.size + 1 + 1 + 1, 0, none⟩) 2 2)) (by simp [results, Tryz.results39, go_sem]) rfl ⟨some ⟨W.heap.size + 1 + 1 + 1, 0, none⟩, 2, rfl, ?_, ?_⟩
 ·refine rob_two (by omega) (new_at (by simp)) (hr.later ?_) (hs.later ?_) hf hf'
  all_goals exact ((((Below.refl _ _).alloc (Nat.le_refl _) _).alloc (by simp) _).alloc (by simp; omega) _).alloc (by simp; omega) _
 ·exact ((((Below.refl _ _).alloc (Nat.le_refl _) _).alloc (by simp) _).alloc (by simp; omega) _).alloc (by simp; omega) _
theorem one_any (op : Int) (n0 : Nat) (t : Nd) (A : Option Addr) (ca : Nat) (W : World) (hr : Rob n0 W none A ca t.ks) (hf : Fine t) (hn : n0 ≤ W.heap.size) :
  Calls Tryz.prog 141 #[.int .i64 op, nv t.op t.so t.nm t.nu (.slice A t.ks.length ca)] W (NewN n0 W (oneN op t)) := by
 go_enter Tryz.func141, Tryz.ntmps141
 go_wp2_with fail
 refine bodyPost_ret (v := nv op 0 ⟨#[]⟩ 0 (.slice (some ⟨W.heap.size + 1 + 1, 0, none⟩) 1 1)) (by simp [results, Tryz.results141, go_sem]) rfl ⟨some ⟨W.heap.size + 1 + 1, 0, none⟩, 1, rfl, ?_, ?_⟩
 ·refine rob_one (by omega) (new_at (by simp)) (hr.later ?_) hf
  exact (((Below.refl _ _).alloc (Nat.le_refl _) _).alloc (by simp) _).alloc (by simp; omega) _
 ·exact (((Below.refl _ _).alloc (Nat.le_refl _) _).alloc (by simp) _).alloc (by simp; omega) _
def Ret1 (p : Nat) (s : ByteArray) (Z : Nd → Nat → Int → Int → Nat → Prop) (W : World) (e : Ending) (W' : World) : Prop :=
 ∃ t A cap a o er wh, e = .returned (nv t.op t.so t.nm t.nu (.slice A t.ks.length cap)) ∧ Rob W.heap.size W' none A cap t.ks ∧ Fine t ∧ Fr p W W' ∧ PSt W' p s a o er wh ∧ Z t a o er wh
def ZR (s : ByteArray) (a0 o0 : Nat) (r : PR) (t : Nd) (a : Nat) (o er : Int) (wh : Nat) : Prop :=
 a0 ≤ a ∧ a ≤ s.size ∧ match r with
  | .ok n a1 => t = n ∧ a = a1 ∧ o = o0 ∧ er = 0 ∧ wh = 0
  | .err e w => er = e ∧ wh = w ∧ e ≠ 0
  | .out => False
def zeroN : Nd := .mk 0 0 noNm 0 []
def DeadOk (F : Nat) : Prop := ∀ (p : Nat) (s : ByteArray) (a : Nat) (o e : Int) (wh : Nat) (W : World), PSt W p s a o e wh → a ≤ s.size → s.size ≤ 9223372036854775000 → e ≠ 0 →
 Calls Tryz.prog F #[.pointer (some ⟨p, 0, none⟩)] W fun r W' => r = .returned (nv 0 0 ⟨#[]⟩ 0 (.slice none 0 0)) ∧ Below W.heap.size W W'
end Go.Proofs.YtgkjcimgghflmaaGreatDoor
