/-
  The method number of the document's own parser, where the number is too great or too long; conditions: the text is no longer than a string can be, the next token is a number.
-/
import Derived.Test.YtgkjcimgghflmaaGreatDoorZRl6
namespace Go.Proofs.YtgkjcimgghflmaaGreatDoor
set_option maxRecDepth 100000
set_option maxHeartbeats 8000000
open Go.RowKit Go.Shelf
attribute [local go_sem] Oper.semAt_some
theorem numeric_any (p : Nat) (s : ByteArray) (a : Nat) (o e : Int) (wh : Nat) (W : World) (h : PSt W p s a o e wh) (ha : a ≤ s.size) (hs : s.size ≤ 9223372036854775000) :
  Calls Tryz.prog 157 #[.pointer (some ⟨p, 0, none⟩)] W fun r W' => r = .returned (.bool (isNum (nT s a e))) ∧ Below W.heap.size W W' := by
 have c1 := next_any p s a o e wh _ h ha hs
 cases ht : nT s a e with
 | nil =>
  rw [ht] at c1
  have e0 : bs [] = ⟨#[]⟩ := rfl
  rw [e0] at c1
  clear e0 h ha hs ht
  go_enter Tryz.func157, Tryz.ntmps157
  go_wp2_with fail
  refine c1.mono ?_
  rintro e w1 ⟨rfl, b1⟩
  have B1 := Lib.hid b1
  clear b1 c1
  go_wp2_with fail
  go_ret
  exact ⟨rfl, B1.out⟩
 | cons c r =>
  rw [ht] at c1
  obtain ⟨st, hst, h0, hd⟩ : ∃ st, st = bs (c :: r) ∧ ∃ h0 : 0 < st.size, digB (st[0].toNat : Int) = isNum (c :: r) := ⟨_, rfl, by simp [bs, ByteArray.size], rfl⟩
  have hq : (st.toList == []) = false := by rw [hst, bs_toList]; rfl
  rw [← hst] at c1
  rw [← hd]
  have Hd := Lib.hid hd
  clear h ha hs ht hst hd
  go_enter Tryz.func157, Tryz.ntmps157
  go_wp2_with fail
  refine c1.mono ?_
  rintro e w1 ⟨rfl, b1⟩
  have B1 := Lib.hid b1
  clear b1 c1
  go_wp2_with fail
  refine (refDigit_any _ _).mono ?_
  rintro e w2 ⟨rfl, rfl⟩
  go_wp2_with fail
  go_ret
  exact ⟨rfl, B1.out⟩
end Go.Proofs.YtgkjcimgghflmaaGreatDoor
namespace Go.Proofs.YtgkjcimgghflmaaGreatDoor
set_option maxRecDepth 100000
set_option maxHeartbeats 8000000
open Go.RowKit Go.Shelf
attribute [local go_sem] Oper.semAt_some
theorem starred_live (p : Nat) (s : ByteArray) (a : Nat) (o : Int) (wh : Nat) (W : World) (h : PSt W p s a o 0 wh) (ha : a ≤ s.size) (hs : s.size ≤ 9223372036854775000) :
  Calls Tryz.prog 158 #[.pointer (some ⟨p, 0, none⟩)] W fun r W' => r = .returned (.bool (T s (nxt s a) == [42])) ∧ Below W.heap.size W W' := by
 obtain ⟨c0, c1, c2, c3, c4, f1, f2, f3, f4⟩ := h.cells
 have KN := Lib.hid (fun (W' : World) (hb : Below W.drew.heap.size W.drew W') => next_any p s a o 0 wh W' (h.later ((Below.refl W.heap.size W).drew.trans hb)) ha hs)
 have hn := nxt_le ha
 have KT := Lib.hid (fun W' => refToken_any s (nxt s a) hn.2 hs W')
 have hfit := T_fit ha
 have KB := Lib.hid (fun W' => refBlank_any s (a + (T s a).length) hfit (by omega) W')
 have hz : (bs (T s a)).size = (T s a).length := by simp [bs, ByteArray.size]
 have KC := Lib.hid (fun (W' : World) (hb : Below W.drew.heap.size W.drew W') => (show Hid (Below W.heap.size W W') ∧ W'.cell? ⟨p, 0, none⟩ = some (.string s) ∧ W'.cell? ⟨p, 1, none⟩ = some (.int .i64 a) from by
  have hb' := (Below.refl W.heap.size W).drew.trans hb
  obtain ⟨d0, d1, d2, d3, d4, g1, _⟩ := (h.later hb').cells
  exact ⟨Lib.hid hb', d0, d1⟩))
 have e1 : nT s a 0 = T s a := if_pos rfl
 rw [e1] at KN
 have hw1 : IntKind.i64.wrap ((a : Int) + ((T s a).length : Int)) = (a : Int) + ((T s a).length : Int) := IntWalk.i64_in _ (by omega)
 have hfin : ((bs (T s (nxt s a))).toList == [42]) = (T s (nxt s a) == [42]) := by rw [bs_toList]
 rw [← hfin]
 unfold nxt at *
 generalize bl s (a + (T s a).length) = nb at *
 rw [← hz] at KB hw1
 rw [show ((a + (bs (T s a)).size : Nat) : Int) = (a : Int) + ((bs (T s a)).size : Int) by omega] at KB
 generalize bs (T s a) = st at *
 generalize bs (T s nb) = su at *
 clear h f2 f3 f4 hz hfit ha hs c2 c4 f1 c3 hn e1 hfin
 go_enter Tryz.func158, Tryz.ntmps158
 go_wp2_with fail
 go_region_with (first
  | (go_at_call 74; ((with_reducible refine (KN.out _ (Below.refl _ _)).mono ?_); rintro e w2 ⟨rfl, b2⟩; obtain ⟨HB2, d0, d1⟩ := KC.out _ b2; clear b2 KN))
  | (go_at_call 20; ((with_reducible refine (KB.out _).mono ?_); rintro e w3 ⟨rfl, rfl⟩; clear KB))
  | (go_at_call 112; ((with_reducible refine (KT.out _).mono ?_); rintro e w4 ⟨rfl, b4⟩; have HB4 := Lib.hid b4; clear b4 KT)))
 all_goals
  go_wp2_with fail
  go_ret
  exact ⟨rfl, HB2.out.trans (HB4.out.mono HB2.out.size)⟩
end Go.Proofs.YtgkjcimgghflmaaGreatDoor
namespace Go.Proofs.YtgkjcimgghflmaaGreatDoor
set_option maxRecDepth 100000
set_option maxHeartbeats 8000000
open Go.RowKit Go.Shelf
attribute [local go_sem] Oper.semAt_some
theorem all_takeWhile {p : UInt8 → Bool} : ∀ (l : List UInt8), (l.takeWhile p).all p = true
 | [] => rfl
 | c :: l => by
  rw [List.takeWhile_cons]
  split
  ·rename_i h
   rw [List.all_cons, h, all_takeWhile l]
   rfl
  ·rfl
theorem sgn_notNum : ∀ t, t ∈ signL → isNum t = false := by decide
theorem tokL_digits (l : List UInt8) (h : isNum (tokL l) = true) : (tokL l).all dgC = true := by
 cases l with
 | nil => rfl
 | cons c l =>
  have e : tokL (c :: l) = if letB c.toNat = true then (c :: l).takeWhile nmC else if digB c.toNat = true then (c :: l).takeWhile dgC else sgnAt (c :: l) := rfl
  rw [e] at h ⊢
  clear e
  by_cases hl : letB c.toNat = true
  ·rw [if_pos hl] at h ⊢
   exfalso
   rw [List.takeWhile_cons] at h
   split at h
   ·have hd : digB (c.toNat : Int) = true := h
    have h1 := hl
    simp only [letB, digB, decide_eq_true_eq] at h1 hd
    omega
   ·cases h
  ·rw [if_neg hl] at h ⊢
   by_cases hd : digB c.toNat = true
   ·rw [if_pos hd] at h ⊢
    exact all_takeWhile _
   ·rw [if_neg hd] at h ⊢
    exfalso
    unfold sgnAt at h
    cases hf : signL.find? fun t => t.isPrefixOf (c :: l) with
    | none => rw [hf] at h; cases h
    | some t =>
     rw [hf] at h
     have := sgn_notNum t (List.mem_of_find?_eq_some hf)
     rw [show (some t).getD [] = t from rfl, this] at h
     cases h
theorem T_digits {s : ByteArray} {a : Nat} (h : isNum (T s a) = true) : (T s a).all dgC = true := tokL_digits _ h
theorem numV_snoc (l : List UInt8) (c : UInt8) : numV (l ++ [c]) = 10 * numV l + (c.toNat - 48) := by
 unfold numV
 rw [List.foldl_append]
 rfl
theorem numV_lt : ∀ (n : Nat) (l : List UInt8), l.length = n → l.all dgC = true → numV l < 10 ^ n
 | 0, l, h, _ => by
  obtain rfl := List.length_eq_zero_iff.1 h
  decide
 | n + 1, l, h, hd => by
  obtain ⟨l', c, rfl⟩ : ∃ l' c, l = l' ++ [c] := ⟨l.dropLast, l.getLast (by intro e; rw [e] at h; cases h), (List.dropLast_concat_getLast _).symm⟩
  rw [numV_snoc]
  have hl : l'.length = n := by simpa using h
  rw [List.all_append, Bool.and_eq_true] at hd
  have := numV_lt n l' hl hd.1
  have hc : dgC c = true := by simpa using hd.2
  simp only [dgC, digB, decide_eq_true_eq] at hc
  rw [Nat.pow_succ]
  omega
theorem number_ok (p : Nat) (s : ByteArray) (a : Nat) (o : Int) (wh : Nat) (W : World) (h : PSt W p s a o 0 wh) (ha : a ≤ s.size) (hs : s.size ≤ 9223372036854775000) (hn : isNum (T s a) = true) (h13 : ¬ 13 < (T s a).length) (hV : ¬ 1000000000000 < numV (T s a)) :
  Calls Tryz.prog 159 #[.pointer (some ⟨p, 0, none⟩)] W fun r W' => r = .returned (.int .i64 (numV (T s a) : Int)) ∧ PSt W' p s (nxt s a) o 0 wh ∧ Fr p W W' := by
 have c1 := next_any p s a o 0 wh _ h ha hs
 rw [show nT s a 0 = T s a from if_pos rfl] at c1
 have cp := Lib.hid (fun (W' : World) (hb : Below W.heap.size W W') => pass_live p s a o wh W' (h.later hb) ha hs)
 have hd := T_digits hn
 obtain ⟨st, hst⟩ : ∃ st, st = bs (T s a) := ⟨_, rfl⟩
 have hz : st.size = (T s a).length := by rw [hst]; simp [bs, ByteArray.size]
 have hstep : Hid (∀ k (hk : k < st.size), 48 ≤ st[k].toNat ∧ st[k].toNat ≤ 57 ∧ numV ((T s a).take (k + 1)) = 10 * numV ((T s a).take k) + (st[k].toNat - 48) ∧ numV ((T s a).take k) < 10000000000000) := Lib.hid fun k hk => by
  subst hst
  have hk' : k < (T s a).length := by omega
  show 48 ≤ (T s a)[k].toNat ∧ (T s a)[k].toNat ≤ 57 ∧ numV ((T s a).take (k + 1)) = 10 * numV ((T s a).take k) + ((T s a)[k].toNat - 48) ∧ _
  have hc := List.all_eq_true.1 hd _ (List.getElem_mem hk')
  simp only [dgC, digB, decide_eq_true_eq] at hc
  refine ⟨by omega, by omega, ?_, ?_⟩
  ·rw [List.take_succ_eq_append_getElem hk', numV_snoc]
  ·refine Nat.lt_of_lt_of_le (numV_lt k _ (by simp; omega) ?_) (Nat.le_trans (Nat.pow_le_pow_right (by decide) (show k ≤ 13 by omega)) (by decide))
   exact List.all_eq_true.2 fun x hx => List.all_eq_true.1 hd x (List.mem_of_mem_take hx)
 have hall : Hid (numV ((T s a).take st.size) = numV (T s a)) := Lib.hid (by rw [hz, List.take_length])
 rw [← hst] at c1
 have hlen : ¬ (13 < st.size) := by omega
 generalize numV (T s a) = V at *
 generalize T s a = tl at *
 clear h ha hs hn h13 hd hst hz
 go_enter Tryz.func159, Tryz.ntmps159
 go_wp2_with fail
 refine c1.mono ?_
 rintro e w1 ⟨rfl, b1⟩
 have B1 := Lib.hid b1
 have cp := cp.out _ b1
 clear b1 c1
 go_wp2_with fail
 go_loop [4, 5] (fun n i => ∃ k : Nat, k ≤ st.size ∧ i = .int .i64 k ∧ n = .int .i64 (numV (tl.take k))) (fun _ i => st.size - (intOf i).toNat)
 case atStart => exact ⟨0, Nat.zero_le _, rfl, rfl⟩
 case round =>
  obtain ⟨k, hk, rfl, rfl⟩ := hrel
  by_cases hlt : k < st.size
  ·obtain ⟨q1, q2, q3, q4⟩ := hstep.out k hlt
   generalize numV (tl.take k) = n at *
   go_wp2_with fail
   refine ⟨⟨k + 1, by omega, by simp, ?_⟩, ?_⟩
   ·rw [q3]
    congr 1
    omega
   ·simp [intOf]
    omega
  ·obtain rfl : k = st.size := by omega
   rw [hall.out]
   go_wp2_with fail
   refine cp.mono ?_
   rintro e w2 ⟨rfl, h2, f2⟩
   have H2 := Lib.hid h2
   have F2 := Lib.hid ((Fr.of B1.out).trans f2)
   clear h2 f2
   go_wp2_with fail
   go_ret
   exact ⟨rfl, H2.out, F2.out⟩
end Go.Proofs.YtgkjcimgghflmaaGreatDoor
namespace Go.Proofs.YtgkjcimgghflmaaGreatDoor
set_option maxRecDepth 100000
set_option maxHeartbeats 8000000
open Go.RowKit Go.Shelf
attribute [local go_sem] Oper.semAt_some
theorem number_big (p : Nat) (s : ByteArray) (a : Nat) (o : Int) (wh : Nat) (W : World) (h : PSt W p s a o 0 wh) (ha : a ≤ s.size) (hs : s.size ≤ 9223372036854775000) (hn : isNum (T s a) = true) (h13 : ¬ 13 < (T s a).length) (hV : 1000000000000 < numV (T s a)) :
  Calls Tryz.prog 159 #[.pointer (some ⟨p, 0, none⟩)] W fun r W' => r = .returned (.int .i64 0) ∧ PSt W' p s a o 20 a ∧ Fr p W W' := by
 have c1 := next_any p s a o 0 wh _ h ha hs
 rw [show nT s a 0 = T s a from if_pos rfl] at c1
 have cp := Lib.hid (fun (W' : World) (hb : Below W.heap.size W W') => fail_live p s a o wh W' (h.later hb))
 have hd := T_digits hn
 obtain ⟨st, hst⟩ : ∃ st, st = bs (T s a) := ⟨_, rfl⟩
 have hz : st.size = (T s a).length := by rw [hst]; simp [bs, ByteArray.size]
 have hstep : Hid (∀ k (hk : k < st.size), 48 ≤ st[k].toNat ∧ st[k].toNat ≤ 57 ∧ numV ((T s a).take (k + 1)) = 10 * numV ((T s a).take k) + (st[k].toNat - 48) ∧ numV ((T s a).take k) < 10000000000000) := Lib.hid fun k hk => by
  subst hst
  have hk' : k < (T s a).length := by omega
  show 48 ≤ (T s a)[k].toNat ∧ (T s a)[k].toNat ≤ 57 ∧ numV ((T s a).take (k + 1)) = 10 * numV ((T s a).take k) + ((T s a)[k].toNat - 48) ∧ _
  have hc := List.all_eq_true.1 hd _ (List.getElem_mem hk')
  simp only [dgC, digB, decide_eq_true_eq] at hc
  refine ⟨by omega, by omega, ?_, ?_⟩
  ·rw [List.take_succ_eq_append_getElem hk', numV_snoc]
  ·refine Nat.lt_of_lt_of_le (numV_lt k _ (by simp; omega) ?_) (Nat.le_trans (Nat.pow_le_pow_right (by decide) (show k ≤ 13 by omega)) (by decide))
   exact List.all_eq_true.2 fun x hx => List.all_eq_true.1 hd x (List.mem_of_mem_take hx)
 have hall : Hid (numV ((T s a).take st.size) = numV (T s a)) := Lib.hid (by rw [hz, List.take_length])
 rw [← hst] at c1
 have hlen : ¬ (13 < st.size) := by omega
 generalize numV (T s a) = V at *
 generalize T s a = tl at *
 clear h ha hs hn h13 hd hst hz
 go_enter Tryz.func159, Tryz.ntmps159
 go_wp2_with fail
 refine c1.mono ?_
 rintro e w1 ⟨rfl, b1⟩
 have B1 := Lib.hid b1
 have cp := cp.out _ b1
 clear b1 c1
 go_wp2_with fail
 go_loop [4, 5] (fun n i => ∃ k : Nat, k ≤ st.size ∧ i = .int .i64 k ∧ n = .int .i64 (numV (tl.take k))) (fun _ i => st.size - (intOf i).toNat)
 case atStart => exact ⟨0, Nat.zero_le _, rfl, rfl⟩
 case round =>
  obtain ⟨k, hk, rfl, rfl⟩ := hrel
  by_cases hlt : k < st.size
  ·obtain ⟨q1, q2, q3, q4⟩ := hstep.out k hlt
   generalize numV (tl.take k) = n at *
   go_wp2_with fail
   refine ⟨⟨k + 1, by omega, by simp, ?_⟩, ?_⟩
   ·rw [q3]
    congr 1
    omega
   ·simp [intOf]
    omega
  ·obtain rfl : k = st.size := by omega
   rw [hall.out]
   go_wp2_with fail
   refine cp.mono ?_
   rintro e w2 ⟨rfl, h2, f2⟩
   have H2 := Lib.hid h2
   have F2 := Lib.hid ((Fr.of B1.out).trans f2)
   clear h2 f2
   go_wp2_with fail
   go_ret
   exact ⟨rfl, H2.out, F2.out⟩
theorem number_long (p : Nat) (s : ByteArray) (a : Nat) (o : Int) (wh : Nat) (W : World) (h : PSt W p s a o 0 wh) (ha : a ≤ s.size) (hs : s.size ≤ 9223372036854775000) (h13 : 13 < (T s a).length) :
  Calls Tryz.prog 159 #[.pointer (some ⟨p, 0, none⟩)] W fun r W' => r = .returned (.int .i64 0) ∧ PSt W' p s a o 20 a ∧ Fr p W W' := by
 have c1 := next_any p s a o 0 wh _ h ha hs
 rw [show nT s a 0 = T s a from if_pos rfl] at c1
 have cp := Lib.hid (fun (W' : World) (hb : Below W.heap.size W W') => fail_live p s a o wh W' (h.later hb))
 obtain ⟨st, hst⟩ : ∃ st, st = bs (T s a) := ⟨_, rfl⟩
 have hz : st.size = (T s a).length := by rw [hst]; simp [bs, ByteArray.size]
 have hlen : 13 < st.size := by omega
 rw [← hst] at c1
 clear h ha hs h13 hst hz
 go_enter Tryz.func159, Tryz.ntmps159
 go_wp2_with fail
 refine c1.mono ?_
 rintro e w1 ⟨rfl, b1⟩
 have B1 := Lib.hid b1
 have cp := cp.out _ b1
 clear b1 c1
 go_wp2_with fail
 refine cp.mono ?_
 rintro e w2 ⟨rfl, h2, f2⟩
 have H2 := Lib.hid h2
 have F2 := Lib.hid ((Fr.of B1.out).trans f2)
 clear h2 f2
 go_wp2_with fail
 go_ret
 exact ⟨rfl, H2.out, F2.out⟩
end Go.Proofs.YtgkjcimgghflmaaGreatDoor
