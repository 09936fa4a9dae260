/-
  The phrase unary of the program's parser, with what stands behind a minus, answers as the grammar says when those within do; conditions: the text is no longer than a string can be, and the program's tables hold what its text lays.
-/
import Derived.Lib.ConvBytes
import Derived.IntWalk
import Derived.Test.YtgkjcimgghflmaaGreatDoorYPsp
import Derived.Test.YtgkjcimgghflmaaGreatDoorYPq0
import Derived.Test.YtgkjcimgghflmaaGreatDoorYPq10
namespace Go.Proofs.YtgkjcimgghflmaaGreatDoor
open Go.RowKit Go.Shelf
attribute [local go_sem] Oper.semAt_some
theorem numV_snocP (l : List UInt8) (c : UInt8) : numV (l ++ [c]) = 10 * numV l + (c.toNat - 48) := by unfold numV; rw [List.foldl_append]; rfl
theorem numV_ltP : ∀ (n : Nat) (l : List UInt8), l.length = n → (∀ c ∈ l, dgC c = true) → numV l < 10 ^ n
  | 0, l, h, _ => by rw [List.length_eq_zero_iff.1 h]; decide
  | n + 1, l, h, hd => by
    have hne : l ≠ [] := fun e => by rw [e] at h; cases h
    have e := List.dropLast_concat_getLast hne
    have := numV_ltP n l.dropLast (by rw [List.length_dropLast, h]; rfl) (fun c hc => hd c (List.dropLast_subset _ hc))
    rw [← e, numV_snocP]
    have hc := hd _ (List.getLast_mem hne)
    simp [dgC, digB] at hc
    rw [Nat.pow_succ]
    omega
theorem numV_take {l : List UInt8} {k : Nat} (h : k < l.length) : numV (l.take (k + 1)) = 10 * numV (l.take k) + (l[k].toNat - 48) := by
  rw [List.take_succ_eq_append_getElem h, numV_snocP]
set_option maxRecDepth 100000 in
set_option maxHeartbeats 8000000 in
theorem parseUint_any (t : List UInt8) (hne : t ≠ []) (hl : t.length ≤ 13) (hd : ∀ c ∈ t, dgC c = true) (W : World) :
    Calls Tryz.prog 177 #[.string (bs t), .int .i64 10, .int .i64 64] W fun e W' => e = .returned (.tuple #[.int .u64 (numV t), .nilIface]) ∧ Below W.heap.size W W' := by
  have e0 : ((bs t).toList == []) = false := by rw [bs_toList]; simpa using hne
  have hz : (bs t).size = t.length := by simp [bs, ByteArray.size]
  have hcv := Lib.run_convert_string_bytes (P := Tryz.prog) W 9 55 5 (bs t) (u := .string) Tryz.underlying9 Tryz.underlying55 Tryz.underlying5
  have hB : ∀ j (h : j < t.length), (Lib.bytesWorld W 5 (bs t)).cell? ⟨W.heap.size, j, none⟩ = some (.int .u8 (t[j].toNat : Int)) := fun j hj => by
    rw [Lib.bytesWorld_cell W 5 (bs t) j (by omega)]
    have : (bs t).data.toList = t := by simp [bs]
    rw [this, List.getD_eq_getElem?_getD, List.getElem?_eq_getElem hj]; rfl
  have HW := Lib.hid (show Below W.heap.size W (Lib.bytesWorld W 5 (bs t)) from ⟨rfl, rfl, rfl, by rw [Lib.bytesWorld_size]; omega, fun k hk => Lib.bytesWorld_at_old W 5 (bs t) k hk⟩)
  have HB := Lib.hid hB
  have HD := Lib.hid hd
  rw [hz] at hcv
  have hmv : IntKind.u64.wrap (IntKind.u64.wrap 18446744073709551616 - 1) = 18446744073709551615 := by
    rw [IntKind.wrap_u64, IntKind.wrap_u64]
    decide
  generalize Lib.bytesWorld W 5 (bs t) = W1 at *
  generalize bs t = st at *
  clear hB hd hz
  go_enter Tryz.func177, Tryz.ntmps177
  go_wp2_with fail
  go_loop [12, 13, 101] (fun vu vn vi => ∃ (k : Nat) (a : Int), vu = .bool false ∧ vn = .int .u64 a ∧ vi = .int .i64 k ∧ k ≤ t.length ∧ Hid (a = (numV (t.take k) : Int) ∧ numV (t.take k) < 10 ^ k)) (fun _ _ vi => t.length - (intOf vi).toNat)
  case atStart => exact ⟨0, 0, rfl, rfl, rfl, by omega, rfl, by simp [numV]⟩
  case round =>
    obtain ⟨k, a, rfl, rfl, rfl, hk, hh⟩ := hrel
    obtain ⟨ha, hlt⟩ := hh.out
    clear hh
    by_cases hkn : k < t.length
    · have hc := HB.out k hkn
      have hdg := HD.out t[k] (List.getElem_mem hkn)
      have hp : 10 ^ k ≤ 10 ^ 12 := Nat.pow_le_pow_right (by decide) (by omega)
      have hsn := numV_take hkn
      simp [dgC, digB] at hdg
      have a0 : 0 ≤ a := by omega
      have a1 : a < 1000000000000 := by omega
      have HN := Lib.hid (show a * 10 + ((t[k].toNat : Int) - 48) = (numV (t.take (k + 1)) : Int) ∧ numV (t.take (k + 1)) < 10 ^ (k + 1) by
        rw [hsn, Nat.pow_succ]; omega)
      have c0 : (48 : Int) ≤ (t[k].toNat : Int) := by omega
      have c9 : (t[k].toNat : Int) ≤ 57 := by omega
      generalize (t[k].toNat : Int) = c at *
      have hw1 : IntKind.u8.wrap (c - 48) = c - 48 := by rw [IntKind.wrap_u8]; omega
      have hw2 : IntKind.u64.wrap (a * 10) = a * 10 := by rw [IntKind.wrap_u64]; omega
      have hw3 : IntKind.u64.wrap (c - 48) = c - 48 := by rw [IntKind.wrap_u64]; omega
      have hw4 : IntKind.u64.wrap (a * 10 + (c - 48)) = a * 10 + (c - 48) := by rw [IntKind.wrap_u64]; omega
      have h95 : (c == 95) = false := by simp; omega
      have h10 : ¬ 10 ≤ c - 48 := by omega
      have hcut : ¬ 1844674407370955162 ≤ a := by omega
      have hlt1 : ¬ a * 10 + (c - 48) < a * 10 := by omega
      have hmx : ¬ 18446744073709551615 < a * 10 + (c - 48) := by omega
      clear hsn hp hdg HB HD ha hlt
      go_wp2_with fail
      go_round
      case rel => exact ⟨k + 1, a * 10 + (c - 48), rfl, rfl, by go_num, by omega, HN⟩
      case measure => simp [intOf]; omega
    · obtain rfl : k = t.length := by omega
      have HE := Lib.hid (show a = (numV t : Int) by rw [ha, List.take_length])
      clear ha hlt HB HD
      go_wp2_with fail
      go_ret2
      exact ⟨by rw [HE.out]; rfl, HW.out⟩
theorem numV_small {t : List UInt8} (hl : t.length ≤ 13) (hd : ∀ c ∈ t, dgC c = true) : numV t < 10000000000000 := by
  have h := numV_ltP t.length t rfl hd
  have hp : 10 ^ t.length ≤ 10 ^ 13 := Nat.pow_le_pow_right (by decide) hl
  omega
set_option maxRecDepth 100000 in
set_option maxHeartbeats 8000000 in
theorem parseInt_in (t : List UInt8) (hne : t ≠ []) (hl : t.length ≤ 13) (hd : ∀ c ∈ t, dgC c = true) (W : World) :
    Calls Tryz.prog 175 #[.string (bs t), .int .i64 10, .int .i64 64] W fun e W' => e = .returned (.tuple #[.int .i64 (numV t), .nilIface]) ∧ Below W.heap.size W W' := by
  have c := parseUint_any t hne hl hd W
  have hs := numV_small hl hd
  have e0 : ((bs t).toList == []) = false := by rw [bs_toList]; simpa using hne
  have hz : (bs t).size = t.length := by simp [bs, ByteArray.size]
  have h0 : 0 < (bs t).size := by rw [hz]; exact List.length_pos_iff.2 hne
  have hx : dgC (bs t)[0] = true := hd _ (by
    show (bs t).data[0] ∈ t
    simp [bs])
  simp [dgC, digB] at hx
  have e43 : (((bs t)[0].toNat : Int) == 43) = false := by simp; omega
  have e45 : (((bs t)[0].toNat : Int) == 45) = false := by simp; omega
  generalize bs t = st at *
  obtain ⟨n, hn⟩ : ∃ n : Int, n = (numV t : Int) := ⟨_, rfl⟩
  have n0 : 0 ≤ n := by omega
  have n1 : n < 10000000000000 := by omega
  rw [← hn] at c ⊢
  have hw : IntKind.i64.wrap n = n := IntWalk.i64_in _ (by omega)
  have hcut : ¬ 9223372036854775808 ≤ n := by omega
  clear hn hs
  clear hd hx hl hne hz
  go_enter Tryz.func175, Tryz.ntmps175
  go_wp2_with fail
  refine c.mono ?_
  rintro e w1 ⟨rfl, b1⟩
  have B1 := Lib.hid b1
  clear b1 c
  go_wp2_with fail
  go_ret2
  exact ⟨rfl, B1.out⟩
set_option maxRecDepth 100000 in
set_option maxHeartbeats 8000000 in
theorem parseInt_any (t : List UInt8) (hne : t ≠ []) (hl : t.length ≤ 13) (hd : ∀ c ∈ t, dgC c = true) (W : World) :
    Calls Tryz.prog 172 #[.string (bs t), .int .i64 10, .int .i64 64] W fun e W' => e = .returned (.tuple #[.int .i64 (numV t), .nilIface]) ∧ Below W.heap.size W W' := by
  have c := parseInt_in t hne hl hd W
  generalize bs t = st at *
  clear hne hl hd
  go_enter Tryz.func172, Tryz.ntmps172
  go_wp2_with fail
  refine c.mono ?_
  rintro e w1 ⟨rfl, b1⟩
  have B1 := Lib.hid b1
  clear b1 c
  go_wp2_with fail
  go_ret2
  exact ⟨rfl, B1.out⟩
end Go.Proofs.YtgkjcimgghflmaaGreatDoor
namespace Go.Proofs.YtgkjcimgghflmaaGreatDoor
open Go.RowKit Go.Shelf
attribute [local go_sem] Oper.semAt_some
theorem let_dig {c : Int} (h : letB c = true) : digB c = false := by
  unfold letB at h; unfold digB
  have h := of_decide_eq_true h
  exact decide_eq_false (by omega)
theorem kd_isNum (s : ByteArray) (a : Nat) : (kd s a == 2) = isNum (T s a) := by
  by_cases hlt : a < s.size
  · cases hl : letB s[a].toNat
    case true =>
      rw [kd_name hlt hl, T_name hlt hl, drop_cons s a hlt, List.takeWhile_cons_of_pos (by unfold nmC okC; rw [hl]; rfl)]
      show false = digB s[a].toNat
      exact (let_dig hl).symm
    cases hd : digB s[a].toNat
    case true =>
      rw [kd_num hlt hl hd, T_num hlt hl hd, drop_cons s a hlt, List.takeWhile_cons_of_pos (by unfold dgC; exact hd)]
      exact hd.symm
    rw [kd_sign hlt hl hd, T_sign hlt hl hd]
    unfold sgnAt
    cases hf : signL.find? fun t => t.isPrefixOf ((lst s).drop a) with
    | none => rfl
    | some t =>
      have hm := List.mem_of_find?_eq_some hf
      have : ∀ t ∈ signL, isNum t = false := by decide
      exact (this t hm).symm
  · rw [T_end (by omega)]
    unfold kd
    rw [dif_neg hlt]; rfl
theorem tw_all {q : UInt8 → Bool} : ∀ {l : List UInt8} {c : UInt8}, c ∈ l.takeWhile q → q c = true
  | [], c, h => by simp at h
  | x :: l, c, h => by
    cases hx : q x
    case false => rw [List.takeWhile_cons_of_neg (by rw [hx]; decide)] at h; cases h
    case true =>
      rw [List.takeWhile_cons_of_pos hx] at h
      rcases List.mem_cons.1 h with rfl | h
      · exact hx
      · exact tw_all h
theorem num_all {s : ByteArray} {a : Nat} (h : isNum (T s a) = true) : ∀ c ∈ T s a, dgC c = true := by
  rw [← kd_isNum] at h
  by_cases hlt : a < s.size
  · cases hl : letB s[a].toNat
    case true => rw [kd_name hlt hl] at h; cases h
    cases hd : digB s[a].toNat
    case true =>
      rw [T_num hlt hl hd]
      exact fun c hc => tw_all hc
    rw [kd_sign hlt hl hd] at h; cases h
  · unfold kd at h; rw [dif_neg hlt] at h; cases h
set_option maxRecDepth 100000 in
set_option maxHeartbeats 4000000 in
theorem number_longP (p : Nat) (s : ByteArray) (a : Nat) (o : Option Int) (W : World) (h : Sca W p s a o) (hT : SigTab W) (hs : s.size ≤ 9223372036854775000) (hl : 13 < (T s a).length) :
    Calls Tryz.prog 163 #[.pointer (some ⟨p, 0, none⟩)] W fun e W' => Faults a 20 e ∧ Fr p W W' := by
  have ct := ptake_any p s a o W h hs hT
  have hz : (bs (T s a)).size = (T s a).length := by simp [bs, ByteArray.size]
  have hl' : (13 : Int) < ((bs (T s a)).size : Int) := by rw [hz]; omega
  clear h hT hz hl
  go_enter Tryz.func163, Tryz.ntmps163
  go_wp2_with fail
  refine ct.mono ?_
  rintro e w2 ⟨rfl, _, f2⟩
  have F2 := Lib.hid f2
  clear ct f2
  go_wp2_with fail
  refine (refuse_any _ _ _ _).mono ?_
  rintro e w3 ⟨rfl, b3⟩
  have F3 := Lib.hid ((F2.out.trans (Fr.of ((Below.refl w2.heap.size w2).alloc (Nat.le_refl _) (.cells #[.int .i64 (kd s a), .int .i64 a, .string (bs (T s a))] 41)))).trans (Fr.of b3))
  clear b3
  go_wp2_with fail
  exact ⟨rfl, rfl, F3.out⟩
set_option maxRecDepth 100000 in
set_option maxHeartbeats 4000000 in
theorem number_bigP (p : Nat) (s : ByteArray) (a : Nat) (o : Option Int) (W : World) (h : Sca W p s a o) (hT : SigTab W) (hs : s.size ≤ 9223372036854775000) (hn : isNum (T s a) = true) (hl : ¬ 13 < (T s a).length) (hb : 1000000000000 < numV (T s a)) :
    Calls Tryz.prog 163 #[.pointer (some ⟨p, 0, none⟩)] W fun e W' => Faults a 20 e ∧ Fr p W W' := by
  have ct := ptake_any p s a o W h hs hT
  have hz : (bs (T s a)).size = (T s a).length := by simp [bs, ByteArray.size]
  have hl' : ¬ (13 : Int) < ((bs (T s a)).size : Int) := by rw [hz]; omega
  have cp := Lib.hid (fun (W' : World) => parseInt_any (T s a) (isNum_ne hn) (by omega) (num_all hn) W')
  obtain ⟨n, hn'⟩ : ∃ n : Int, n = (numV (T s a) : Int) := ⟨_, rfl⟩
  rw [← hn'] at cp
  have hb' : 1000000000000 < n := by omega
  clear h hT hz hl hb hn'
  go_enter Tryz.func163, Tryz.ntmps163
  go_wp2_with fail
  refine ct.mono ?_
  rintro e w2 ⟨rfl, _, f2⟩
  have hB := (Below.refl w2.heap.size w2).alloc (Nat.le_refl _) (.cells #[.int .i64 (kd s a), .int .i64 a, .string (bs (T s a))] 41)
  have F2 := Lib.hid (f2.trans (Fr.of hB))
  have TT := Lib.hid (World.alloc_heap_new w2 (.cells #[.int .i64 (kd s a), .int .i64 a, .string (bs (T s a))] 41))
  clear ct f2 hB
  go_upto_region 2 with fail
  generalize w2.alloc (.cells #[.int .i64 (kd s a), .int .i64 a, .string (bs (T s a))] 41) = w3 at *
  generalize w2.heap.size = tb at *
  obtain ⟨t0, t1, t2, _, _, _⟩ := boxT_facts TT.out
  go_wp2_with fail
  refine (cp.out _).mono ?_
  rintro e w4 ⟨rfl, b4⟩
  have F4 := Lib.hid (F2.out.trans (Fr.of b4))
  obtain ⟨t0, t1, t2, _, _, _⟩ := boxT_facts ((b4.block _ (Array.getElem?_eq_some_iff.1 TT.out).1).trans TT.out)
  clear b4 cp
  go_wp2_with fail
  refine (refuse_any _ _ _ _).mono ?_
  rintro e w5 ⟨rfl, b5⟩
  have F5 := Lib.hid (F4.out.trans (Fr.of b5))
  clear b5
  go_wp2_with fail
  exact ⟨rfl, rfl, F5.out⟩
set_option maxRecDepth 100000 in
set_option maxHeartbeats 4000000 in
theorem number_okP (p : Nat) (s : ByteArray) (a : Nat) (o : Option Int) (W : World) (h : Sca W p s a o) (hT : SigTab W) (hs : s.size ≤ 9223372036854775000) (hn : isNum (T s a) = true) (hl : ¬ 13 < (T s a).length) (hb : ¬ 1000000000000 < numV (T s a)) :
    Calls Tryz.prog 163 #[.pointer (some ⟨p, 0, none⟩)] W fun e W' => e = .returned (.int .i64 (numV (T s a))) ∧ Sca W' p s (nxt s a) o ∧ Fr p W W' := by
  have ct := ptake_any p s a o W h hs hT
  have hz : (bs (T s a)).size = (T s a).length := by simp [bs, ByteArray.size]
  have hl' : ¬ (13 : Int) < ((bs (T s a)).size : Int) := by rw [hz]; omega
  have cp := Lib.hid (fun (W' : World) => parseInt_any (T s a) (isNum_ne hn) (by omega) (num_all hn) W')
  obtain ⟨n, hn'⟩ : ∃ n : Int, n = (numV (T s a) : Int) := ⟨_, rfl⟩
  rw [← hn'] at cp ⊢
  have hb' : ¬ 1000000000000 < n := by omega
  clear h hT hz hl hb hn'
  go_enter Tryz.func163, Tryz.ntmps163
  go_wp2_with fail
  refine ct.mono ?_
  rintro e w2 ⟨rfl, s2, f2⟩
  have hB := (Below.refl w2.heap.size w2).alloc (Nat.le_refl _) (.cells #[.int .i64 (kd s a), .int .i64 a, .string (bs (T s a))] 41)
  have F2 := Lib.hid (f2.trans (Fr.of hB))
  have S2 := Lib.hid (s2.later hB)
  have TT := Lib.hid (World.alloc_heap_new w2 (.cells #[.int .i64 (kd s a), .int .i64 a, .string (bs (T s a))] 41))
  clear ct f2 hB s2
  go_upto_region 2 with fail
  generalize w2.alloc (.cells #[.int .i64 (kd s a), .int .i64 a, .string (bs (T s a))] 41) = w3 at *
  generalize w2.heap.size = tb at *
  obtain ⟨t0, t1, t2, _, _, _⟩ := boxT_facts TT.out
  go_wp2_with fail
  refine (cp.out _).mono ?_
  rintro e w4 ⟨rfl, b4⟩
  have F4 := Lib.hid (F2.out.trans (Fr.of b4))
  have S4 := Lib.hid (S2.out.later b4)
  clear b4 cp
  go_wp2_with fail
  go_ret
  exact ⟨rfl, S4.out, F4.out⟩
set_option maxRecDepth 100000 in
set_option maxHeartbeats 4000000 in
theorem plainNumber_any (p : Nat) (s : ByteArray) (a : Nat) (o : Option Int) (W : World) (h : Sca W p s a o) (hT : SigTab W) (hs : s.size ≤ 9223372036854775000) :
    Calls Tryz.prog 167 #[.pointer (some ⟨p, 0, none⟩)] W fun e W' => e = .returned (.bool (isNum (T s a) && decide (T s (nxt s a) ≠ [42]))) ∧ Below W.heap.size W W' := by
  obtain ⟨at', k, na, nt, rdy, h1, h2, h3⟩ := h
  obtain ⟨c0, c1, c2, c3, c4, c5, _, _, _, _, _⟩ := h1.cells
  have hB := (Below.refl W.heap.size W).alloc (Nat.le_refl _) (.cells #[.string s, .int .i64 at', .int .i64 k, .int .i64 na, .string nt, .bool rdy] 43)
  have HB := Lib.hid hB
  have HS := Lib.hid (show Sca (W.alloc (.cells #[.string s, .int .i64 at', .int .i64 k, .int .i64 na, .string nt, .bool rdy] 43)) W.heap.size s a none from ⟨at', k, na, nt, rdy, World.alloc_heap_new W _, h2, h3⟩)
  have HT := Lib.hid (hT.later hB)
  have ha := h2
  clear h1 h2 h3 hT hB
  have q2 := tok_f2
  have hk2 := kd_isNum s a
  go_enter Tryz.func167, Tryz.ntmps167
  go_upto_region 2 with fail
  have hsz : W.heap.size < (W.alloc (.cells #[.string s, .int .i64 at', .int .i64 k, .int .i64 na, .string nt, .bool rdy] 43)).heap.size := by simp
  generalize W.alloc (.cells #[.string s, .int .i64 at', .int .i64 k, .int .i64 na, .string nt, .bool rdy] 43) = w1 at *
  clear c0 c1 c2 c3 c4 c5
  have ct := ptake_any W.heap.size s a none w1 HS.out hs HT.out
  go_wp2_with fail
  refine ct.mono ?_
  rintro e w2 ⟨rfl, s2, f2⟩
  have hB := (Below.refl w2.heap.size w2).alloc (Nat.le_refl _) (.cells #[.int .i64 (kd s a), .int .i64 a, .string (bs (T s a))] 41)
  have B2 := HB.out.trans (f2.below (B := W.heap.size) (Nat.le_refl _) (Nat.le_of_lt hsz))
  have B3 := Lib.hid (B2.trans (hB.mono B2.size))
  have S3 := Lib.hid (s2.later hB)
  have T3 := Lib.hid ((HT.out.fr' f2 (HS.out.noSig HT.out)).later hB)
  have TT := Lib.hid (World.alloc_heap_new w2 (.cells #[.int .i64 (kd s a), .int .i64 a, .string (bs (T s a))] 41))
  clear ct s2 f2 hB B2 HB HS HT hsz
  go_upto_region 3 with fail
  · generalize w2.alloc (.cells #[.int .i64 (kd s a), .int .i64 a, .string (bs (T s a))] 41) = w3 at *
    generalize w2.heap.size = tb at *
    obtain ⟨t0, t1, t2, _, _, _⟩ := boxT_facts TT.out
    cases hi : isNum (T s a)
    case false =>
      rw [hi] at hk2
      have hv := Lib.hid (show (isNum (T s a) && decide (T s (nxt s a) ≠ [42])) = false by rw [hi]; rfl)
      clear hi S3 T3
      go_wp2_with fail
      go_ret
      exact ⟨by rw [hv.out]; rfl, B3.out⟩
    case true =>
      rw [hi] at hk2
      have cp := peek_any W.heap.size s (nxt s a) none w3 S3.out hs T3.out
      by_cases hst : T s (nxt s a) = [42]
      · have hv := Lib.hid (show (isNum (T s a) && decide (T s (nxt s a) ≠ [42])) = false by rw [hi, hst]; rfl)
        have e1 : ((bs (T s (nxt s a))).toList == [42]) = true := by rw [bs_toList]; simpa using hst
        have e2 : ((bs (T s (nxt s a))).toList != [42]) = false := by rw [bne, e1]; rfl
        clear hi hst
        go_wp2_with fail
        refine cp.mono ?_
        rintro e w4 ⟨rfl, _, f4⟩
        have B4 := Lib.hid (B3.out.trans (f4.below (B := W.heap.size) (Nat.le_refl _) B3.out.size))
        clear cp f4
        go_wp2_with fail
        go_ret
        exact ⟨by rw [hv.out]; rfl, B4.out⟩
      · have hv := Lib.hid (show (isNum (T s a) && decide (T s (nxt s a) ≠ [42])) = true by rw [hi]; simpa using hst)
        have e1 : ((bs (T s (nxt s a))).toList == [42]) = false := by rw [bs_toList]; simpa using hst
        have e2 : ((bs (T s (nxt s a))).toList != [42]) = true := by rw [bne, e1]; rfl
        clear hi hst
        go_wp2_with fail
        refine cp.mono ?_
        rintro e w4 ⟨rfl, _, f4⟩
        have B4 := Lib.hid (B3.out.trans (f4.below (B := W.heap.size) (Nat.le_refl _) B3.out.size))
        clear cp f4
        go_wp2_with fail
        go_ret
        exact ⟨by rw [hv.out]; rfl, B4.out⟩
end Go.Proofs.YtgkjcimgghflmaaGreatDoor
namespace Go.Proofs.YtgkjcimgghflmaaGreatDoor
open Go.RowKit Go.Shelf
attribute [local go_sem] Oper.semAt_some
theorem rob_nil (n0 : Nat) (w : World) : Rob n0 w none none 0 [] := fun W _ => .mk none 0 [] (by simp) 0 0 (fun _ => none) (fun _ => 0) (fun h => by simp at h) (fun i h => by simp at h) (fun i h => by simp at h) (fun i h => by simp at h)
theorem fine_numP {op n : Int} {ks : List Nd} (h : (Lit.int .i64 op).wf = true) (h1 : -9223372036854775808 ≤ n) (h2 : n ≤ 9223372036854775807) : Fine (.mk op 0 noNm n ks) :=
  ⟨by show (ByteArray.mk #[]).size ≤ maxLen; decide, h, by show (Lit.int .i64 0).wf = true; decide, by
    show (Lit.int .i64 n).wf = true
    have e1 : IntKind.i64.min = -9223372036854775808 := by decide
    have e2 : IntKind.i64.max = 9223372036854775807 := by decide
    simp [Lit.wf, e1, e2]
    omega⟩
set_option maxRecDepth 100000 in
set_option maxHeartbeats 4000000 in
theorem minus_numP (p : Nat) (s : ByteArray) (a o : Nat) (W : World) (h : Sca W p s a (some o)) (hE : Env W p) (hs : s.size ≤ 9223372036854775000) (hn : isNum (T s a) = true) (hst : T s (nxt s a) ≠ [42]) :
    Calls Tryz.prog 161 #[.pointer (some ⟨p, 0, none⟩)] W (Ans p s o W (number s a fun n a2 => .ok (intN (-n)) a2)) := by
  have X1 := Lib.hid (CX.start h.lt)
  have S1 := Lib.hid (h.alloc (.cells zero5 27))
  have E1 := Lib.hid (hE.alloc (.cells zero5 27))
  have cpl := plainNumber_any p s a (some o) _ S1.out E1.out.sig hs
  have hv : (isNum (T s a) && decide (T s (nxt s a) ≠ [42])) = true := by rw [hn]; simpa using hst
  rw [hv] at cpl
  unfold number
  by_cases hl : 13 < (T s a).length
  · rw [if_pos hl]
    have HC := Lib.hid (fun (W' : World) (s' : Sca W' p s a (some o)) (e' : Env W' p) => number_longP p s a (some o) W' s' e'.sig hs hl)
    clear h hE hv hst hn hl
    go_enter Tryz.func161, Tryz.ntmps161
    go_upto_region 1 with fail
    generalize W.alloc (.cells zero5 27) = w1 at *
    go_wp2_with fail
    refine cpl.mono ?_
    rintro e w2 ⟨rfl, b2⟩
    have F2 := Lib.hid (X1.out.fr.trans (Fr.of b2))
    have c := HC.out w2 (S1.out.later b2) (E1.out.later b2)
    clear b2 cpl HC
    go_wp2_with fail
    refine c.mono ?_
    rintro e w3 ⟨rfl, f3⟩
    have F3 := Lib.hid (F2.out.trans f3)
    clear c f3
    go_wp2_with fail
    exact ⟨rfl, rfl, F3.out⟩
  rw [if_neg hl]
  by_cases hb : 1000000000000 < numV (T s a)
  · rw [if_pos hb]
    have HC := Lib.hid (fun (W' : World) (s' : Sca W' p s a (some o)) (e' : Env W' p) => number_bigP p s a (some o) W' s' e'.sig hs hn hl hb)
    clear h hE hv hst hn hl hb
    go_enter Tryz.func161, Tryz.ntmps161
    go_upto_region 1 with fail
    generalize W.alloc (.cells zero5 27) = w1 at *
    go_wp2_with fail
    refine cpl.mono ?_
    rintro e w2 ⟨rfl, b2⟩
    have F2 := Lib.hid (X1.out.fr.trans (Fr.of b2))
    have c := HC.out w2 (S1.out.later b2) (E1.out.later b2)
    clear b2 cpl HC
    go_wp2_with fail
    refine c.mono ?_
    rintro e w3 ⟨rfl, f3⟩
    have F3 := Lib.hid (F2.out.trans f3)
    clear c f3
    go_wp2_with fail
    exact ⟨rfl, rfl, F3.out⟩
  · rw [if_neg hb]
    have HC := Lib.hid (fun (W' : World) (s' : Sca W' p s a (some o)) (e' : Env W' p) => number_okP p s a (some o) W' s' e'.sig hs hn hl hb)
    obtain ⟨n, hn'⟩ : ∃ n : Int, n = (numV (T s a) : Int) := ⟨_, rfl⟩
    show Calls Tryz.prog 161 _ W (Ans p s o W (.ok (intN (-(numV (T s a) : Int))) (nxt s a)))
    rw [← hn'] at HC ⊢
    have hw : IntKind.i64.wrap (-n) = -n := IntWalk.i64_in _ (by omega)
    have hf := Lib.hid (fine_numP (op := 2) (n := -n) (ks := []) (by decide) (by omega) (by omega))
    clear h hE hv hst hn hl hb hn'
    go_enter Tryz.func161, Tryz.ntmps161
    go_upto_region 1 with fail
    generalize W.alloc (.cells zero5 27) = w1 at *
    go_wp2_with fail
    refine cpl.mono ?_
    rintro e w2 ⟨rfl, b2⟩
    have X2 := Lib.hid (X1.out.step (Fr.of b2))
    have c := HC.out w2 (S1.out.later b2) (E1.out.later b2)
    clear b2 cpl HC X1 S1 E1
    go_wp2_with fail
    refine c.mono ?_
    rintro e w3 ⟨rfl, s3, f3⟩
    have X3 := Lib.hid (X2.out.step f3)
    have S3 := Lib.hid s3
    clear c f3 s3 X2
    obtain ⟨z0, z1, z2, z3, z4, f0, f1, f2, f3, f4⟩ := box_facts X3.out.box
    go_wp2_with fail
    exact pass_ret (t := intN (-n)) (A := none) (cap := 0) X3.out (rob_nil _ _) hf.out S3.out Tryz.results161 _ rfl rfl
set_option maxRecDepth 100000 in
set_option maxHeartbeats 4000000 in
theorem minus_negP (p : Nat) (s : ByteArray) (a o : Nat) (r : PR) (W : World) (h : Sca W p s a (some o)) (hE : Env W p) (hs : s.size ≤ 9223372036854775000) (ho : o ≤ 90) (hn : ¬ (isNum (T s a) = true ∧ T s (nxt s a) ≠ [42]))
    (c : ¬ 90 < o + 1 → ∀ W', Sca W' p s a (some (o + 1 : Nat)) → Env W' p → Calls Tryz.prog 156 #[.pointer (some ⟨p, 0, none⟩)] W' (Ans p s (o + 1) W' r)) :
    Calls Tryz.prog 161 #[.pointer (some ⟨p, 0, none⟩)] W (Ans p s o W (opn (o + 1) (r.bind fun k a2 => .ok (oneN 6 k) a2))) := by
  have X1 := Lib.hid (CX.start h.lt)
  have S1 := Lib.hid (h.alloc (.cells zero5 27))
  have E1 := Lib.hid (hE.alloc (.cells zero5 27))
  have cpl := plainNumber_any p s a (some o) _ S1.out E1.out.sig hs
  have hv : (isNum (T s a) && decide (T s (nxt s a) ≠ [42])) = false := by
    cases h1 : isNum (T s a)
    · rfl
    · by_cases h2 : T s (nxt s a) = [42]
      · rw [h2]; rfl
      · exact absurd ⟨h1, h2⟩ hn
  rw [hv] at cpl
  have HI := Lib.hid (fun (w2 : World) (h2 : Sca w2 p s a (some o)) (e2 : Env w2 p) => inside_any 156 ent156 p s _ o r w2 h2 e2 ho c)
  have hm := hmf
  rw [← opn_bind]
  generalize opn (o + 1) r = r3 at *
  clear h hE c hn hv
  go_enter Tryz.func161, Tryz.ntmps161
  go_upto_region 1 with fail
  generalize W.alloc (.cells zero5 27) = w1 at *
  go_wp2_with fail
  refine cpl.mono ?_
  rintro e w2 ⟨rfl, b2⟩
  have X2 := Lib.hid (X1.out.step (Fr.of b2))
  have ci := HI.out w2 (S1.out.later b2) (E1.out.later b2)
  clear cpl b2 X1 S1 E1 HI
  go_wp2_with fail
  refine ci.mono ?_
  cases r3 with
  | out => exact fun _ _ h => h.elim
  | err er wh =>
    rintro e w3 ⟨rfl, f3⟩
    have F3 := Lib.hid (X2.out.fr.trans f3)
    clear f3 ci
    go_wp2_with fail
    exact ⟨rfl, rfl, F3.out⟩
  | ok t a1 =>
    rintro e w3 ⟨A, cap, rfl, hr, hf, hfr, hs3⟩
    have hB := (Below.refl w3.heap.size w3).alloc (Nat.le_refl _) (boxN t A cap)
    have N3 := Lib.hid (NB.start X2.out hr hf hfr)
    have X3 := Lib.hid ((X2.out.step hfr).step (Fr.of hB))
    have S3 := Lib.hid (hs3.later hB)
    clear hr hf hfr hs3 hB ci X2
    go_upto_region 4 with fail
    · generalize w3.alloc (boxN t A cap) = w4 at *
      generalize w3.heap.size = b at *
      obtain ⟨l0, l1, l2, l3, l4, _, _, _, _, _⟩ := box_facts N3.out.box
      go_wp2_with fail
      refine (node_any _ _ (some ⟨w4.heap.size, 0, none⟩) 1 1 _ rfl).mono ?_
      rintro e w5 ⟨rfl, b5⟩
      have hB := (Below.refl w4.heap.size w4).alloc (Nat.le_refl _) (boxN t A cap)
      have R5 := Lib.hid (N3.out.one X3.out b5)
      have X5 := Lib.hid ((X3.out.step (Fr.of hB)).step (Fr.of b5))
      have S5 := Lib.hid ((S3.out.later hB).later b5)
      clear hB b5 N3 X3 S3 l0 l1 l2 l3 l4
      generalize w4.heap.size = g at *
      obtain ⟨z0, z1, z2, z3, z4, f0, f1, f2, f3, f4⟩ := box_facts X5.out.box
      go_wp2_with fail
      exact pass_ret (t := oneN 6 t) X5.out R5.out (fine_op (by decide)) S5.out Tryz.results161 _ rfl rfl
set_option maxRecDepth 100000 in
set_option maxHeartbeats 4000000 in
theorem una_minusP (p : Nat) (s : ByteArray) (a o : Nat) (R : PR) (W : World) (h : Sca W p s a (some o)) (hE : Env W p) (hs : s.size ≤ 9223372036854775000) (ht : T s a = [45])
    (c : ∀ W', Sca W' p s (nxt s a) (some o) → Env W' p → Calls Tryz.prog 161 #[.pointer (some ⟨p, 0, none⟩)] W' (Ans p s o W' R)) :
    Calls Tryz.prog 156 #[.pointer (some ⟨p, 0, none⟩)] W (Ans p s o W R) := by
  have X1 := Lib.hid (CX.start h.lt)
  have S1 := Lib.hid (h.alloc (.cells zero5 27))
  have E1 := Lib.hid (hE.alloc (.cells zero5 27))
  have HC := Lib.hid c
  have ct := paccept_yes [45] p s a (some o) _ S1.out hs E1.out.sig ht
  have ec : bs [45] = ⟨#[45]⟩ := rfl
  rw [ec] at ct
  clear h hE c ht ec
  go_enter Tryz.func156, Tryz.ntmps156
  go_upto_region 1 with fail
  generalize W.alloc (.cells zero5 27) = w1 at *
  go_wp2_with fail
  refine ct.mono ?_
  rintro e w2 ⟨rfl, h2, f2⟩
  have X2 := Lib.hid (X1.out.step f2)
  have c := HC.out w2 h2 (E1.out.fr f2)
  clear ct h2 f2 X1 S1 E1 HC
  go_wp2_with fail
  refine c.mono ?_
  clear c
  cases R with
  | out => exact fun _ _ h => h.elim
  | err er wh =>
    rintro e w3 ⟨rfl, f3⟩
    have F3 := Lib.hid (X2.out.fr.trans f3)
    clear f3
    go_wp2_with fail
    exact ⟨rfl, rfl, F3.out⟩
  | ok t a1 =>
    rintro e w3 ⟨A, cap, rfl, hr, hf, hfr, hs3⟩
    have X3 := Lib.hid (X2.out.step hfr)
    have HR := Lib.hid (hr.lower (n0 := W.heap.size + 1) (Nat.succ_le_of_lt X2.out.lt))
    have HF := Lib.hid hf
    have S3 := Lib.hid hs3
    clear hr hf hfr hs3 X2
    obtain ⟨z0, z1, z2, z3, z4, f0, f1, f2, f3, f4⟩ := box_facts X3.out.box
    go_wp2_with fail
    exact pass_ret X3.out HR.out HF.out S3.out Tryz.results156 _ rfl rfl
set_option maxRecDepth 100000 in
set_option maxHeartbeats 4000000 in
theorem una_primP (p : Nat) (s : ByteArray) (a o : Nat) (R : PR) (W : World) (h : Sca W p s a (some o)) (hE : Env W p) (hs : s.size ≤ 9223372036854775000) (ht : T s a ≠ [45]) (hn : isNum (T s a) = false)
    (c : ∀ W', Sca W' p s a (some o) → Env W' p → Calls Tryz.prog 162 #[.pointer (some ⟨p, 0, none⟩)] W' (Ans p s o W' R)) :
    Calls Tryz.prog 156 #[.pointer (some ⟨p, 0, none⟩)] W (Ans p s o W R) := by
  have X1 := Lib.hid (CX.start h.lt)
  have S1 := Lib.hid (h.alloc (.cells zero5 27))
  have E1 := Lib.hid (hE.alloc (.cells zero5 27))
  have HC := Lib.hid c
  have ct := paccept_no [45] p s a (some o) _ S1.out hs E1.out.sig ht
  have ec : bs [45] = ⟨#[45]⟩ := rfl
  rw [ec] at ct
  have q0 := tok_f0
  have hk := kd_isNum s a
  rw [hn] at hk
  have hk' : (kd s a != 2) = true := by rw [bne, hk]; rfl
  have ha := h.le
  clear h hE c ht ec hn
  go_enter Tryz.func156, Tryz.ntmps156
  go_upto_region 1 with fail
  generalize W.alloc (.cells zero5 27) = w1 at *
  go_wp2_with fail
  refine ct.mono ?_
  rintro e w2 ⟨rfl, h2, f2⟩
  have X2 := Lib.hid (X1.out.step f2)
  have E2 := Lib.hid (E1.out.fr f2)
  have cp := peek_any p s a (some o) w2 h2 hs E2.out.sig
  clear ct h2 f2 X1 S1 E1
  go_wp2_with fail
  refine cp.mono ?_
  rintro e w4 ⟨rfl, h4, f4⟩
  have X4 := Lib.hid (X2.out.step f4)
  have c := HC.out w4 (Rdy.sca h4 ha) (E2.out.fr f4)
  clear cp h4 f4 X2 E2 HC
  go_wp2_with fail
  refine c.mono ?_
  clear c
  cases R with
  | out => exact fun _ _ h => h.elim
  | err er wh =>
    rintro e w3 ⟨rfl, f3⟩
    have F3 := Lib.hid (X4.out.fr.trans f3)
    clear f3
    go_wp2_with fail
    exact ⟨rfl, rfl, F3.out⟩
  | ok t a1 =>
    rintro e w3 ⟨A, cap, rfl, hr, hf, hfr, hs3⟩
    have X3 := Lib.hid (X4.out.step hfr)
    have HR := Lib.hid (hr.lower (n0 := W.heap.size + 1) (Nat.succ_le_of_lt X4.out.lt))
    have HF := Lib.hid hf
    have S3 := Lib.hid hs3
    clear hr hf hfr hs3 X4
    obtain ⟨z0, z1, z2, z3, z4, f0, f1, f2, f3, f4⟩ := box_facts X3.out.box
    go_wp2_with fail
    exact pass_ret X3.out HR.out HF.out S3.out Tryz.results156 _ rfl rfl
set_option maxRecDepth 100000 in
set_option maxHeartbeats 4000000 in
/-- unary at a number that is refused. -/
theorem una_badP (p : Nat) (s : ByteArray) (a o : Nat) (W : World) (h : Sca W p s a (some o)) (hE : Env W p) (hs : s.size ≤ 9223372036854775000) (ht : T s a ≠ [45]) (hn : isNum (T s a) = true)
    (c : ∀ W', Sca W' p s a (some o) → Env W' p → Calls Tryz.prog 163 #[.pointer (some ⟨p, 0, none⟩)] W' fun e W'' => Faults a 20 e ∧ Fr p W' W'') :
    Calls Tryz.prog 156 #[.pointer (some ⟨p, 0, none⟩)] W (Ans p s o W (.err 20 a)) := by
  have X1 := Lib.hid (CX.start h.lt)
  have S1 := Lib.hid (h.alloc (.cells zero5 27))
  have E1 := Lib.hid (hE.alloc (.cells zero5 27))
  have HC := Lib.hid c
  have ct := paccept_no [45] p s a (some o) _ S1.out hs E1.out.sig ht
  have ec : bs [45] = ⟨#[45]⟩ := rfl
  rw [ec] at ct
  have q0 := tok_f0
  have hk := kd_isNum s a
  rw [hn] at hk
  have hk' : (kd s a != 2) = false := by rw [bne, hk]; rfl
  have ha := h.le
  clear h hE c ht ec hn
  go_enter Tryz.func156, Tryz.ntmps156
  go_upto_region 1 with fail
  generalize W.alloc (.cells zero5 27) = w1 at *
  go_wp2_with fail
  refine ct.mono ?_
  rintro e w2 ⟨rfl, h2, f2⟩
  have X2 := Lib.hid (X1.out.step f2)
  have E2 := Lib.hid (E1.out.fr f2)
  have cp := peek_any p s a (some o) w2 h2 hs E2.out.sig
  clear ct h2 f2 X1 S1 E1
  go_wp2_with fail
  refine cp.mono ?_
  rintro e w4 ⟨rfl, h4, f4⟩
  have F4 := Lib.hid (X2.out.fr.trans f4)
  have c := HC.out w4 (Rdy.sca h4 ha) (E2.out.fr f4)
  clear cp h4 f4 X2 E2 HC
  go_wp2_with fail
  refine c.mono ?_
  rintro e w5 ⟨rfl, f5⟩
  have F5 := Lib.hid (F4.out.trans f5)
  clear c f5
  go_wp2_with fail
  exact ⟨rfl, rfl, F5.out⟩
set_option maxRecDepth 100000 in
set_option maxHeartbeats 4000000 in
/-- unary at a number that no star follows. -/
theorem una_intP (p : Nat) (s : ByteArray) (a o : Nat) (n : Int) (h1 : -9223372036854775808 ≤ n) (h2 : n ≤ 9223372036854775807) (W : World) (h : Sca W p s a (some o)) (hE : Env W p) (hs : s.size ≤ 9223372036854775000) (ht : T s a ≠ [45]) (hn : isNum (T s a) = true) (hst : T s (nxt s a) ≠ [42])
    (c : ∀ W', Sca W' p s a (some o) → Env W' p → Calls Tryz.prog 163 #[.pointer (some ⟨p, 0, none⟩)] W' fun e W'' => e = .returned (.int .i64 n) ∧ Sca W'' p s (nxt s a) (some o) ∧ Fr p W' W'') :
    Calls Tryz.prog 156 #[.pointer (some ⟨p, 0, none⟩)] W (Ans p s o W (.ok (intN n) (nxt s a))) := by
  have X1 := Lib.hid (CX.start h.lt)
  have S1 := Lib.hid (h.alloc (.cells zero5 27))
  have E1 := Lib.hid (hE.alloc (.cells zero5 27))
  have HC := Lib.hid c
  have ct := paccept_no [45] p s a (some o) _ S1.out hs E1.out.sig ht
  have ec : bs [45] = ⟨#[45]⟩ := rfl
  rw [ec] at ct
  have hf := Lib.hid (fine_numP (op := 2) (n := n) (ks := []) (by decide) h1 h2)
  have q0 := tok_f0
  have hk := kd_isNum s a
  rw [hn] at hk
  have hk' : (kd s a != 2) = false := by rw [bne, hk]; rfl
  have ha := h.le
  have HST := Lib.hid hst
  clear h hE c ht ec hn h1 h2 hst
  go_enter Tryz.func156, Tryz.ntmps156
  go_upto_region 1 with fail
  generalize W.alloc (.cells zero5 27) = w1 at *
  go_wp2_with fail
  refine ct.mono ?_
  rintro e w2 ⟨rfl, h2, f2⟩
  have X2 := Lib.hid (X1.out.step f2)
  have E2 := Lib.hid (E1.out.fr f2)
  have cp := peek_any p s a (some o) w2 h2 hs E2.out.sig
  clear ct h2 f2 X1 S1 E1
  go_wp2_with fail
  refine cp.mono ?_
  rintro e w4 ⟨rfl, h4, f4⟩
  have X4 := Lib.hid (X2.out.step f4)
  have E4 := Lib.hid (E2.out.fr f4)
  have c := HC.out w4 (Rdy.sca h4 ha) E4.out
  clear cp h4 f4 X2 E2 HC
  go_wp2_with fail
  refine c.mono ?_
  rintro e w5 ⟨rfl, h5, f5⟩
  have X5 := Lib.hid (X4.out.step f5)
  have cs := paccept_no [42] p s (nxt s a) (some o) w5 h5 hs (E4.out.fr f5).sig HST.out
  have ec : bs [42] = ⟨#[42]⟩ := rfl
  rw [ec] at cs
  clear c h5 f5 X4 E4 ec
  go_wp2_with fail
  refine cs.mono ?_
  rintro e w6 ⟨rfl, h6, f6⟩
  have X6 := Lib.hid (X5.out.step f6)
  have S6 := Lib.hid h6
  clear cs h6 f6 X5
  obtain ⟨z0, z1, z2, z3, z4, f0, f1, f2, f3, f4⟩ := box_facts X6.out.box
  go_wp2_with fail
  exact pass_ret (t := intN n) (A := none) (cap := 0) X6.out (rob_nil _ _) hf.out S6.out Tryz.results156 _ rfl rfl
set_option maxRecDepth 100000 in
set_option maxHeartbeats 4000000 in
/-- unary at a number with a star. -/
theorem una_scaleP (p : Nat) (s : ByteArray) (a o : Nat) (n : Int) (h1 : -9223372036854775808 ≤ n) (h2 : n ≤ 9223372036854775807) (r : PR) (W : World) (h : Sca W p s a (some o)) (hE : Env W p) (hs : s.size ≤ 9223372036854775000) (ho : o ≤ 90) (ht : T s a ≠ [45]) (hn : isNum (T s a) = true) (hst : T s (nxt s a) = [42])
    (c : ∀ W', Sca W' p s a (some o) → Env W' p → Calls Tryz.prog 163 #[.pointer (some ⟨p, 0, none⟩)] W' fun e W'' => e = .returned (.int .i64 n) ∧ Sca W'' p s (nxt s a) (some o) ∧ Fr p W' W'')
    (c2 : ¬ 90 < o + 1 → ∀ W', Sca W' p s (nxt s (nxt s a)) (some (o + 1 : Nat)) → Env W' p → Calls Tryz.prog 156 #[.pointer (some ⟨p, 0, none⟩)] W' (Ans p s (o + 1) W' r)) :
    Calls Tryz.prog 156 #[.pointer (some ⟨p, 0, none⟩)] W (Ans p s o W (opn (o + 1) (r.bind fun k a2 => .ok (.mk 7 0 noNm n [k]) a2))) := by
  have X1 := Lib.hid (CX.start h.lt)
  have S1 := Lib.hid (h.alloc (.cells zero5 27))
  have E1 := Lib.hid (hE.alloc (.cells zero5 27))
  have HC := Lib.hid c
  have ct := paccept_no [45] p s a (some o) _ S1.out hs E1.out.sig ht
  have ec : bs [45] = ⟨#[45]⟩ := rfl
  rw [ec] at ct
  have hf := Lib.hid (fun (ks : List Nd) => fine_numP (op := 7) (n := n) (ks := ks) (by decide) h1 h2)
  have q0 := tok_f0
  have hm := hmf
  have hk := kd_isNum s a
  rw [hn] at hk
  have hk' : (kd s a != 2) = false := by rw [bne, hk]; rfl
  have ha := h.le
  have HST := Lib.hid hst
  have HI := Lib.hid (fun (w2 : World) (h2 : Sca w2 p s (nxt s (nxt s a)) (some o)) (e2 : Env w2 p) => inside_any 156 ent156 p s _ o r w2 h2 e2 ho c2)
  rw [← opn_bind]
  generalize opn (o + 1) r = r3 at *
  clear h hE c c2 ht ec hn h1 h2 hst
  go_enter Tryz.func156, Tryz.ntmps156
  go_upto_region 1 with fail
  generalize W.alloc (.cells zero5 27) = w1 at *
  go_wp2_with fail
  refine ct.mono ?_
  rintro e w2 ⟨rfl, h2, f2⟩
  have X2 := Lib.hid (X1.out.step f2)
  have E2 := Lib.hid (E1.out.fr f2)
  have cp := peek_any p s a (some o) w2 h2 hs E2.out.sig
  clear ct h2 f2 X1 S1 E1
  go_wp2_with fail
  refine cp.mono ?_
  rintro e w4 ⟨rfl, h4, f4⟩
  have X4 := Lib.hid (X2.out.step f4)
  have E4 := Lib.hid (E2.out.fr f4)
  have c := HC.out w4 (Rdy.sca h4 ha) E4.out
  clear cp h4 f4 X2 E2 HC
  go_wp2_with fail
  refine c.mono ?_
  rintro e w5 ⟨rfl, h5, f5⟩
  have X5 := Lib.hid (X4.out.step f5)
  have E5 := Lib.hid (E4.out.fr f5)
  have cs := paccept_yes [42] p s (nxt s a) (some o) w5 h5 hs E5.out.sig HST.out
  have ec : bs [42] = ⟨#[42]⟩ := rfl
  rw [ec] at cs
  clear c h5 f5 X4 E4 ec
  go_wp2_with fail
  refine cs.mono ?_
  rintro e w6 ⟨rfl, h6, f6⟩
  have X6 := Lib.hid (X5.out.step f6)
  have ci := HI.out w6 h6 (E5.out.fr f6)
  clear cs h6 f6 X5 E5 HI
  go_wp2_with fail
  refine ci.mono ?_
  cases r3 with
  | out => exact fun _ _ h => h.elim
  | err er wh =>
    rintro e w3 ⟨rfl, f3⟩
    have F3 := Lib.hid (X6.out.fr.trans f3)
    clear f3 ci
    go_wp2_with fail
    exact ⟨rfl, rfl, F3.out⟩
  | ok t a1 =>
    rintro e w3 ⟨A, cap, rfl, hr, hf, hfr, hs3⟩
    have hB := (Below.refl w3.heap.size w3).alloc (Nat.le_refl _) (boxN t A cap)
    have N3 := Lib.hid (NB.start X6.out hr hf hfr)
    have X3 := Lib.hid ((X6.out.step hfr).step (Fr.of hB))
    have S3 := Lib.hid (hs3.later hB)
    clear hr hf hfr hs3 hB ci X6
    go_upto_region 9 with fail
    · generalize w3.alloc (boxN t A cap) = w4 at *
      generalize w3.heap.size = b at *
      obtain ⟨l0, l1, l2, l3, l4, _, _, _, _, _⟩ := box_facts N3.out.box
      have hB := (Below.refl w4.heap.size w4).alloc (Nat.le_refl _) (boxN t A cap)
      have R5 := Lib.hid (N3.out.one X3.out (Below.refl _ _))
      have X5 := Lib.hid (X3.out.step (Fr.of hB))
      have S5 := Lib.hid (S3.out.later hB)
      obtain ⟨z0, z1, z2, z3, z4, f0, f1, f2, f3, f4⟩ := box_facts X5.out.box
      clear hB
      go_wp2_with fail
      exact pass_ret (t := .mk 7 0 noNm n [t]) X5.out R5.out (hf.out _) S5.out Tryz.results156 _ rfl rfl
theorem una_stepP (s : ByteArray) (hs : s.size ≤ 9223372036854775000) (f : Nat) (hi : LiveP s f .prim 162) (hr : LiveP s f .una 156) : LiveP s (f + 1) .una 156 := by
  intro p o a W h hE ho hf
  rw [PA]
  have ha := h.le
  by_cases ht : T s a = [45]
  · rw [if_pos ht]
    obtain ⟨n1, n2⟩ := nxt_lt ha ht (by decide)
    refine una_minusP p s a o _ W h hE hs ht fun W' h' hE' => ?_
    by_cases hu : isNum (T s (nxt s a)) = true ∧ T s (nxt s (nxt s a)) ≠ [42]
    · rw [if_pos hu]
      exact minus_numP p s _ o W' h' hE' hs hu.1 hu.2
    · rw [if_neg hu]
      exact minus_negP p s _ o _ W' h' hE' hs ho hu fun hl W'' h'' hE'' => hr p (o + 1) _ W'' h'' hE'' (by omega) (by simp [rank] at hf ⊢; omega)
  · rw [if_neg ht]
    by_cases hn : isNum (T s a) = true
    · rw [if_pos hn]
      obtain ⟨n1, n2⟩ := nxt_lt ha rfl (isNum_ne hn)
      unfold number
      by_cases hl : 13 < (T s a).length
      · rw [if_pos hl]
        exact una_badP p s a o W h hE hs ht hn fun W' h' hE' => number_longP p s a (some o) W' h' hE'.sig hs hl
      rw [if_neg hl]
      by_cases hb : 1000000000000 < numV (T s a)
      · rw [if_pos hb]
        exact una_badP p s a o W h hE hs ht hn fun W' h' hE' => number_bigP p s a (some o) W' h' hE'.sig hs hn hl hb
      rw [if_neg hb]
      have c : ∀ W', Sca W' p s a (some o) → Env W' p → Calls Tryz.prog 163 #[.pointer (some ⟨p, 0, none⟩)] W' fun e W'' => e = .returned (.int .i64 (numV (T s a))) ∧ Sca W'' p s (nxt s a) (some o) ∧ Fr p W' W'' := fun W' h' hE' => number_okP p s a (some o) W' h' hE'.sig hs hn hl hb
      show Calls Tryz.prog 156 _ W (Ans p s o W (if T s (nxt s a) = [42] then _ else _))
      by_cases hst : T s (nxt s a) = [42]
      · rw [if_pos hst]
        obtain ⟨m1, m2⟩ := nxt_lt n2 hst (by decide)
        exact una_scaleP p s a o _ (by omega) (by omega) _ W h hE hs ho ht hn hst c fun hl W'' h'' hE'' => hr p (o + 1) _ W'' h'' hE'' (by omega) (by simp [rank] at hf ⊢; omega)
      · rw [if_neg hst]
        exact una_intP p s a o _ (by omega) (by omega) W h hE hs ht hn hst c
    · rw [if_neg hn]
      exact una_primP p s a o _ W h hE hs ht (by simpa using hn) fun W' h' hE' => hi p o a W' h' hE' ho (by simp [rank] at hf ⊢; omega)
end Go.Proofs.YtgkjcimgghflmaaGreatDoor
