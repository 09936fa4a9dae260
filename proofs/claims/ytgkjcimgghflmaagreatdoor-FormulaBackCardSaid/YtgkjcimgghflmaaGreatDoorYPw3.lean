/-
  The program's parser answers as the grammar says, whatever the phrase; conditions: the text is no longer than a string can be, and the program's tables hold what its text lays.
-/
import Derived.Test.YtgkjcimgghflmaaGreatDoorYPw0
namespace Go.Proofs.YtgkjcimgghflmaaGreatDoor
open Go.RowKit Go.Shelf
attribute [local go_sem] Oper.semAt_some
/-- What stands behind a name or a word, as the program asks. -/
def primW (s : ByteArray) (f o a : Nat) : Option Int → PR
  | some op => if wrdN op = 0 then .ok (leafN op) (nxt s a) else want s [40] (nxt s a) fun a1 => opn (o + 1) (PA s f (.word op (wrdN op).toNat []) (o + 1) a1)
  | none =>
    if nameB (bs (T s a)) = true then
      if T s (nxt s a) = [40] then
        opn (o + 1) (if T s (nxt s (nxt s a)) = [41] then .ok (.mk 3 0 (bs (T s a)) 0 []) (nxt s (nxt s (nxt s a))) else PA s f (.app (T s a) []) (o + 1) (nxt s (nxt s a)))
      else .ok (.mk 1 0 (bs (T s a)) 0 []) (nxt s a)
    else .err 20 a
theorem wordT_some {t : List UInt8} {op : Int} (h : wordT t = some op) : op ∈ wordOps ∧ wrdS op = t := by
  unfold wordT at h
  have h1 := List.mem_of_find?_eq_some h
  have h2 := List.find?_some h
  exact ⟨h1, by simpa using h2⟩
theorem wordT_none {t : List UInt8} (h : wordT t = none) : ∀ op ∈ wordOps, t ≠ wrdS op := by
  unfold wordT at h
  rw [List.find?_eq_none] at h
  intro op ho e
  exact h op ho (by simp [e])
theorem prim_eq (s : ByteArray) (f o a : Nat) : PA s (f + 1) .prim o a = if T s a = [40] then opn (o + 1) ((PA s f .form (o + 1) (nxt s a)).bind fun k a1 => want s [41] a1 fun a2 => .ok k a2) else primW s f o a (wordT (T s a)) := by
  rw [PA]
  by_cases h40 : T s a = [40]
  · rw [if_pos h40, if_pos h40]
  rw [if_neg h40, if_neg h40]
  cases hw : wordT (T s a) with
  | some op =>
    obtain ⟨h1, h2⟩ := wordT_some hw
    rw [← h2]
    simp only [wordOps, List.mem_cons, List.not_mem_nil, or_false] at h1
    rcases h1 with rfl | rfl | rfl | rfl | rfl | rfl | rfl | rfl | rfl | rfl | rfl <;> rfl
  | none =>
    have h := wordT_none hw
    have w0 : T s a ≠ [116, 114, 117, 101] := h 30 (by decide)
    have w1 : T s a ≠ [102, 97, 108, 115, 101] := h 31 (by decide)
    have w2 : T s a ≠ [101, 109, 112, 116, 121] := h 9 (by decide)
    have w3 : T s a ≠ [115, 105, 110, 103] := h 10 (by decide)
    have w4 : T s a ≠ [118, 108, 101, 110] := h 16 (by decide)
    have w5 : T s a ≠ [99, 117, 112] := h 11 (by decide)
    have w6 : T s a ≠ [99, 97, 112] := h 12 (by decide)
    have w7 : T s a ≠ [100, 105, 102, 102] := h 13 (by decide)
    have w8 : T s a ≠ [115, 101, 108] := h 14 (by decide)
    have w9 : T s a ≠ [115, 116, 111] := h 15 (by decide)
    have w10 : T s a ≠ [105, 116, 101] := h 8 (by decide)
    have hA : wordA (T s a) = none := by simp only [wordA, w3, w4, w5, w6, w7, w8, w9, w10, if_false]
    rw [if_neg w0, if_neg w1, if_neg w2, hA]
    rfl
/-- A node under another name. -/
def named (nm : ByteArray) : Nd → Nd
  | .mk op so _ nu ks => .mk op so nm nu ks
theorem app_named (s : ByteArray) (nm : List UInt8) : ∀ (f : Nat) (ks : List Nd) (o a : Nat), PA s f (.app nm ks) o a = (PA s f (.app [] ks) o a).bind fun t b => .ok (named (bs nm) t) b
  | 0, _, _, _ => rfl
  | f + 1, ks, o, a => by
    rw [PA, PA]
    by_cases h8 : ks.length = 8
    · rw [if_pos h8, if_pos h8]; rfl
    rw [if_neg h8, if_neg h8]
    cases PA s f .form o a with
    | out => rfl
    | err e w => rfl
    | ok k a1 =>
      show (if T s a1 = [44] then _ else _) = ((if T s a1 = [44] then _ else _) : PR).bind _
      by_cases h44 : T s a1 = [44]
      · rw [if_pos h44, if_pos h44]
        exact app_named s nm f (ks ++ [k]) o (nxt s a1)
      · rw [if_neg h44, if_neg h44]
        unfold want
        by_cases h41 : T s a1 = [41]
        · rw [if_pos h41, if_pos h41]; rfl
        · rw [if_neg h41, if_neg h41]; rfl
theorem ent168 : Ent 168 := fun _ _ => by simp [go_sem]
theorem ent171 : Ent 171 := fun _ _ => by simp [go_sem]
set_option maxRecDepth 100000 in
set_option maxHeartbeats 4000000 in
theorem prim_parenP (p : Nat) (s : ByteArray) (a o : Nat) (R : PR) (W : World) (h : Sca W p s a (some o)) (hE : Env W p) (hs : s.size ≤ 9223372036854775000) (ht : T s a = [40])
    (c : ∀ W', Sca W' p s (nxt s a) (some o) → Env W' p → Calls Tryz.prog 99 #[.pointer (some ⟨p, 0, none⟩), .func (.func 168) #[.pointer (some ⟨p, 0, none⟩)] #[]] W' (Ans p s o W' R)) :
    Calls Tryz.prog 162 #[.pointer (some ⟨p, 0, none⟩)] W (Ans p s o W R) := by
  have X1 := Lib.hid (CX.start h.lt)
  have S1 := Lib.hid (h.alloc (.cells zero5 27))
  have E1 := Lib.hid (hE.alloc (.cells zero5 27))
  have ct := ptake_any p s a (some o) _ S1.out hs E1.out.sig
  have h40 : ((bs (T s a)).toList == [40]) = true := by rw [bs_toList, ht]; rfl
  have HC := Lib.hid c
  have hm := hmf
  clear h hE ht c
  go_enter Tryz.func162, Tryz.ntmps162
  go_upto_region 1 with fail
  generalize W.alloc (.cells zero5 27) = w1 at *
  go_wp2_with fail
  refine ct.mono ?_
  rintro e w2 ⟨rfl, s2, f2⟩
  have hB := (Below.refl w2.heap.size w2).alloc (Nat.le_refl _) (.cells #[.int .i64 (kd s a), .int .i64 a, .string (bs (T s a))] 41)
  have X3 := Lib.hid ((X1.out.step f2).step (Fr.of hB))
  have S3 := Lib.hid (s2.later hB)
  have E3 := Lib.hid ((E1.out.fr f2).later hB)
  have TT := Lib.hid (World.alloc_heap_new w2 (.cells #[.int .i64 (kd s a), .int .i64 a, .string (bs (T s a))] 41))
  have htb := Lib.hid (show w2.heap.size ≠ p from by have h1 := X1.out.px; have h2 := (X1.out.step f2).lt; exact Nat.ne_of_gt (Nat.lt_trans h1 h2))
  clear ct f2 hB s2 X1 S1 E1
  go_upto_region 2 with fail
  generalize w2.alloc (.cells #[.int .i64 (kd s a), .int .i64 a, .string (bs (T s a))] 41) = w3 at *
  generalize w2.heap.size = tb at *
  obtain ⟨t0, t1, t2, _, _, _⟩ := boxT_facts TT.out
  have c := HC.out w3 S3.out E3.out
  clear HC S3 E3
  go_wp2_with fail
  refine c.mono ?_
  clear c
  cases R with
  | out => exact fun _ _ h => h.elim
  | err er wh =>
    rintro e w5 ⟨rfl, f5⟩
    have F5 := Lib.hid (X3.out.fr.trans f5)
    clear f5
    go_wp2_with fail
    exact ⟨rfl, rfl, F5.out⟩
  | ok t a1 =>
    rintro e w5 ⟨A, cap, rfl, hr, hf, hfr, hs3⟩
    have X5 := Lib.hid (X3.out.step hfr)
    have HR := Lib.hid (hr.lower (n0 := W.heap.size + 1) (Nat.succ_le_of_lt X3.out.lt))
    have HF := Lib.hid hf
    have S5 := Lib.hid hs3
    clear hr hf hfr hs3 X3
    obtain ⟨z0, z1, z2, z3, z4, f0, f1, f2, f3, f4⟩ := box_facts X5.out.box
    go_wp2_with fail
    exact pass_ret X5.out HR.out HF.out S5.out Tryz.results162 _ rfl rfl
set_option maxRecDepth 100000 in
set_option maxHeartbeats 4000000 in
theorem prim_wordP (p : Nat) (s : ByteArray) (a o : Nat) (op : Int) (R : PR) (W : World) (h : Sca W p s a (some o)) (hE : Env W p) (hs : s.size ≤ 9223372036854775000) (ht : T s a ≠ [40]) (hw : wordT (T s a) = some op)
    (c : ∀ W', Sca W' p s (nxt s a) (some o) → Env W' p → Calls Tryz.prog 170 #[.pointer (some ⟨p, 0, none⟩), .agg #[.string (bs (wrdS op)), .int .i64 op, .int .i64 (wrdN op)]] W' (Ans p s o W' R)) :
    Calls Tryz.prog 162 #[.pointer (some ⟨p, 0, none⟩)] W (Ans p s o W R) := by
  have X1 := Lib.hid (CX.start h.lt)
  have S1 := Lib.hid (h.alloc (.cells zero5 27))
  have E1 := Lib.hid (hE.alloc (.cells zero5 27))
  have ct := ptake_any p s a (some o) _ S1.out hs E1.out.sig
  have h40 : ((bs (T s a)).toList == [40]) = false := by rw [bs_toList]; simpa using ht
  have HC := Lib.hid c
  have cw := Lib.hid (fun (W' : World) (hT : Tabs W') => wordAt_any (T s a) W' hT)
  rw [hw] at cw
  clear h hE ht hw c
  go_enter Tryz.func162, Tryz.ntmps162
  go_upto_region 1 with fail
  generalize W.alloc (.cells zero5 27) = w1 at *
  go_wp2_with fail
  refine ct.mono ?_
  rintro e w2 ⟨rfl, s2, f2⟩
  have hB := (Below.refl w2.heap.size w2).alloc (Nat.le_refl _) (.cells #[.int .i64 (kd s a), .int .i64 a, .string (bs (T s a))] 41)
  have X3 := Lib.hid ((X1.out.step f2).step (Fr.of hB))
  have S3 := Lib.hid (s2.later hB)
  have E3 := Lib.hid ((E1.out.fr f2).later hB)
  have TT := Lib.hid (World.alloc_heap_new w2 (.cells #[.int .i64 (kd s a), .int .i64 a, .string (bs (T s a))] 41))
  have htb := Lib.hid (show w2.heap.size ≠ p from by have h1 := X1.out.px; have h2 := (X1.out.step f2).lt; exact Nat.ne_of_gt (Nat.lt_trans h1 h2))
  clear ct f2 hB s2 X1 S1 E1
  go_upto_region 2 with fail
  generalize w2.alloc (.cells #[.int .i64 (kd s a), .int .i64 a, .string (bs (T s a))] 41) = w3 at *
  generalize w2.heap.size = tb at *
  obtain ⟨t0, t1, t2, _, _, _⟩ := boxT_facts TT.out
  go_wp2_with fail
  refine (cw.out w3 E3.out.tabs).mono ?_
  rintro e w4 ⟨rfl, b4⟩
  have hB := (Below.refl w4.heap.size w4).alloc (Nat.le_refl _) (.cells #[.string (bs (wrdS op)), .int .i64 op, .int .i64 (wrdN op)] 115)
  have X4 := Lib.hid ((X3.out.step (Fr.of b4)).step (Fr.of hB))
  have c := HC.out _ ((S3.out.later b4).later hB) ((E3.out.later b4).later hB)
  clear HC S3 E3 b4 cw X3 hB
  go_wp2_with fail
  refine c.mono ?_
  clear c
  cases R with
  | out => exact fun _ _ h => h.elim
  | err er wh =>
    rintro e w5 ⟨rfl, f5⟩
    have F5 := Lib.hid (X4.out.fr.trans f5)
    clear f5
    go_wp2_with fail
    exact ⟨rfl, rfl, F5.out⟩
  | ok t a1 =>
    rintro e w5 ⟨A, cap, rfl, hr, hf, hfr, hs3⟩
    have X5 := Lib.hid (X4.out.step hfr)
    have HR := Lib.hid (hr.lower (n0 := W.heap.size + 1) (Nat.succ_le_of_lt X4.out.lt))
    have HF := Lib.hid hf
    have S5 := Lib.hid hs3
    clear hr hf hfr hs3 X4
    obtain ⟨z0, z1, z2, z3, z4, f0, f1, f2, f3, f4⟩ := box_facts X5.out.box
    go_wp2_with fail
    exact pass_ret X5.out HR.out HF.out S5.out Tryz.results162 _ rfl rfl
set_option maxRecDepth 100000 in
set_option maxHeartbeats 4000000 in
theorem prim_badP (p : Nat) (s : ByteArray) (a o : Nat) (W : World) (h : Sca W p s a (some o)) (hE : Env W p) (hs : s.size ≤ 9223372036854775000) (ht : T s a ≠ [40]) (hw : wordT (T s a) = none) (hn : nameB (bs (T s a)) = false) :
    Calls Tryz.prog 162 #[.pointer (some ⟨p, 0, none⟩)] W (Ans p s o W (.err 20 a)) := by
  have X1 := Lib.hid (CX.start h.lt)
  have S1 := Lib.hid (h.alloc (.cells zero5 27))
  have E1 := Lib.hid (hE.alloc (.cells zero5 27))
  have ct := ptake_any p s a (some o) _ S1.out hs E1.out.sig
  have h40 : ((bs (T s a)).toList == [40]) = false := by rw [bs_toList]; simpa using ht
  have cw := Lib.hid (fun (W' : World) (hT : Tabs W') => wordAt_any (T s a) W' hT)
  rw [hw] at cw
  have cn := Lib.hid (fun (W' : World) => name_any (bs (T s a)) W')
  rw [hn] at cn
  clear h hE ht hw hn
  go_enter Tryz.func162, Tryz.ntmps162
  go_upto_region 1 with fail
  generalize W.alloc (.cells zero5 27) = w1 at *
  go_wp2_with fail
  refine ct.mono ?_
  rintro e w2 ⟨rfl, s2, f2⟩
  have hB := (Below.refl w2.heap.size w2).alloc (Nat.le_refl _) (.cells #[.int .i64 (kd s a), .int .i64 a, .string (bs (T s a))] 41)
  have X3 := Lib.hid ((X1.out.step f2).step (Fr.of hB))
  have S3 := Lib.hid (s2.later hB)
  have E3 := Lib.hid ((E1.out.fr f2).later hB)
  have TT := Lib.hid (World.alloc_heap_new w2 (.cells #[.int .i64 (kd s a), .int .i64 a, .string (bs (T s a))] 41))
  have htb := Lib.hid (show w2.heap.size ≠ p from by have h1 := X1.out.px; have h2 := (X1.out.step f2).lt; exact Nat.ne_of_gt (Nat.lt_trans h1 h2))
  clear ct f2 hB s2 X1 S1 E1
  go_upto_region 2 with fail
  generalize w2.alloc (.cells #[.int .i64 (kd s a), .int .i64 a, .string (bs (T s a))] 41) = w3 at *
  generalize w2.heap.size = tb at *
  obtain ⟨t0, t1, t2, _, _, _⟩ := boxT_facts TT.out
  go_wp2_with fail
  refine (cw.out w3 E3.out.tabs).mono ?_
  rintro e w4 ⟨rfl, b4⟩
  have hB := (Below.refl w4.heap.size w4).alloc (Nat.le_refl _) (.cells #[.string ⟨#[]⟩, .int .i64 0, .int .i64 0] 115)
  have F5 := Lib.hid ((X3.out.fr.trans (Fr.of b4)).trans (Fr.of hB))
  have T5 := Lib.hid ((Fr.of (p := p) hB).at ((Fr.of (p := p) b4).at TT.out htb.out) htb.out)
  clear b4 cw X3 S3 E3 hB t0 t1 t2
  go_upto_region 5 with fail
  generalize w4.alloc (.cells #[.string ⟨#[]⟩, .int .i64 0, .int .i64 0] 115) = w5 at *
  generalize w4.heap.size = xb at *
  obtain ⟨t0, t1, t2, _, _, _⟩ := boxT_facts T5.out
  go_wp2_with fail
  refine (cn.out w5).mono ?_
  rintro e w6 ⟨rfl, rfl⟩
  clear cn
  go_wp2_with fail
  refine (refuse_any _ _ _ _).mono ?_
  rintro e w6 ⟨rfl, b6⟩
  have F6 := Lib.hid (F5.out.trans (Fr.of b6))
  clear b6
  go_wp2_with fail
  exact ⟨rfl, rfl, F6.out⟩
theorem name_fine {t : ByteArray} {op : Int} (hop : (Lit.int .i64 op).wf = true) (hn : nameB t = true) (ks : List Nd) : Fine (.mk op 0 t 0 ks) := by
  have hs : t.size ≤ 24 := by
    unfold nameB at hn
    rw [Bool.and_eq_true] at hn
    exact (of_decide_eq_true hn.1).1
  exact ⟨by show t.size ≤ maxLen; unfold maxLen; omega, hop, by show (Lit.int .i64 0).wf = true; decide, by show (Lit.int .i64 0).wf = true; decide⟩
set_option maxRecDepth 100000 in
set_option maxHeartbeats 4000000 in
theorem prim_varP (p : Nat) (s : ByteArray) (a o : Nat) (W : World) (h : Sca W p s a (some o)) (hE : Env W p) (hs : s.size ≤ 9223372036854775000) (ht : T s a ≠ [40]) (hw : wordT (T s a) = none) (hn : nameB (bs (T s a)) = true) (hno : T s (nxt s a) ≠ [40]) :
    Calls Tryz.prog 162 #[.pointer (some ⟨p, 0, none⟩)] W (Ans p s o W (.ok (.mk 1 0 (bs (T s a)) 0 []) (nxt s a))) := by
  have X1 := Lib.hid (CX.start h.lt)
  have S1 := Lib.hid (h.alloc (.cells zero5 27))
  have E1 := Lib.hid (hE.alloc (.cells zero5 27))
  have ct := ptake_any p s a (some o) _ S1.out hs E1.out.sig
  have h40 : ((bs (T s a)).toList == [40]) = false := by rw [bs_toList]; simpa using ht
  have cw := Lib.hid (fun (W' : World) (hT : Tabs W') => wordAt_any (T s a) W' hT)
  rw [hw] at cw
  have cn := Lib.hid (fun (W' : World) => name_any (bs (T s a)) W')
  rw [hn] at cn
  have HF := Lib.hid (name_fine (op := 1) (by decide) hn [])
  have HNO := Lib.hid hno
  clear h hE ht hw hn hno
  go_enter Tryz.func162, Tryz.ntmps162
  go_upto_region 1 with fail
  generalize W.alloc (.cells zero5 27) = w1 at *
  go_wp2_with fail
  refine ct.mono ?_
  rintro e w2 ⟨rfl, s2, f2⟩
  have hB := (Below.refl w2.heap.size w2).alloc (Nat.le_refl _) (.cells #[.int .i64 (kd s a), .int .i64 a, .string (bs (T s a))] 41)
  have X3 := Lib.hid ((X1.out.step f2).step (Fr.of hB))
  have S3 := Lib.hid (s2.later hB)
  have E3 := Lib.hid ((E1.out.fr f2).later hB)
  have TT := Lib.hid (World.alloc_heap_new w2 (.cells #[.int .i64 (kd s a), .int .i64 a, .string (bs (T s a))] 41))
  have htb := Lib.hid (show w2.heap.size ≠ p from by have h1 := X1.out.px; have h2 := (X1.out.step f2).lt; exact Nat.ne_of_gt (Nat.lt_trans h1 h2))
  clear ct f2 hB s2 X1 S1 E1
  go_upto_region 2 with fail
  generalize w2.alloc (.cells #[.int .i64 (kd s a), .int .i64 a, .string (bs (T s a))] 41) = w3 at *
  generalize w2.heap.size = tb at *
  obtain ⟨t0, t1, t2, _, _, _⟩ := boxT_facts TT.out
  go_wp2_with fail
  refine (cw.out w3 E3.out.tabs).mono ?_
  rintro e w4 ⟨rfl, b4⟩
  have hB := (Below.refl w4.heap.size w4).alloc (Nat.le_refl _) (.cells #[.string ⟨#[]⟩, .int .i64 0, .int .i64 0] 115)
  have X5 := Lib.hid ((X3.out.step (Fr.of b4)).step (Fr.of hB))
  have S5 := Lib.hid ((S3.out.later b4).later hB)
  have E5 := Lib.hid ((E3.out.later b4).later hB)
  have T5 := Lib.hid ((Fr.of (p := p) hB).at ((Fr.of (p := p) b4).at TT.out htb.out) htb.out)
  clear b4 cw X3 S3 E3 hB t0 t1 t2
  go_upto_region 5 with fail
  generalize w4.alloc (.cells #[.string ⟨#[]⟩, .int .i64 0, .int .i64 0] 115) = w5 at *
  generalize w4.heap.size = xb at *
  obtain ⟨t0, t1, t2, _, _, _⟩ := boxT_facts T5.out
  go_wp2_with fail
  refine (cn.out w5).mono ?_
  rintro e w6 ⟨rfl, rfl⟩
  clear cn t0 t1 t2
  have ca := paccept_no [40] p s (nxt s a) (some o) w5 S5.out hs E5.out.sig HNO.out
  have ec : bs [40] = ⟨#[40]⟩ := rfl
  rw [ec] at ca
  clear ec
  go_wp2_with fail
  refine ca.mono ?_
  rintro e w7 ⟨rfl, h7, f7⟩
  have X7 := Lib.hid (X5.out.step f7)
  have S7 := Lib.hid h7
  obtain ⟨t0, t1, t2, _, _, _⟩ := boxT_facts (f7.at T5.out htb.out)
  clear ca h7 f7 X5 S5 E5
  obtain ⟨z0, z1, z2, z3, z4, f0, f1, f2, f3, f4⟩ := box_facts X7.out.box
  go_wp2_with fail
  exact pass_ret (t := .mk 1 0 (bs (T s a)) 0 []) (A := none) (cap := 0) X7.out (rob_nil _ _) HF.out S7.out Tryz.results162 _ rfl rfl
set_option maxRecDepth 100000 in
set_option maxHeartbeats 4000000 in
theorem prim_appP (p : Nat) (s : ByteArray) (a o : Nat) (r3 : PR) (W : World) (h : Sca W p s a (some o)) (hE : Env W p) (hs : s.size ≤ 9223372036854775000) (ht : T s a ≠ [40]) (hw : wordT (T s a) = none) (hn : nameB (bs (T s a)) = true) (hyes : T s (nxt s a) = [40])
    (hsh : ∀ t b, r3 = .ok t b → ∃ ks, t = appN ks)
    (c : ∀ W', Sca W' p s (nxt s (nxt s a)) (some o) → Env W' p → Calls Tryz.prog 99 #[.pointer (some ⟨p, 0, none⟩), .func (.func 171) #[.pointer (some ⟨p, 0, none⟩)] #[]] W' (Ans p s o W' r3)) :
    Calls Tryz.prog 162 #[.pointer (some ⟨p, 0, none⟩)] W (Ans p s o W (r3.bind fun t b => .ok (named (bs (T s a)) t) b)) := by
  have X1 := Lib.hid (CX.start h.lt)
  have S1 := Lib.hid (h.alloc (.cells zero5 27))
  have E1 := Lib.hid (hE.alloc (.cells zero5 27))
  have ct := ptake_any p s a (some o) _ S1.out hs E1.out.sig
  have h40 : ((bs (T s a)).toList == [40]) = false := by rw [bs_toList]; simpa using ht
  have cw := Lib.hid (fun (W' : World) (hT : Tabs W') => wordAt_any (T s a) W' hT)
  rw [hw] at cw
  have cn := Lib.hid (fun (W' : World) => name_any (bs (T s a)) W')
  rw [hn] at cn
  have HF := Lib.hid (fun ks => name_fine (op := 3) (by decide) hn ks)
  have HY := Lib.hid hyes
  have HC := Lib.hid c
  have HSH := Lib.hid hsh
  have hm := hmf
  clear h hE ht hw hn hyes c hsh
  go_enter Tryz.func162, Tryz.ntmps162
  go_upto_region 1 with fail
  generalize W.alloc (.cells zero5 27) = w1 at *
  go_wp2_with fail
  refine ct.mono ?_
  rintro e w2 ⟨rfl, s2, f2⟩
  have hB := (Below.refl w2.heap.size w2).alloc (Nat.le_refl _) (.cells #[.int .i64 (kd s a), .int .i64 a, .string (bs (T s a))] 41)
  have X3 := Lib.hid ((X1.out.step f2).step (Fr.of hB))
  have S3 := Lib.hid (s2.later hB)
  have E3 := Lib.hid ((E1.out.fr f2).later hB)
  have TT := Lib.hid (World.alloc_heap_new w2 (.cells #[.int .i64 (kd s a), .int .i64 a, .string (bs (T s a))] 41))
  have htb := Lib.hid (show w2.heap.size ≠ p from by have h1 := X1.out.px; have h2 := (X1.out.step f2).lt; exact Nat.ne_of_gt (Nat.lt_trans h1 h2))
  clear ct f2 hB s2 X1 S1 E1
  go_upto_region 2 with fail
  generalize w2.alloc (.cells #[.int .i64 (kd s a), .int .i64 a, .string (bs (T s a))] 41) = w3 at *
  generalize w2.heap.size = tb at *
  obtain ⟨t0, t1, t2, _, _, _⟩ := boxT_facts TT.out
  go_wp2_with fail
  refine (cw.out w3 E3.out.tabs).mono ?_
  rintro e w4 ⟨rfl, b4⟩
  have hB := (Below.refl w4.heap.size w4).alloc (Nat.le_refl _) (.cells #[.string ⟨#[]⟩, .int .i64 0, .int .i64 0] 115)
  have X5 := Lib.hid ((X3.out.step (Fr.of b4)).step (Fr.of hB))
  have S5 := Lib.hid ((S3.out.later b4).later hB)
  have E5 := Lib.hid ((E3.out.later b4).later hB)
  have T5 := Lib.hid ((Fr.of (p := p) hB).at ((Fr.of (p := p) b4).at TT.out htb.out) htb.out)
  clear b4 cw X3 S3 E3 hB t0 t1 t2
  go_upto_region 5 with fail
  generalize w4.alloc (.cells #[.string ⟨#[]⟩, .int .i64 0, .int .i64 0] 115) = w5 at *
  generalize w4.heap.size = xb at *
  obtain ⟨t0, t1, t2, _, _, _⟩ := boxT_facts T5.out
  go_wp2_with fail
  refine (cn.out w5).mono ?_
  rintro e w6 ⟨rfl, rfl⟩
  clear cn t0 t1 t2
  have ca := paccept_yes [40] p s (nxt s a) (some o) w5 S5.out hs E5.out.sig HY.out
  have ec : bs [40] = ⟨#[40]⟩ := rfl
  rw [ec] at ca
  clear ec
  go_wp2_with fail
  refine ca.mono ?_
  rintro e w7 ⟨rfl, h7, f7⟩
  have X7 := Lib.hid (X5.out.step f7)
  have c := HC.out w7 h7 (E5.out.fr f7)
  have T7 := Lib.hid (f7.at T5.out htb.out)
  clear ca h7 f7 X5 S5 E5 HC T5 TT
  go_wp2_with fail
  refine c.mono ?_
  cases r3 with
  | out => exact fun _ _ h => h.elim
  | err er wh =>
    rintro e w8 ⟨rfl, f8⟩
    have F8 := Lib.hid (X7.out.fr.trans f8)
    clear f8 c
    go_wp2_with fail
    exact ⟨rfl, rfl, F8.out⟩
  | ok t b =>
    obtain ⟨ks, rfl⟩ := HSH.out t b rfl
    rintro e w8 ⟨A, cap, rfl, hr, hf, hfr, hs8⟩
    have hB := (Below.refl w8.heap.size w8).alloc (Nat.le_refl _) (boxN (appN ks) A cap)
    have N9 := Lib.hid (NB.start X7.out hr hf hfr)
    have X9 := Lib.hid ((X7.out.step hfr).step (Fr.of hB))
    have S9 := Lib.hid (hs8.later hB)
    have T9 := Lib.hid ((Fr.of (p := p) hB).at (hfr.at T7.out htb.out) htb.out)
    have RR := Lib.hid ((hr.lower (n0 := W.heap.size + 1) (Nat.succ_le_of_lt X7.out.lt)).born (boxN (appN ks) A cap))
    clear hr hf hfr hs8 hB c X7 T7
    go_upto_region 12 with fail
    · generalize w8.alloc (boxN (appN ks) A cap) = w9 at *
      generalize w8.heap.size = nb at *
      obtain ⟨t0, t1, t2, _, _, _⟩ := boxT_facts T9.out
      obtain ⟨n0, n1, n2, n3, n4, g0, g1, g2, g3, g4⟩ := box_facts N9.out.box
      go_upto_region 13 with fail
      · have hgt := N9.out.gt
        have hpx := X9.out.px
        have N10 := Lib.hid (show (w9.setCell ⟨nb, 2, none⟩ (.string (bs (T s a)))).heap[nb]? = some (.cells #[.int .i64 3, .int .i64 0, .string (bs (T s a)), .int .i64 0, .slice A ks.length cap] 27 (0, 0)) from heap_setCell_same w9 nb 2 _ _ _ N9.out.box)
        have X10 := Lib.hid (show CX p W (w9.setCell ⟨nb, 2, none⟩ (.string (bs (T s a)))) from ⟨X9.out.fr.setCell' _ (by simp; omega) _, hpx, (heap_setCell_other _ _ _ _ (by simp; omega)).trans X9.out.box⟩)
        have S10 := Lib.hid (S9.out.other (heap_setCell_other w9 ⟨nb, 2, none⟩ _ (.string (bs (T s a))) (by simp; omega)))
        have R10 := Lib.hid (show Rob (W.heap.size + 1) (w9.setCell ⟨nb, 2, none⟩ (.string (bs (T s a)))) (some nb) A cap ks from fun W2 hW => RR.out W2 fun k h1 h2 h3 => (hW k h1 (by simpa [World.setCell] using h2) h3).trans (heap_setCell_other _ _ _ _ (by simp; intro e; exact h3 (by rw [e]))))
        clear t0 t1 t2 n0 n1 n2 n3 n4 g0 g1 g2 g3 g4 N9 X9 S9 T9 RR
        generalize w9.setCell ⟨nb, 2, none⟩ (.string (bs (T s a))) = w10 at *
        obtain ⟨n0, n1, n2, n3, n4, _, _, _, _, _⟩ := box_facts N10.out
        obtain ⟨z0, z1, z2, z3, z4, f0, f1, f2, f3, f4⟩ := box_facts X10.out.box
        go_wp2_with fail
        exact pass_ret (t := .mk 3 0 (bs (T s a)) 0 ks) X10.out R10.out.weak (HF.out ks) S10.out Tryz.results162 _ rfl rfl
end Go.Proofs.YtgkjcimgghflmaaGreatDoor
namespace Go.Proofs.YtgkjcimgghflmaaGreatDoor
open Go.RowKit Go.Shelf
attribute [local go_sem] Oper.semAt_some
theorem app_shape (s : ByteArray) : ∀ (f : Nat) (ks : List Nd) (o a : Nat) (t : Nd) (b : Nat), PA s f (.app [] ks) o a = .ok t b → ∃ ks', t = appN ks'
  | 0, _, _, _, _, _, h => by cases h
  | f + 1, ks, o, a, t, b, h => by
    rw [PA] at h
    by_cases h8 : ks.length = 8
    · rw [if_pos h8] at h; cases h
    rw [if_neg h8] at h
    cases hq : PA s f .form o a with
    | out => rw [hq] at h; cases h
    | err e w => rw [hq] at h; cases h
    | ok k a1 =>
      rw [hq] at h
      change (if T s a1 = [44] then _ else _) = _ at h
      by_cases h44 : T s a1 = [44]
      · rw [if_pos h44] at h; exact app_shape s f _ o _ t b h
      · rw [if_neg h44] at h
        unfold want at h
        by_cases h41 : T s a1 = [41]
        · rw [if_pos h41] at h
          cases h
          exact ⟨_, rfl⟩
        · rw [if_neg h41] at h; cases h
theorem word_args (s : ByteArray) (hs : s.size ≤ 9223372036854775000) (f : Nat) (hi : ∀ g, g ≤ f → LiveP s g .form 32) (op : Int) (n : Nat) (hn : 1 ≤ n) (hn3 : n ≤ 3) (hop : (Lit.int .i64 op).wf = true) (tx : ByteArray) (wb pb p a o : Nat) (ho : o ≤ 90) (W : World) (h : Sca W p s a (some o)) (hE : Env W p)
    (hwp : wb ≠ p) (hpp : pb ≠ p) (hwb : W.heap[wb]? = some (.cells #[.string tx, .int .i64 op, .int .i64 n] 115 (0, 0))) (hpb : W.heap[pb]? = some (.cells #[.pointer (some ⟨p, 0, none⟩)] 61 (0, 0))) (hf : 32 * (s.size - a) + 18 < f) :
    Calls Tryz.prog 174 #[.pointer (some ⟨wb, 0, none⟩), .pointer (some ⟨pb, 0, none⟩)] W (Ans p s o W (PA s f (.word op n []) o a)) := by
  have ha := h.le
  refine wordArgs_any op n hn hn3 tx wb pb p s a o _ (fun ks a' => a' ≤ s.size ∧ ∃ g, g ≤ f ∧ 32 * (s.size - a') + 18 < g ∧ PA s f (.word op n []) o a = PA s g (.word op n ks) o a') W h hE hs hop hwp hpp hwb hpb ⟨ha, f, Nat.le_refl _, hf, rfl⟩ ?_ ?_ ?_ ?_
  · rintro ks a' ⟨_, g, _, hg, hR⟩ hk
    obtain ⟨g, rfl⟩ : ∃ g', g = g' + 1 := ⟨g - 1, by omega⟩
    rw [hR, PA, if_pos hk]
  · rintro a' ⟨ha', g, hgf, hg, hR⟩
    obtain ⟨g, rfl⟩ : ∃ g', g = g' + 1 := ⟨g - 1, by omega⟩
    have hf2 : 32 * (s.size - a') + rank .form < g := by simp [rank]; omega
    have hen := enough s g .form o a' ha' hf2
    rw [PA, if_neg (by simp; omega), if_pos rfl] at hR
    refine ⟨PA s g .form o a', fun W' h' hE' => hi g (by omega) p o a' W' h' hE' ho hf2, ?_⟩
    cases hq : PA s g .form o a' with
    | out => trivial
    | err e w => rw [hq] at hR; exact hR
    | ok k a2 =>
      rw [hq] at hR hen
      obtain ⟨k1, k2, k3⟩ := hen
      have := k2 rfl
      exact ⟨k3, g, by omega, by omega, hR⟩
  · rintro ks a' ⟨_, g, _, hg, hR⟩ hne hlt ht
    obtain ⟨g, rfl⟩ : ∃ g', g = g' + 1 := ⟨g - 1, by omega⟩
    rw [hR, PA, if_neg (by omega), if_neg hne, want, if_neg ht]
  · rintro ks a' ⟨ha', g, hgf, hg, hR⟩ hne hlt ht
    obtain ⟨g, rfl⟩ : ∃ g', g = g' + 1 := ⟨g - 1, by omega⟩
    obtain ⟨n1, n2⟩ := nxt_lt ha' ht (by decide)
    have hf2 : 32 * (s.size - nxt s a') + rank .form < g := by simp [rank]; omega
    have hen := enough s g .form o (nxt s a') n2 hf2
    rw [PA, if_neg (by omega), if_neg hne, want, if_pos ht] at hR
    refine ⟨PA s g .form o (nxt s a'), fun W' h' hE' => hi g (by omega) p o _ W' h' hE' ho hf2, ?_⟩
    cases hq : PA s g .form o (nxt s a') with
    | out => trivial
    | err e w => rw [hq] at hR; exact hR
    | ok k a2 =>
      rw [hq] at hR hen
      obtain ⟨k1, k2, k3⟩ := hen
      have := k2 rfl
      exact ⟨k3, g, by omega, by omega, hR⟩
/-- The answer about an application, without its name. -/
def appR (s : ByteArray) (f o a : Nat) : PR := if T s a = [41] then .ok (appN []) (nxt s a) else PA s f (.app [] []) o a
theorem app_args (s : ByteArray) (hs : s.size ≤ 9223372036854775000) (f : Nat) (hi : ∀ g, g ≤ f → LiveP s g .form 32) (p a o : Nat) (ho : o ≤ 90) (W : World) (h : Sca W p s a (some o)) (hE : Env W p) (hf : 32 * (s.size - a) + 17 < f) :
    Calls Tryz.prog 171 #[.pointer (some ⟨p, 0, none⟩)] W (Ans p s o W (appR s f o a)) := by
  have ha := h.le
  refine application_any p s a o _ (fun ks a' => a' ≤ s.size ∧ ks.length ≤ 8 ∧ ∃ g, g ≤ f ∧ 32 * (s.size - a') + 17 < g ∧ appR s f o a = PA s g (.app [] ks) o a') W h hE hs (fun ht => if_pos ht) (fun ht => ⟨ha, by simp, f, Nat.le_refl _, hf, if_neg ht⟩) (fun ks a' hj => hj.2.1) ?_ ?_
  · rintro ks a' ⟨_, _, g, _, hg, hR⟩ hk
    obtain ⟨g, rfl⟩ : ∃ g', g = g' + 1 := ⟨g - 1, by omega⟩
    rw [hR, PA, if_pos hk]
  · rintro ks a' ⟨ha', h8, g, hgf, hg, hR⟩ hk
    obtain ⟨g, rfl⟩ : ∃ g', g = g' + 1 := ⟨g - 1, by omega⟩
    have hf2 : 32 * (s.size - a') + rank .form < g := by simp [rank]; omega
    have hen := enough s g .form o a' ha' hf2
    rw [PA, if_neg hk] at hR
    refine ⟨PA s g .form o a', fun W' h' hE' => hi g (by omega) p o a' W' h' hE' ho hf2, ?_⟩
    cases hq : PA s g .form o a' with
    | out => trivial
    | err e w => rw [hq] at hR; exact hR
    | ok k a2 =>
      rw [hq] at hR hen
      obtain ⟨k1, k2, k3⟩ := hen
      have k2 := k2 rfl
      refine ⟨k2, fun ht => ?_, fun ht => ?_⟩
      · obtain ⟨n1, n2⟩ := nxt_lt k3 ht (by decide)
        refine ⟨n2, by rw [List.length_append]; simp; omega, g, by omega, by omega, hR.trans ?_⟩
        exact if_pos ht
      · exact hR.trans (if_neg ht)
theorem prim_stepP (s : ByteArray) (hs : s.size ≤ 9223372036854775000) (f : Nat) (hi : ∀ g, g ≤ f → LiveP s g .form 32) : LiveP s (f + 1) .prim 162 := by
  intro p o a W h hE ho hf
  have ha := h.le
  have hf : 32 * (s.size - a) + 5 < f + 1 := hf
  rw [prim_eq]
  by_cases h40 : T s a = [40]
  · rw [if_pos h40]
    obtain ⟨n1, n2⟩ := nxt_lt ha h40 (by decide)
    refine prim_parenP p s a o _ W h hE hs h40 fun W' h' hE' => ?_
    refine inside_any 168 ent168 p s _ o _ W' h' hE' ho fun hl W2 h2 hE2 => ?_
    exact closed_any p s _ (o + 1) _ W2 h2 hE2 hs fun W3 h3 hE3 => hi f (Nat.le_refl _) p (o + 1) _ W3 h3 hE3 (by omega) (by simp [rank]; omega)
  rw [if_neg h40]
  cases hw : wordT (T s a) with
  | some op =>
    obtain ⟨hm, hq⟩ := wordT_some hw
    have hT : T s a ≠ [] := by
      rw [← hq]
      have : ∀ op ∈ wordOps, wrdS op ≠ [] := by decide
      exact this op hm
    obtain ⟨n1, n2⟩ := nxt_lt ha rfl hT
    have hop : (Lit.int .i64 op).wf = true := by
      have : ∀ op ∈ wordOps, (Lit.int .i64 op).wf = true := by decide
      exact this op hm
    have hN : wrdN op = 0 ∨ (1 ≤ (wrdN op).toNat ∧ (wrdN op).toNat ≤ 3 ∧ wrdN op = ((wrdN op).toNat : Int)) := by
      have : ∀ op ∈ wordOps, wrdN op = 0 ∨ (1 ≤ (wrdN op).toNat ∧ (wrdN op).toNat ≤ 3 ∧ wrdN op = ((wrdN op).toNat : Int)) := by decide
      exact this op hm
    refine prim_wordP p s a o op _ W h hE hs h40 hw fun W' h' hE' => ?_
    show Calls Tryz.prog 170 _ W' (Ans p s o W' (if wrdN op = 0 then _ else _))
    by_cases h0 : wrdN op = 0
    · rw [if_pos h0, h0]
      exact worded_none p s _ o _ op W' h' hop
    · rw [if_neg h0]
      rcases hN with hN | ⟨hN1, hN2, hN3⟩
      · exact absurd hN h0
      by_cases ht : T s (nxt s a) = [40]
      · rw [want, if_pos ht]
        obtain ⟨m1, m2⟩ := nxt_lt n2 ht (by decide)
        refine worded_args p s _ o _ op (wrdN op) (by simpa using h0) _ W' h' hE' hs ho ht fun hl wb pb W2 hwp hpp hwb hpb h2 hE2 => ?_
        refine word_args s hs f hi op (wrdN op).toNat hN1 hN2 hop (bs (wrdS op)) wb pb p _ (o + 1) (by omega) W2 h2 hE2 hwp hpp (hwb.trans ?_) hpb (by omega)
        rw [← hN3]
      · rw [want, if_neg ht]
        exact worded_bad p s _ o _ op (wrdN op) (by simpa using h0) W' h' hE' hs ht
  | none =>
    unfold primW
    cases hn : nameB (bs (T s a)) with
    | false => exact prim_badP p s a o W h hE hs h40 hw hn
    | true =>
      have hT : T s a ≠ [] := fun e => by rw [e] at hn; exact absurd hn (by decide)
      obtain ⟨n1, n2⟩ := nxt_lt ha rfl hT
      show Calls Tryz.prog 162 _ W (Ans p s o W (if T s (nxt s a) = [40] then _ else _))
      by_cases ht : T s (nxt s a) = [40]
      · rw [if_pos ht]
        obtain ⟨m1, m2⟩ := nxt_lt n2 ht (by decide)
        have he : opn (o + 1) (if T s (nxt s (nxt s a)) = [41] then .ok (.mk 3 0 (bs (T s a)) 0 []) (nxt s (nxt s (nxt s a))) else PA s f (.app (T s a) []) (o + 1) (nxt s (nxt s a))) = (opn (o + 1) (appR s f (o + 1) (nxt s (nxt s a)))).bind fun t b => .ok (named (bs (T s a)) t) b := by
          rw [opn_bind]
          congr 1
          unfold appR
          by_cases h41 : T s (nxt s (nxt s a)) = [41]
          · rw [if_pos h41, if_pos h41]; rfl
          · rw [if_neg h41, if_neg h41]; exact app_named s (T s a) f [] (o + 1) _
        rw [he]
        refine prim_appP p s a o _ W h hE hs h40 hw hn ht ?_ fun W' h' hE' => ?_
        · intro t b hq
          unfold opn at hq
          split at hq
          · cases hq
          · unfold appR at hq
            split at hq
            · cases hq; exact ⟨[], rfl⟩
            · exact app_shape s f [] _ _ t b hq
        · exact inside_any 171 ent171 p s _ o _ W' h' hE' ho fun hl W2 h2 hE2 => app_args s hs f hi p _ (o + 1) (by omega) W2 h2 hE2 (by omega)
      · rw [if_neg ht]
        exact prim_varP p s a o W h hE hs h40 hw hn ht
/-- All phrases at once. -/
structure AllP (s : ByteArray) (f : Nat) : Prop where
  form : LiveP s f .form 32
  imp : LiveP s f .imp 68
  or : LiveP s f .or 102
  and : LiveP s f .and 124
  not : LiveP s f .not 138
  cmp : LiveP s f .cmp 149
  sum : LiveP s f .sum 153
  una : LiveP s f .una 156
  prim : LiveP s f .prim 162
theorem live_zero (s : ByteArray) (nt : NT) (F : Nat) : LiveP s 0 nt F := fun _ _ _ _ _ _ _ h => absurd h (by omega)
theorem all_phrases (s : ByteArray) (hs : s.size ≤ 9223372036854775000) : ∀ f g, g ≤ f → AllP s g := by
  intro f
  induction f with
  | zero =>
    intro g hg
    obtain rfl : g = 0 := by omega
    exact ⟨live_zero _ _ _, live_zero _ _ _, live_zero _ _ _, live_zero _ _ _, live_zero _ _ _, live_zero _ _ _, live_zero _ _ _, live_zero _ _ _, live_zero _ _ _⟩
  | succ f ih =>
    intro g hg
    by_cases h : g ≤ f
    · exact ih g h
    obtain rfl : g = f + 1 := by omega
    have I := ih f (Nat.le_refl _)
    exact ⟨form_stepP s hs f I.imp I.form, imp_stepP s hs f I.or I.imp, or_stepP s hs f fun g hg => (ih g hg).and, and_stepP s hs f fun g hg => (ih g hg).not, not_stepP s hs f I.cmp I.not, cmp_stepP s hs f I.sum, sum_stepP s hs f fun g hg => (ih g hg).una, una_stepP s hs f I.prim I.una, prim_stepP s hs f fun g hg => (ih g hg).form⟩
theorem formula_any (s : ByteArray) (hs : s.size ≤ 9223372036854775000) (f : Nat) : LiveP s f .form 32 := (all_phrases s hs f f (Nat.le_refl _)).form
end Go.Proofs.YtgkjcimgghflmaaGreatDoor
