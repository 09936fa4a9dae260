/-
  Whether a name is missing, or a number of kids is wrong, or a kid does not fit, as the document's own way has it; conditions: the tree and the lists lie in memory.
-/
import Derived.Test.YtpjokapkoeclpaaFit
namespace Go.Proofs.Ytpjokapkoeclpaa
open Go.RowKit Go.Shelf Go.WideMaps

attribute [local go_sem] Oper.semAt_some
/-- Whether a name is missing. -/
def unnB (dl : List (ByteArray × Int)) (sl : List SgA) (t : Nd) : Bool := !allNamed dl sl t
theorem unn_eq (dl : List (ByteArray × Int)) (sl : List SgA) (t : Nd) : unnB dl sl t = (!namedB dl sl t || t.ks.any (unnB dl sl)) := by
  unfold unnB allNamed
  rw [all_eq, Bool.not_and, List.not_all_eq_any_not]
theorem any_kid {F : Nd → Bool} {ks : List Nd} (k : Nd) (hk : k ∈ ks) (e : F k = true) : ks.any F = true := List.any_eq_true.2 ⟨k, hk, e⟩
theorem no_kid {F : Nd → Bool} {ks : List Nd} (h : ∀ j (hj : j < ks.length), F ks[j] = false) : ks.any F = false := by
  rw [List.any_eq_false]
  intro k hk
  obtain ⟨i, hi, rfl⟩ := List.getElem_of_mem hk
  rw [h i hi]; simp
theorem all_kid {F : Nd → Bool} {ks : List Nd} (k : Nd) (hk : k ∈ ks) (e : F k = false) : ks.all F = false := by
  rw [← Bool.not_eq_true, List.all_eq_true]
  intro h
  rw [h k hk] at e
  cases e
theorem all_kids {F : Nd → Bool} {ks : List Nd} (h : ∀ j (hj : j < ks.length), F ks[j] = true) : ks.all F = true := by
  rw [List.all_eq_true]
  intro k hk
  obtain ⟨i, hi, rfl⟩ := List.getElem_of_mem hk
  exact h i hi

set_option maxRecDepth 100000 in
set_option maxHeartbeats 4000000 in
theorem unnamed_any (dl : List (ByteArray × Int)) (sl : List SgA) (DA SA : Option Addr) (dcap scap : Nat) (hdl : dl.length ≤ maxLen) (hsl : sl.length ≤ maxLen) (t : Nd) : ∀ (A : Option Addr) (cap : Nat) (w : World), Lies w A cap t.ks → Dcls w DA dl → Sgs w SA sl →
    Calls Try.prog 76 #[nv t.op t.so t.nm t.nu (.slice A t.ks.length cap), .slice DA dl.length dcap, .slice SA sl.length scap] w fun e w' => e = .returned (.bool (unnB dl sl t)) ∧ Below w.heap.size w w' := by
  induction t using Nd.ind with
  | h t ih =>
  intro A cap w hL hD hS
  have hn := hL.len
  unfold maxLen at hn
  have HL := Lib.hid hL
  have IH := Lib.hid ih
  have HD := Lib.hid hD
  have HS := Lib.hid hS
  have HB := Lib.hid (show ∀ O, Below w.heap.size w (w.alloc O) from fun O => (Below.refl _ _).alloc (Nat.le_refl _) _)
  have F0 := Lib.hid (five_new w t (.slice A t.ks.length cap) 24)
  clear hL ih hD hS
  by_cases h1 : t.op = 1
  · have h1' : (t.op == 1) = true := by simpa using h1
    have h3' : (t.op == 3) = false := by rw [beq_eq_false_iff_ne]; omega
    have hun : unnB dl sl t = (!((lookD dl t.nm).isSome || constB sl t.nm) || t.ks.any (unnB dl sl)) := by rw [unn_eq, namedB, if_pos h1]
    clear h1
    cases hfd : lookD dl t.nm with
    | some y =>
      have hz := Lib.hid (show unnB dl sl t = t.ks.any (unnB dl sl) by rw [hun, hfd]; rfl)
      have hfd := Lib.hid hfd
      clear hun
      go_enter Try.func76, Try.ntmps76
      go_wp2_with fail
      refine (varOf_any dl t.nm DA dcap _ (HD.out.later (HB.out _)) hdl).mono ?_
      rintro e w1 ⟨rfl, hb1⟩
      rw [hfd.out]
      have HB1 := Lib.hid ((HB.out (.cells #[.int .i64 t.op, .int .i64 t.so, .string t.nm, .int .i64 t.nu, .slice A t.ks.length cap] 24)).trans (hb1.mono (HB.out _).size))
      have F1 := Lib.hid (F0.out.later hb1)
      obtain ⟨a0, a1, a2, a3, a4⟩ := F1.out
      clear hb1
      go_wp2_with fail
      refine (sigOf_any sl t.nm SA scap _ (HS.out.later HB1.out) hsl).mono ?_
      rintro e w2 ⟨rfl, hb2⟩
      have hB2 := HB1.out.trans (hb2.mono HB1.out.size)
      have F2 := F1.out.later hb2
      clear hb2 a0 a1 a2 a3 a4
      have HBL := Lib.hid (fun O => hB2.alloc hB2.size O)
      have hszw : w.heap.size < w2.heap.size := World.block_lt_of_cell? _ _ F2.c0
      obtain ⟨a0, a1, a2, a3, a4⟩ := F2
      clear hB2

      generalize (lookS sl t.nm).isSome = bb at *
      generalize (lookS sl t.nm).getD zeroSg = y at *
      go_wp2_with fail
      clear a0 a1 a2 a3 a4
      have HBL := Lib.hid (HBL.out (.cells #[.string y.1.nm, .slice y.2.1 y.1.args.length y.2.2, .int .i64 y.1.so] 83))
      go_loopw [59] (fun i wr => ∃ k : Nat, k ≤ t.ks.length ∧ i = .int .i64 k ∧ Hid (∀ j (h : j < t.ks.length), j < k → unnB dl sl t.ks[j] = false) ∧ Below w.heap.size w wr) (fun i _ => t.ks.length - (intOf i).toNat)
      case atStart => exact ⟨0, Nat.zero_le _, rfl, fun j hj hjk => absurd hjk (by omega), HBL.out⟩
      case round =>
        obtain ⟨k, hk, rfl, hj, hBr⟩ := hrel
        by_cases hlt : k < t.ks.length
        · obtain ⟨b, o, A', C', rfl, g5, hK⟩ := HL.out.kid hlt
          obtain ⟨a0, a1, a2, a3, a4⟩ := g5.later hBr
          have c := Lib.hid (IH.out k hlt A' C')
          have hK' := Lib.hid (hK.later hBr)
          have hsn := Lib.hid (fun (e : unnB dl sl t.ks[k] = false) => (show Hid (∀ j (h : j < t.ks.length), j < k + 1 → unnB dl sl t.ks[j] = false) from fun j hjs hjk => by
            by_cases e' : j = k
            · subst e'; exact e
            · exact hj.out j hjs (by omega)))
          have hyes := Lib.hid (fun (e : unnB dl sl t.ks[k] = true) => hz.out.trans (any_kid _ (List.getElem_mem hlt) e))
          have hszr := hBr.size
          have HBr := Lib.hid hBr
          have HDr := Lib.hid (HD.out.later hBr)
          have HSr := Lib.hid (HS.out.later hBr)
          generalize t.ks[k] = q at *
          clear g5 hK IH HL hj HD HS
          cases hq : unnB dl sl q
          case false =>
            have Hq := Lib.hid hq
            have Hsn := hsn.out hq
            clear hq hyes
            go_wp2_with fail
            refine (c.out _ (hK'.out.later ((Below.refl _ _).alloc (Nat.le_refl _) _)) (HDr.out.later ((Below.refl _ _).alloc (Nat.le_refl _) _)) (HSr.out.later ((Below.refl _ _).alloc (Nat.le_refl _) _))).mono ?_
            rintro e w2 ⟨rfl, hb2⟩
            rw [Hq.out]
            have hB2 := Lib.hid (HBr.out.trans ((((Below.refl _ wr).alloc (Nat.le_refl _) _).trans (hb2.mono (by simp))).mono hszr))
            clear hb2
            go_wp2_with fail
            go_roundw
            case rel => exact ⟨k + 1, by omega, by go_num, Hsn.out, hB2.out⟩
            case measure => simp [intOf]; omega
          case true =>
            have Hq := Lib.hid hq
            have Hr := Lib.hid (hyes.out hq)
            clear hq hsn hyes
            go_wp2_with fail
            refine (c.out _ (hK'.out.later ((Below.refl _ _).alloc (Nat.le_refl _) _)) (HDr.out.later ((Below.refl _ _).alloc (Nat.le_refl _) _)) (HSr.out.later ((Below.refl _ _).alloc (Nat.le_refl _) _))).mono ?_
            rintro e w2 ⟨rfl, hb2⟩
            rw [Hq.out]
            have hB2 := Lib.hid (HBr.out.trans ((((Below.refl _ wr).alloc (Nat.le_refl _) _).trans (hb2.mono (by simp))).mono hszr))
            clear hb2
            go_wp2_with fail
            go_ret
            exact ⟨by rw [Hr.out]; rfl, hB2.out⟩
        · have Hr := Lib.hid (hz.out.trans (no_kid (fun j h => hj.out j h (by omega))))
          go_wp2_with fail
          go_ret
          exact ⟨by rw [Hr.out]; rfl, hBr⟩

    | none =>
      cases hfs : lookS sl t.nm with
      | none =>
        have Hr := Lib.hid (show unnB dl sl t = true by rw [hun, hfd, constB, hfs]; rfl)
        have hfd := Lib.hid hfd
        have hfs := Lib.hid hfs
        clear hun
        go_enter Try.func76, Try.ntmps76
        go_wp2_with fail
        refine (varOf_any dl t.nm DA dcap _ (HD.out.later (HB.out _)) hdl).mono ?_
        rintro e w1 ⟨rfl, hb1⟩
        rw [hfd.out]
        have HB1 := Lib.hid ((HB.out (.cells #[.int .i64 t.op, .int .i64 t.so, .string t.nm, .int .i64 t.nu, .slice A t.ks.length cap] 24)).trans (hb1.mono (HB.out _).size))
        have F1 := Lib.hid (F0.out.later hb1)
        obtain ⟨a0, a1, a2, a3, a4⟩ := F1.out
        clear hb1
        go_wp2_with fail
        refine (sigOf_any sl t.nm SA scap _ (HS.out.later HB1.out) hsl).mono ?_
        rintro e w2 ⟨rfl, hb2⟩
        have hB2 := HB1.out.trans (hb2.mono HB1.out.size)
        have F2 := F1.out.later hb2
        clear hb2 a0 a1 a2 a3 a4
        have HBL := Lib.hid (fun O => hB2.alloc hB2.size O)
        have hszw : w.heap.size < w2.heap.size := World.block_lt_of_cell? _ _ F2.c0
        obtain ⟨a0, a1, a2, a3, a4⟩ := F2
        clear hB2

        rw [hfs.out]
        go_wp2_with fail
        go_ret
        exact ⟨by rw [Hr.out]; rfl, HBL.out _⟩
      | some y =>
        by_cases ha : y.1.args = []
        · have hz := Lib.hid (show unnB dl sl t = t.ks.any (unnB dl sl) by rw [hun, hfd, constB, sigArgs, hfs]; simp [ha])
          have hg : decide (0 < y.1.args.length) = false := by rw [ha]; rfl
          have hfd := Lib.hid hfd
          have hfs := Lib.hid hfs
          clear hun ha
          go_enter Try.func76, Try.ntmps76
          go_wp2_with fail
          refine (varOf_any dl t.nm DA dcap _ (HD.out.later (HB.out _)) hdl).mono ?_
          rintro e w1 ⟨rfl, hb1⟩
          rw [hfd.out]
          have HB1 := Lib.hid ((HB.out (.cells #[.int .i64 t.op, .int .i64 t.so, .string t.nm, .int .i64 t.nu, .slice A t.ks.length cap] 24)).trans (hb1.mono (HB.out _).size))
          have F1 := Lib.hid (F0.out.later hb1)
          obtain ⟨a0, a1, a2, a3, a4⟩ := F1.out
          clear hb1
          go_wp2_with fail
          refine (sigOf_any sl t.nm SA scap _ (HS.out.later HB1.out) hsl).mono ?_
          rintro e w2 ⟨rfl, hb2⟩
          have hB2 := HB1.out.trans (hb2.mono HB1.out.size)
          have F2 := F1.out.later hb2
          clear hb2 a0 a1 a2 a3 a4
          have HBL := Lib.hid (fun O => hB2.alloc hB2.size O)
          have hszw : w.heap.size < w2.heap.size := World.block_lt_of_cell? _ _ F2.c0
          obtain ⟨a0, a1, a2, a3, a4⟩ := F2
          clear hB2

          rw [hfs.out]
          go_wp2_with fail
          clear a0 a1 a2 a3 a4
          have HBL := Lib.hid (HBL.out (.cells #[.string y.1.nm, .slice y.2.1 y.1.args.length y.2.2, .int .i64 y.1.so] 83))
          go_loopw [59] (fun i wr => ∃ k : Nat, k ≤ t.ks.length ∧ i = .int .i64 k ∧ Hid (∀ j (h : j < t.ks.length), j < k → unnB dl sl t.ks[j] = false) ∧ Below w.heap.size w wr) (fun i _ => t.ks.length - (intOf i).toNat)
          case atStart => exact ⟨0, Nat.zero_le _, rfl, fun j hj hjk => absurd hjk (by omega), HBL.out⟩
          case round =>
            obtain ⟨k, hk, rfl, hj, hBr⟩ := hrel
            by_cases hlt : k < t.ks.length
            · obtain ⟨b, o, A', C', rfl, g5, hK⟩ := HL.out.kid hlt
              obtain ⟨a0, a1, a2, a3, a4⟩ := g5.later hBr
              have c := Lib.hid (IH.out k hlt A' C')
              have hK' := Lib.hid (hK.later hBr)
              have hsn := Lib.hid (fun (e : unnB dl sl t.ks[k] = false) => (show Hid (∀ j (h : j < t.ks.length), j < k + 1 → unnB dl sl t.ks[j] = false) from fun j hjs hjk => by
                by_cases e' : j = k
                · subst e'; exact e
                · exact hj.out j hjs (by omega)))
              have hyes := Lib.hid (fun (e : unnB dl sl t.ks[k] = true) => hz.out.trans (any_kid _ (List.getElem_mem hlt) e))
              have hszr := hBr.size
              have HBr := Lib.hid hBr
              have HDr := Lib.hid (HD.out.later hBr)
              have HSr := Lib.hid (HS.out.later hBr)
              generalize t.ks[k] = q at *
              clear g5 hK IH HL hj HD HS
              cases hq : unnB dl sl q
              case false =>
                have Hq := Lib.hid hq
                have Hsn := hsn.out hq
                clear hq hyes
                go_wp2_with fail
                refine (c.out _ (hK'.out.later ((Below.refl _ _).alloc (Nat.le_refl _) _)) (HDr.out.later ((Below.refl _ _).alloc (Nat.le_refl _) _)) (HSr.out.later ((Below.refl _ _).alloc (Nat.le_refl _) _))).mono ?_
                rintro e w2 ⟨rfl, hb2⟩
                rw [Hq.out]
                have hB2 := Lib.hid (HBr.out.trans ((((Below.refl _ wr).alloc (Nat.le_refl _) _).trans (hb2.mono (by simp))).mono hszr))
                clear hb2
                go_wp2_with fail
                go_roundw
                case rel => exact ⟨k + 1, by omega, by go_num, Hsn.out, hB2.out⟩
                case measure => simp [intOf]; omega
              case true =>
                have Hq := Lib.hid hq
                have Hr := Lib.hid (hyes.out hq)
                clear hq hsn hyes
                go_wp2_with fail
                refine (c.out _ (hK'.out.later ((Below.refl _ _).alloc (Nat.le_refl _) _)) (HDr.out.later ((Below.refl _ _).alloc (Nat.le_refl _) _)) (HSr.out.later ((Below.refl _ _).alloc (Nat.le_refl _) _))).mono ?_
                rintro e w2 ⟨rfl, hb2⟩
                rw [Hq.out]
                have hB2 := Lib.hid (HBr.out.trans ((((Below.refl _ wr).alloc (Nat.le_refl _) _).trans (hb2.mono (by simp))).mono hszr))
                clear hb2
                go_wp2_with fail
                go_ret
                exact ⟨by rw [Hr.out]; rfl, hB2.out⟩
            · have Hr := Lib.hid (hz.out.trans (no_kid (fun j h => hj.out j h (by omega))))
              go_wp2_with fail
              go_ret
              exact ⟨by rw [Hr.out]; rfl, hBr⟩

        · have Hr := Lib.hid (show unnB dl sl t = true by rw [hun, hfd, constB, sigArgs, hfs]; simp [ha])
          have hg : decide (0 < y.1.args.length) = true := decide_eq_true (List.length_pos_iff.2 ha)
          have hfd := Lib.hid hfd
          have hfs := Lib.hid hfs
          clear hun ha
          go_enter Try.func76, Try.ntmps76
          go_wp2_with fail
          refine (varOf_any dl t.nm DA dcap _ (HD.out.later (HB.out _)) hdl).mono ?_
          rintro e w1 ⟨rfl, hb1⟩
          rw [hfd.out]
          have HB1 := Lib.hid ((HB.out (.cells #[.int .i64 t.op, .int .i64 t.so, .string t.nm, .int .i64 t.nu, .slice A t.ks.length cap] 24)).trans (hb1.mono (HB.out _).size))
          have F1 := Lib.hid (F0.out.later hb1)
          obtain ⟨a0, a1, a2, a3, a4⟩ := F1.out
          clear hb1
          go_wp2_with fail
          refine (sigOf_any sl t.nm SA scap _ (HS.out.later HB1.out) hsl).mono ?_
          rintro e w2 ⟨rfl, hb2⟩
          have hB2 := HB1.out.trans (hb2.mono HB1.out.size)
          have F2 := F1.out.later hb2
          clear hb2 a0 a1 a2 a3 a4
          have HBL := Lib.hid (fun O => hB2.alloc hB2.size O)
          have hszw : w.heap.size < w2.heap.size := World.block_lt_of_cell? _ _ F2.c0
          obtain ⟨a0, a1, a2, a3, a4⟩ := F2
          clear hB2

          rw [hfs.out]
          go_wp2_with fail
          go_ret
          exact ⟨by rw [Hr.out]; rfl, HBL.out _⟩
  · have h1' : (t.op == 1) = false := by simpa using h1
    by_cases h3 : t.op = 3
    · have h3' : (t.op == 3) = true := by simpa using h3
      have hun : unnB dl sl t = (!(lookS sl t.nm).isSome || t.ks.any (unnB dl sl)) := by rw [unn_eq, namedB, if_neg h1, if_pos h3]
      clear h1 h3
      cases hfs : lookS sl t.nm with
      | none =>
        have Hr := Lib.hid (show unnB dl sl t = true by rw [hun, hfs]; rfl)
        have hfs := Lib.hid hfs
        clear hun
        go_enter Try.func76, Try.ntmps76
        go_wp2_with fail
        refine (sigOf_any sl t.nm SA scap _ (HS.out.later (HB.out _)) hsl).mono ?_
        rintro e w1 ⟨rfl, hb1⟩
        rw [hfs.out]
        have hB1 := (HB.out (.cells #[.int .i64 t.op, .int .i64 t.so, .string t.nm, .int .i64 t.nu, .slice A t.ks.length cap] 24)).trans (hb1.mono (HB.out _).size)
        have HBL := Lib.hid (fun O => hB1.alloc hB1.size O)
        clear hb1 hB1
        go_wp2_with fail
        go_ret
        exact ⟨by rw [Hr.out]; rfl, HBL.out _⟩
      | some y =>
        have hz := Lib.hid (show unnB dl sl t = t.ks.any (unnB dl sl) by rw [hun, hfs]; rfl)
        have hfs := Lib.hid hfs
        clear hun
        go_enter Try.func76, Try.ntmps76
        go_wp2_with fail
        refine (sigOf_any sl t.nm SA scap _ (HS.out.later (HB.out _)) hsl).mono ?_
        rintro e w1 ⟨rfl, hb1⟩
        rw [hfs.out]
        have hB1 := (HB.out (.cells #[.int .i64 t.op, .int .i64 t.so, .string t.nm, .int .i64 t.nu, .slice A t.ks.length cap] 24)).trans (hb1.mono (HB.out _).size)
        have HBL := Lib.hid (hB1.alloc hB1.size (.cells #[.string y.1.nm, .slice y.2.1 y.1.args.length y.2.2, .int .i64 y.1.so] 83))
        have F1 := F0.out.later hb1
        have hszw : w.heap.size < w1.heap.size := World.block_lt_of_cell? _ _ F1.c0
        obtain ⟨a0, a1, a2, a3, a4⟩ := F1
        clear hb1 hB1
        go_wp2_with fail
        clear a0 a1 a2 a3 a4
        go_loopw [59] (fun i wr => ∃ k : Nat, k ≤ t.ks.length ∧ i = .int .i64 k ∧ Hid (∀ j (h : j < t.ks.length), j < k → unnB dl sl t.ks[j] = false) ∧ Below w.heap.size w wr) (fun i _ => t.ks.length - (intOf i).toNat)
        case atStart => exact ⟨0, Nat.zero_le _, rfl, fun j hj hjk => absurd hjk (by omega), HBL.out⟩
        case round =>
          obtain ⟨k, hk, rfl, hj, hBr⟩ := hrel
          by_cases hlt : k < t.ks.length
          · obtain ⟨b, o, A', C', rfl, g5, hK⟩ := HL.out.kid hlt
            obtain ⟨a0, a1, a2, a3, a4⟩ := g5.later hBr
            have c := Lib.hid (IH.out k hlt A' C')
            have hK' := Lib.hid (hK.later hBr)
            have hsn := Lib.hid (fun (e : unnB dl sl t.ks[k] = false) => (show Hid (∀ j (h : j < t.ks.length), j < k + 1 → unnB dl sl t.ks[j] = false) from fun j hjs hjk => by
              by_cases e' : j = k
              · subst e'; exact e
              · exact hj.out j hjs (by omega)))
            have hyes := Lib.hid (fun (e : unnB dl sl t.ks[k] = true) => hz.out.trans (any_kid _ (List.getElem_mem hlt) e))
            have hszr := hBr.size
            have HBr := Lib.hid hBr
            have HDr := Lib.hid (HD.out.later hBr)
            have HSr := Lib.hid (HS.out.later hBr)
            generalize t.ks[k] = q at *
            clear g5 hK IH HL hj HD HS
            cases hq : unnB dl sl q
            case false =>
              have Hq := Lib.hid hq
              have Hsn := hsn.out hq
              clear hq hyes
              go_wp2_with fail
              refine (c.out _ (hK'.out.later ((Below.refl _ _).alloc (Nat.le_refl _) _)) (HDr.out.later ((Below.refl _ _).alloc (Nat.le_refl _) _)) (HSr.out.later ((Below.refl _ _).alloc (Nat.le_refl _) _))).mono ?_
              rintro e w2 ⟨rfl, hb2⟩
              rw [Hq.out]
              have hB2 := Lib.hid (HBr.out.trans ((((Below.refl _ wr).alloc (Nat.le_refl _) _).trans (hb2.mono (by simp))).mono hszr))
              clear hb2
              go_wp2_with fail
              go_roundw
              case rel => exact ⟨k + 1, by omega, by go_num, Hsn.out, hB2.out⟩
              case measure => simp [intOf]; omega
            case true =>
              have Hq := Lib.hid hq
              have Hr := Lib.hid (hyes.out hq)
              clear hq hsn hyes
              go_wp2_with fail
              refine (c.out _ (hK'.out.later ((Below.refl _ _).alloc (Nat.le_refl _) _)) (HDr.out.later ((Below.refl _ _).alloc (Nat.le_refl _) _)) (HSr.out.later ((Below.refl _ _).alloc (Nat.le_refl _) _))).mono ?_
              rintro e w2 ⟨rfl, hb2⟩
              rw [Hq.out]
              have hB2 := Lib.hid (HBr.out.trans ((((Below.refl _ wr).alloc (Nat.le_refl _) _).trans (hb2.mono (by simp))).mono hszr))
              clear hb2
              go_wp2_with fail
              go_ret
              exact ⟨by rw [Hr.out]; rfl, hB2.out⟩
          · have Hr := Lib.hid (hz.out.trans (no_kid (fun j h => hj.out j h (by omega))))
            go_wp2_with fail
            go_ret
            exact ⟨by rw [Hr.out]; rfl, hBr⟩

    · have h3' : (t.op == 3) = false := by simpa using h3
      have hz := Lib.hid (show unnB dl sl t = t.ks.any (unnB dl sl) by rw [unn_eq, namedB, if_neg h1, if_neg h3]; rfl)
      have HBL := Lib.hid (HB.out (.cells #[.int .i64 t.op, .int .i64 t.so, .string t.nm, .int .i64 t.nu, .slice A t.ks.length cap] 24))
      clear h1 h3
      go_enter Try.func76, Try.ntmps76
      go_wp2_with fail
      go_loopw [59] (fun i wr => ∃ k : Nat, k ≤ t.ks.length ∧ i = .int .i64 k ∧ Hid (∀ j (h : j < t.ks.length), j < k → unnB dl sl t.ks[j] = false) ∧ Below w.heap.size w wr) (fun i _ => t.ks.length - (intOf i).toNat)
      case atStart => exact ⟨0, Nat.zero_le _, rfl, fun j hj hjk => absurd hjk (by omega), HBL.out⟩
      case round =>
        obtain ⟨k, hk, rfl, hj, hBr⟩ := hrel
        by_cases hlt : k < t.ks.length
        · obtain ⟨b, o, A', C', rfl, g5, hK⟩ := HL.out.kid hlt
          obtain ⟨a0, a1, a2, a3, a4⟩ := g5.later hBr
          have c := Lib.hid (IH.out k hlt A' C')
          have hK' := Lib.hid (hK.later hBr)
          have hsn := Lib.hid (fun (e : unnB dl sl t.ks[k] = false) => (show Hid (∀ j (h : j < t.ks.length), j < k + 1 → unnB dl sl t.ks[j] = false) from fun j hjs hjk => by
            by_cases e' : j = k
            · subst e'; exact e
            · exact hj.out j hjs (by omega)))
          have hyes := Lib.hid (fun (e : unnB dl sl t.ks[k] = true) => hz.out.trans (any_kid _ (List.getElem_mem hlt) e))
          have hszr := hBr.size
          have HBr := Lib.hid hBr
          have HDr := Lib.hid (HD.out.later hBr)
          have HSr := Lib.hid (HS.out.later hBr)
          generalize t.ks[k] = q at *
          clear g5 hK IH HL hj HD HS
          cases hq : unnB dl sl q
          case false =>
            have Hq := Lib.hid hq
            have Hsn := hsn.out hq
            clear hq hyes
            go_wp2_with fail
            refine (c.out _ (hK'.out.later ((Below.refl _ _).alloc (Nat.le_refl _) _)) (HDr.out.later ((Below.refl _ _).alloc (Nat.le_refl _) _)) (HSr.out.later ((Below.refl _ _).alloc (Nat.le_refl _) _))).mono ?_
            rintro e w2 ⟨rfl, hb2⟩
            rw [Hq.out]
            have hB2 := Lib.hid (HBr.out.trans ((((Below.refl _ wr).alloc (Nat.le_refl _) _).trans (hb2.mono (by simp))).mono hszr))
            clear hb2
            go_wp2_with fail
            go_roundw
            case rel => exact ⟨k + 1, by omega, by go_num, Hsn.out, hB2.out⟩
            case measure => simp [intOf]; omega
          case true =>
            have Hq := Lib.hid hq
            have Hr := Lib.hid (hyes.out hq)
            clear hq hsn hyes
            go_wp2_with fail
            refine (c.out _ (hK'.out.later ((Below.refl _ _).alloc (Nat.le_refl _) _)) (HDr.out.later ((Below.refl _ _).alloc (Nat.le_refl _) _)) (HSr.out.later ((Below.refl _ _).alloc (Nat.le_refl _) _))).mono ?_
            rintro e w2 ⟨rfl, hb2⟩
            rw [Hq.out]
            have hB2 := Lib.hid (HBr.out.trans ((((Below.refl _ wr).alloc (Nat.le_refl _) _).trans (hb2.mono (by simp))).mono hszr))
            clear hb2
            go_wp2_with fail
            go_ret
            exact ⟨by rw [Hr.out]; rfl, hB2.out⟩
        · have Hr := Lib.hid (hz.out.trans (no_kid (fun j h => hj.out j h (by omega))))
          go_wp2_with fail
          go_ret
          exact ⟨by rw [Hr.out]; rfl, hBr⟩
end Go.Proofs.Ytpjokapkoeclpaa
