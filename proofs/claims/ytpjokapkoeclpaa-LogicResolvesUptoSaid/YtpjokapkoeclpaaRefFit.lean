/-
  Whether a number of kids is wrong, and whether kids fit their sigs, as the document's own way has it; conditions: the tree and the lists lie in memory; where kids are held against sigs, their numbers are right.
-/
import Derived.Test.YtpjokapkoeclpaaRefNamed
namespace Go.Proofs.Ytpjokapkoeclpaa
open Go.RowKit Go.Shelf Go.WideMaps

attribute [local go_sem] Oper.semAt_some
theorem mis_eq (sl : List SgA) (t : Nd) : misB sl t = (misOp sl t || t.ks.any (misB sl)) := any_eq t
theorem fit_eq (sl : List SgA) (t : Nd) : fitB sl t = (fitOp sl t && t.ks.all (fitB sl)) := all_eq t
theorem mis_var {sl : List SgA} {t : Nd} (h : (t.op == 1) = true) : misOp sl t = decide (0 < t.ks.length) := by
  have : t.op = 1 := by simpa using h
  unfold misOp
  rw [this]
  simp [Nat.pos_iff_ne_zero]
theorem mis_app {sl : List SgA} {t : Nd} (h : (t.op == 3) = true) : misOp sl t = decide ((sigAt sl t.nm).1.args.length ≠ t.ks.length) := by
  have : t.op = 3 := by simpa using h
  unfold misOp
  rw [this]
  rfl
theorem mis_other {sl : List SgA} {t : Nd} (h : (t.op == 1) = false) (h3 : (t.op == 3) = false) : misOp sl t = false := by
  unfold misOp
  rw [h, h3]
  rfl

set_option maxRecDepth 100000 in
set_option maxHeartbeats 4000000 in
theorem miscounted_any (sl : List SgA) (SA : Option Addr) (scap : Nat) (hsl : sl.length ≤ maxLen) (t : Nd) : ∀ (A : Option Addr) (cap : Nat) (w : World), Lies w A cap t.ks → Sgs w SA sl →
    Calls Try.prog 77 #[nv t.op t.so t.nm t.nu (.slice A t.ks.length cap), .slice SA sl.length scap] w fun e w' => e = .returned (.bool (misB sl t)) ∧ Below w.heap.size w w' := by
  induction t using Nd.ind with
  | h t ih =>
  intro A cap w hL hS
  have hn := hL.len
  unfold maxLen at hn
  have HL := Lib.hid hL
  have IH := Lib.hid ih
  have HS := Lib.hid hS
  have HB := Lib.hid (show ∀ O, Below w.heap.size w (w.alloc O) from fun O => (Below.refl _ _).alloc (Nat.le_refl _) _)
  have F0 := Lib.hid (five_new w t (.slice A t.ks.length cap) 24)
  clear hL ih hS
  cases h1' : t.op == 1
  case true =>
    have h3' : (t.op == 3) = false := by rw [beq_iff_eq] at h1'; rw [beq_eq_false_iff_ne]; omega
    cases h0 : decide (0 < t.ks.length)
    case true =>
      have Hr := Lib.hid (show misB sl t = true by rw [mis_eq, mis_var h1', h0]; rfl)
      have hg : decide ((0 : Int) < (t.ks.length : Int)) = true := by simpa using h0
      go_enter Try.func77, Try.ntmps77
      go_wp2_with fail
      go_ret
      exact ⟨by rw [Hr.out]; rfl, HB.out _⟩
    case false =>
      have hz := Lib.hid (show misB sl t = t.ks.any (misB sl) by rw [mis_eq, mis_var h1', h0]; rfl)
      have HBL := Lib.hid (HB.out (.cells #[.int .i64 t.op, .int .i64 t.so, .string t.nm, .int .i64 t.nu, .slice A t.ks.length cap] 24))
      have hg : decide ((0 : Int) < (t.ks.length : Int)) = false := by simpa using h0
      go_enter Try.func77, Try.ntmps77
      go_wp2_with fail
      clear h0 hg
      go_loopw [38] (fun i wr => ∃ k : Nat, k ≤ t.ks.length ∧ i = .int .i64 k ∧ Hid (∀ j (h : j < t.ks.length), j < k → misB sl t.ks[j] = false) ∧ Below w.heap.size w wr) (fun i _ => t.ks.length - (intOf i).toNat)
      case atStart => exact ⟨0, Nat.zero_le _, rfl, fun j hj hjk => absurd hjk (by omega), HBL.out⟩
      case round =>
        obtain ⟨k, hk, rfl, hj, hBr⟩ := hrel
        by_cases hlt : k < t.ks.length
        · obtain ⟨b, o, A', C', rfl, g5, hK⟩ := HL.out.kid hlt
          obtain ⟨a0, a1, a2, a3, a4⟩ := g5.later hBr
          have c := Lib.hid (IH.out k hlt A' C')
          have hK' := Lib.hid (hK.later hBr)
          have hsn := Lib.hid (fun (e : misB sl t.ks[k] = false) => (show Hid (∀ j (h : j < t.ks.length), j < k + 1 → misB sl t.ks[j] = false) from fun j hjs hjk => by
            by_cases e' : j = k
            · subst e'; exact e
            · exact hj.out j hjs (by omega)))
          have hyes := Lib.hid (fun (e : misB sl t.ks[k] = true) => hz.out.trans (any_kid _ (List.getElem_mem hlt) e))
          have hszr := hBr.size
          have HBr := Lib.hid hBr
          have HSr := Lib.hid (HS.out.later hBr)
          generalize t.ks[k] = q at *
          clear g5 hK IH HL hj HS
          cases hq : misB sl q
          case false =>
            have Hq := Lib.hid hq
            have Hsn := hsn.out hq
            clear hq hyes
            go_wp2_with fail
            refine (c.out _ (hK'.out.later ((Below.refl _ _).alloc (Nat.le_refl _) _)) (HSr.out.later ((Below.refl _ _).alloc (Nat.le_refl _) _))).mono ?_
            rintro e w2 ⟨rfl, hb2⟩
            rw [Hq.out]
            have hB2 := Lib.hid (HBr.out.trans ((((Below.refl _ wr).alloc (Nat.le_refl _) _).trans (hb2.mono (by simp))).mono hszr))
            clear hb2
            go_wp2_with fail
            go_roundw
            case rel => exact ⟨k + 1, by omega, by go_num, Hsn.out, hB2.out⟩
            case measure => simp [intOf]; omega
          case true =>
            have Hq := Lib.hid hq
            have Hr := Lib.hid (hyes.out hq)
            clear hq hsn hyes
            go_wp2_with fail
            refine (c.out _ (hK'.out.later ((Below.refl _ _).alloc (Nat.le_refl _) _)) (HSr.out.later ((Below.refl _ _).alloc (Nat.le_refl _) _))).mono ?_
            rintro e w2 ⟨rfl, hb2⟩
            rw [Hq.out]
            have hB2 := Lib.hid (HBr.out.trans ((((Below.refl _ wr).alloc (Nat.le_refl _) _).trans (hb2.mono (by simp))).mono hszr))
            clear hb2
            go_wp2_with fail
            go_ret
            exact ⟨by rw [Hr.out]; rfl, hB2.out⟩
        · have Hr := Lib.hid (hz.out.trans (no_kid (fun j h => hj.out j h (by omega))))
          go_wp2_with fail
          go_ret
          exact ⟨by rw [Hr.out]; rfl, hBr⟩

  case false =>
    cases h3' : t.op == 3
    case false =>
      have hz := Lib.hid (show misB sl t = t.ks.any (misB sl) by rw [mis_eq, mis_other h1' h3']; rfl)
      have HBL := Lib.hid (HB.out (.cells #[.int .i64 t.op, .int .i64 t.so, .string t.nm, .int .i64 t.nu, .slice A t.ks.length cap] 24))
      go_enter Try.func77, Try.ntmps77
      go_wp2_with fail
      go_loopw [38] (fun i wr => ∃ k : Nat, k ≤ t.ks.length ∧ i = .int .i64 k ∧ Hid (∀ j (h : j < t.ks.length), j < k → misB sl t.ks[j] = false) ∧ Below w.heap.size w wr) (fun i _ => t.ks.length - (intOf i).toNat)
      case atStart => exact ⟨0, Nat.zero_le _, rfl, fun j hj hjk => absurd hjk (by omega), HBL.out⟩
      case round =>
        obtain ⟨k, hk, rfl, hj, hBr⟩ := hrel
        by_cases hlt : k < t.ks.length
        · obtain ⟨b, o, A', C', rfl, g5, hK⟩ := HL.out.kid hlt
          obtain ⟨a0, a1, a2, a3, a4⟩ := g5.later hBr
          have c := Lib.hid (IH.out k hlt A' C')
          have hK' := Lib.hid (hK.later hBr)
          have hsn := Lib.hid (fun (e : misB sl t.ks[k] = false) => (show Hid (∀ j (h : j < t.ks.length), j < k + 1 → misB sl t.ks[j] = false) from fun j hjs hjk => by
            by_cases e' : j = k
            · subst e'; exact e
            · exact hj.out j hjs (by omega)))
          have hyes := Lib.hid (fun (e : misB sl t.ks[k] = true) => hz.out.trans (any_kid _ (List.getElem_mem hlt) e))
          have hszr := hBr.size
          have HBr := Lib.hid hBr
          have HSr := Lib.hid (HS.out.later hBr)
          generalize t.ks[k] = q at *
          clear g5 hK IH HL hj HS
          cases hq : misB sl q
          case false =>
            have Hq := Lib.hid hq
            have Hsn := hsn.out hq
            clear hq hyes
            go_wp2_with fail
            refine (c.out _ (hK'.out.later ((Below.refl _ _).alloc (Nat.le_refl _) _)) (HSr.out.later ((Below.refl _ _).alloc (Nat.le_refl _) _))).mono ?_
            rintro e w2 ⟨rfl, hb2⟩
            rw [Hq.out]
            have hB2 := Lib.hid (HBr.out.trans ((((Below.refl _ wr).alloc (Nat.le_refl _) _).trans (hb2.mono (by simp))).mono hszr))
            clear hb2
            go_wp2_with fail
            go_roundw
            case rel => exact ⟨k + 1, by omega, by go_num, Hsn.out, hB2.out⟩
            case measure => simp [intOf]; omega
          case true =>
            have Hq := Lib.hid hq
            have Hr := Lib.hid (hyes.out hq)
            clear hq hsn hyes
            go_wp2_with fail
            refine (c.out _ (hK'.out.later ((Below.refl _ _).alloc (Nat.le_refl _) _)) (HSr.out.later ((Below.refl _ _).alloc (Nat.le_refl _) _))).mono ?_
            rintro e w2 ⟨rfl, hb2⟩
            rw [Hq.out]
            have hB2 := Lib.hid (HBr.out.trans ((((Below.refl _ wr).alloc (Nat.le_refl _) _).trans (hb2.mono (by simp))).mono hszr))
            clear hb2
            go_wp2_with fail
            go_ret
            exact ⟨by rw [Hr.out]; rfl, hB2.out⟩
        · have Hr := Lib.hid (hz.out.trans (no_kid (fun j h => hj.out j h (by omega))))
          go_wp2_with fail
          go_ret
          exact ⟨by rw [Hr.out]; rfl, hBr⟩

    case true =>
      have hm := mis_app (sl := sl) h3'
      by_cases ha : (sigAt sl t.nm).1.args.length = t.ks.length
      · have hz := Lib.hid (show misB sl t = t.ks.any (misB sl) by rw [mis_eq, hm, decide_eq_false (fun e => e ha)]; rfl)
        have hg : (((sigAt sl t.nm).1.args.length : Int) != (t.ks.length : Int)) = false := by simp; omega
        have hg' : (((sigAt sl t.nm).1.args.length : Int) == (t.ks.length : Int)) = true := by simp; omega
        clear hm ha
        go_enter Try.func77, Try.ntmps77
        go_wp2_with fail
        refine (sigOf_any sl t.nm SA scap _ (HS.out.later (HB.out _)) hsl).mono ?_
        rintro e w1 ⟨rfl, hb1⟩
        have hB1 := (HB.out (.cells #[.int .i64 t.op, .int .i64 t.so, .string t.nm, .int .i64 t.nu, .slice A t.ks.length cap] 24)).trans (hb1.mono (HB.out _).size)
        have F1 := F0.out.later hb1
        have hszw : w.heap.size < w1.heap.size := World.block_lt_of_cell? _ _ F1.c0
        obtain ⟨a0, a1, a2, a3, a4⟩ := F1
        clear hb1
        rw [show (lookS sl t.nm).getD zeroSg = sigAt sl t.nm from rfl]

        generalize sigAt sl t.nm = y at *
        have HBL := Lib.hid (hB1.alloc hB1.size (.cells #[.string y.1.nm, .slice y.2.1 y.1.args.length y.2.2, .int .i64 y.1.so] 83))
        clear hB1
        go_wp2_with fail
        clear a0 a1 a2 a3 a4 hg hg'
        go_loopw [38] (fun i wr => ∃ k : Nat, k ≤ t.ks.length ∧ i = .int .i64 k ∧ Hid (∀ j (h : j < t.ks.length), j < k → misB sl t.ks[j] = false) ∧ Below w.heap.size w wr) (fun i _ => t.ks.length - (intOf i).toNat)
        case atStart => exact ⟨0, Nat.zero_le _, rfl, fun j hj hjk => absurd hjk (by omega), HBL.out⟩
        case round =>
          obtain ⟨k, hk, rfl, hj, hBr⟩ := hrel
          by_cases hlt : k < t.ks.length
          · obtain ⟨b, o, A', C', rfl, g5, hK⟩ := HL.out.kid hlt
            obtain ⟨a0, a1, a2, a3, a4⟩ := g5.later hBr
            have c := Lib.hid (IH.out k hlt A' C')
            have hK' := Lib.hid (hK.later hBr)
            have hsn := Lib.hid (fun (e : misB sl t.ks[k] = false) => (show Hid (∀ j (h : j < t.ks.length), j < k + 1 → misB sl t.ks[j] = false) from fun j hjs hjk => by
              by_cases e' : j = k
              · subst e'; exact e
              · exact hj.out j hjs (by omega)))
            have hyes := Lib.hid (fun (e : misB sl t.ks[k] = true) => hz.out.trans (any_kid _ (List.getElem_mem hlt) e))
            have hszr := hBr.size
            have HBr := Lib.hid hBr
            have HSr := Lib.hid (HS.out.later hBr)
            generalize t.ks[k] = q at *
            clear g5 hK IH HL hj HS
            cases hq : misB sl q
            case false =>
              have Hq := Lib.hid hq
              have Hsn := hsn.out hq
              clear hq hyes
              go_wp2_with fail
              refine (c.out _ (hK'.out.later ((Below.refl _ _).alloc (Nat.le_refl _) _)) (HSr.out.later ((Below.refl _ _).alloc (Nat.le_refl _) _))).mono ?_
              rintro e w2 ⟨rfl, hb2⟩
              rw [Hq.out]
              have hB2 := Lib.hid (HBr.out.trans ((((Below.refl _ wr).alloc (Nat.le_refl _) _).trans (hb2.mono (by simp))).mono hszr))
              clear hb2
              go_wp2_with fail
              go_roundw
              case rel => exact ⟨k + 1, by omega, by go_num, Hsn.out, hB2.out⟩
              case measure => simp [intOf]; omega
            case true =>
              have Hq := Lib.hid hq
              have Hr := Lib.hid (hyes.out hq)
              clear hq hsn hyes
              go_wp2_with fail
              refine (c.out _ (hK'.out.later ((Below.refl _ _).alloc (Nat.le_refl _) _)) (HSr.out.later ((Below.refl _ _).alloc (Nat.le_refl _) _))).mono ?_
              rintro e w2 ⟨rfl, hb2⟩
              rw [Hq.out]
              have hB2 := Lib.hid (HBr.out.trans ((((Below.refl _ wr).alloc (Nat.le_refl _) _).trans (hb2.mono (by simp))).mono hszr))
              clear hb2
              go_wp2_with fail
              go_ret
              exact ⟨by rw [Hr.out]; rfl, hB2.out⟩
          · have Hr := Lib.hid (hz.out.trans (no_kid (fun j h => hj.out j h (by omega))))
            go_wp2_with fail
            go_ret
            exact ⟨by rw [Hr.out]; rfl, hBr⟩

      · have Hr := Lib.hid (show misB sl t = true by rw [mis_eq, hm, decide_eq_true ha]; rfl)
        have hg : (((sigAt sl t.nm).1.args.length : Int) != (t.ks.length : Int)) = true := by simp; omega
        have hg' : (((sigAt sl t.nm).1.args.length : Int) == (t.ks.length : Int)) = false := by rw [beq_eq_false_iff_ne]; omega
        clear hm ha
        go_enter Try.func77, Try.ntmps77
        go_wp2_with fail
        refine (sigOf_any sl t.nm SA scap _ (HS.out.later (HB.out _)) hsl).mono ?_
        rintro e w1 ⟨rfl, hb1⟩
        have hB1 := (HB.out (.cells #[.int .i64 t.op, .int .i64 t.so, .string t.nm, .int .i64 t.nu, .slice A t.ks.length cap] 24)).trans (hb1.mono (HB.out _).size)
        have F1 := F0.out.later hb1
        have hszw : w.heap.size < w1.heap.size := World.block_lt_of_cell? _ _ F1.c0
        obtain ⟨a0, a1, a2, a3, a4⟩ := F1
        clear hb1
        rw [show (lookS sl t.nm).getD zeroSg = sigAt sl t.nm from rfl]

        generalize sigAt sl t.nm = y at *
        have HBL := Lib.hid (hB1.alloc hB1.size (.cells #[.string y.1.nm, .slice y.2.1 y.1.args.length y.2.2, .int .i64 y.1.so] 83))
        clear hB1
        go_wp2_with fail
        go_ret
        exact ⟨by rw [Hr.out]; rfl, HBL.out⟩

theorem fitting_app {sl : List SgA} {t : Nd} (h : (t.op == 3) = true) (hc : t.ks.length = (sigAt sl t.nm).1.args.length) (ha : ∀ j (h1 : j < (sigAt sl t.nm).1.args.length) (h2 : j < t.ks.length), argOk (sigAt sl t.nm).1.args[j] (sortN t.ks[j]) = true) : fitB sl t = t.ks.all (fitB sl) := by
  rw [fit_eq, fitOp_app h, fitSigB, decide_eq_true ⟨hc, ha⟩]
  rfl
theorem fitting_bad {sl : List SgA} {t : Nd} (h : (t.op == 3) = true) {k : Nat} (h1 : k < (sigAt sl t.nm).1.args.length) (h2 : k < t.ks.length) (hb : argOk (sigAt sl t.nm).1.args[k] (sortN t.ks[k]) = false) : fitB sl t = false := by
  rw [fit_eq, fitOp_app h, fit_bad h1 h2 hb]
  rfl
set_option maxRecDepth 100000 in
set_option maxHeartbeats 4000000 in
theorem fitting_any (sl : List SgA) (SA : Option Addr) (scap : Nat) (hsl : sl.length ≤ maxLen) (t : Nd) : ∀ (A : Option Addr) (cap : Nat) (w : World), Lies w A cap t.ks → Sgs w SA sl → ArgsIn w sl → (∀ y ∈ nodesOf t, y.op = 3 → y.ks.length = (sigArgs sl y.nm).length) →
    Calls Try.prog 79 #[nv t.op t.so t.nm t.nu (.slice A t.ks.length cap), .slice SA sl.length scap] w fun e w' => e = .returned (.bool (fitB sl t)) ∧ Below w.heap.size w w' := by
  induction t using Nd.ind with
  | h t ih =>
  intro A cap w hL hS hA hN
  have hn := hL.len
  unfold maxLen at hn
  have HL := Lib.hid hL
  have IH := Lib.hid ih
  have HS := Lib.hid hS
  have HA := Lib.hid hA
  have HN := Lib.hid hN
  have HB := Lib.hid (show ∀ O, Below w.heap.size w (w.alloc O) from fun O => (Below.refl _ _).alloc (Nat.le_refl _) _)
  have F0 := Lib.hid (five_new w t (.slice A t.ks.length cap) 24)
  clear hL ih hS hA hN
  cases h3' : t.op == 3
  case false =>
    have hz := Lib.hid (show fitB sl t = t.ks.all (fitB sl) by rw [fit_eq, fitOp_no h3']; rfl)
    have HBL := Lib.hid (HB.out (.cells #[.int .i64 t.op, .int .i64 t.so, .string t.nm, .int .i64 t.nu, .slice A t.ks.length cap] 24))
    go_enter Try.func79, Try.ntmps79
    go_wp2_with fail
    go_loopw [55] (fun i wr => ∃ k : Nat, k ≤ t.ks.length ∧ i = .int .i64 k ∧ Hid (∀ j (h : j < t.ks.length), j < k → fitB sl t.ks[j] = true) ∧ Below w.heap.size w wr) (fun i _ => t.ks.length - (intOf i).toNat)
    case atStart => exact ⟨0, Nat.zero_le _, rfl, fun j hj hjk => absurd hjk (by omega), HBL.out⟩
    case round =>
      obtain ⟨k, hk, rfl, hj, hBr⟩ := hrel
      by_cases hlt : k < t.ks.length
      · obtain ⟨b, o, A', C', rfl, g5, hK⟩ := HL.out.kid hlt
        obtain ⟨a0, a1, a2, a3, a4⟩ := g5.later hBr
        have c := Lib.hid (IH.out k hlt A' C')
        have hK' := Lib.hid (hK.later hBr)
        have hsn := Lib.hid (fun (e : fitB sl t.ks[k] = true) => (show Hid (∀ j (h : j < t.ks.length), j < k + 1 → fitB sl t.ks[j] = true) from fun j hjs hjk => by
          by_cases e' : j = k
          · subst e'; exact e
          · exact hj.out j hjs (by omega)))
        have hyes := Lib.hid (fun (e : fitB sl t.ks[k] = false) => hz.out.trans (all_kid _ (List.getElem_mem hlt) e))
        have hszr := hBr.size
        have HBr := Lib.hid hBr
        have HSr := Lib.hid (HS.out.later hBr)
        have HAr := Lib.hid (HA.out.later hBr)
        have hnk := Lib.hid (fun y hy => HN.out y (mem_kid (List.getElem_mem hlt) hy))
        generalize t.ks[k] = q at *
        clear g5 hK IH HL hj HS HA HN
        cases hq : fitB sl q
        case true =>
          have Hq := Lib.hid hq
          have Hsn := hsn.out hq
          clear hq hyes
          go_wp2_with fail
          refine (c.out _ (hK'.out.later ((Below.refl _ _).alloc (Nat.le_refl _) _)) (HSr.out.later ((Below.refl _ _).alloc (Nat.le_refl _) _)) (HAr.out.later ((Below.refl _ _).alloc (Nat.le_refl _) _)) hnk.out).mono ?_
          rintro e w2 ⟨rfl, hb2⟩
          rw [Hq.out]
          have hB2 := Lib.hid (HBr.out.trans ((((Below.refl _ wr).alloc (Nat.le_refl _) _).trans (hb2.mono (by simp))).mono hszr))
          clear hb2
          go_wp2_with fail
          go_roundw
          case rel => exact ⟨k + 1, by omega, by go_num, Hsn.out, hB2.out⟩
          case measure => simp [intOf]; omega
        case false =>
          have Hq := Lib.hid hq
          have Hr := Lib.hid (hyes.out hq)
          clear hq hsn hyes
          go_wp2_with fail
          refine (c.out _ (hK'.out.later ((Below.refl _ _).alloc (Nat.le_refl _) _)) (HSr.out.later ((Below.refl _ _).alloc (Nat.le_refl _) _)) (HAr.out.later ((Below.refl _ _).alloc (Nat.le_refl _) _)) hnk.out).mono ?_
          rintro e w2 ⟨rfl, hb2⟩
          rw [Hq.out]
          have hB2 := Lib.hid (HBr.out.trans ((((Below.refl _ wr).alloc (Nat.le_refl _) _).trans (hb2.mono (by simp))).mono hszr))
          clear hb2
          go_wp2_with fail
          go_ret
          exact ⟨by rw [Hr.out]; rfl, hB2.out⟩
      · have Hr := Lib.hid (hz.out.trans (all_kids (fun j h => hj.out j h (by omega))))
        go_wp2_with fail
        go_ret
        exact ⟨by rw [Hr.out]; rfl, hBr⟩

  case true =>
    have hc := Lib.hid (show t.ks.length = (sigAt sl t.nm).1.args.length from HN.out t (mem_self t) (by simpa using h3'))
    have hyz := Lib.hid (fitting_app (sl := sl) h3' hc.out)
    have hbz := Lib.hid (fun k h1 h2 => fitting_bad (sl := sl) h3' (k := k) h1 h2)
    go_enter Try.func79, Try.ntmps79
    go_wp2_with fail
    refine (sigOf_any sl t.nm SA scap _ (HS.out.later (HB.out _)) hsl).mono ?_
    rintro e w1 ⟨rfl, hb1⟩
    have hB1 := (HB.out (.cells #[.int .i64 t.op, .int .i64 t.so, .string t.nm, .int .i64 t.nu, .slice A t.ks.length cap] 24)).trans (hb1.mono (HB.out _).size)
    have F1 := F0.out.later hb1
    have hszw : w.heap.size < w1.heap.size := World.block_lt_of_cell? _ _ F1.c0
    obtain ⟨a0, a1, a2, a3, a4⟩ := F1
    clear hb1
    rw [show (lookS sl t.nm).getD zeroSg = sigAt sl t.nm from rfl]

    have HI := Lib.hid ((sigAt_in (HA.out.later hB1) t.nm).1)
    have hsl2 := (sigAt_in HA.out t.nm).2.1
    unfold maxLen at hsl2
    generalize sigAt sl t.nm = y at *
    have HBL := Lib.hid (hB1.alloc hB1.size (.cells #[.string y.1.nm, .slice y.2.1 y.1.args.length y.2.2, .int .i64 y.1.so] 83))
    have FL1 := Lib.hid ((show Five w1 w.heap.size 0 t (.slice A t.ks.length cap) from ⟨a0, a1, a2, a3, a4⟩).later ((Below.refl _ _).alloc (Nat.le_refl _) (.cells #[.string y.1.nm, .slice y.2.1 y.1.args.length y.2.2, .int .i64 y.1.so] 83)))
    have HI := Lib.hid (HI.out.later ((Below.refl _ _).alloc (Nat.le_refl _) (.cells #[.string y.1.nm, .slice y.2.1 y.1.args.length y.2.2, .int .i64 y.1.so] 83)))
    have HB10 := Lib.hid (fun W (h : Below w.heap.size w W) => HL.out.later h)
    clear hB1
    go_wp2_with fail
    clear a0 a1 a2 a3 a4
    generalize hW2 : w1.alloc (.cells #[.string y.1.nm, .slice y.2.1 y.1.args.length y.2.2, .int .i64 y.1.so] 83) = W2 at *
    clear hW2
    go_loopw [25] (fun i wr => ∃ k : Nat, k ≤ y.1.args.length ∧ i = .int .i64 k ∧ Hid (∀ j (h1 : j < y.1.args.length) (h2 : j < t.ks.length), j < k → argOk y.1.args[j] (sortN t.ks[j]) = true) ∧ Hid (Below w.heap.size w wr) ∧ Hid (Five wr w.heap.size 0 t (.slice A t.ks.length cap)) ∧ Hid (Below W2.heap.size W2 wr)) (fun i _ => y.1.args.length - (intOf i).toNat)
    case atStart => exact ⟨0, Nat.zero_le _, rfl, fun j _ _ hj => absurd hj (by omega), HBL.out, FL1.out, Lib.hid (Below.refl _ _)⟩
    case round =>
      obtain ⟨k, hk, rfl, hj, HBr, Fr, HB2r⟩ := hrel
      have b4 := Fr.out.c4
      by_cases hlt : k < y.1.args.length
      · have hltk : k < t.ks.length := by have := hc.out; omega
        obtain ⟨b, o, A', C', rfl, h5, hK⟩ := HL.out.kid hltk
        obtain ⟨sb, so, hsa, hsc⟩ := HI.out.later HB2r.out
        replace hsa := hsa (by omega)
        have c0 := hsc k hlt
        obtain ⟨a0, a1, a2, a3, a4⟩ := h5.later HBr.out
        have hK' := Lib.hid (hK.later HBr.out)
        have hyes := Lib.hid (fun (e : argOk y.1.args[k] (sortN t.ks[k]) = true) => (show Hid (∀ j (h1 : j < y.1.args.length) (h2 : j < t.ks.length), j < k + 1 → argOk y.1.args[j] (sortN t.ks[j]) = true) from fun j h1 h2 hjk => by
          by_cases e' : j = k
          · subst e'; exact e
          · exact hj.out j h1 h2 (by omega)))
        have hno := Lib.hid (hbz.out k hlt hltk)
        generalize y.1.args[k] = z at *
        generalize t.ks[k] = q at *
        clear h5 hK hsc HS HL hj hyz hbz
        rw [hsa]
        clear hsa
        by_cases h0 : z = 0
        · subst h0
          cases h2 : sortN q == 2
          case true =>
            have Hr := Lib.hid (hno.out (decide_eq_false (by rw [beq_iff_eq] at h2; omega)))
            clear hyes hno
            go_wp2_with fail
            refine (refSort_any q _ _ _ hK'.out).mono ?_
            rintro e w2 ⟨rfl, hb2⟩
            have hB2 := Lib.hid (HBr.out.trans (hb2.mono HBr.out.size))
            clear hb2 a0 a1 a2 a3 a4 b4
            go_wp2_with fail
            go_ret
            exact ⟨by rw [Hr.out]; rfl, hB2.out⟩

          case false =>
            have hok := Lib.hid (hyes.out (argOk_zero rfl h2))
            clear hyes hno
            go_wp2_with fail
            refine (refSort_any q _ _ _ hK'.out).mono ?_
            rintro e w2 ⟨rfl, hb2⟩
            have hB2 := Lib.hid (HBr.out.trans (hb2.mono HBr.out.size))
            have F2 := Lib.hid (Fr.out.later hb2)
            have HB22 := Lib.hid (HB2r.out.trans (hb2.mono HB2r.out.size))
            clear hb2 a0 a1 a2 a3 a4 b4
            go_wp2_with fail
            go_roundw
            case rel => exact ⟨k + 1, by omega, by go_num, hok.out, hB2.out, F2.out, HB22.out⟩
            case measure => simp [intOf]; omega

        · have h0' : (z == 0) = false := by simpa using h0
          have h0'' : (z != 0) = true := by simpa using h0
          clear h0
          cases h2 : sortN q == z
          case true =>
            have hok := Lib.hid (hyes.out (argOk_same (by rw [beq_iff_eq] at h2 ⊢; exact h2.symm)))
            have h2' : (sortN q != z) = false := by rw [bne, h2]; rfl
            clear hyes hno
            go_wp2_with fail
            refine (refSort_any q _ _ _ hK'.out).mono ?_
            rintro e w2 ⟨rfl, hb2⟩
            have hB2 := Lib.hid (HBr.out.trans (hb2.mono HBr.out.size))
            have F2 := Lib.hid (Fr.out.later hb2)
            have HB22 := Lib.hid (HB2r.out.trans (hb2.mono HB2r.out.size))
            clear hb2 a0 a1 a2 a3 a4 b4
            go_wp2_with fail
            go_roundw
            case rel => exact ⟨k + 1, by omega, by go_num, hok.out, hB2.out, F2.out, HB22.out⟩
            case measure => simp [intOf]; omega

          case false =>
            have Hr := Lib.hid (hno.out (argOk_other (by rw [beq_eq_false_iff_ne] at h2 ⊢; exact fun e => h2 e.symm) h0'))
            have h2' : (sortN q != z) = true := by rw [bne, h2]; rfl
            clear hyes hno
            go_wp2_with fail
            refine (refSort_any q _ _ _ hK'.out).mono ?_
            rintro e w2 ⟨rfl, hb2⟩
            have hB2 := Lib.hid (HBr.out.trans (hb2.mono HBr.out.size))
            clear hb2 a0 a1 a2 a3 a4 b4
            go_wp2_with fail
            go_ret
            exact ⟨by rw [Hr.out]; rfl, hB2.out⟩

      · have hz := Lib.hid (hyz.out (fun j h1 h2 => hj.out j h1 h2 (by omega)))
        have HBL := HBr
        clear hj hbz hyz
        go_wp2_with fail
        clear b4
        go_loopw [55] (fun i wr => ∃ k : Nat, k ≤ t.ks.length ∧ i = .int .i64 k ∧ Hid (∀ j (h : j < t.ks.length), j < k → fitB sl t.ks[j] = true) ∧ Below w.heap.size w wr) (fun i _ => t.ks.length - (intOf i).toNat)
        case atStart => exact ⟨0, Nat.zero_le _, rfl, fun j hj hjk => absurd hjk (by omega), HBL.out⟩
        case round =>
          obtain ⟨k, hk, rfl, hj, hBr⟩ := hrel
          by_cases hlt : k < t.ks.length
          · obtain ⟨b, o, A', C', rfl, g5, hK⟩ := HL.out.kid hlt
            obtain ⟨a0, a1, a2, a3, a4⟩ := g5.later hBr
            have c := Lib.hid (IH.out k hlt A' C')
            have hK' := Lib.hid (hK.later hBr)
            have hsn := Lib.hid (fun (e : fitB sl t.ks[k] = true) => (show Hid (∀ j (h : j < t.ks.length), j < k + 1 → fitB sl t.ks[j] = true) from fun j hjs hjk => by
              by_cases e' : j = k
              · subst e'; exact e
              · exact hj.out j hjs (by omega)))
            have hyes := Lib.hid (fun (e : fitB sl t.ks[k] = false) => hz.out.trans (all_kid _ (List.getElem_mem hlt) e))
            have hszr := hBr.size
            have HBr := Lib.hid hBr
            have HSr := Lib.hid (HS.out.later hBr)
            have HAr := Lib.hid (HA.out.later hBr)
            have hnk := Lib.hid (fun y hy => HN.out y (mem_kid (List.getElem_mem hlt) hy))
            generalize t.ks[k] = q at *
            clear g5 hK IH HL hj HS HA HN
            cases hq : fitB sl q
            case true =>
              have Hq := Lib.hid hq
              have Hsn := hsn.out hq
              clear hq hyes
              go_wp2_with fail
              refine (c.out _ (hK'.out.later ((Below.refl _ _).alloc (Nat.le_refl _) _)) (HSr.out.later ((Below.refl _ _).alloc (Nat.le_refl _) _)) (HAr.out.later ((Below.refl _ _).alloc (Nat.le_refl _) _)) hnk.out).mono ?_
              rintro e w2 ⟨rfl, hb2⟩
              rw [Hq.out]
              have hB2 := Lib.hid (HBr.out.trans ((((Below.refl _ wr).alloc (Nat.le_refl _) _).trans (hb2.mono (by simp))).mono hszr))
              clear hb2
              go_wp2_with fail
              go_roundw
              case rel => exact ⟨k + 1, by omega, by go_num, Hsn.out, hB2.out⟩
              case measure => simp [intOf]; omega
            case false =>
              have Hq := Lib.hid hq
              have Hr := Lib.hid (hyes.out hq)
              clear hq hsn hyes
              go_wp2_with fail
              refine (c.out _ (hK'.out.later ((Below.refl _ _).alloc (Nat.le_refl _) _)) (HSr.out.later ((Below.refl _ _).alloc (Nat.le_refl _) _)) (HAr.out.later ((Below.refl _ _).alloc (Nat.le_refl _) _)) hnk.out).mono ?_
              rintro e w2 ⟨rfl, hb2⟩
              rw [Hq.out]
              have hB2 := Lib.hid (HBr.out.trans ((((Below.refl _ wr).alloc (Nat.le_refl _) _).trans (hb2.mono (by simp))).mono hszr))
              clear hb2
              go_wp2_with fail
              go_ret
              exact ⟨by rw [Hr.out]; rfl, hB2.out⟩
          · have Hr := Lib.hid (hz.out.trans (all_kids (fun j h => hj.out j h (by omega))))
            go_wp2_with fail
            go_ret
            exact ⟨by rw [Hr.out]; rfl, hBr⟩
end Go.Proofs.Ytpjokapkoeclpaa
