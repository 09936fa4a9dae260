/-
  What the document's own Levels and constant return; conditions: the tree lies in memory.
-/
import Derived.Test.YtpjokapkoeclpaaRefSorted
namespace Go.Proofs.Ytpjokapkoeclpaa
open Go.RowKit Go.Shelf

attribute [local go_sem] Oper.semAt_some
/-- The number of levels as the document counts it. -/
def levW : Nd → Int
  | .mk _ _ _ _ ks => wrap64 (ks.attach.foldl (fun s k => max s (levW k.1)) 0 + 1)
termination_by t => SizeOf.sizeOf t
decreasing_by
  have := List.sizeOf_lt_of_mem k.2
  simp only [Nd.mk.sizeOf_spec]
  omega

def levL (s : Int) (ks : List Nd) : Int := ks.foldl (fun s k => max s (levW k)) s
theorem levW_eq (t : Nd) : levW t = wrap64 (levL 0 t.ks + 1) := by
  cases t
  rw [levW, levL]
  simp only [Nd.ks]
  rw [List.foldl_attach (f := fun s k => max s (levW k))]
theorem levL_snoc (s : Int) (ks : List Nd) (k : Nat) (hk : k < ks.length) : levL s (ks.take (k + 1)) = max (levL s (ks.take k)) (levW ks[k]) := by
  rw [levL, levL, List.take_succ_eq_append_getElem hk, List.foldl_append]
  rfl

set_option maxHeartbeats 1000000 in
theorem refLevels_any (t : Nd) : ∀ (A : Option Addr) (cap : Nat) (w : World), Lies w A cap t.ks →
    Calls Try.prog 19 #[nv t.op t.so t.nm t.nu (.slice A t.ks.length cap)] w fun e w' => e = .returned (.int .i64 (levW t)) ∧ Below w.heap.size w w' := by
  induction t using Nd.ind with
  | h t ih =>
  intro A cap w hL
  have HW := Lib.hid (levW_eq t)
  have hn := hL.len
  unfold maxLen at hn
  have IH := Lib.hid ih
  clear ih
  have HL := Lib.hid hL
  clear hL
  generalize levW t = R at *
  generalize t.ks = ks at *
  go_enter Try.func19, Try.ntmps19
  go_wp2_with fail
  go_loopw [3, 9] (fun s i wr => ∃ k : Nat, k ≤ ks.length ∧ i = .int .i64 k ∧ s = .int .i64 (levL 0 (ks.take k)) ∧ Below w.heap.size w wr) (fun _ i wr => ks.length - (intOf i).toNat)
  case atStart => exact ⟨0, Nat.zero_le _, rfl, rfl, (Below.refl _ _).alloc (Nat.le_refl _) _⟩
  case round =>
    obtain ⟨k, hk, rfl, rfl, hB⟩ := hrel
    by_cases hlt : k < ks.length
    · obtain ⟨b, o, A', C', rfl, h5, hK⟩ := HL.out.kid hlt
      have HS := Lib.hid (levL_snoc 0 ks k hlt)
      have c := Lib.hid (IH.out k hlt A' C')
      have h5' := h5.later hB
      have hK' := Lib.hid (hK.later hB)
      generalize ks[k] = q at *
      obtain ⟨a0, a1, a2, a3, a4⟩ := h5'
      clear h5 hK IH HL
      go_wp2_with fail
      refine (c.out _ (hK'.out.later ((Below.refl _ _).alloc (Nat.le_refl _) _))).mono ?_
      rintro e w1 ⟨rfl, hb1⟩
      have hB1 : Below w.heap.size w w1 := (hB.alloc hB.size _).trans (hb1.mono (by have := hB.size; simp; omega))
      clear hb1
      go_wp2_with fail
      go_roundw
      case rel => exact ⟨k + 1, by omega, by go_num, by rw [HS.out, Int.max_def]; congr 1; split <;> split <;> omega, hB1⟩
      case measure => simp [intOf]; omega
    · go_wp2_with fail
      go_ret
      refine ⟨?_, hB⟩
      rw [HW.out, List.take_of_length_le (by omega)]
      rfl

/-- Whether a name is that of an application without kids in a tree. -/
def conB (nm : ByteArray) (t : Nd) : Bool := (nodesOf t).any fun y => y.op == 3 && (y.nm.toList == nm.toList && decide (y.ks.length = 0))
theorem conB_eq (nm : ByteArray) (t : Nd) : conB nm t = ((t.op == 3 && (t.nm.toList == nm.toList && decide (t.ks.length = 0))) || t.ks.any (conB nm)) := by
  rw [conB, nodesOf_eq, List.any_cons, List.any_flatMap]; rfl

set_option maxRecDepth 100000 in
set_option maxHeartbeats 2000000 in
theorem constant_any (nm : ByteArray) (t : Nd) : ∀ (A : Option Addr) (cap : Nat) (w : World), Lies w A cap t.ks →
    Calls Try.prog 54 #[nv t.op t.so t.nm t.nu (.slice A t.ks.length cap), .string nm] w fun e w' => e = .returned (.bool (conB nm t)) ∧ Below w.heap.size w w' := by
  induction t using Nd.ind with
  | h t ih =>
  intro A cap w hL
  have HB1 : Below w.heap.size w (w.alloc (.cells #[.int .i64 t.op, .int .i64 t.so, .string t.nm, .int .i64 t.nu, .slice A t.ks.length cap] 24)) := (Below.refl _ _).alloc (Nat.le_refl _) _
  have H5 := Lib.hid (five_new w t (.slice A t.ks.length cap) 24)
  have hn := hL.len
  unfold maxLen at hn
  have HL := Lib.hid hL
  have IH := Lib.hid ih
  clear hL ih
  have HB1 := Lib.hid HB1
  have HB : ∀ O, Below w.heap.size w (w.alloc O) := fun O => (Below.refl _ _).alloc (Nat.le_refl _) _
  by_cases h0 : t.op = 3 ∧ t.nm.toList = nm.toList ∧ t.ks.length = 0
  · obtain ⟨h3, hnm, hl⟩ := h0
    have Hr := Lib.hid (show conB nm t = true by rw [conB_eq]; simp [h3, hnm, hl])
    have h3' : (t.op == 3) = true := by simpa using h3
    have hnm' : (t.nm.toList == nm.toList) = true := by simpa using hnm
    have hl' : ((t.ks.length : Int) == 0) = true := by rw [hl]; rfl
    clear h3 hnm hl
    go_enter Try.func54, Try.ntmps54
    go_wp2_with fail
    all_goals go_ret
    all_goals exact ⟨by rw [Hr.out]; rfl, HB1.out⟩
  have hz := Lib.hid (show conB nm t = t.ks.any (conB nm) by
    rw [conB_eq]
    have : (t.op == 3 && (t.nm.toList == nm.toList && decide (t.ks.length = 0))) = false := by
      simp only [Bool.and_eq_false_iff, beq_eq_false_iff_ne, decide_eq_false_iff_not]
      by_cases a : t.op = 3
      · by_cases b : t.nm.toList = nm.toList
        · exact .inr (.inr fun c => h0 ⟨a, b, c⟩)
        · exact .inr (.inl b)
      · exact .inl a
    rw [this, Bool.false_or])
  by_cases h3 : t.op = 3
  case neg =>
    have h3' : (t.op == 3) = false := by simpa using h3
    clear h0 h3
    go_enter Try.func54, Try.ntmps54
    go_wp2_with fail
    go_loopw [25] (fun i wr => ∃ k : Nat, k ≤ t.ks.length ∧ i = .int .i64 k ∧ Hid (∀ j (h : j < t.ks.length), j < k → conB nm t.ks[j] = false) ∧ Below w.heap.size w wr) (fun i _ => t.ks.length - (intOf i).toNat)
    case atStart => exact ⟨0, Nat.zero_le _, rfl, fun j hj hjk => absurd hjk (by omega), HB _⟩
    case round =>
      obtain ⟨k, hk, rfl, hj, hBr⟩ := hrel
      by_cases hlt : k < t.ks.length
      · obtain ⟨b, o, A', C', rfl, g5, hK⟩ := HL.out.kid hlt
        obtain ⟨a0, a1, a2, a3, a4⟩ := g5.later hBr
        have c := Lib.hid (IH.out k hlt A' C')
        have hK' := Lib.hid (hK.later hBr)
        have hsn := Lib.hid (fun (e : conB nm t.ks[k] = false) => (show Hid (∀ j (h : j < t.ks.length), j < k + 1 → conB nm t.ks[j] = false) from fun j hjs hjk => by
          by_cases e' : j = k
          · subst e'; exact e
          · exact hj.out j hjs (by omega)))
        have hyes := Lib.hid (fun (e : conB nm t.ks[k] = true) => hz.out.trans (List.any_eq_true.2 ⟨_, List.getElem_mem hlt, e⟩))
        have hszr := hBr.size
        have HBr := Lib.hid hBr
        generalize t.ks[k] = q at *
        clear g5 hK IH HL hj
        cases hq : conB nm q
        case false =>
          have Hq := Lib.hid hq
          have Hsn := hsn.out hq
          clear hq hyes
          go_wp2_with fail
          refine (c.out _ (hK'.out.later ((Below.refl _ _).alloc (Nat.le_refl _) _))).mono ?_
          rintro e w2 ⟨rfl, hb2⟩
          rw [Hq.out]
          have hB2 := Lib.hid (HBr.out.trans ((((Below.refl _ wr).alloc (Nat.le_refl _) _).trans (hb2.mono (by simp))).mono hszr))
          clear hb2
          go_wp2_with fail
          go_roundw
          case rel => exact ⟨k + 1, by omega, by go_num, Hsn, hB2.out⟩
          case measure => simp [intOf]; omega
        case true =>
          have Hq := Lib.hid hq
          have Hr := Lib.hid (hyes.out hq)
          clear hq hyes hsn
          go_wp2_with fail
          refine (c.out _ (hK'.out.later ((Below.refl _ _).alloc (Nat.le_refl _) _))).mono ?_
          rintro e w2 ⟨rfl, hb2⟩
          rw [Hq.out]
          have hB2 := Lib.hid (HBr.out.trans ((((Below.refl _ wr).alloc (Nat.le_refl _) _).trans (hb2.mono (by simp))).mono hszr))
          clear hb2
          go_wp2_with fail
          go_ret
          exact ⟨by rw [Hr.out]; rfl, hB2.out⟩
      · have Hr := Lib.hid (hz.out.trans (show t.ks.any (conB nm) = false from by
          rw [← Bool.not_eq_true, List.any_eq_true]
          rintro ⟨x, hx, hx2⟩
          obtain ⟨i, hi, rfl⟩ := List.getElem_of_mem hx
          have := hj.out i hi (by omega)
          rw [this] at hx2
          cases hx2))
        go_wp2_with fail
        go_ret
        exact ⟨by rw [Hr.out]; rfl, hBr⟩
  have h3' : (t.op == 3) = true := by simpa using h3
  by_cases hm : t.nm.toList = nm.toList
  case neg =>
    have hm' : (t.nm.toList == nm.toList) = false := by simpa using hm
    clear h0 h3 hm
    go_enter Try.func54, Try.ntmps54
    go_wp2_with fail
    go_loopw [25] (fun i wr => ∃ k : Nat, k ≤ t.ks.length ∧ i = .int .i64 k ∧ Hid (∀ j (h : j < t.ks.length), j < k → conB nm t.ks[j] = false) ∧ Below w.heap.size w wr) (fun i _ => t.ks.length - (intOf i).toNat)
    case atStart => exact ⟨0, Nat.zero_le _, rfl, fun j hj hjk => absurd hjk (by omega), HB _⟩
    case round =>
      obtain ⟨k, hk, rfl, hj, hBr⟩ := hrel
      by_cases hlt : k < t.ks.length
      · obtain ⟨b, o, A', C', rfl, g5, hK⟩ := HL.out.kid hlt
        obtain ⟨a0, a1, a2, a3, a4⟩ := g5.later hBr
        have c := Lib.hid (IH.out k hlt A' C')
        have hK' := Lib.hid (hK.later hBr)
        have hsn := Lib.hid (fun (e : conB nm t.ks[k] = false) => (show Hid (∀ j (h : j < t.ks.length), j < k + 1 → conB nm t.ks[j] = false) from fun j hjs hjk => by
          by_cases e' : j = k
          · subst e'; exact e
          · exact hj.out j hjs (by omega)))
        have hyes := Lib.hid (fun (e : conB nm t.ks[k] = true) => hz.out.trans (List.any_eq_true.2 ⟨_, List.getElem_mem hlt, e⟩))
        have hszr := hBr.size
        have HBr := Lib.hid hBr
        generalize t.ks[k] = q at *
        clear g5 hK IH HL hj
        cases hq : conB nm q
        case false =>
          have Hq := Lib.hid hq
          have Hsn := hsn.out hq
          clear hq hyes
          go_wp2_with fail
          refine (c.out _ (hK'.out.later ((Below.refl _ _).alloc (Nat.le_refl _) _))).mono ?_
          rintro e w2 ⟨rfl, hb2⟩
          rw [Hq.out]
          have hB2 := Lib.hid (HBr.out.trans ((((Below.refl _ wr).alloc (Nat.le_refl _) _).trans (hb2.mono (by simp))).mono hszr))
          clear hb2
          go_wp2_with fail
          go_roundw
          case rel => exact ⟨k + 1, by omega, by go_num, Hsn, hB2.out⟩
          case measure => simp [intOf]; omega
        case true =>
          have Hq := Lib.hid hq
          have Hr := Lib.hid (hyes.out hq)
          clear hq hyes hsn
          go_wp2_with fail
          refine (c.out _ (hK'.out.later ((Below.refl _ _).alloc (Nat.le_refl _) _))).mono ?_
          rintro e w2 ⟨rfl, hb2⟩
          rw [Hq.out]
          have hB2 := Lib.hid (HBr.out.trans ((((Below.refl _ wr).alloc (Nat.le_refl _) _).trans (hb2.mono (by simp))).mono hszr))
          clear hb2
          go_wp2_with fail
          go_ret
          exact ⟨by rw [Hr.out]; rfl, hB2.out⟩
      · have Hr := Lib.hid (hz.out.trans (show t.ks.any (conB nm) = false from by
          rw [← Bool.not_eq_true, List.any_eq_true]
          rintro ⟨x, hx, hx2⟩
          obtain ⟨i, hi, rfl⟩ := List.getElem_of_mem hx
          have := hj.out i hi (by omega)
          rw [this] at hx2
          cases hx2))
        go_wp2_with fail
        go_ret
        exact ⟨by rw [Hr.out]; rfl, hBr⟩
  have hm' : (t.nm.toList == nm.toList) = true := by simpa using hm
  have hl : ((t.ks.length : Int) == 0) = false := by rw [beq_eq_false_iff_ne]; exact fun e => h0 ⟨h3, hm, by omega⟩
  clear h0 h3 hm
  go_enter Try.func54, Try.ntmps54
  go_wp2_with fail
  go_loopw [25] (fun i wr => ∃ k : Nat, k ≤ t.ks.length ∧ i = .int .i64 k ∧ Hid (∀ j (h : j < t.ks.length), j < k → conB nm t.ks[j] = false) ∧ Below w.heap.size w wr) (fun i _ => t.ks.length - (intOf i).toNat)
  case atStart => exact ⟨0, Nat.zero_le _, rfl, fun j hj hjk => absurd hjk (by omega), HB _⟩
  case round =>
    obtain ⟨k, hk, rfl, hj, hBr⟩ := hrel
    by_cases hlt : k < t.ks.length
    · obtain ⟨b, o, A', C', rfl, g5, hK⟩ := HL.out.kid hlt
      obtain ⟨a0, a1, a2, a3, a4⟩ := g5.later hBr
      have c := Lib.hid (IH.out k hlt A' C')
      have hK' := Lib.hid (hK.later hBr)
      have hsn := Lib.hid (fun (e : conB nm t.ks[k] = false) => (show Hid (∀ j (h : j < t.ks.length), j < k + 1 → conB nm t.ks[j] = false) from fun j hjs hjk => by
        by_cases e' : j = k
        · subst e'; exact e
        · exact hj.out j hjs (by omega)))
      have hyes := Lib.hid (fun (e : conB nm t.ks[k] = true) => hz.out.trans (List.any_eq_true.2 ⟨_, List.getElem_mem hlt, e⟩))
      have hszr := hBr.size
      have HBr := Lib.hid hBr
      generalize t.ks[k] = q at *
      clear g5 hK IH HL hj
      cases hq : conB nm q
      case false =>
        have Hq := Lib.hid hq
        have Hsn := hsn.out hq
        clear hq hyes
        go_wp2_with fail
        refine (c.out _ (hK'.out.later ((Below.refl _ _).alloc (Nat.le_refl _) _))).mono ?_
        rintro e w2 ⟨rfl, hb2⟩
        rw [Hq.out]
        have hB2 := Lib.hid (HBr.out.trans ((((Below.refl _ wr).alloc (Nat.le_refl _) _).trans (hb2.mono (by simp))).mono hszr))
        clear hb2
        go_wp2_with fail
        go_roundw
        case rel => exact ⟨k + 1, by omega, by go_num, Hsn, hB2.out⟩
        case measure => simp [intOf]; omega
      case true =>
        have Hq := Lib.hid hq
        have Hr := Lib.hid (hyes.out hq)
        clear hq hyes hsn
        go_wp2_with fail
        refine (c.out _ (hK'.out.later ((Below.refl _ _).alloc (Nat.le_refl _) _))).mono ?_
        rintro e w2 ⟨rfl, hb2⟩
        rw [Hq.out]
        have hB2 := Lib.hid (HBr.out.trans ((((Below.refl _ wr).alloc (Nat.le_refl _) _).trans (hb2.mono (by simp))).mono hszr))
        clear hb2
        go_wp2_with fail
        go_ret
        exact ⟨by rw [Hr.out]; rfl, hB2.out⟩
    · have Hr := Lib.hid (hz.out.trans (show t.ks.any (conB nm) = false from by
        rw [← Bool.not_eq_true, List.any_eq_true]
        rintro ⟨x, hx, hx2⟩
        obtain ⟨i, hi, rfl⟩ := List.getElem_of_mem hx
        have := hj.out i hi (by omega)
        rw [this] at hx2
        cases hx2))
      go_wp2_with fail
      go_ret
      exact ⟨by rw [Hr.out]; rfl, hBr⟩
end Go.Proofs.Ytpjokapkoeclpaa
