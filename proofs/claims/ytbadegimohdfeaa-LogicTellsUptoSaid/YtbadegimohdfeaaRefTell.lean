/-
  What the document's own Holes, Put and Apps return, and what the law's helpers decls and nodes return; conditions: the tree lies in memory and has few nodes.
-/
import Derived.Test.YtbadegimohdfeaaApps
import Derived.Test.YtbadegimohdfeaaLev
import Derived.Test.YtbadegimohdfeaaSubst1
namespace Go.Proofs.Ytbadegimohdfeaa
open Go.RowKit Go.Shelf

attribute [local go_sem] Oper.semAt_some
theorem holeB_eq (t : Nd) : holeB (preN 1 t) = (nodesOf t).any fun y => y.op == 42 := by
  unfold holeB nodesOf
  rw [List.any_map]
  rfl
def holR (t : Nd) : Bool := (nodesOf t).any fun y => y.op == 42
theorem holR_eq (t : Nd) : holR t = (t.op == 42 || t.ks.any holR) := by
  rw [holR, nodesOf_eq, List.any_cons, List.any_flatMap]; rfl

set_option maxRecDepth 100000 in
set_option maxHeartbeats 2000000 in
theorem refHoles_any (t : Nd) : ∀ (A : Option Addr) (cap : Nat) (w : World), Lies w A cap t.ks →
    Calls Try.prog 22 #[nv t.op t.so t.nm t.nu (.slice A t.ks.length cap)] w fun e w' => e = .returned (.bool (holR t)) ∧ Below w.heap.size w w' := by
  induction t using Nd.ind with
  | h t ih =>
  intro A cap w hL
  have HB1 : Below w.heap.size w (w.alloc (.cells #[.int .i64 t.op, .int .i64 t.so, .string t.nm, .int .i64 t.nu, .slice A t.ks.length cap] 24)) := (Below.refl _ _).alloc (Nat.le_refl _) _
  have hn := hL.len
  unfold maxLen at hn
  have HL := Lib.hid hL
  have IH := Lib.hid ih
  clear hL ih
  have HB1 := Lib.hid HB1
  have HB : ∀ O, Below w.heap.size w (w.alloc O) := fun O => (Below.refl _ _).alloc (Nat.le_refl _) _
  by_cases h0 : t.op = 42
  · have Hr := Lib.hid (show holR t = true by rw [holR_eq]; simp [h0])
    have h3' : (t.op == 42) = true := by simpa using h0
    clear h0
    go_enter Try.func22, Try.ntmps22
    go_wp2_with fail
    go_ret
    exact ⟨by rw [Hr.out]; rfl, HB1.out⟩
  have hz := Lib.hid (show holR t = t.ks.any holR by
    rw [holR_eq]
    have : (t.op == 42) = false := by simpa using h0
    rw [this, Bool.false_or])
  have h3' : (t.op == 42) = false := by simpa using h0
  clear h0
  go_enter Try.func22, Try.ntmps22
  go_wp2_with fail
  go_loopw [11] (fun i wr => ∃ k : Nat, k ≤ t.ks.length ∧ i = .int .i64 k ∧ Hid (∀ j (h : j < t.ks.length), j < k → holR t.ks[j] = false) ∧ Below w.heap.size w wr) (fun i _ => t.ks.length - (intOf i).toNat)
  case atStart => exact ⟨0, Nat.zero_le _, rfl, fun j hj hjk => absurd hjk (by omega), HB _⟩
  case round =>
    obtain ⟨k, hk, rfl, hj, hBr⟩ := hrel
    by_cases hlt : k < t.ks.length
    · obtain ⟨b, o, A', C', rfl, g5, hK⟩ := HL.out.kid hlt
      obtain ⟨a0, a1, a2, a3, a4⟩ := g5.later hBr
      have c := Lib.hid (IH.out k hlt A' C')
      have hK' := Lib.hid (hK.later hBr)
      have hsn := Lib.hid (fun (e : holR t.ks[k] = false) => (show Hid (∀ j (h : j < t.ks.length), j < k + 1 → holR t.ks[j] = false) from fun j hjs hjk => by
        by_cases e' : j = k
        · subst e'; exact e
        · exact hj.out j hjs (by omega)))
      have hyes := Lib.hid (fun (e : holR t.ks[k] = true) => hz.out.trans (List.any_eq_true.2 ⟨_, List.getElem_mem hlt, e⟩))
      have hszr := hBr.size
      have HBr := Lib.hid hBr
      generalize t.ks[k] = q at *
      clear g5 hK IH HL hj
      cases hq : holR q
      case false =>
        have Hq := Lib.hid hq
        have Hsn := hsn.out hq
        clear hq hyes
        go_wp2_with fail
        refine (c.out _ (hK'.out.later ((Below.refl _ _).alloc (Nat.le_refl _) _))).mono ?_
        rintro e w2 ⟨rfl, hb2⟩
        rw [Hq.out]
        have hB2 := Lib.hid (HBr.out.trans ((((Below.refl _ wr).alloc (Nat.le_refl _) _).trans (hb2.mono (by simp))).mono hszr))
        clear hb2
        go_wp2_with fail
        go_roundw
        case rel => exact ⟨k + 1, by omega, by go_num, Hsn, hB2.out⟩
        case measure => simp [intOf]; omega
      case true =>
        have Hq := Lib.hid hq
        have Hr := Lib.hid (hyes.out hq)
        clear hq hyes hsn
        go_wp2_with fail
        refine (c.out _ (hK'.out.later ((Below.refl _ _).alloc (Nat.le_refl _) _))).mono ?_
        rintro e w2 ⟨rfl, hb2⟩
        rw [Hq.out]
        have hB2 := Lib.hid (HBr.out.trans ((((Below.refl _ wr).alloc (Nat.le_refl _) _).trans (hb2.mono (by simp))).mono hszr))
        clear hb2
        go_wp2_with fail
        go_ret
        exact ⟨by rw [Hr.out]; rfl, hB2.out⟩
    · have Hr := Lib.hid (hz.out.trans (show t.ks.any holR = false from by
        rw [← Bool.not_eq_true, List.any_eq_true]
        rintro ⟨x, hx, hx2⟩
        obtain ⟨i, hi, rfl⟩ := List.getElem_of_mem hx
        have := hj.out i hi (by omega)
        rw [this] at hx2
        cases hx2))
      go_wp2_with fail
      go_ret
      exact ⟨by rw [Hr.out]; rfl, hBr⟩

set_option maxRecDepth 100000 in
set_option maxHeartbeats 2000000 in
theorem decls_any (l : List (ByteArray × Int)) (A B : Option Addr) (ca cb : Nat) (w : World) (hA : DeclsAt w A l) (hB : DeclsAt w B l) (hl : l.length ≤ 1048576) :
    Calls Try.prog 24 #[.slice A l.length ca, .slice B l.length cb] w fun e w' => e = .returned (.bool true) ∧ Below w.heap.size w w' := by
  have HA := Lib.hid hA
  have HB := Lib.hid hB
  have hne : ((l.length : Int) != (l.length : Int)) = false := by simp
  clear hA hB
  go_enter Try.func24, Try.ntmps24
  go_wp2_with fail
  go_loopw [13] (fun i wr => ∃ k : Nat, k ≤ l.length ∧ i = .int .i64 k ∧ Below w.heap.size w wr) (fun i _ => l.length - (intOf i).toNat)
  case atStart => exact ⟨0, Nat.zero_le _, rfl, Below.refl _ _⟩
  case round =>
    obtain ⟨k, hk, rfl, hBr⟩ := hrel
    by_cases hlt : k < l.length
    · obtain ⟨a, hA, hca⟩ := HA.out.later hBr
      obtain ⟨b, hB, hcb⟩ := HB.out.later hBr
      obtain rfl := hA (by omega)
      obtain rfl := hB (by omega)
      obtain ⟨a0, a1⟩ := hca k hlt
      obtain ⟨b0, b1⟩ := hcb k hlt
      clear hA hB hca hcb
      generalize l[k] = q at *
      have e1 : (q.1.toList == q.1.toList) = true := by simp
      have e2 : (q.2 == q.2) = true := by simp
      go_wp2_with fail
      go_quiet (fail)
      have HBr := Lib.hid (below_drewN hBr nq)
      clear a0 a1 b0 b1 hBr
      go_wp2_with fail
      go_roundw
      case rel => exact ⟨k + 1, by omega, by go_num, HBr.out⟩
      case measure => simp [intOf]; omega
    · go_wp2_with fail
      go_ret
      exact ⟨rfl, hBr⟩

set_option maxRecDepth 100000 in
set_option maxHeartbeats 2000000 in
theorem nodes_any (l : List Nd) (A B : Option Addr) (ca cb : Nat) (w : World) (hA : Lies w A ca l) (hB : Lies w B cb l) :
    Calls Try.prog 27 #[.slice A l.length ca, .slice B l.length cb] w fun e w' => e = .returned (.bool true) ∧ Below w.heap.size w w' := by
  have hn := hA.len
  unfold maxLen at hn
  have HA := Lib.hid hA
  have HB := Lib.hid hB
  have hne : ((l.length : Int) != (l.length : Int)) = false := by simp
  clear hA hB
  go_enter Try.func27, Try.ntmps27
  go_wp2_with fail
  go_loopw [13] (fun i wr => ∃ k : Nat, k ≤ l.length ∧ i = .int .i64 k ∧ Below w.heap.size w wr) (fun i _ => l.length - (intOf i).toNat)
  case atStart => exact ⟨0, Nat.zero_le _, rfl, Below.refl _ _⟩
  case round =>
    obtain ⟨k, hk, rfl, hBr⟩ := hrel
    by_cases hlt : k < l.length
    · obtain ⟨a, o, A', C', rfl, g5, hKA⟩ := HA.out.kid hlt
      obtain ⟨b, p, B', D', rfl, h5, hKB⟩ := HB.out.kid hlt
      have q5 := g5.later hBr
      have a0 := cell_regrown q5.c0
      have a1 := cell_regrown q5.c1
      have a2 := cell_regrown q5.c2
      have a3 := cell_regrown q5.c3
      have a4 := cell_regrown q5.c4
      have r5 := h5.later hBr
      have b0 := cell_regrown r5.c0
      have b1 := cell_regrown r5.c1
      have b2 := cell_regrown r5.c2
      have b3 := cell_regrown r5.c3
      have b4 := cell_regrown r5.c4
      have cc := fun d1 os => Calls.regrown_of (d := d1) (os := os) (w := wr) (refEqual_any l[k] l[k] A' B' C' D' _ (hKA.later (hBr.trans ((below_regrown wr d1 os).mono hBr.size))) (hKB.later (hBr.trans ((below_regrown wr d1 os).mono hBr.size))))
      rw [(cmp_all l[k]).2.2.1] at cc
      have CC := Lib.hid cc
      clear cc g5 h5 q5 r5 hKA hKB
      generalize l[k] = q at *
      go_wp2_with fail
      refine wp_region_quiet_below (by kernel_rfl) (by kernel_rfl) ?_
      repeat (go_big_quiet_step (exact CC.out _ _))
      refine wpQuiet_nil ?_
      intro _ hw'
      obtain ⟨⟨dq, osq⟩, hw''⟩ := hw'
      subst hw''
      have HBr := Lib.hid (hBr.trans ((below_regrown wr dq osq).mono hBr.size))
      clear a0 a1 a2 a3 a4 b0 b1 b2 b3 b4 hBr
      go_wp2_with fail
      go_roundw
      case rel => exact ⟨k + 1, by omega, by go_num, HBr.out⟩
      case measure => simp [intOf]; omega
    · go_wp2_with fail
      go_ret
      exact ⟨rfl, hBr⟩
end Go.Proofs.Ytbadegimohdfeaa
