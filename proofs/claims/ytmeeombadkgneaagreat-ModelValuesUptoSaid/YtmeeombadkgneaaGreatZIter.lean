/-
  How a tree's nodes come, one after the other, to a loop over package logic's walk: the nodes with their levels, in preorder; conditions: the tree lies in memory.
-/
import Derived.RangeFuncNested
import Derived.RangeFuncBound
import Derived.RangeFuncCalls
import Derived.RangeFuncLeaves
import Derived.Shelf.Abstract
import Derived.Shelf.RegionOpen
import Derived.OwnWalkIn
import Derived.TacticsInMore
import Derived.LoopNIn
import Derived.LoopIn
import Derived.Deep.Slices
import Derived.Test.YtmeeombadkgneaaGreatZComp
namespace Go.Proofs.YtmeeombadkgneaaGreat
open Go.RowKit Go.Shelf

attribute [local go_sem] Oper.semAt_some

theorem room_wide (k : Nat) : Fence.wide.room k := fun d h => by cases h
theorem YieldAt.wideDepth {m : Nat} (m' : Nat) {P : Program} {l : Nat} {args : Array Value} {W : World} {R : Ending → World → Prop} (h : YieldAt Fence.wide m P l args W R) : YieldAt Fence.wide m' P l args W R := by
  obtain ⟨fn, tmps, assign, body, hy, hR⟩ := h
  exact ⟨fn, tmps, assign, body, hy, hR.1, fun c cs _ => hR.2 c cs (room_wide _)⟩

/-- What comes in a round: the level, a node, where its kids lie. -/
structure El (w0 : World) where
  lv : Int
  t : Nd
  A : Option Addr
  cap : Nat
  lies : Lies w0 A cap t.ks
  fine : Fine t

def El.key {w0 : World} (x : El w0) : Int × Nd := (x.lv, x.t)
def encE {w0 : World} (x : El w0) : Array Value := #[.int .i64 x.lv, nv x.t.op x.t.so x.t.nm x.t.nu (.slice x.A x.t.ks.length x.cap)]

mutual
/-- The nodes of a tree with their levels, in preorder. -/
def preN (lv : Int) : Nd → List (Int × Nd)
  | .mk a b c d l => (lv, .mk a b c d l) :: preNs (wrap64 (lv + 1)) l
def preNs (lv : Int) : List Nd → List (Int × Nd)
  | [] => []
  | x :: xs => preN lv x ++ preNs lv xs
end
theorem preN_eq (lv : Int) (t : Nd) : preN lv t = (lv, t) :: preNs (wrap64 (lv + 1)) t.ks := by
  cases t
  rw [preN]
  rfl
theorem preNs_append (lv : Int) (a b : List Nd) : preNs lv (a ++ b) = preNs lv a ++ preNs lv b := by
  induction a with
  | nil => rfl
  | cons x xs ih => rw [List.cons_append, preNs, ih, preNs, List.append_assoc]
theorem map_upto {w0 : World} (lv : Int) (ks : List Nd) (X : Nat → List (El w0)) (h : ∀ i (hi : i < ks.length), (X i).map El.key = preN lv ks[i]) (k : Nat) (hk : k ≤ ks.length) :
    ((List.range k).flatMap X).map El.key = preNs lv (ks.take k) := by
  induction k with
  | zero => rfl
  | succ k ih =>
    rw [List.range_succ, List.flatMap_append, List.map_append, ih (by omega), List.take_succ_eq_append_getElem (by omega), preNs_append]
    simp [preNs, h k (by omega)]
theorem Lies.fns {w : World} {A : Option Addr} {cap : Nat} {ks : List Nd} (h : Lies w A cap ks) :
    ∃ (b o : Nat) (A' : Nat → Option Addr) (C' : Nat → Nat), (0 < ks.length → A = some ⟨b, o, none⟩) ∧ (∀ i (hi : i < ks.length), Five w b (o + i * 5) ks[i] (.slice (A' i) ks[i].ks.length (C' i))) ∧
      ∀ i (hi : i < ks.length), Lies w (A' i) (C' i) ks[i].ks := by
  cases h with
  | mk _ _ _ hcap b o A' C' hA h5 hk => exact ⟨b, o, A', C', hA, h5, hk⟩

/-- What a round keeps: all that lay below n₀; and cells that lie at or beyond m₀. -/
def KpC (n₀ m₀ : Nat) (W W' : World) : Prop := Below n₀ W W' ∧ ∀ (k : Nat) (o : Obj), m₀ ≤ k → W.heap[k]? = some o → o.isCells = true → W'.heap[k]? = some o

theorem KpC.refl (n₀ m₀ : Nat) (W : World) : KpC n₀ m₀ W W := ⟨Below.refl _ _, fun _ _ _ h _ => h⟩
theorem KpC.trans {n₀ m₀ : Nat} {A B C : World} (h : KpC n₀ m₀ A B) (k : KpC n₀ m₀ B C) : KpC n₀ m₀ A C :=
  ⟨h.1.trans k.1, fun i o hi ho hc => k.2 i o hi (h.2 i o hi ho hc) hc⟩
theorem KpC.alloc {n₀ m₀ : Nat} {A B : World} (h : KpC n₀ m₀ A B) (hB : n₀ ≤ A.heap.size) (ob : Obj) : KpC n₀ m₀ A (B.alloc ob) :=
  ⟨h.1.alloc (Nat.le_trans hB h.1.size) ob, fun i o' hi ho hc => by
    have := h.2 i o' hi ho hc
    exact (Below.heap_alloc _ _ _ (Array.getElem?_eq_some_iff.1 this).1).trans this⟩
theorem KpC.of_below {n₀ m₀ : Nat} {W W' : World} (h : Below W.heap.size W W') (hn : n₀ ≤ W.heap.size) : KpC n₀ m₀ W W' :=
  ⟨h.mono hn, fun i _ _ ho _ => (h.block i (Array.getElem?_eq_some_iff.1 ho).1).trans ho⟩
theorem KpC.cell {n₀ m₀ : Nat} {A B : World} (h : KpC n₀ m₀ A B) {p : Addr} (hp : m₀ ≤ p.block) {v : Value} (hc : A.cell? p = some v) : B.cell? p = some v := by
  have hb : ∃ o, A.heap[p.block]? = some o ∧ o.isCells = true := by
    unfold World.cell? at hc
    split at hc
    · rename_i h; exact ⟨_, h, rfl⟩
    · cases hc
  obtain ⟨o, ho, hoc⟩ := hb
  have := h.2 _ o hp ho hoc
  exact (World.cell?_of_block (w := A) (this.trans ho.symm)).trans hc
theorem kpC_b {n₀ m₀ : Nat} {w : World} (hn : n₀ ≤ w.heap.size) (W : World) (l : Nat) (o o' : Obj) (hl : w.heap.size ≤ l) (h : W.heap[l]? = some o) (ho : o.isCells = false) (hw : o.isWalk = false) : KpC n₀ m₀ W (W.putObj l o') :=
  ⟨belowK_b hn W l o o' hl h ho hw, fun i o2 _ h2 hc => by
    by_cases e : i = l
    · subst e; rw [h] at h2; cases h2; rw [ho] at hc; cases hc
    · exact (World.putObj_heap_other e).trans h2⟩

theorem upto_succ {β : Type} (X : Nat → List β) (k : Nat) : (List.range (k + 1)).flatMap X = (List.range k).flatMap X ++ X k := by
  rw [List.range_succ, List.flatMap_append]
  simp
theorem upto_pre {β : Type} (X : Nat → List β) {k n : Nat} (h : k ≤ n) : (List.range k).flatMap X <+: (List.range n).flatMap X := by
  induction n with
  | zero => obtain rfl : k = 0 := by omega
            exact List.prefix_refl _
  | succ n ih =>
    by_cases e : k = n + 1
    · subst e; exact List.prefix_refl _
    · exact (ih (by omega)).trans ⟨X n, (upto_succ X n).symm⟩

set_option maxRecDepth 100000 in
set_option maxHeartbeats 1000000 in
theorem visit_in (t : Nd) : ∀ (lv : Int) (A : Option Addr) (cap : Nat) (w0 : World), Lies w0 A cap t.ks → Fine t → ∃ xs : List (El w0), xs.map El.key = preN lv t ∧
    ∀ (l m₀ N : Nat) (J Jx : List (El w0) → World → Prop) (P : El w0 → Prop), (∀ x ∈ xs, P x) → w0.heap.size ≤ m₀ → (∀ s W o, J s W → J s (W.alloc o)) →
      (∀ m pre x W, P x → J pre W → pre.length < N → YieldAt Fence.wide m Tryz.prog l (encE x) W fun e W' =>
        (e = .returned (.bool true) ∧ J (pre ++ [x]) W' ∧ KpC w0.heap.size m₀ W W') ∨ (e = .returned (.bool false) ∧ Jx (pre ++ [x]) W')) →
      ∀ (n : Nat) (pre : List (El w0)) (W : World), Below w0.heap.size w0 W → m₀ ≤ W.heap.size → J pre W → pre.length + xs.length ≤ N →
        CallsIn Fence.wide n Tryz.prog 120 #[nv t.op t.so t.nm t.nu (.slice A t.ks.length cap), .int .i64 lv, .func (.yield l) #[] #[]] W fun e W' =>
          (e = .returned (.bool true) ∧ J (pre ++ xs) W' ∧ KpC w0.heap.size m₀ W W') ∨ (e = .returned (.bool false) ∧ ∃ q, q <+: xs ∧ Jx (pre ++ q) W') := by
  induction t using Nd.ind with
  | h t ih =>
  intro lv A cap w0 hL hfine
  obtain ⟨b, o, A', C', hA, h5, hk⟩ := hL.fns
  have hch := Go.Deep.choose_lt (α := List (El w0)) (n := t.ks.length) (p := fun i X => ∃ hi : i < t.ks.length, X.map El.key = preN (wrap64 (lv + 1)) t.ks[i] ∧ Hid (∀ (l m₀ N : Nat) (J Jx : List (El w0) → World → Prop) (P : El w0 → Prop), (∀ x ∈ X, P x) → w0.heap.size ≤ m₀ → (∀ s W o, J s W → J s (W.alloc o)) →
      (∀ m pre x W, P x → J pre W → pre.length < N → YieldAt Fence.wide m Tryz.prog l (encE x) W fun e W' =>
        (e = .returned (.bool true) ∧ J (pre ++ [x]) W' ∧ KpC w0.heap.size m₀ W W') ∨ (e = .returned (.bool false) ∧ Jx (pre ++ [x]) W')) →
      ∀ (n : Nat) (pre : List (El w0)) (W : World), Below w0.heap.size w0 W → m₀ ≤ W.heap.size → J pre W → pre.length + X.length ≤ N →
        CallsIn Fence.wide n Tryz.prog 120 #[nv t.ks[i].op t.ks[i].so t.ks[i].nm t.ks[i].nu (.slice (A' i) t.ks[i].ks.length (C' i)), .int .i64 (wrap64 (lv + 1)), .func (.yield l) #[] #[]] W fun e W' =>
          (e = .returned (.bool true) ∧ J (pre ++ X) W' ∧ KpC w0.heap.size m₀ W W') ∨ (e = .returned (.bool false) ∧ ∃ q, q <+: X ∧ Jx (pre ++ q) W')))
    (fun i hi => by obtain ⟨X, h1, h2⟩ := ih i hi (wrap64 (lv + 1)) (A' i) (C' i) w0 (hk i hi) (hL.fine hi); exact ⟨X, hi, h1, h2⟩)
  obtain ⟨X, hX⟩ := hch
  clear ih
  obtain ⟨x0, hx0⟩ : ∃ x0 : El w0, x0 = ⟨lv, t, A, cap, hL, hfine⟩ := ⟨_, rfl⟩
  refine ⟨x0 :: (List.range t.ks.length).flatMap X, ?_, ?_⟩
  · rw [preN_eq, List.map_cons, map_upto (wrap64 (lv + 1)) t.ks X (fun i hi => (hX i hi).2.1) _ (Nat.le_refl _), List.take_of_length_le (Nat.le_refl _), hx0]
    rfl
  intro l m₀ N J Jx P hP hm hJa hY n pre W hW hmW hJ hN
  have hn := hL.len
  unfold maxLen at hn
  have y0 := hY (n - 1) pre x0 (W.alloc (.cells #[.int .i64 t.op, .int .i64 t.so, .string t.nm, .int .i64 t.nu, .slice A t.ks.length cap] 44)) (hP x0 (by simp)) (hJa _ _ _ hJ) (by simp at hN; omega)
  rw [hx0] at y0
  obtain ⟨fn, tmps, assign, body, hy, hR⟩ := y0
  dsimp only [encE] at hy
  have HX := Lib.hid hX
  have HY := Lib.hid hY
  clear hX hY
  refine callsIn_of_wp Tryz.func120 rfl trivial ?_ rfl
  simp only [Tryz.ntmps120, List.size_toArray, List.length_cons, List.length_nil, Nat.reduceAdd, Nat.reduceSub, Array.replicate_succ, Array.replicate_zero, List.push_toArray, List.append_toArray, List.nil_append, List.cons_append]
  gi_wp2_with fail
  refine ⟨fun h => (by cases h), ?_⟩
  refine hR.mono ?_
  clear hR hy
  rw [← hx0]
  rintro e W2 (⟨rfl, hJ2, hk2⟩ | ⟨rfl, hx2⟩)
  case inr =>
    clear hx0 hJa hJ
    gi_wp2_with fail
    go_ret
    exact .inr ⟨rfl, [x0], ⟨_, rfl⟩, hx2⟩
  have hc2 : W2.cell? ⟨W.heap.size, 4, none⟩ = some (.slice A t.ks.length cap) := hk2.cell hmW (by simp [go_sem])
  have hkW : KpC w0.heap.size m₀ W W2 := ((KpC.refl _ _ W).alloc hW.size _).trans hk2
  have hJA := Lib.hid hJa
  clear hJa hk2 hx0 hJ
  gi_wp2_with fail
  gi_loopw [17] (fun i wr => ∃ k : Nat, k ≤ t.ks.length ∧ i = .int .i64 k ∧ J (pre ++ x0 :: (List.range k).flatMap X) wr ∧ KpC w0.heap.size m₀ W wr) (fun i _ => t.ks.length - (intOf i).toNat)
  case atStart => exact ⟨0, Nat.zero_le _, rfl, hJ2, hkW⟩
  case round =>
    obtain ⟨k, hk', rfl, hJk, hkk⟩ := hrel
    clear hJ2 hkW hc2
    by_cases hlt : k < t.ks.length
    · obtain rfl := hA (by omega)
      obtain ⟨a0, a1, a2, a3, a4⟩ := (h5 k hlt).later (hW.trans hkk.1)
      obtain ⟨_, _, hc⟩ := HX.out k hlt
      have hpre := upto_pre X (k := k + 1) (n := t.ks.length) (by omega)
      rw [upto_succ] at hpre
      have hlen : (pre ++ x0 :: (List.range k).flatMap X).length + (X k).length ≤ N := by
        have := hpre.length_le
        simp only [List.length_append, List.length_cons] at this hN ⊢
        omega
      have c := Lib.hid (hc.out l m₀ N J Jx P (fun x hx => hP x (by simp only [List.mem_cons, List.mem_flatMap, List.mem_range]; exact .inr ⟨k, hlt, hx⟩)) hm hJA.out HY.out (n - 1) (pre ++ x0 :: (List.range k).flatMap X) (wr.alloc (.cells #[.int .i64 t.ks[k].op, .int .i64 t.ks[k].so, .string t.ks[k].nm, .int .i64 t.ks[k].nu, .slice (A' k) t.ks[k].ks.length (C' k)] 44))
        ((hW.trans hkk.1).alloc (hW.trans hkk.1).size _) (by have := hkk.1.size; simp; omega) (hJA.out _ _ _ hJk) hlen)
      clear hc HX HY h5 hA hk
      have Hpre := Lib.hid hpre
      clear hpre hlen
      gi_wp2_with fail
      refine ⟨trivial, fun h => (by cases h), ?_⟩
      refine c.out.mono ?_
      clear c
      have hkk' : KpC w0.heap.size m₀ W (wr.alloc (.cells #[.int .i64 t.ks[k].op, .int .i64 t.ks[k].so, .string t.ks[k].nm, .int .i64 t.ks[k].nu, .slice (A' k) t.ks[k].ks.length (C' k)] 44)) := hkk.alloc hW.size _
      rintro e W3 (⟨rfl, hJ3, hk3⟩ | ⟨rfl, q, hq, hx3⟩)
      · have hJ4 : J (pre ++ x0 :: (List.range (k + 1)).flatMap X) W3 := by
          rw [upto_succ]
          simpa using hJ3
        have hk4 := hkk'.trans hk3
        clear hJ3 hk3 hkk' hJA hJk
        gi_wp2_with fail
        go_roundw
        case rel => exact ⟨k + 1, by omega, by go_num, hJ4, hk4⟩
        case measure => simp [intOf]; omega
      · clear hkk' hJA hJk
        gi_wp2_with fail
        go_ret
        refine .inr ⟨rfl, x0 :: ((List.range k).flatMap X ++ q), ?_, by simpa using hx3⟩
        exact List.cons_prefix_cons.2 ⟨rfl, ((List.prefix_append_right_inj _).2 hq).trans Hpre.out⟩
    · gi_wp2_with fail
      go_ret
      obtain rfl : k = t.ks.length := by omega
      exact .inl ⟨rfl, hJk, hkk⟩
set_option maxHeartbeats 1000000 in
/-- walk hands back a closure over the box of its argument. -/
theorem walkClo_any (op so nu : Int) (nm : ByteArray) (s : Value) (n : Nat) (w : World) :
    CallsIn Fence.wide n Tryz.prog 97 #[nv op so nm nu s] w fun e w' => e = .returned (.func (.func 119) #[] #[.pointer (some ⟨w.heap.size, 0, none⟩)]) ∧ w.alloc (.cells #[.int .i64 op, .int .i64 so, .string nm, .int .i64 nu, s] 44) = w' := by
  refine callsIn_of_wp Tryz.func97 rfl trivial ?_ rfl
  simp only [Tryz.ntmps97, List.size_toArray, List.length_cons, List.length_nil, Nat.reduceAdd, Nat.reduceSub, Array.replicate_succ, Array.replicate_zero, List.push_toArray, List.append_toArray, List.nil_append, List.cons_append]
  gi_wp2
  go_ret
  exact ⟨rfl, rfl⟩

set_option maxRecDepth 100000 in
set_option maxHeartbeats 1000000 in
/-- What comes to a loop over walk: the nodes of the tree, in preorder, or the first few of them. -/
theorem walk_stops (t : Nd) (A : Option Addr) (cap : Nat) (w0 : World) (hL : Lies w0 A cap t.ks) (hr : Fine t) : ∃ xs : List (El w0), xs.map El.key = preN 1 t ∧
    ∀ (n : Nat) (w : World) (Bn : Nat), Below w0.heap.size w0 w → Five w Bn 0 t (.slice A t.ks.length cap) →
      SeqStopsK Fence.wide n Tryz.prog 119 #[.pointer (some ⟨Bn, 0, none⟩)] (fun x : El w0 => encE x) (KpC w0.heap.size w.heap.size) (fun ys => ys = xs) (fun pre => pre <+: xs) xs.length w := by
  obtain ⟨xs, hxs, hv⟩ := visit_in t 1 A cap w0 hL hr
  refine ⟨xs, hxs, ?_⟩
  intro n w Bn hw h5 l J Jx W hW hJ _ hY h0
  have hc := Lib.hid (hv l w.heap.size xs.length J Jx (fun _ => True) (fun _ _ => trivial) hw.size (fun s W o h => hJ s W _ none h (World.grownBy_alloc W o none) (fun r e => by cases e))
    (fun m pre x W _ hj hl => YieldAt.wideDepth m (hY pre x W hj hl)) (n - 1) [] W (hw.trans (hW.mono hw.size)) hW.size h0 (by simp))
  obtain ⟨a0, a1, a2, a3, a4⟩ := h5.later hW
  clear hv hY hJ h0
  refine callsIn_of_wp Tryz.func119 rfl trivial ?_ rfl
  simp only [Tryz.ntmps119, List.size_toArray, List.length_cons, List.length_nil, Nat.reduceAdd, Nat.reduceSub, Array.replicate_succ, Array.replicate_zero, List.push_toArray, List.append_toArray, List.nil_append, List.cons_append]
  gi_wp2_with fail
  refine ⟨trivial, fun h => (by cases h), ?_⟩
  refine hc.out.mono ?_
  clear hc
  rintro e W3 (⟨rfl, hJ3, hk3⟩ | ⟨rfl, q, hq, hx3⟩)
  · gi_wp2_with fail
    go_end0
    exact ⟨⟨_, rfl⟩, .inl ⟨_, rfl, by simpa using hJ3⟩⟩
  · gi_wp2_with fail
    go_end0
    exact ⟨⟨_, rfl⟩, .inr ⟨q, hq, by simpa using hx3⟩⟩
end Go.Proofs.YtmeeombadkgneaaGreat
