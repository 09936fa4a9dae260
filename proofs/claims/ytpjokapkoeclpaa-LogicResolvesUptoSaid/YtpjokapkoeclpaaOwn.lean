/-
  How a tree's nodes come to a loop over package logic's walk that grows a row of its own; conditions: the tree lies in memory.
-/
import Derived.Test.YtpjokapkoeclpaaLoops
namespace Go.Proofs.Ytpjokapkoeclpaa
open Go.RowKit Go.Shelf

attribute [local go_sem] Oper.semAt_some
/-- The block of the row that a variable holds. -/
def ownB (N : Nat) (W : World) : Option Nat := (W.cell? ⟨N, 0, none⟩).bind Value.ownBlock
def WFo (N : Nat) (W : World) : Prop := ∀ k, ownB N W = some k → k < W.heap.size
/-- What a round keeps: all that lay below n₀; and cells that lie at or beyond m₀, but for the row that the variable in block N holds. -/
def KpO (N n₀ m₀ : Nat) (W W' : World) : Prop := Below n₀ W W' ∧ (WFo N W → WFo N W' ∧ ∀ (k : Nat) (o : Obj), m₀ ≤ k → W.heap[k]? = some o → o.isCells = true → ownB N W ≠ some k → W'.heap[k]? = some o ∧ ownB N W' ≠ some k)

theorem KpO.refl (N n₀ m₀ : Nat) (W : World) : KpO N n₀ m₀ W W := ⟨Below.refl _ _, fun h => ⟨h, fun _ _ _ h _ hn => ⟨h, hn⟩⟩⟩
theorem KpO.trans {N n₀ m₀ : Nat} {A B C : World} (h : KpO N n₀ m₀ A B) (k : KpO N n₀ m₀ B C) : KpO N n₀ m₀ A C :=
  ⟨h.1.trans k.1, fun hw => ⟨(k.2 (h.2 hw).1).1, fun i o hi ho hc hn => by
    obtain ⟨h1, h2⟩ := (h.2 hw).2 i o hi ho hc hn
    exact (k.2 (h.2 hw).1).2 i o hi h1 hc h2⟩⟩
theorem ownB_alloc {N : Nat} {W : World} (hN : N < W.heap.size) (ob : Obj) : ownB N (W.alloc ob) = ownB N W := by
  unfold ownB
  rw [World.cell?_of_block (w := W) (w' := W.alloc ob) (a := ⟨N, 0, none⟩) (Below.heap_alloc _ _ _ hN)]
theorem WFo.alloc {N : Nat} {W : World} (h : WFo N W) (hN : N < W.heap.size) (ob : Obj) : WFo N (W.alloc ob) := fun k hk => by
  rw [ownB_alloc hN] at hk
  have := h k hk
  simp; omega
theorem KpO.alloc {N n₀ m₀ : Nat} {A B : World} (h : KpO N n₀ m₀ A B) (hB : n₀ ≤ A.heap.size) (hN : N < A.heap.size) (ob : Obj) : KpO N n₀ m₀ A (B.alloc ob) :=
  ⟨h.1.alloc (Nat.le_trans hB h.1.size) ob, fun hw => ⟨(h.2 hw).1.alloc (Nat.lt_of_lt_of_le hN h.1.size) ob, fun i o' hi ho hc hn => by
    obtain ⟨h1, h2⟩ := (h.2 hw).2 i o' hi ho hc hn
    exact ⟨(Below.heap_alloc _ _ _ (Array.getElem?_eq_some_iff.1 h1).1).trans h1, by rw [ownB_alloc (Nat.lt_of_lt_of_le hN h.1.size)]; exact h2⟩⟩⟩
theorem KpO.of_below {N n₀ m₀ : Nat} {W W' : World} (h : Below W.heap.size W W') (hn : n₀ ≤ W.heap.size) (hN : N < W.heap.size) : KpO N n₀ m₀ W W' := by
  have e : ownB N W' = ownB N W := by unfold ownB; rw [World.cell?_of_block (w := W) (w' := W') (a := ⟨N, 0, none⟩) (h.block N hN)]
  exact ⟨h.mono hn, fun hw => ⟨fun k hk => by rw [e] at hk; exact Nat.lt_of_lt_of_le (hw k hk) h.size, fun i _ _ ho _ hne => ⟨(h.block i (Array.getElem?_eq_some_iff.1 ho).1).trans ho, by rw [e]; exact hne⟩⟩⟩
theorem KpO.cell {N n₀ m₀ : Nat} {A B : World} (h : KpO N n₀ m₀ A B) (hw : WFo N A) {p : Addr} (hp : m₀ ≤ p.block) (hne : ownB N A ≠ some p.block) {v : Value} (hc : A.cell? p = some v) : B.cell? p = some v := by
  have hb : ∃ o, A.heap[p.block]? = some o ∧ o.isCells = true := by
    unfold World.cell? at hc
    split at hc
    · rename_i h; exact ⟨_, h, rfl⟩
    · cases hc
  obtain ⟨o, ho, hoc⟩ := hb
  have := ((h.2 hw).2 _ o hp ho hoc hne).1
  exact (World.cell?_of_block (w := A) (this.trans ho.symm)).trans hc
theorem kpO_b {N n₀ m₀ : Nat} {w : World} (hn : n₀ ≤ w.heap.size) (hN : N < w.heap.size) (W : World) (l : Nat) (o o' : Obj) (hl : w.heap.size ≤ l) (h : W.heap[l]? = some o) (ho : o.isCells = false) (hw : o.isWalk = false) : KpO N n₀ m₀ W (W.putObj l o') := by
  have e : ownB N (W.putObj l o') = ownB N W := by unfold ownB; rw [World.cell?_of_block (w := W) (w' := W.putObj l o') (a := ⟨N, 0, none⟩) (World.putObj_heap_other (fun e => by simp at e; omega))]
  exact ⟨belowK_b hn W l o o' hl h ho hw, fun hwf => ⟨fun k hk => by rw [e] at hk; simpa using hwf k hk, fun i o2 _ h2 hc hne => by
    refine ⟨?_, by rw [e]; exact hne⟩
    by_cases e : i = l
    · subst e; rw [h] at h2; cases h2; rw [ho] at hc; cases hc
    · exact (World.putObj_heap_other e).trans h2⟩⟩

set_option maxRecDepth 100000 in
set_option maxHeartbeats 1000000 in
theorem visit_own (t : Nd) : ∀ (lv : Int) (A : Option Addr) (cap : Nat) (w0 : World), Lies w0 A cap t.ks → Fine t → ∃ xs : List (El w0), xs.map El.key = preN lv t ∧
    ∀ (Nl l m₀ N : Nat) (J Jx : List (El w0) → World → Prop) (P : El w0 → Prop), (∀ x ∈ xs, P x) → w0.heap.size ≤ m₀ → Nl < m₀ → (∀ s W o, J s W → J s (W.alloc o)) →
      (∀ m pre x W, P x → J pre W → pre.length < N → YieldAt Fence.wide m Try.prog l (encE x) W fun e W' =>
        (e = .returned (.bool true) ∧ J (pre ++ [x]) W' ∧ KpO Nl w0.heap.size m₀ W W') ∨ (e = .returned (.bool false) ∧ Jx (pre ++ [x]) W')) →
      ∀ (n : Nat) (pre : List (El w0)) (W : World), Below w0.heap.size w0 W → m₀ ≤ W.heap.size → WFo Nl W → J pre W → pre.length + xs.length ≤ N →
        CallsIn Fence.wide n Try.prog 87 #[nv t.op t.so t.nm t.nu (.slice A t.ks.length cap), .int .i64 lv, .func (.yield l) #[] #[]] W fun e W' =>
          (e = .returned (.bool true) ∧ J (pre ++ xs) W' ∧ KpO Nl w0.heap.size m₀ W W') ∨ (e = .returned (.bool false) ∧ ∃ q, q <+: xs ∧ Jx (pre ++ q) W') := by
  induction t using Nd.ind with
  | h t ih =>
  intro lv A cap w0 hL hfine
  obtain ⟨b, o, A', C', hA, h5, hk⟩ := hL.fns
  have hch := Go.Deep.choose_lt (α := List (El w0)) (n := t.ks.length) (p := fun i X => ∃ hi : i < t.ks.length, X.map El.key = preN (wrap64 (lv + 1)) t.ks[i] ∧ Hid (∀ (Nl l m₀ N : Nat) (J Jx : List (El w0) → World → Prop) (P : El w0 → Prop), (∀ x ∈ X, P x) → w0.heap.size ≤ m₀ → Nl < m₀ → (∀ s W o, J s W → J s (W.alloc o)) →
      (∀ m pre x W, P x → J pre W → pre.length < N → YieldAt Fence.wide m Try.prog l (encE x) W fun e W' =>
        (e = .returned (.bool true) ∧ J (pre ++ [x]) W' ∧ KpO Nl w0.heap.size m₀ W W') ∨ (e = .returned (.bool false) ∧ Jx (pre ++ [x]) W')) →
      ∀ (n : Nat) (pre : List (El w0)) (W : World), Below w0.heap.size w0 W → m₀ ≤ W.heap.size → WFo Nl W → J pre W → pre.length + X.length ≤ N →
        CallsIn Fence.wide n Try.prog 87 #[nv t.ks[i].op t.ks[i].so t.ks[i].nm t.ks[i].nu (.slice (A' i) t.ks[i].ks.length (C' i)), .int .i64 (wrap64 (lv + 1)), .func (.yield l) #[] #[]] W fun e W' =>
          (e = .returned (.bool true) ∧ J (pre ++ X) W' ∧ KpO Nl w0.heap.size m₀ W W') ∨ (e = .returned (.bool false) ∧ ∃ q, q <+: X ∧ Jx (pre ++ q) W')))
    (fun i hi => by obtain ⟨X, h1, h2⟩ := ih i hi (wrap64 (lv + 1)) (A' i) (C' i) w0 (hk i hi) (hL.fine hi); exact ⟨X, hi, h1, h2⟩)
  obtain ⟨X, hX⟩ := hch
  clear ih
  obtain ⟨x0, hx0⟩ : ∃ x0 : El w0, x0 = ⟨lv, t, A, cap, hL, hfine⟩ := ⟨_, rfl⟩
  refine ⟨x0 :: (List.range t.ks.length).flatMap X, ?_, ?_⟩
  · rw [preN_eq, List.map_cons, map_upto (wrap64 (lv + 1)) t.ks X (fun i hi => (hX i hi).2.1) _ (Nat.le_refl _), List.take_of_length_le (Nat.le_refl _), hx0]
    rfl
  intro Nl l m₀ N J Jx P hP hm hNl hJa hY n pre W hW hmW hwf hJ hN
  have hn := hL.len
  unfold maxLen at hn
  have y0 := hY (n - 1) pre x0 (W.alloc (.cells #[.int .i64 t.op, .int .i64 t.so, .string t.nm, .int .i64 t.nu, .slice A t.ks.length cap] 24)) (hP x0 (by simp)) (hJa _ _ _ hJ) (by simp at hN; omega)
  rw [hx0] at y0
  obtain ⟨fn, tmps, assign, body, hy, hR⟩ := y0
  dsimp only [encE] at hy
  have HX := Lib.hid hX
  have HY := Lib.hid hY
  clear hX hY
  refine callsIn_of_wp Try.func87 rfl trivial ?_ rfl
  simp only [Try.ntmps87, List.size_toArray, List.length_cons, List.length_nil, Nat.reduceAdd, Nat.reduceSub, Array.replicate_succ, Array.replicate_zero, List.push_toArray, List.append_toArray, List.nil_append, List.cons_append]
  gi_wp2_with fail
  refine ⟨fun h => (by cases h), ?_⟩
  refine hR.mono ?_
  clear hR hy
  rw [← hx0]
  rintro e W2 (⟨rfl, hJ2, hk2⟩ | ⟨rfl, hx2⟩)
  case inr =>
    clear hx0 hJa hJ
    gi_wp2_with fail
    go_ret
    exact .inr ⟨rfl, [x0], ⟨_, rfl⟩, hx2⟩
  have hc2 : W2.cell? ⟨W.heap.size, 4, none⟩ = some (.slice A t.ks.length cap) := hk2.cell (hwf.alloc (by omega) _) hmW (by rw [ownB_alloc (by omega)]; exact fun e => by have := hwf _ e; simp at this) (by simp [go_sem])
  have hkW : KpO Nl w0.heap.size m₀ W W2 := ((KpO.refl _ _ _ W).alloc hW.size (by omega) _).trans hk2
  have hJA := Lib.hid hJa
  clear hJa hk2 hx0 hJ
  gi_wp2_with fail
  gi_loopw [17] (fun i wr => ∃ k : Nat, k ≤ t.ks.length ∧ i = .int .i64 k ∧ J (pre ++ x0 :: (List.range k).flatMap X) wr ∧ KpO Nl w0.heap.size m₀ W wr) (fun i _ => t.ks.length - (intOf i).toNat)
  case atStart => exact ⟨0, Nat.zero_le _, rfl, hJ2, hkW⟩
  case round =>
    obtain ⟨k, hk', rfl, hJk, hkk⟩ := hrel
    clear hJ2 hkW hc2
    by_cases hlt : k < t.ks.length
    · obtain rfl := hA (by omega)
      obtain ⟨a0, a1, a2, a3, a4⟩ := (h5 k hlt).later (hW.trans hkk.1)
      obtain ⟨_, _, hc⟩ := HX.out k hlt
      have hpre := upto_pre X (k := k + 1) (n := t.ks.length) (by omega)
      rw [upto_succ] at hpre
      have hlen : (pre ++ x0 :: (List.range k).flatMap X).length + (X k).length ≤ N := by
        have := hpre.length_le
        simp only [List.length_append, List.length_cons] at this hN ⊢
        omega
      have c := Lib.hid (hc.out Nl l m₀ N J Jx P (fun x hx => hP x (by simp only [List.mem_cons, List.mem_flatMap, List.mem_range]; exact .inr ⟨k, hlt, hx⟩)) hm hNl hJA.out HY.out (n - 1) (pre ++ x0 :: (List.range k).flatMap X) (wr.alloc (.cells #[.int .i64 t.ks[k].op, .int .i64 t.ks[k].so, .string t.ks[k].nm, .int .i64 t.ks[k].nu, .slice (A' k) t.ks[k].ks.length (C' k)] 24))
        ((hW.trans hkk.1).alloc (hW.trans hkk.1).size _) (by have := hkk.1.size; simp; omega) ((hkk.2 hwf).1.alloc (by have := hkk.1.size; omega) _) (hJA.out _ _ _ hJk) hlen)
      clear hc HX HY h5 hA hk
      have Hpre := Lib.hid hpre
      clear hpre hlen
      gi_wp2_with fail
      refine ⟨trivial, fun h => (by cases h), ?_⟩
      refine c.out.mono ?_
      clear c
      have hkk' : KpO Nl w0.heap.size m₀ W (wr.alloc (.cells #[.int .i64 t.ks[k].op, .int .i64 t.ks[k].so, .string t.ks[k].nm, .int .i64 t.ks[k].nu, .slice (A' k) t.ks[k].ks.length (C' k)] 24)) := hkk.alloc hW.size (by omega) _
      rintro e W3 (⟨rfl, hJ3, hk3⟩ | ⟨rfl, q, hq, hx3⟩)
      · have hJ4 : J (pre ++ x0 :: (List.range (k + 1)).flatMap X) W3 := by
          rw [upto_succ]
          simpa using hJ3
        have hk4 := hkk'.trans hk3
        clear hJ3 hk3 hkk' hJA hJk
        gi_wp2_with fail
        go_roundw
        case rel => exact ⟨k + 1, by omega, by go_num, hJ4, hk4⟩
        case measure => simp [intOf]; omega
      · clear hkk' hJA hJk
        gi_wp2_with fail
        go_ret
        refine .inr ⟨rfl, x0 :: ((List.range k).flatMap X ++ q), ?_, by simpa using hx3⟩
        exact List.cons_prefix_cons.2 ⟨rfl, ((List.prefix_append_right_inj _).2 hq).trans Hpre.out⟩
    · gi_wp2_with fail
      go_ret
      obtain rfl : k = t.ks.length := by omega
      exact .inl ⟨rfl, hJk, hkk⟩
set_option maxRecDepth 100000 in
set_option maxHeartbeats 1000000 in
/-- What comes to a loop over walk: the nodes of the tree, in preorder, or the first few of them. -/
theorem walk_own (t : Nd) (A : Option Addr) (cap : Nat) (w0 : World) (hL : Lies w0 A cap t.ks) (hr : Fine t) : ∃ xs : List (El w0), xs.map El.key = preN 1 t ∧
    ∀ (n : Nat) (w : World) (Bn Nl : Nat), Below w0.heap.size w0 w → Five w Bn 0 t (.slice A t.ks.length cap) → w.cell? ⟨Nl, 0, none⟩ = some (.slice none 0 0) →
      SeqStopsK Fence.wide n Try.prog 86 #[.pointer (some ⟨Bn, 0, none⟩)] (fun x : El w0 => encE x) (KpO Nl w0.heap.size w.heap.size) (fun ys => ys = xs) (fun pre => pre <+: xs) xs.length w := by
  obtain ⟨xs, hxs, hv⟩ := visit_own t 1 A cap w0 hL hr
  refine ⟨xs, hxs, ?_⟩
  intro n w Bn Nl hw h5 hN0 l J Jx W hW hJ _ hY h0
  have hNw := World.block_lt_of_cell? _ _ hN0
  have hwf : WFo Nl W := fun k hk => by
    unfold ownB at hk
    rw [World.cell?_of_block (w := w) (w' := W) (a := ⟨Nl, 0, none⟩) (hW.block Nl hNw), hN0] at hk
    simp [Value.ownBlock] at hk
  have hc := Lib.hid (hv Nl l w.heap.size xs.length J Jx (fun _ => True) (fun _ _ => trivial) hw.size hNw (fun s W o h => hJ s W _ none h (World.grownBy_alloc W o none) (fun r e => by cases e))
    (fun m pre x W _ hj hl => YieldAt.wideDepth m (hY pre x W hj hl)) (n - 1) [] W (hw.trans (hW.mono hw.size)) hW.size hwf h0 (by simp))
  obtain ⟨a0, a1, a2, a3, a4⟩ := h5.later hW
  clear hv hY hJ h0
  refine callsIn_of_wp Try.func86 rfl trivial ?_ rfl
  simp only [Try.ntmps86, List.size_toArray, List.length_cons, List.length_nil, Nat.reduceAdd, Nat.reduceSub, Array.replicate_succ, Array.replicate_zero, List.push_toArray, List.append_toArray, List.nil_append, List.cons_append]
  gi_wp2_with fail
  refine ⟨trivial, fun h => (by cases h), ?_⟩
  refine hc.out.mono ?_
  clear hc
  rintro e W3 (⟨rfl, hJ3, hk3⟩ | ⟨rfl, q, hq, hx3⟩)
  · gi_wp2_with fail
    go_end0
    exact ⟨⟨_, rfl⟩, .inl ⟨_, rfl, by simpa using hJ3⟩⟩
  · gi_wp2_with fail
    go_end0
    exact ⟨⟨_, rfl⟩, .inr ⟨q, hq, by simpa using hx3⟩⟩
end Go.Proofs.Ytpjokapkoeclpaa
