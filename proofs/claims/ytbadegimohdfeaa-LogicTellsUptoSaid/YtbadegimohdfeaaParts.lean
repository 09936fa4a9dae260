/-
  How the parts that And joins come to a loop over package logic's parts that grows a row of its own; conditions: the tree lies in memory.
-/
import Derived.Test.YtbadegimohdfeaaOwn
import Derived.Test.YtbadegimohdfeaaSame
namespace Go.Proofs.Ytbadegimohdfeaa
open Go.RowKit Go.Shelf

attribute [local go_sem] Oper.semAt_some
/-- The parts that And joins, from left to right. -/
def partsL : Nd → List Nd
  | .mk a b c d l => if a = 33 then (l.attach.map fun k => partsL k.1).flatten else [.mk a b c d l]
termination_by t => SizeOf.sizeOf t
decreasing_by
  have := List.sizeOf_lt_of_mem k.2
  simp only [Nd.mk.sizeOf_spec]
  omega
theorem partsL_eq (t : Nd) : partsL t = if t.op = 33 then t.ks.flatMap partsL else [t] := by
  cases t
  rw [partsL, List.attach_map_val (f := partsL), ← List.flatMap_def]
  rfl
theorem partsL_and {t : Nd} (h : t.op = 33) : partsL t = t.ks.flatMap partsL := by rw [partsL_eq, if_pos h]
theorem partsL_one {t : Nd} (h : t.op ≠ 33) : partsL t = [t] := by rw [partsL_eq, if_neg h]
/-- A node that comes, none of whose lists is too long to be made. -/
abbrev ElS (w0 : World) := { x : El w0 // Short x.t }
theorem map_parts {w0 : World} (ks : List Nd) (X : Nat → List (ElS w0)) (h : ∀ i (hi : i < ks.length), (X i).map (·.1.t) = partsL ks[i]) (k : Nat) (hk : k ≤ ks.length) :
    ((List.range k).flatMap X).map (·.1.t) = (ks.take k).flatMap partsL := by
  induction k with
  | zero => rfl
  | succ k ih =>
    rw [List.range_succ, List.flatMap_append, List.map_append, ih (by omega), List.take_succ_eq_append_getElem (by omega), List.flatMap_append]
    simp [h k (by omega)]
def encP {w0 : World} (x : ElS w0) : Array Value := #[nv x.1.t.op x.1.t.so x.1.t.nm x.1.t.nu (.slice x.1.A x.1.t.ks.length x.1.cap)]

set_option maxRecDepth 100000 in
set_option maxHeartbeats 1000000 in
theorem visit_parts (t : Nd) : ∀ (A : Option Addr) (cap : Nat) (w0 : World), Lies w0 A cap t.ks → Fine t → (∀ y ∈ partsL t, Short y) → ∃ xs : List (ElS w0), xs.map (·.1.t) = partsL t ∧
    ∀ (Nl l m₀ N : Nat) (J Jx : List (ElS w0) → World → Prop), w0.heap.size ≤ m₀ → Nl < m₀ → (∀ s W o, J s W → J s (W.alloc o)) →
      (∀ m pre x W, J pre W → pre.length < N → YieldAt Fence.wide m Try.prog l (encP x) W fun e W' =>
        (e = .returned (.bool true) ∧ J (pre ++ [x]) W' ∧ KpO Nl w0.heap.size m₀ W W') ∨ (e = .returned (.bool false) ∧ Jx (pre ++ [x]) W')) →
      ∀ (n : Nat) (pre : List (ElS w0)) (W : World), Below w0.heap.size w0 W → m₀ ≤ W.heap.size → WFo Nl W → J pre W → pre.length + xs.length ≤ N →
        CallsIn Fence.wide n Try.prog 77 #[nv t.op t.so t.nm t.nu (.slice A t.ks.length cap), .func (.yield l) #[] #[]] W fun e W' =>
          (e = .returned (.bool true) ∧ J (pre ++ xs) W' ∧ KpO Nl w0.heap.size m₀ W W') ∨ (e = .returned (.bool false) ∧ ∃ q, q <+: xs ∧ Jx (pre ++ q) W') := by
  induction t using Nd.ind with
  | h t ih =>
  intro A cap w0 hL hfine hsh
  by_cases hop : t.op = 33
  case neg =>
    have hop' : (t.op != 33) = true := by simpa using hop
    have hsht : Short t := hsh t (by rw [partsL_one hop]; simp)
    obtain ⟨x0, hx0⟩ : ∃ x0 : ElS w0, x0 = ⟨⟨0, t, A, cap, hL, hfine⟩, hsht⟩ := ⟨_, rfl⟩
    refine ⟨[x0], by rw [partsL_one hop, hx0]; rfl, ?_⟩
    clear hop ih
    intro Nl l m₀ N J Jx hm hNl hJa hY n pre W hW hmW hwf hJ hN
    have y0 := hY (n - 1) pre x0 (W.alloc (.cells #[.int .i64 t.op, .int .i64 t.so, .string t.nm, .int .i64 t.nu, .slice A t.ks.length cap] 24)) (hJa _ _ _ hJ) (by simp at hN; omega)
    rw [hx0] at y0
    obtain ⟨fn, tmps, assign, body, hy, hR⟩ := y0
    dsimp only [encP] at hy
    clear hY
    refine callsIn_of_wp Try.func77 rfl trivial ?_ rfl
    simp only [Try.ntmps77, List.size_toArray, List.length_cons, List.length_nil, Nat.reduceAdd, Nat.reduceSub, Array.replicate_succ, Array.replicate_zero, List.push_toArray, List.append_toArray, List.nil_append, List.cons_append]
    gi_wp2_with fail
    refine ⟨fun h => (by cases h), ?_⟩
    refine hR.mono ?_
    have hk0 : Hid (KpO Nl w0.heap.size m₀ W (W.alloc (.cells #[.int .i64 t.op, .int .i64 t.so, .string t.nm, .int .i64 t.nu, .slice A t.ks.length cap] 24))) := (KpO.refl _ _ _ W).alloc hW.size (by omega) _
    clear hR hy
    rw [← hx0]
    rintro e W2 (⟨rfl, hJ2, hk2⟩ | ⟨rfl, hx2⟩)
    · have HJ2 := Lib.hid hJ2
      have HK2 := Lib.hid (hk0.out.trans hk2)
      clear hx0 hJa hJ hJ2 hk2
      gi_wp2_with fail
      go_ret
      exact .inl ⟨rfl, HJ2.out, HK2.out⟩
    · have HX2 := Lib.hid hx2
      clear hx0 hJa hJ hx2
      gi_wp2_with fail
      go_ret
      exact .inr ⟨rfl, [x0], ⟨_, rfl⟩, HX2.out⟩
  obtain ⟨b, o, A', C', hA, h5, hk⟩ := hL.fns
  have hch := Go.Deep.choose_lt (α := List (ElS w0)) (n := t.ks.length) (p := fun i X => ∃ hi : i < t.ks.length, X.map (·.1.t) = partsL t.ks[i] ∧ Hid (∀ (Nl l m₀ N : Nat) (J Jx : List (ElS w0) → World → Prop), w0.heap.size ≤ m₀ → Nl < m₀ → (∀ s W o, J s W → J s (W.alloc o)) →
      (∀ m pre x W, J pre W → pre.length < N → YieldAt Fence.wide m Try.prog l (encP x) W fun e W' =>
        (e = .returned (.bool true) ∧ J (pre ++ [x]) W' ∧ KpO Nl w0.heap.size m₀ W W') ∨ (e = .returned (.bool false) ∧ Jx (pre ++ [x]) W')) →
      ∀ (n : Nat) (pre : List (ElS w0)) (W : World), Below w0.heap.size w0 W → m₀ ≤ W.heap.size → WFo Nl W → J pre W → pre.length + X.length ≤ N →
        CallsIn Fence.wide n Try.prog 77 #[nv t.ks[i].op t.ks[i].so t.ks[i].nm t.ks[i].nu (.slice (A' i) t.ks[i].ks.length (C' i)), .func (.yield l) #[] #[]] W fun e W' =>
          (e = .returned (.bool true) ∧ J (pre ++ X) W' ∧ KpO Nl w0.heap.size m₀ W W') ∨ (e = .returned (.bool false) ∧ ∃ q, q <+: X ∧ Jx (pre ++ q) W')))
    (fun i hi => by obtain ⟨X, h1, h2⟩ := ih i hi (A' i) (C' i) w0 (hk i hi) (hL.fine hi) (fun y hy => hsh y (by rw [partsL_and hop]; exact List.mem_flatMap.2 ⟨_, List.getElem_mem hi, hy⟩)); exact ⟨X, hi, h1, h2⟩)
  obtain ⟨X, hX⟩ := hch
  clear ih
  have hop' : (t.op != 33) = false := by simpa using hop
  refine ⟨(List.range t.ks.length).flatMap X, ?_, ?_⟩
  · rw [partsL_and hop, map_parts t.ks X (fun i hi => (hX i hi).2.1) _ (Nat.le_refl _), List.take_of_length_le (Nat.le_refl _)]
  intro Nl l m₀ N J Jx hm hNl hJa hY n pre W hW hmW hwf hJ hN
  have hn := hL.len
  unfold maxLen at hn
  have HX := Lib.hid hX
  have HY := Lib.hid hY
  have hJ2 := hJa _ _ (.cells #[.int .i64 t.op, .int .i64 t.so, .string t.nm, .int .i64 t.nu, .slice A t.ks.length cap] 24) hJ
  have hkW : KpO Nl w0.heap.size m₀ W (W.alloc (.cells #[.int .i64 t.op, .int .i64 t.so, .string t.nm, .int .i64 t.nu, .slice A t.ks.length cap] 24)) := (KpO.refl _ _ _ W).alloc hW.size (by omega) _
  have hJA := Lib.hid hJa
  clear hX hY hJa hJ hop
  refine callsIn_of_wp Try.func77 rfl trivial ?_ rfl
  simp only [Try.ntmps77, List.size_toArray, List.length_cons, List.length_nil, Nat.reduceAdd, Nat.reduceSub, Array.replicate_succ, Array.replicate_zero, List.push_toArray, List.append_toArray, List.nil_append, List.cons_append]
  gi_wp2_with fail
  gi_loopw [16] (fun i wr => ∃ k : Nat, k ≤ t.ks.length ∧ i = .int .i64 k ∧ J (pre ++ (List.range k).flatMap X) wr ∧ KpO Nl w0.heap.size m₀ W wr) (fun i _ => t.ks.length - (intOf i).toNat)
  case atStart => exact ⟨0, Nat.zero_le _, rfl, by simpa using hJ2, hkW⟩
  case round =>
    obtain ⟨k, hk', rfl, hJk, hkk⟩ := hrel
    clear hJ2 hkW
    by_cases hlt : k < t.ks.length
    · obtain rfl := hA (by omega)
      obtain ⟨a0, a1, a2, a3, a4⟩ := (h5 k hlt).later (hW.trans hkk.1)
      obtain ⟨_, _, hc⟩ := HX.out k hlt
      have hpre := upto_pre X (k := k + 1) (n := t.ks.length) (by omega)
      rw [upto_succ] at hpre
      have hlen : (pre ++ (List.range k).flatMap X).length + (X k).length ≤ N := by
        have := hpre.length_le
        simp only [List.length_append] at this hN ⊢
        omega
      have c := Lib.hid (hc.out Nl l m₀ N J Jx hm hNl hJA.out HY.out (n - 1) (pre ++ (List.range k).flatMap X) (wr.alloc (.cells #[.int .i64 t.ks[k].op, .int .i64 t.ks[k].so, .string t.ks[k].nm, .int .i64 t.ks[k].nu, .slice (A' k) t.ks[k].ks.length (C' k)] 24))
        ((hW.trans hkk.1).alloc (hW.trans hkk.1).size _) (by have := hkk.1.size; simp; omega) ((hkk.2 hwf).1.alloc (by have := hkk.1.size; omega) _) (hJA.out _ _ _ hJk) hlen)
      clear hc HX HY h5 hA hk
      have Hpre := Lib.hid hpre
      clear hpre hlen
      gi_wp2_with fail
      refine ⟨trivial, fun h => (by cases h), ?_⟩
      refine c.out.mono ?_
      clear c
      have hkk' : KpO Nl w0.heap.size m₀ W (wr.alloc (.cells #[.int .i64 t.ks[k].op, .int .i64 t.ks[k].so, .string t.ks[k].nm, .int .i64 t.ks[k].nu, .slice (A' k) t.ks[k].ks.length (C' k)] 24)) := hkk.alloc hW.size (by omega) _
      rintro e W3 (⟨rfl, hJ3, hk3⟩ | ⟨rfl, q, hq, hx3⟩)
      · have hJ4 : J (pre ++ (List.range (k + 1)).flatMap X) W3 := by
          rw [upto_succ]
          simpa using hJ3
        have hk4 := hkk'.trans hk3
        clear hJ3 hk3 hkk' hJA hJk
        gi_wp2_with fail
        go_roundw
        case rel => exact ⟨k + 1, by omega, by go_num, hJ4, hk4⟩
        case measure => simp [intOf]; omega
      · clear hkk' hJA hJk
        gi_wp2_with fail
        go_ret
        refine .inr ⟨rfl, (List.range k).flatMap X ++ q, ?_, by simpa using hx3⟩
        exact ((List.prefix_append_right_inj _).2 hq).trans Hpre.out
    · gi_wp2_with fail
      go_ret
      obtain rfl : k = t.ks.length := by omega
      exact .inl ⟨rfl, hJk, hkk⟩

set_option maxHeartbeats 1000000 in
/-- parts hands back a closure over the box of its argument. -/
theorem partsClo_any (op so nu : Int) (nm : ByteArray) (s : Value) (n : Nat) (w : World) :
    CallsIn Fence.wide n Try.prog 52 #[nv op so nm nu s] w fun e w' => e = .returned (.func (.func 76) #[] #[.pointer (some ⟨w.heap.size, 0, none⟩)]) ∧ w.alloc (.cells #[.int .i64 op, .int .i64 so, .string nm, .int .i64 nu, s] 24) = w' := by
  refine callsIn_of_wp Try.func52 rfl trivial ?_ rfl
  simp only [Try.ntmps52, List.size_toArray, List.length_cons, List.length_nil, Nat.reduceAdd, Nat.reduceSub, Array.replicate_succ, Array.replicate_zero, List.push_toArray, List.append_toArray, List.nil_append, List.cons_append]
  gi_wp2
  go_ret
  exact ⟨rfl, rfl⟩

set_option maxRecDepth 100000 in
set_option maxHeartbeats 1000000 in
/-- What comes to a loop over parts. -/
theorem walk_parts (t : Nd) (A : Option Addr) (cap : Nat) (w0 : World) (hL : Lies w0 A cap t.ks) (hr : Fine t) (hsh : ∀ y ∈ partsL t, Short y) : ∃ xs : List (ElS w0), xs.map (·.1.t) = partsL t ∧
    ∀ (n : Nat) (w : World) (Bn Nl : Nat), Below w0.heap.size w0 w → Five w Bn 0 t (.slice A t.ks.length cap) → w.cell? ⟨Nl, 0, none⟩ = some (.slice none 0 0) →
      SeqStopsK Fence.wide n Try.prog 76 #[.pointer (some ⟨Bn, 0, none⟩)] (fun x : ElS w0 => encP x) (KpO Nl w0.heap.size w.heap.size) (fun ys => ys = xs) (fun pre => pre <+: xs) xs.length w := by
  obtain ⟨xs, hxs, hv⟩ := visit_parts t A cap w0 hL hr hsh
  refine ⟨xs, hxs, ?_⟩
  intro n w Bn Nl hw h5 hN0 l J Jx W hW hJ _ hY h0
  have hNw := World.block_lt_of_cell? _ _ hN0
  have hwf : WFo Nl W := fun k hk => by
    unfold ownB at hk
    rw [World.cell?_of_block (w := w) (w' := W) (a := ⟨Nl, 0, none⟩) (hW.block Nl hNw), hN0] at hk
    simp [Value.ownBlock] at hk
  have hc := Lib.hid (hv Nl l w.heap.size xs.length J Jx hw.size hNw (fun s W o h => hJ s W _ none h (World.grownBy_alloc W o none) (fun r e => by cases e))
    (fun m pre x W hj hl => YieldAt.wideDepth m (hY pre x W hj hl)) (n - 1) [] W (hw.trans (hW.mono hw.size)) hW.size hwf h0 (by simp))
  obtain ⟨a0, a1, a2, a3, a4⟩ := h5.later hW
  clear hv hY hJ h0
  refine callsIn_of_wp Try.func76 rfl trivial ?_ rfl
  simp only [Try.ntmps76, List.size_toArray, List.length_cons, List.length_nil, Nat.reduceAdd, Nat.reduceSub, Array.replicate_succ, Array.replicate_zero, List.push_toArray, List.append_toArray, List.nil_append, List.cons_append]
  gi_wp2_with fail
  refine ⟨trivial, fun h => (by cases h), ?_⟩
  refine hc.out.mono ?_
  clear hc
  rintro e W3 (⟨rfl, hJ3, hk3⟩ | ⟨rfl, q, hq, hx3⟩)
  · gi_wp2_with fail
    go_end0
    exact ⟨⟨_, rfl⟩, .inl ⟨_, rfl, by simpa using hJ3⟩⟩
  · gi_wp2_with fail
    go_end0
    exact ⟨⟨_, rfl⟩, .inr ⟨q, hq, by simpa using hx3⟩⟩
end Go.Proofs.Ytbadegimohdfeaa
