/-
  What package logic's Vars returns: the variables in order, each once; conditions: the tree lies in memory and has few nodes.
-/
import Derived.Test.YtpjokapkoeclpaaOwn
import Derived.Test.YtpjokapkoeclpaaInsOne
namespace Go.Proofs.Ytpjokapkoeclpaa
open Go.RowKit Go.Shelf

attribute [local go_sem] Oper.semAt_some
theorem ownsRow_kept {A B : World} {base : Nat} {E : TypeId} {k : Nat} {v : Value} {n : Nat} {xs : List Value} {row : Option Nat} (h : A.ownsRow base E k v n xs) (hg : A.grownBy B row) (hr : ∀ r, row = some r → ∃ o : Obj, A.heap[r]? = some o ∧ o.isCells = false) : B.ownsRow base E k v n xs := by
  refine ⟨h.1, h.2.imp id ?_⟩
  rintro ⟨g, cap, cur, hv, hb, hh, rest⟩
  refine ⟨g, cap, cur, hv, hb, (hg.block g (Array.getElem?_eq_some_iff.1 hh).1 (fun e => ?_)).trans hh, rest⟩
  obtain ⟨o, ho, hc⟩ := hr g e.symm
  rw [hh] at ho
  cases ho
  cases hc
/-- The block of a row holds cells, lies at or beyond the base and in the heap. -/
theorem ownsRow_own {A : World} {base : Nat} {E : TypeId} {k : Nat} {v : Value} {n : Nat} {xs : List Value} (h : A.ownsRow base E k v n xs) {r : Nat} (e : v.ownBlock = some r) : base ≤ r ∧ r < A.heap.size ∧ ∃ o, A.heap[r]? = some o ∧ o.isCells = true := by
  rcases h.2 with ⟨rfl, _⟩ | ⟨g, cap, cur, rfl, hb, hh, _⟩
  · simp [Value.ownBlock] at e
  · simp only [Value.ownBlock, Option.some.injEq] at e
    subst e
    exact ⟨hb, (Array.getElem?_eq_some_iff.1 hh).1, _, hh, rfl⟩

/-- A round has put something into the row of the variable in block N, and stored the row there: what it keeps. -/
theorem round_kept {N m₀ : Nat} {w W w1 : World} {base : Nat} {E : TypeId} {k : Nat} {v v' : Value} {n n' : Nat} {xs xs' : List Value} (hB : Below w.heap.size w W) (hNw : w.heap.size ≤ N) (hNm : N < m₀) (hNb : N < base)
    (hr : W.cell? ⟨N, 0, none⟩ = some v) (hf : W.frozen? ⟨N, 0, none⟩ = false) (hv : W.ownsRow base E k v n xs) (hv' : w1.ownsRow base E k v' n' xs') (hg : W.grownBy w1 v.ownBlock) (hor : v'.ownBlock = v.ownBlock ∨ ∃ b, v'.ownBlock = some b ∧ W.heap.size ≤ b) :
    KeepsFrom m₀ W (w1.setCell ⟨N, 0, none⟩ v') ∧ KpO N w.heap.size m₀ W (w1.setCell ⟨N, 0, none⟩ v') ∧ (w1.setCell ⟨N, 0, none⟩ v').cell? ⟨N, 0, none⟩ = some v' ∧ (w1.setCell ⟨N, 0, none⟩ v').frozen? ⟨N, 0, none⟩ = false ∧ (w1.setCell ⟨N, 0, none⟩ v').ownsRow base E k v' n' xs' ∧ Below w.heap.size w (w1.setCell ⟨N, 0, none⟩ v') := by
  have hNW := World.block_lt_of_cell? _ _ hr
  have hown : ∀ r, v.ownBlock = some r → base ≤ r ∧ r < W.heap.size ∧ ∃ o, W.heap[r]? = some o ∧ o.isCells = true := fun r e => ownsRow_own hv e
  have hNr : v.ownBlock ≠ some N := fun e => by have := (hown N e).1; omega
  have hNb1 : w1.heap[N]? = W.heap[N]? := hg.block N hNW (fun e => hNr e.symm)
  have hr1 : w1.cell? ⟨N, 0, none⟩ = some v := (World.cell?_of_block (w := W) (w' := w1) (a := ⟨N, 0, none⟩) hNb1).trans hr
  have hf1 : w1.frozen? ⟨N, 0, none⟩ = false := (World.frozen?_of_block (w := W) (w' := w1) (a := ⟨N, 0, none⟩) hNb1).trans hf
  have hset := World.cell?_setCell_same' w1 ⟨N, 0, none⟩ v' (by rw [hr1]; rfl)
  have hsz : (w1.setCell ⟨N, 0, none⟩ v').heap.size = w1.heap.size := by simp
  have hoth : ∀ j, j ≠ N → (w1.setCell ⟨N, 0, none⟩ v').heap[j]? = w1.heap[j]? := fun j hj => heap_setCell_other w1 ⟨N, 0, none⟩ j v' hj
  have hB1 : Below w.heap.size w w1 := ⟨hg.os.trans hB.os, hg.tape.trans hB.tape, hg.output.trans hB.output, Nat.le_trans hB.size hg.size, fun j hj => (hg.block j (Nat.lt_of_lt_of_le hj hB.size) (fun e => by have := (hown j e.symm).1; omega)).trans (hB.block j hj)⟩
  refine ⟨?_, ?_, hset, by rw [World.frozen?_setCell]; exact hf1, ?_, hB1.setCell (p := ⟨N, 0, none⟩) hNw v'⟩
  · refine KeepsFrom.trans ?_ (KeepsFrom.setCell m₀ w1 ⟨N, 0, none⟩ v')
    refine ⟨hg.size, fun j o _ hj hnc => ?_⟩
    refine (hg.block j (Array.getElem?_eq_some_iff.1 hj).1 (fun e => ?_)).trans hj
    obtain ⟨_, _, o', ho', hc⟩ := hown j e.symm
    rw [hj] at ho'
    cases ho'
    rw [hc] at hnc
    cases hnc
  · have eW : ownB N W = v.ownBlock := by unfold ownB; rw [hr]; rfl
    have eW' : ownB N (w1.setCell ⟨N, 0, none⟩ v') = v'.ownBlock := by unfold ownB; rw [hset]; rfl
    refine ⟨?_, fun _ => ⟨fun j hj => ?_, fun j o hj ho hc hne => ?_⟩⟩
    · refine ⟨hg.os, hg.tape, hg.output, by rw [hsz]; exact hg.size, fun j hj => ?_⟩
      rw [hoth j (by omega)]
      exact hg.block j (Nat.lt_of_lt_of_le hj hB.size) (fun e => by have := (hown j e.symm).1; omega)
    · rw [eW'] at hj
      rw [hsz]
      exact (ownsRow_own hv' hj).2.1
    · rw [eW] at hne
      rw [eW', hoth j (by omega)]
      refine ⟨(hg.block j (Array.getElem?_eq_some_iff.1 ho).1 (fun e => hne e.symm)).trans ho, fun e => ?_⟩
      rcases hor with h | ⟨b, h, hb⟩
      · exact hne (h.symm.trans e)
      · rw [h] at e
        cases e
        have := (Array.getElem?_eq_some_iff.1 ho).1
        omega
  · refine ⟨hv'.1, hv'.2.imp id ?_⟩
    rintro ⟨g, cap, cur, hvv, hb, hh, rest⟩
    exact ⟨g, cap, cur, hvv, hb, (hoth g (by omega)).trans hh, rest⟩

/-- The declarations of the nodes that have come. -/
def declsOf {w0 : World} (pre : List (El w0)) : List (ByteArray × Int) := (pre.map (·.t)).foldl gsD []
theorem declsOf_snoc {w0 : World} (pre : List (El w0)) (x : El w0) : declsOf (pre ++ [x]) = gsD (declsOf pre) x.t := by simp [declsOf]
theorem declsOf_len {w0 : World} (pre : List (El w0)) : (declsOf pre).length ≤ pre.length := by
  have := fold_gsD_len (pre.map (·.t)) []
  simpa [declsOf] using this
theorem declsOf_sorted {w0 : World} (pre : List (El w0)) : (declsOf pre).Pairwise ltD := fold_gsD_sorted _ _ List.Pairwise.nil

/-- A row of elements in the variable in block N. -/
def RowAt (N base : Nat) (E : TypeId) (k n : Nat) (xs : List Value) (W : World) : Prop := ∃ v, W.cell? ⟨N, 0, none⟩ = some v ∧ W.frozen? ⟨N, 0, none⟩ = false ∧ W.ownsRow base E k v n xs
theorem RowAt.kept {N base : Nat} {E : TypeId} {k n : Nat} {xs : List Value} {A B : World} {row : Option Nat} (h : RowAt N base E k n xs A) (hg : A.grownBy B row) (hr : ∀ r, row = some r → ∃ o : Obj, A.heap[r]? = some o ∧ o.isCells = false) : RowAt N base E k n xs B := by
  obtain ⟨v, h1, h2, h3⟩ := h
  exact ⟨v, cell_kept h1 hg hr, (frozen_kept h1 hg hr).trans h2, ownsRow_kept h3 hg hr⟩

set_option maxRecDepth 100000 in
set_option maxHeartbeats 4000000 in
theorem vars_any (t : Nd) (A : Option Addr) (cap : Nat) (w : World) (hL : Lies w A cap t.ks) (hfine : Fine t) (hcnt : (preN 1 t).length ≤ 1048576) :
    Calls Try.prog 26 #[nv t.op t.so t.nm t.nu (.slice A t.ks.length cap)] w (RetD w (gathL [] t)) := by
  obtain ⟨xs, hxs, hst⟩ := walk_own t A cap w hL hfine
  have hgl : gathL [] t = declsOf xs := by
    unfold gathL nodesOf declsOf
    rw [← hxs, List.map_map]
    rfl
  rw [hgl]
  have hlen : xs.length ≤ 1048576 := by rw [← hxs, List.length_map] at hcnt; exact hcnt
  clear hxs hgl hcnt
  refine callsIn_wide (n := 9).1 ?_
  refine callsIn_of_wp_marks Try.func26 rfl trivial ?_ rfl
  simp only [Try.ntmps26, List.size_toArray, List.length_cons, List.length_nil, Nat.reduceAdd, Nat.reduceSub, Array.replicate_succ, Array.replicate_zero, List.push_toArray, List.append_toArray, List.nil_append, List.cons_append]
  have H := Lib.hid hst
  have HL := Lib.hid hL
  clear hst hL
  gi_wp2_with (refine ⟨trivial, ?_⟩; gi_at_call 53; refine (walkClo_any _ _ _ _ _ _ _).mono ?_; rintro e w' ⟨rfl, rfl⟩)
  have hB0 : Below w.heap.size w (((w.alloc (boxO t (.slice A t.ks.length cap))).alloc (.cells #[.slice none 0 0] 35)).alloc (boxO t (.slice A t.ks.length cap))) :=
    (((Below.refl _ w).alloc (Nat.le_refl _) _).alloc (by simp) _).alloc (by simp; omega) _
  have r0 := cell_new_l (w.alloc (boxO t (.slice A t.ks.length cap))) (.slice none 0 0) 35
  have c1 := five_new ((w.alloc (boxO t (.slice A t.ks.length cap))).alloc (.cells #[.slice none 0 0] 35)) t (.slice A t.ks.length cap) 24
  simp only [World.size_alloc] at c1 r0
  refine wpIn_rangeFunc_ownH rfl (by decide) (gf := 86) (lb := #[.pointer (some ⟨w.heap.size + 1 + 1, 0, none⟩)]) rfl trivial (enters_of Try.func86 (by kernel_rfl) rfl)
    (H.out _ _ _ (w.heap.size + 1) hB0 c1 (cell_alloc_l _ r0.1)) KpO.trans (kpO_b (by simp; omega) (by simp)) (Below.refl _ _) (fun _ => rfl)
    (fun (pre : List (El w)) W => RowAt (w.heap.size + 1) (w.heap.size + 1 + 1) 58 2 (declsOf pre).length (flatD (declsOf pre)) W ∧ Below w.heap.size w W)
    (fun _ _ _ => False)
    (OwnFrom.and (Own.from (fun s' X Y row hs hg hr => hs.kept hg hr) _) (ownFrom_below (Nat.le_refl _) (by simp; omega)))
    (fun _ _ _ _ _ hs _ _ => hs)
    ⟨⟨_, cell_alloc_l _ r0.1, frozen_alloc_l _ r0.1 r0.2, World.ownsRow_nil _ _ _ _⟩, hB0⟩
    (fun x a' W => BoxAt (fun Bx => { tmps := #[nv t.op t.so t.nm t.nu (.slice A t.ks.length cap), .pointer (some ⟨w.heap.size, 0, none⟩), .slice none 0 0, .pointer (some ⟨w.heap.size + 1, 0, none⟩), undef, .pointer (some ⟨Bx, 0, none⟩), nv t.op t.so t.nm t.nu (.slice A t.ks.length cap), .func (.func 86) #[] #[.pointer (some ⟨w.heap.size + 1 + 1, 0, none⟩)], .int .i64 x.lv, nv x.t.op x.t.so x.t.nm x.t.nu (.slice x.A x.t.ks.length x.cap), undef, undef, undef, undef, undef, undef, undef, undef, undef, undef, undef], defers := [] }) x a' W)
    (fun x a' => boxAt_own _ _ x a') ?assign ?body ?done ?stop
  case assign =>
    rintro l pre x W K ⟨hp, hB⟩ hK
    have hp := Lib.hid hp
    have HK := Lib.hid hK
    clear H HL hB0 r0 c1 hK
    simp only [encE]
    gi_wp2
    have hsz := hB.size
    have hN : w.heap.size + 1 < W.heap.size := by
      obtain ⟨v, hr, _⟩ := hp.out
      exact World.block_lt_of_cell? _ _ hr
    exact HK.out _ _ (KeepsFrom.alloc _ _ _) ((KpO.refl _ _ _ W).alloc hB.size hN _) ⟨hp.out.kept (World.grownBy_alloc W _ none) (fun r e => by cases e), hB.alloc hB.size _⟩ ⟨W.heap.size, five_new _ _ _ _, rfl⟩
  case body =>
    rintro l pre x a' W hl hrec ⟨⟨v, hr, hrf, hv⟩, hB⟩ ⟨Bx, hx5, rfl⟩ hpl
    have HB := Lib.hid hB
    have HV := Lib.hid hv
    obtain ⟨a0, a1, a2, a3, a4⟩ := hx5
    have hdl := declsOf_len pre
    have hds := Lib.hid (declsOf_sorted pre)
    have hsn := Lib.hid (declsOf_snoc pre x)
    have hN := World.block_lt_of_cell? _ _ hr
    clear H HL hB0 r0 c1 hrec hB hv
    by_cases ho : x.t.op = 1
    case neg =>
      have ho' : (x.t.op == 1) = false := by simpa using ho
      have hsame := Lib.hid (show declsOf (pre ++ [x]) = declsOf pre from hsn.out.trans (if_neg ho))
      clear ho
      gi_wp2_with fail
      exact ⟨KeepsFrom.refl _ _, KpO.refl _ _ _ _, by rw [hsame.out]; exact ⟨v, hr, hrf, HV.out⟩, HB.out⟩
    have ho' : (x.t.op == 1) = true := by simpa using ho
    have hsame := Lib.hid (show declsOf (pre ++ [x]) = insD (x.t.nm, x.t.so) (declsOf pre) from (hsn.out.trans (if_pos ho)).trans (putD_ins _ _))
    clear ho
    gi_wp2_with fail
    refine ⟨trivial, ?_⟩
    refine (CallsIn.inRound l (callsIn_wide.2 (insertD_any (declsOf pre) (x.t.nm, x.t.so) v (w.heap.size + 1 + 1) W HV.out hN (by omega) hds.out))).mono ?_
    rintro e w1 ⟨v', rfl, hown, hg, hor⟩
    obtain ⟨A7, cap7, rfl, _⟩ := ownsRow_decls hown
    have HKE := Lib.hid (round_kept (N := w.heap.size + 1) (m₀ := w.heap.size + 1 + 1 + 1) HB.out (by omega) (by omega) (by omega) hr hrf HV.out hown hg hor)
    have hr1 : w1.cell? ⟨w.heap.size + 1, 0, none⟩ = some v := (World.cell?_of_block (w := W) (w' := w1) (a := ⟨w.heap.size + 1, 0, none⟩) (hg.block _ hN (fun e => by have h : w.heap.size + 1 + 1 ≤ w.heap.size + 1 := (ownsRow_own HV.out e.symm).1; omega))).trans hr
    have hrf1 : w1.frozen? ⟨w.heap.size + 1, 0, none⟩ = false := (World.frozen?_of_block (w := W) (w' := w1) (a := ⟨w.heap.size + 1, 0, none⟩) (hg.block _ hN (fun e => by have h : w.heap.size + 1 + 1 ≤ w.heap.size + 1 := (ownsRow_own HV.out e.symm).1; omega))).trans hrf
    clear hown hg hor hr hrf a0 a1 a2 a3 a4
    gi_wp2_with fail
    obtain ⟨k1, k2, k3, k4, k5, k6⟩ := HKE.out
    refine ⟨by simpa using k1, by simpa using k2, ?_, k6⟩
    rw [hsame.out]
    exact ⟨_, k3, k4, k5⟩
  case done =>
    rintro D ys W hD rfl ⟨⟨v, hr, hrf, hv⟩, hB⟩ hK
    have HV := Lib.hid hv
    obtain ⟨A', cap', rfl, hDA⟩ := ownsRow_decls hv
    clear H HL hB0 r0 c1 hv hDA
    gi_wp2
    refine ⟨by simp, .inl ⟨_, _, rfl, run_takeDeferred hK, ?_⟩⟩
    have hv2 := ownsRow_kept HV.out (grownBy_putObj' _ D (.deferred none)) (fun r e => by cases e; exact ⟨_, hK, rfl⟩)
    obtain ⟨A2, cap2, hv3, hDA⟩ := ownsRow_decls hv2
    cases hv3
    exact ⟨_, results_tmp rfl _ _ _, A', cap', rfl, hDA, hB.trans (belowK_b (w := w) (Nat.le_refl _) W D _ _ (by simp at hD; omega) hK rfl rfl)⟩
  case stop =>
    rintro D c pre W _ _ h _
    exact h.elim
end Go.Proofs.Ytpjokapkoeclpaa
