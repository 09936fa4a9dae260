/-
  What package logic's Conjuncts returns: the parts that And joins, but no True, copied; conditions: the tree lies in memory and has few nodes.
-/
import Derived.Test.YtbadegimohdfeaaConjPre
namespace Go.Proofs.Ytbadegimohdfeaa
open Go.RowKit Go.Shelf

attribute [local go_sem] Oper.semAt_some
/-- An append as one step of a region, where its run is known by an equation. -/
theorem step_append_run {P : Program} {ops : Array Oper} {o : Oper} {a : Act} {w : World} {K : Act → World → Prop} {Q : Exit → Act → World → Prop} {E : Prop}
    (hg : o.guard = none) (d x : Operand) (t ty : TypeId) (hop : o.op = Op.call { callee := Callee.builtin Builtin.append, args := #[d, x], argTypes := #[t, t] }) (hty : o.type = ty)
    (v u : Value) (hd : a.eval d = v) (hx : a.eval x = u) {v' : Value} {w' : World} (hr : (Builtin.append_ #[t, t] ty #[v, u]).run P w = .ok v' w') (hK : K (a.put o.dst v') w') :
    if Region.wanted o (yielded ops a.tmps) = true then Oper.wp P o a w K Q else E := by
  have hw : Region.wanted o (yielded ops a.tmps) = true := by simp [Region.wanted, hg]
  rw [if_pos hw]
  subst hty
  unfold Oper.wp
  simp only [execOp, hop, resolve, invoke, builtin, Sem.run_bind, Sem.run_pure, Result.andThen_ok, List.map_toArray, List.map_cons, List.map_nil, hd, hx, hr]
  exact hK

set_option maxRecDepth 100000 in
set_option maxHeartbeats 4000000 in
theorem conjuncts_any (t : Nd) (A : Option Addr) (cap : Nat) (w : World) (hL : Lies w A cap t.ks) (hfine : Fine t) (hcnt : (partsL t).length ≤ 1048576) (hsh : ∀ y ∈ partsL t, Short y) :
    Calls Try.prog 23 #[nv t.op t.so t.nm t.nu (.slice A t.ks.length cap)] w (fun e w' => RetL w ((partsL t).filter fun y => y.op != 30) e w' ∧ ∀ A n c, e = .returned (.slice A n c) → n ≤ c) := by
  obtain ⟨xs, hxs, hst⟩ := walk_parts t A cap w hL hfine hsh
  have hgl : (partsL t).filter (fun y => y.op != 30) = conjOf xs := by rw [conjOf, hxs]
  have hlen : xs.length ≤ 1048576 := by rw [← hxs, List.length_map] at hcnt; exact hcnt
  rw [hgl]
  clear hxs hgl hcnt hsh
  obtain ⟨i0, hi, hz0, hz1, hz2⟩ := info_parts info24
  have I0 := Lib.hid hi
  have Z0 := Lib.hid hz0
  have Z1 := Lib.hid hz1
  have Z2 := Lib.hid hz2
  clear hi hz0 hz1 hz2
  refine callsIn_wide (n := 9).1 ?_
  refine callsIn_of_wp_marks Try.func23 rfl trivial ?_ rfl
  simp only [Try.ntmps23, List.size_toArray, List.length_cons, List.length_nil, Nat.reduceAdd, Nat.reduceSub, Array.replicate_succ, Array.replicate_zero, List.push_toArray, List.append_toArray, List.nil_append, List.cons_append]
  have H := Lib.hid hst
  have HL := Lib.hid hL
  clear hst hL
  gi_wp2_with (refine ⟨trivial, ?_⟩; gi_at_call 52; refine (partsClo_any _ _ _ _ _ _ _).mono ?_; rintro e w' ⟨rfl, rfl⟩)
  have hB0 : Below w.heap.size w (((w.alloc (boxO t (.slice A t.ks.length cap))).alloc (.cells #[.slice none 0 0] 22)).alloc (boxO t (.slice A t.ks.length cap))) :=
    (((Below.refl _ w).alloc (Nat.le_refl _) _).alloc (by simp) _).alloc (by simp; omega) _
  have r0 := cell_new_l (w.alloc (boxO t (.slice A t.ks.length cap))) (.slice none 0 0) 22
  have c1 := five_new ((w.alloc (boxO t (.slice A t.ks.length cap))).alloc (.cells #[.slice none 0 0] 22)) t (.slice A t.ks.length cap) 24
  simp only [World.size_alloc] at c1 r0
  refine wpIn_rangeFunc_ownH rfl (by decide) (gf := 76) (lb := #[.pointer (some ⟨w.heap.size + 1 + 1, 0, none⟩)]) rfl trivial (enters_of Try.func76 (by kernel_rfl) rfl)
    (H.out _ _ _ (w.heap.size + 1) hB0 c1 (cell_alloc_l _ r0.1)) KpO.trans (kpO_b (by simp; omega) (by simp)) (Below.refl _ _) (fun _ => rfl)
    (fun (pre : List (ElS w)) W => CopiesAt (w.heap.size + 1) (w.heap.size + 1 + 1) (conjOf pre) W ∧ Below w.heap.size w W)
    (fun _ _ _ => False)
    (OwnFrom.and (Own.from (fun s' X Y row hs hg hr => hs.kept hg hr) _) (ownFrom_below (Nat.le_refl _) (by simp; omega)))
    (fun _ _ _ _ _ hs _ _ => hs)
    ⟨⟨_, [], cell_alloc_l _ r0.1, frozen_alloc_l _ r0.1 r0.2, Grows.nil _ _, rfl⟩, hB0⟩
    (fun x a' W => BoxAt (fun Bx => { tmps := #[nv t.op t.so t.nm t.nu (.slice A t.ks.length cap), .pointer (some ⟨w.heap.size, 0, none⟩), .slice none 0 0, .pointer (some ⟨w.heap.size + 1, 0, none⟩), .pointer (some ⟨Bx, 0, none⟩), nv t.op t.so t.nm t.nu (.slice A t.ks.length cap), .func (.func 76) #[] #[.pointer (some ⟨w.heap.size + 1 + 1, 0, none⟩)], nv x.1.t.op x.1.t.so x.1.t.nm x.1.t.nu (.slice x.1.A x.1.t.ks.length x.1.cap), undef, undef, undef, undef, undef, undef, undef, undef, undef, undef, undef], defers := [] }) x.1 a' W)
    (fun x a' => boxAt_own _ _ x.1 a') ?assign ?body ?done ?stop
  case assign =>
    rintro l pre x W K ⟨hp, hB⟩ hK
    have hp := Lib.hid hp
    have HK := Lib.hid hK
    clear H HL hB0 r0 c1 hK
    simp only [encP]
    gi_wp2
    have hsz := hB.size
    have hN : w.heap.size + 1 < W.heap.size := by
      obtain ⟨v, _, hr, _⟩ := hp.out
      exact World.block_lt_of_cell? _ _ hr
    exact HK.out _ _ (KeepsFrom.alloc _ _ _) ((KpO.refl _ _ _ W).alloc hB.size hN _) ⟨hp.out.kept (World.grownBy_alloc W _ none) (fun r e => by cases e), hB.alloc hB.size _⟩ ⟨W.heap.size, five_new _ _ _ _, rfl⟩
  case body =>
    rintro l pre ⟨x, hshx⟩ a' W hl hrec ⟨⟨v, ys, hr, hrf, hg0, hys⟩, hB⟩ ⟨Bx, hx5, rfl⟩ hpl
    have HB := Lib.hid hB
    have HG := Lib.hid hg0
    have H5 := Lib.hid hx5
    obtain ⟨a0, a1, a2, a3, a4⟩ := hx5
    have hcl := conjOf_len pre
    have hyl : ys.length ≤ pre.length := by
      have := congrArg List.length hys
      rw [List.length_map] at this
      omega
    have HYS := Lib.hid hys
    have hsn := Lib.hid (show conjOf (pre ++ [⟨x, hshx⟩]) = if x.t.op = 30 then conjOf pre else conjOf pre ++ [x.t] from conjOf_snoc pre ⟨x, hshx⟩)
    have hN := World.block_lt_of_cell? _ _ hr
    clear H HL hB0 r0 c1 hrec hB hg0 hys hcl
    by_cases ho : x.t.op = 30
    case pos =>
      have ho' : (x.t.op != 30) = false := by simpa using ho
      have hsame := Lib.hid (show conjOf (pre ++ [⟨x, hshx⟩]) = conjOf pre from hsn.out.trans (if_pos ho))
      clear ho
      gi_wp2_with fail
      exact ⟨KeepsFrom.refl _ _, KpO.refl _ _ _ _, by rw [hsame.out]; exact ⟨v, ys, hr, hrf, HG.out, HYS.out⟩, HB.out⟩
    have ho' : (x.t.op != 30) = true := by simpa using ho
    have hsame := Lib.hid (show conjOf (pre ++ [⟨x, hshx⟩]) = conjOf pre ++ [x.t] from hsn.out.trans (if_neg ho))
    have HC := Lib.hid (fun W' (h : Below W.heap.size W W') => copyOf_any x.t x.A x.cap W' (x.lies.later (HB.out.trans (h.mono HB.out.size))) x.fine hshx)
    clear ho
    have hBx := World.block_lt_of_cell? _ _ a0
    have hvv : ∃ A7 cap7, v = .slice A7 ys.length cap7 := by
      rcases HG.out.row.2 with ⟨h1, h2⟩ | ⟨g, c, cur, h1, _⟩
      · exact ⟨none, 0, by rw [h1, h2]⟩
      · exact ⟨_, _, h1⟩
    obtain ⟨A7, cap7, rfl⟩ := hvv
    have mixed : Try.prog.follows Departure.mixedOrders = true := by kernel_rfl
    have BB : Hid (Below W.heap.size W W.drew) := (Below.refl _ _).drew
    have BA : Hid (Below W.heap.size W (W.drew.alloc (.cells zero5 24))) := BB.out.alloc BB.out.size _
    gi_wp2_with fail
    refine wpIn_mono (Q := OnlyN (fun _ W9 => KeepsFrom (w.heap.size + 1 + 1 + 1) W W9 ∧ KpO (w.heap.size + 1) w.heap.size (w.heap.size + 1 + 1 + 1) W W9 ∧ CopiesAt (w.heap.size + 1) (w.heap.size + 1 + 1) (conjOf (pre ++ [⟨x, hshx⟩])) W9 ∧ Below w.heap.size w W9)) (wpIn_region_held (S := fun _ => True) mixed (by kernel_rfl) ?_) (fun e a w' h => ?_)
    rotate_left
    · obtain ⟨rfl, h⟩ := h
      exact And.intro (by simpa using h.1) (And.intro (by simpa using h.2.1) h.2.2)
    refine wpAnyH_ready (rs := [0, 1, 4]) (by kernel_rfl) (by simp) ?_
    refine AllReadyH.cons rfl (fun K hK => ?_) ?_
    · go_simp
      refine hK.out _ _ trivial (fun _ => ?_)
      clear hK K
      try simp only [Act.put, List.setIfInBounds_toArray, List.set_cons_zero, List.set_cons_succ, List.getElem_toArray, List.getElem_cons_succ, List.getElem_cons_zero]
      refine wpAnyH_take (i := 3) (v := .int .i64 ys.length) rfl (by kernel_rfl) (by kernel_rfl) (by kernel_rfl) onlyN_panic (Or.inl ⟨by kernel_rfl, ?_⟩) trivial ?_
      · rintro W3 _
        go_simp
      try simp only [Act.put, List.setIfInBounds_toArray, List.set_cons_zero, List.set_cons_succ, List.getElem_toArray, List.getElem_cons_succ, List.getElem_cons_zero]
      refine wpAnyH_ready (rs := [1, 4]) (by kernel_rfl) (by simp) ?_
      refine AllReadyH.cons rfl (fun K hK => ?_) ?_
      · go_simp
        refine hK.out _ _ trivial (fun _ => ?_)
        clear hK K
        try simp only [Act.put, List.setIfInBounds_toArray, List.set_cons_zero, List.set_cons_succ, List.getElem_toArray, List.getElem_cons_succ, List.getElem_cons_zero]
        refine wpAnyH_ready (rs := [2, 4]) (by kernel_rfl) (by simp) ?_
        refine AllReadyH.cons rfl (fun K hK => ?_) ?_
        · go_simp
          refine (HC.out _ BB.out).mono ?_
          rintro e w1 ⟨A2, c2, rfl, hrob, hFu, hb⟩
          refine hK.out _ _ trivial (fun _ => ?_)
          clear hK K
          have hbw : Below W.heap.size W w1 := BB.out.trans (hb.mono BB.out.size)
          have hr1 := cellB hbw (Nat.le_refl _) hr
          have hN1 : w.heap.size + 1 < w1.heap.size := Nat.lt_of_lt_of_le hN hbw.size
          obtain ⟨g9, cap9, Wa, happ, hz, hfz, hrN, hfN, hgN, hfin⟩ := copies_step (N := w.heap.size + 1) (m₀ := w.heap.size + 1 + 1 + 1) (base := w.heap.size + 1 + 1) (x := (x.t, A2, c2)) HB.out (by omega) (by omega) (by omega) hN hr hrf HG.out (hbw.alloc hbw.size (.cells zero5 24)) (heap_alloc_new w1 (.cells zero5 24)) ((hrob.lower (Nat.le_refl _)).later ((Below.refl _ _).alloc (Nat.le_refl _) _)) hFu (by omega)
          obtain ⟨y0, z0⟩ := Option.isSome_iff_exists.1 (hz 0 (by omega))
          obtain ⟨y1, z1⟩ := Option.isSome_iff_exists.1 (hz 1 (by omega))
          obtain ⟨y2, z2⟩ := Option.isSome_iff_exists.1 (hz 2 (by omega))
          obtain ⟨y3, z3⟩ := Option.isSome_iff_exists.1 (hz 3 (by omega))
          obtain ⟨y4, z4⟩ := Option.isSome_iff_exists.1 (hz 4 (by omega))
          simp only [Nat.add_zero] at z0
          have HAPP := Lib.hid happ
          have HFIN := Lib.hid hfin
          have hgN' := Ne.symm hgN
          clear happ hfin hz hrob hb
          try simp only [Act.put, List.setIfInBounds_toArray, List.set_cons_zero, List.set_cons_succ, List.getElem_toArray, List.getElem_cons_succ, List.getElem_cons_zero]
          refine wpAnyH_ready (rs := [4]) (by kernel_rfl) (by simp) ?_
          refine AllReadyH.cons rfl (fun K hK => ?_) AllReadyH.nil
          go_simp
          refine hK.out _ _ trivial (fun _ => ?_)
          clear hK K
          try simp only [Act.put, List.setIfInBounds_toArray, List.set_cons_zero, List.set_cons_succ, List.getElem_toArray, List.getElem_cons_succ, List.getElem_cons_zero]
          refine wpAnyH_ready (rs := [5]) (by kernel_rfl) (by simp) ?_
          refine AllReadyH.cons rfl (fun K hK => ?_) AllReadyH.nil
          refine step_append_run rfl _ _ 22 22 rfl rfl _ _ (by simp [Act.eval]) (by simp [Act.eval]) HAPP.out ?_
          refine hK.out _ _ trivial (fun _ => ?_)
          clear hK K
          try simp only [Act.put, List.setIfInBounds_toArray, List.set_cons_zero, List.set_cons_succ, List.getElem_toArray, List.getElem_cons_succ, List.getElem_cons_zero]
          refine wpAnyH_take (i := 6) (v := .pointer (some ⟨g9, ys.length * 5, none⟩)) rfl (by kernel_rfl) (by kernel_rfl) (by kernel_rfl) onlyN_panic (Or.inl ⟨by kernel_rfl, ?_⟩) trivial ?_
          · rintro W3 _
            go_simp
            exact fun hle => absurd hle (by omega)
          try simp only [Act.put, List.setIfInBounds_toArray, List.set_cons_zero, List.set_cons_succ, List.getElem_toArray, List.getElem_cons_succ, List.getElem_cons_zero]
          refine wpAnyH_ready (rs := [7, 8]) (by kernel_rfl) (by simp) ?_
          refine AllReadyH.cons rfl (fun K hK => ?_) ?_
          · go_simp
            refine hK.out _ _ trivial (fun _ => ?_)
            clear hK K
            try simp only [Act.put, List.setIfInBounds_toArray, List.set_cons_zero, List.set_cons_succ, List.getElem_toArray, List.getElem_cons_succ, List.getElem_cons_zero]
            refine wpAnyH_ready (rs := [8]) (by kernel_rfl) (by simp) ?_
            refine AllReadyH.cons rfl (fun K hK => ?_) AllReadyH.nil
            go_simp
            refine hK.out _ _ trivial (fun _ => ?_)
            clear hK K
            try simp only [Act.put, List.setIfInBounds_toArray, List.set_cons_zero, List.set_cons_succ, List.getElem_toArray, List.getElem_cons_succ, List.getElem_cons_zero]
            refine wpAnyH_done (by kernel_rfl) ?_ _
            have HEND := HFIN.out _ (rfl)
            rw [hsame.out, ← HYS.out]
            exact ⟨rfl, HEND.1, HEND.2.1, HEND.2.2.1, HEND.2.2.2⟩

          refine AllReadyH.cons rfl (fun K hK => ?_) AllReadyH.nil
          go_simp
          refine hK.out _ _ trivial (fun _ => ?_)
          clear hK K
          try simp only [Act.put, List.setIfInBounds_toArray, List.set_cons_zero, List.set_cons_succ, List.getElem_toArray, List.getElem_cons_succ, List.getElem_cons_zero]
          refine wpAnyH_ready (rs := [7]) (by kernel_rfl) (by simp) ?_
          refine AllReadyH.cons rfl (fun K hK => ?_) AllReadyH.nil
          go_simp
          refine hK.out _ _ trivial (fun _ => ?_)
          clear hK K
          try simp only [Act.put, List.setIfInBounds_toArray, List.set_cons_zero, List.set_cons_succ, List.getElem_toArray, List.getElem_cons_succ, List.getElem_cons_zero]
          refine wpAnyH_done (by kernel_rfl) ?_ _
          have HEND := HFIN.out _ (setAt_comm _ _ _ _ _ _ _ _ _ _ hgN')
          rw [hsame.out, ← HYS.out]
          exact ⟨rfl, HEND.1, HEND.2.1, HEND.2.2.1, HEND.2.2.2⟩

        refine AllReadyH.cons rfl (fun K hK => ?_) AllReadyH.nil
        go_simp
        refine hK.out _ _ trivial (fun _ => ?_)
        clear hK K
        try simp only [Act.put, List.setIfInBounds_toArray, List.set_cons_zero, List.set_cons_succ, List.getElem_toArray, List.getElem_cons_succ, List.getElem_cons_zero]
        refine wpAnyH_ready (rs := [2]) (by kernel_rfl) (by simp) ?_
        refine AllReadyH.cons rfl (fun K hK => ?_) AllReadyH.nil
        go_simp
        refine (HC.out _ BA.out).mono ?_
        rintro e w1 ⟨A2, c2, rfl, hrob, hFu, hb⟩
        refine hK.out _ _ trivial (fun _ => ?_)
        clear hK K
        have hbw : Below W.heap.size W w1 := BA.out.trans (hb.mono BA.out.size)
        have hr1 := cellB hbw (Nat.le_refl _) hr
        have hN1 : w.heap.size + 1 < w1.heap.size := Nat.lt_of_lt_of_le hN hbw.size
        obtain ⟨g9, cap9, Wa, happ, hz, hfz, hrN, hfN, hgN, hfin⟩ := copies_step (N := w.heap.size + 1) (m₀ := w.heap.size + 1 + 1 + 1) (base := w.heap.size + 1 + 1) (x := (x.t, A2, c2)) HB.out (by omega) (by omega) (by omega) hN hr hrf HG.out hbw ((hb.block W.heap.size (by simp)).trans (heap_alloc_new W.drew (.cells zero5 24))) (hrob.lower (by simp)) hFu (by omega)
        obtain ⟨y0, z0⟩ := Option.isSome_iff_exists.1 (hz 0 (by omega))
        obtain ⟨y1, z1⟩ := Option.isSome_iff_exists.1 (hz 1 (by omega))
        obtain ⟨y2, z2⟩ := Option.isSome_iff_exists.1 (hz 2 (by omega))
        obtain ⟨y3, z3⟩ := Option.isSome_iff_exists.1 (hz 3 (by omega))
        obtain ⟨y4, z4⟩ := Option.isSome_iff_exists.1 (hz 4 (by omega))
        simp only [Nat.add_zero] at z0
        have HAPP := Lib.hid happ
        have HFIN := Lib.hid hfin
        have hgN' := Ne.symm hgN
        clear happ hfin hz hrob hb
        try simp only [Act.put, List.setIfInBounds_toArray, List.set_cons_zero, List.set_cons_succ, List.getElem_toArray, List.getElem_cons_succ, List.getElem_cons_zero]
        refine wpAnyH_ready (rs := [5]) (by kernel_rfl) (by simp) ?_
        refine AllReadyH.cons rfl (fun K hK => ?_) AllReadyH.nil
        refine step_append_run rfl _ _ 22 22 rfl rfl _ _ (by simp [Act.eval]) (by simp [Act.eval]) HAPP.out ?_
        refine hK.out _ _ trivial (fun _ => ?_)
        clear hK K
        try simp only [Act.put, List.setIfInBounds_toArray, List.set_cons_zero, List.set_cons_succ, List.getElem_toArray, List.getElem_cons_succ, List.getElem_cons_zero]
        refine wpAnyH_take (i := 6) (v := .pointer (some ⟨g9, ys.length * 5, none⟩)) rfl (by kernel_rfl) (by kernel_rfl) (by kernel_rfl) onlyN_panic (Or.inl ⟨by kernel_rfl, ?_⟩) trivial ?_
        · rintro W3 _
          go_simp
          exact fun hle => absurd hle (by omega)
        try simp only [Act.put, List.setIfInBounds_toArray, List.set_cons_zero, List.set_cons_succ, List.getElem_toArray, List.getElem_cons_succ, List.getElem_cons_zero]
        refine wpAnyH_ready (rs := [7, 8]) (by kernel_rfl) (by simp) ?_
        refine AllReadyH.cons rfl (fun K hK => ?_) ?_
        · go_simp
          refine hK.out _ _ trivial (fun _ => ?_)
          clear hK K
          try simp only [Act.put, List.setIfInBounds_toArray, List.set_cons_zero, List.set_cons_succ, List.getElem_toArray, List.getElem_cons_succ, List.getElem_cons_zero]
          refine wpAnyH_ready (rs := [8]) (by kernel_rfl) (by simp) ?_
          refine AllReadyH.cons rfl (fun K hK => ?_) AllReadyH.nil
          go_simp
          refine hK.out _ _ trivial (fun _ => ?_)
          clear hK K
          try simp only [Act.put, List.setIfInBounds_toArray, List.set_cons_zero, List.set_cons_succ, List.getElem_toArray, List.getElem_cons_succ, List.getElem_cons_zero]
          refine wpAnyH_done (by kernel_rfl) ?_ _
          have HEND := HFIN.out _ (rfl)
          rw [hsame.out, ← HYS.out]
          exact ⟨rfl, HEND.1, HEND.2.1, HEND.2.2.1, HEND.2.2.2⟩

        refine AllReadyH.cons rfl (fun K hK => ?_) AllReadyH.nil
        go_simp
        refine hK.out _ _ trivial (fun _ => ?_)
        clear hK K
        try simp only [Act.put, List.setIfInBounds_toArray, List.set_cons_zero, List.set_cons_succ, List.getElem_toArray, List.getElem_cons_succ, List.getElem_cons_zero]
        refine wpAnyH_ready (rs := [7]) (by kernel_rfl) (by simp) ?_
        refine AllReadyH.cons rfl (fun K hK => ?_) AllReadyH.nil
        go_simp
        refine hK.out _ _ trivial (fun _ => ?_)
        clear hK K
        try simp only [Act.put, List.setIfInBounds_toArray, List.set_cons_zero, List.set_cons_succ, List.getElem_toArray, List.getElem_cons_succ, List.getElem_cons_zero]
        refine wpAnyH_done (by kernel_rfl) ?_ _
        have HEND := HFIN.out _ (setAt_comm _ _ _ _ _ _ _ _ _ _ hgN')
        rw [hsame.out, ← HYS.out]
        exact ⟨rfl, HEND.1, HEND.2.1, HEND.2.2.1, HEND.2.2.2⟩

      refine AllReadyH.cons rfl (fun K hK => ?_) AllReadyH.nil
      go_simp
      refine hK.out _ _ trivial (fun _ => ?_)
      clear hK K
      try simp only [Act.put, List.setIfInBounds_toArray, List.set_cons_zero, List.set_cons_succ, List.getElem_toArray, List.getElem_cons_succ, List.getElem_cons_zero]
      refine wpAnyH_ready (rs := [1]) (by kernel_rfl) (by simp) ?_
      refine AllReadyH.cons rfl (fun K hK => ?_) AllReadyH.nil
      go_simp
      refine hK.out _ _ trivial (fun _ => ?_)
      clear hK K
      try simp only [Act.put, List.setIfInBounds_toArray, List.set_cons_zero, List.set_cons_succ, List.getElem_toArray, List.getElem_cons_succ, List.getElem_cons_zero]
      refine wpAnyH_ready (rs := [2]) (by kernel_rfl) (by simp) ?_
      refine AllReadyH.cons rfl (fun K hK => ?_) AllReadyH.nil
      go_simp
      refine (HC.out _ BA.out).mono ?_
      rintro e w1 ⟨A2, c2, rfl, hrob, hFu, hb⟩
      refine hK.out _ _ trivial (fun _ => ?_)
      clear hK K
      have hbw : Below W.heap.size W w1 := BA.out.trans (hb.mono BA.out.size)
      have hr1 := cellB hbw (Nat.le_refl _) hr
      have hN1 : w.heap.size + 1 < w1.heap.size := Nat.lt_of_lt_of_le hN hbw.size
      obtain ⟨g9, cap9, Wa, happ, hz, hfz, hrN, hfN, hgN, hfin⟩ := copies_step (N := w.heap.size + 1) (m₀ := w.heap.size + 1 + 1 + 1) (base := w.heap.size + 1 + 1) (x := (x.t, A2, c2)) HB.out (by omega) (by omega) (by omega) hN hr hrf HG.out hbw ((hb.block W.heap.size (by simp)).trans (heap_alloc_new W.drew (.cells zero5 24))) (hrob.lower (by simp)) hFu (by omega)
      obtain ⟨y0, z0⟩ := Option.isSome_iff_exists.1 (hz 0 (by omega))
      obtain ⟨y1, z1⟩ := Option.isSome_iff_exists.1 (hz 1 (by omega))
      obtain ⟨y2, z2⟩ := Option.isSome_iff_exists.1 (hz 2 (by omega))
      obtain ⟨y3, z3⟩ := Option.isSome_iff_exists.1 (hz 3 (by omega))
      obtain ⟨y4, z4⟩ := Option.isSome_iff_exists.1 (hz 4 (by omega))
      simp only [Nat.add_zero] at z0
      have HAPP := Lib.hid happ
      have HFIN := Lib.hid hfin
      have hgN' := Ne.symm hgN
      clear happ hfin hz hrob hb
      try simp only [Act.put, List.setIfInBounds_toArray, List.set_cons_zero, List.set_cons_succ, List.getElem_toArray, List.getElem_cons_succ, List.getElem_cons_zero]
      refine wpAnyH_ready (rs := [5]) (by kernel_rfl) (by simp) ?_
      refine AllReadyH.cons rfl (fun K hK => ?_) AllReadyH.nil
      refine step_append_run rfl _ _ 22 22 rfl rfl _ _ (by simp [Act.eval]) (by simp [Act.eval]) HAPP.out ?_
      refine hK.out _ _ trivial (fun _ => ?_)
      clear hK K
      try simp only [Act.put, List.setIfInBounds_toArray, List.set_cons_zero, List.set_cons_succ, List.getElem_toArray, List.getElem_cons_succ, List.getElem_cons_zero]
      refine wpAnyH_take (i := 6) (v := .pointer (some ⟨g9, ys.length * 5, none⟩)) rfl (by kernel_rfl) (by kernel_rfl) (by kernel_rfl) onlyN_panic (Or.inl ⟨by kernel_rfl, ?_⟩) trivial ?_
      · rintro W3 _
        go_simp
        exact fun hle => absurd hle (by omega)
      try simp only [Act.put, List.setIfInBounds_toArray, List.set_cons_zero, List.set_cons_succ, List.getElem_toArray, List.getElem_cons_succ, List.getElem_cons_zero]
      refine wpAnyH_ready (rs := [7, 8]) (by kernel_rfl) (by simp) ?_
      refine AllReadyH.cons rfl (fun K hK => ?_) ?_
      · go_simp
        refine hK.out _ _ trivial (fun _ => ?_)
        clear hK K
        try simp only [Act.put, List.setIfInBounds_toArray, List.set_cons_zero, List.set_cons_succ, List.getElem_toArray, List.getElem_cons_succ, List.getElem_cons_zero]
        refine wpAnyH_ready (rs := [8]) (by kernel_rfl) (by simp) ?_
        refine AllReadyH.cons rfl (fun K hK => ?_) AllReadyH.nil
        go_simp
        refine hK.out _ _ trivial (fun _ => ?_)
        clear hK K
        try simp only [Act.put, List.setIfInBounds_toArray, List.set_cons_zero, List.set_cons_succ, List.getElem_toArray, List.getElem_cons_succ, List.getElem_cons_zero]
        refine wpAnyH_done (by kernel_rfl) ?_ _
        have HEND := HFIN.out _ (rfl)
        rw [hsame.out, ← HYS.out]
        exact ⟨rfl, HEND.1, HEND.2.1, HEND.2.2.1, HEND.2.2.2⟩

      refine AllReadyH.cons rfl (fun K hK => ?_) AllReadyH.nil
      go_simp
      refine hK.out _ _ trivial (fun _ => ?_)
      clear hK K
      try simp only [Act.put, List.setIfInBounds_toArray, List.set_cons_zero, List.set_cons_succ, List.getElem_toArray, List.getElem_cons_succ, List.getElem_cons_zero]
      refine wpAnyH_ready (rs := [7]) (by kernel_rfl) (by simp) ?_
      refine AllReadyH.cons rfl (fun K hK => ?_) AllReadyH.nil
      go_simp
      refine hK.out _ _ trivial (fun _ => ?_)
      clear hK K
      try simp only [Act.put, List.setIfInBounds_toArray, List.set_cons_zero, List.set_cons_succ, List.getElem_toArray, List.getElem_cons_succ, List.getElem_cons_zero]
      refine wpAnyH_done (by kernel_rfl) ?_ _
      have HEND := HFIN.out _ (setAt_comm _ _ _ _ _ _ _ _ _ _ hgN')
      rw [hsame.out, ← HYS.out]
      exact ⟨rfl, HEND.1, HEND.2.1, HEND.2.2.1, HEND.2.2.2⟩

    refine AllReadyH.cons rfl (fun K hK => ?_) ?_
    · go_simp
      refine hK.out _ _ trivial (fun _ => ?_)
      clear hK K
      try simp only [Act.put, List.setIfInBounds_toArray, List.set_cons_zero, List.set_cons_succ, List.getElem_toArray, List.getElem_cons_succ, List.getElem_cons_zero]
      refine wpAnyH_ready (rs := [0, 2, 4]) (by kernel_rfl) (by simp) ?_
      refine AllReadyH.cons rfl (fun K hK => ?_) ?_
      · go_simp
        refine hK.out _ _ trivial (fun _ => ?_)
        clear hK K
        try simp only [Act.put, List.setIfInBounds_toArray, List.set_cons_zero, List.set_cons_succ, List.getElem_toArray, List.getElem_cons_succ, List.getElem_cons_zero]
        refine wpAnyH_take (i := 3) (v := .int .i64 ys.length) rfl (by kernel_rfl) (by kernel_rfl) (by kernel_rfl) onlyN_panic (Or.inl ⟨by kernel_rfl, ?_⟩) trivial ?_
        · rintro W3 _
          go_simp
        try simp only [Act.put, List.setIfInBounds_toArray, List.set_cons_zero, List.set_cons_succ, List.getElem_toArray, List.getElem_cons_succ, List.getElem_cons_zero]
        refine wpAnyH_ready (rs := [2, 4]) (by kernel_rfl) (by simp) ?_
        refine AllReadyH.cons rfl (fun K hK => ?_) ?_
        · go_simp
          refine (HC.out _ BB.out).mono ?_
          rintro e w1 ⟨A2, c2, rfl, hrob, hFu, hb⟩
          refine hK.out _ _ trivial (fun _ => ?_)
          clear hK K
          have hbw : Below W.heap.size W w1 := BB.out.trans (hb.mono BB.out.size)
          have hr1 := cellB hbw (Nat.le_refl _) hr
          have hN1 : w.heap.size + 1 < w1.heap.size := Nat.lt_of_lt_of_le hN hbw.size
          obtain ⟨g9, cap9, Wa, happ, hz, hfz, hrN, hfN, hgN, hfin⟩ := copies_step (N := w.heap.size + 1) (m₀ := w.heap.size + 1 + 1 + 1) (base := w.heap.size + 1 + 1) (x := (x.t, A2, c2)) HB.out (by omega) (by omega) (by omega) hN hr hrf HG.out (hbw.alloc hbw.size (.cells zero5 24)) (heap_alloc_new w1 (.cells zero5 24)) ((hrob.lower (Nat.le_refl _)).later ((Below.refl _ _).alloc (Nat.le_refl _) _)) hFu (by omega)
          obtain ⟨y0, z0⟩ := Option.isSome_iff_exists.1 (hz 0 (by omega))
          obtain ⟨y1, z1⟩ := Option.isSome_iff_exists.1 (hz 1 (by omega))
          obtain ⟨y2, z2⟩ := Option.isSome_iff_exists.1 (hz 2 (by omega))
          obtain ⟨y3, z3⟩ := Option.isSome_iff_exists.1 (hz 3 (by omega))
          obtain ⟨y4, z4⟩ := Option.isSome_iff_exists.1 (hz 4 (by omega))
          simp only [Nat.add_zero] at z0
          have HAPP := Lib.hid happ
          have HFIN := Lib.hid hfin
          have hgN' := Ne.symm hgN
          clear happ hfin hz hrob hb
          try simp only [Act.put, List.setIfInBounds_toArray, List.set_cons_zero, List.set_cons_succ, List.getElem_toArray, List.getElem_cons_succ, List.getElem_cons_zero]
          refine wpAnyH_ready (rs := [4]) (by kernel_rfl) (by simp) ?_
          refine AllReadyH.cons rfl (fun K hK => ?_) AllReadyH.nil
          go_simp
          refine hK.out _ _ trivial (fun _ => ?_)
          clear hK K
          try simp only [Act.put, List.setIfInBounds_toArray, List.set_cons_zero, List.set_cons_succ, List.getElem_toArray, List.getElem_cons_succ, List.getElem_cons_zero]
          refine wpAnyH_ready (rs := [5]) (by kernel_rfl) (by simp) ?_
          refine AllReadyH.cons rfl (fun K hK => ?_) AllReadyH.nil
          refine step_append_run rfl _ _ 22 22 rfl rfl _ _ (by simp [Act.eval]) (by simp [Act.eval]) HAPP.out ?_
          refine hK.out _ _ trivial (fun _ => ?_)
          clear hK K
          try simp only [Act.put, List.setIfInBounds_toArray, List.set_cons_zero, List.set_cons_succ, List.getElem_toArray, List.getElem_cons_succ, List.getElem_cons_zero]
          refine wpAnyH_take (i := 6) (v := .pointer (some ⟨g9, ys.length * 5, none⟩)) rfl (by kernel_rfl) (by kernel_rfl) (by kernel_rfl) onlyN_panic (Or.inl ⟨by kernel_rfl, ?_⟩) trivial ?_
          · rintro W3 _
            go_simp
            exact fun hle => absurd hle (by omega)
          try simp only [Act.put, List.setIfInBounds_toArray, List.set_cons_zero, List.set_cons_succ, List.getElem_toArray, List.getElem_cons_succ, List.getElem_cons_zero]
          refine wpAnyH_ready (rs := [7, 8]) (by kernel_rfl) (by simp) ?_
          refine AllReadyH.cons rfl (fun K hK => ?_) ?_
          · go_simp
            refine hK.out _ _ trivial (fun _ => ?_)
            clear hK K
            try simp only [Act.put, List.setIfInBounds_toArray, List.set_cons_zero, List.set_cons_succ, List.getElem_toArray, List.getElem_cons_succ, List.getElem_cons_zero]
            refine wpAnyH_ready (rs := [8]) (by kernel_rfl) (by simp) ?_
            refine AllReadyH.cons rfl (fun K hK => ?_) AllReadyH.nil
            go_simp
            refine hK.out _ _ trivial (fun _ => ?_)
            clear hK K
            try simp only [Act.put, List.setIfInBounds_toArray, List.set_cons_zero, List.set_cons_succ, List.getElem_toArray, List.getElem_cons_succ, List.getElem_cons_zero]
            refine wpAnyH_done (by kernel_rfl) ?_ _
            have HEND := HFIN.out _ (rfl)
            rw [hsame.out, ← HYS.out]
            exact ⟨rfl, HEND.1, HEND.2.1, HEND.2.2.1, HEND.2.2.2⟩

          refine AllReadyH.cons rfl (fun K hK => ?_) AllReadyH.nil
          go_simp
          refine hK.out _ _ trivial (fun _ => ?_)
          clear hK K
          try simp only [Act.put, List.setIfInBounds_toArray, List.set_cons_zero, List.set_cons_succ, List.getElem_toArray, List.getElem_cons_succ, List.getElem_cons_zero]
          refine wpAnyH_ready (rs := [7]) (by kernel_rfl) (by simp) ?_
          refine AllReadyH.cons rfl (fun K hK => ?_) AllReadyH.nil
          go_simp
          refine hK.out _ _ trivial (fun _ => ?_)
          clear hK K
          try simp only [Act.put, List.setIfInBounds_toArray, List.set_cons_zero, List.set_cons_succ, List.getElem_toArray, List.getElem_cons_succ, List.getElem_cons_zero]
          refine wpAnyH_done (by kernel_rfl) ?_ _
          have HEND := HFIN.out _ (setAt_comm _ _ _ _ _ _ _ _ _ _ hgN')
          rw [hsame.out, ← HYS.out]
          exact ⟨rfl, HEND.1, HEND.2.1, HEND.2.2.1, HEND.2.2.2⟩

        refine AllReadyH.cons rfl (fun K hK => ?_) AllReadyH.nil
        go_simp
        refine hK.out _ _ trivial (fun _ => ?_)
        clear hK K
        try simp only [Act.put, List.setIfInBounds_toArray, List.set_cons_zero, List.set_cons_succ, List.getElem_toArray, List.getElem_cons_succ, List.getElem_cons_zero]
        refine wpAnyH_ready (rs := [2]) (by kernel_rfl) (by simp) ?_
        refine AllReadyH.cons rfl (fun K hK => ?_) AllReadyH.nil
        go_simp
        refine (HC.out _ BA.out).mono ?_
        rintro e w1 ⟨A2, c2, rfl, hrob, hFu, hb⟩
        refine hK.out _ _ trivial (fun _ => ?_)
        clear hK K
        have hbw : Below W.heap.size W w1 := BA.out.trans (hb.mono BA.out.size)
        have hr1 := cellB hbw (Nat.le_refl _) hr
        have hN1 : w.heap.size + 1 < w1.heap.size := Nat.lt_of_lt_of_le hN hbw.size
        obtain ⟨g9, cap9, Wa, happ, hz, hfz, hrN, hfN, hgN, hfin⟩ := copies_step (N := w.heap.size + 1) (m₀ := w.heap.size + 1 + 1 + 1) (base := w.heap.size + 1 + 1) (x := (x.t, A2, c2)) HB.out (by omega) (by omega) (by omega) hN hr hrf HG.out hbw ((hb.block W.heap.size (by simp)).trans (heap_alloc_new W.drew (.cells zero5 24))) (hrob.lower (by simp)) hFu (by omega)
        obtain ⟨y0, z0⟩ := Option.isSome_iff_exists.1 (hz 0 (by omega))
        obtain ⟨y1, z1⟩ := Option.isSome_iff_exists.1 (hz 1 (by omega))
        obtain ⟨y2, z2⟩ := Option.isSome_iff_exists.1 (hz 2 (by omega))
        obtain ⟨y3, z3⟩ := Option.isSome_iff_exists.1 (hz 3 (by omega))
        obtain ⟨y4, z4⟩ := Option.isSome_iff_exists.1 (hz 4 (by omega))
        simp only [Nat.add_zero] at z0
        have HAPP := Lib.hid happ
        have HFIN := Lib.hid hfin
        have hgN' := Ne.symm hgN
        clear happ hfin hz hrob hb
        try simp only [Act.put, List.setIfInBounds_toArray, List.set_cons_zero, List.set_cons_succ, List.getElem_toArray, List.getElem_cons_succ, List.getElem_cons_zero]
        refine wpAnyH_ready (rs := [5]) (by kernel_rfl) (by simp) ?_
        refine AllReadyH.cons rfl (fun K hK => ?_) AllReadyH.nil
        refine step_append_run rfl _ _ 22 22 rfl rfl _ _ (by simp [Act.eval]) (by simp [Act.eval]) HAPP.out ?_
        refine hK.out _ _ trivial (fun _ => ?_)
        clear hK K
        try simp only [Act.put, List.setIfInBounds_toArray, List.set_cons_zero, List.set_cons_succ, List.getElem_toArray, List.getElem_cons_succ, List.getElem_cons_zero]
        refine wpAnyH_take (i := 6) (v := .pointer (some ⟨g9, ys.length * 5, none⟩)) rfl (by kernel_rfl) (by kernel_rfl) (by kernel_rfl) onlyN_panic (Or.inl ⟨by kernel_rfl, ?_⟩) trivial ?_
        · rintro W3 _
          go_simp
          exact fun hle => absurd hle (by omega)
        try simp only [Act.put, List.setIfInBounds_toArray, List.set_cons_zero, List.set_cons_succ, List.getElem_toArray, List.getElem_cons_succ, List.getElem_cons_zero]
        refine wpAnyH_ready (rs := [7, 8]) (by kernel_rfl) (by simp) ?_
        refine AllReadyH.cons rfl (fun K hK => ?_) ?_
        · go_simp
          refine hK.out _ _ trivial (fun _ => ?_)
          clear hK K
          try simp only [Act.put, List.setIfInBounds_toArray, List.set_cons_zero, List.set_cons_succ, List.getElem_toArray, List.getElem_cons_succ, List.getElem_cons_zero]
          refine wpAnyH_ready (rs := [8]) (by kernel_rfl) (by simp) ?_
          refine AllReadyH.cons rfl (fun K hK => ?_) AllReadyH.nil
          go_simp
          refine hK.out _ _ trivial (fun _ => ?_)
          clear hK K
          try simp only [Act.put, List.setIfInBounds_toArray, List.set_cons_zero, List.set_cons_succ, List.getElem_toArray, List.getElem_cons_succ, List.getElem_cons_zero]
          refine wpAnyH_done (by kernel_rfl) ?_ _
          have HEND := HFIN.out _ (rfl)
          rw [hsame.out, ← HYS.out]
          exact ⟨rfl, HEND.1, HEND.2.1, HEND.2.2.1, HEND.2.2.2⟩

        refine AllReadyH.cons rfl (fun K hK => ?_) AllReadyH.nil
        go_simp
        refine hK.out _ _ trivial (fun _ => ?_)
        clear hK K
        try simp only [Act.put, List.setIfInBounds_toArray, List.set_cons_zero, List.set_cons_succ, List.getElem_toArray, List.getElem_cons_succ, List.getElem_cons_zero]
        refine wpAnyH_ready (rs := [7]) (by kernel_rfl) (by simp) ?_
        refine AllReadyH.cons rfl (fun K hK => ?_) AllReadyH.nil
        go_simp
        refine hK.out _ _ trivial (fun _ => ?_)
        clear hK K
        try simp only [Act.put, List.setIfInBounds_toArray, List.set_cons_zero, List.set_cons_succ, List.getElem_toArray, List.getElem_cons_succ, List.getElem_cons_zero]
        refine wpAnyH_done (by kernel_rfl) ?_ _
        have HEND := HFIN.out _ (setAt_comm _ _ _ _ _ _ _ _ _ _ hgN')
        rw [hsame.out, ← HYS.out]
        exact ⟨rfl, HEND.1, HEND.2.1, HEND.2.2.1, HEND.2.2.2⟩

      refine AllReadyH.cons rfl (fun K hK => ?_) ?_
      · go_simp
        refine (HC.out _ BB.out).mono ?_
        rintro e w1 ⟨A2, c2, rfl, hrob, hFu, hb⟩
        refine hK.out _ _ trivial (fun _ => ?_)
        clear hK K
        have hbw : Below W.heap.size W w1 := BB.out.trans (hb.mono BB.out.size)
        have hr1 := cellB hbw (Nat.le_refl _) hr
        have hN1 : w.heap.size + 1 < w1.heap.size := Nat.lt_of_lt_of_le hN hbw.size
        obtain ⟨g9, cap9, Wa, happ, hz, hfz, hrN, hfN, hgN, hfin⟩ := copies_step (N := w.heap.size + 1) (m₀ := w.heap.size + 1 + 1 + 1) (base := w.heap.size + 1 + 1) (x := (x.t, A2, c2)) HB.out (by omega) (by omega) (by omega) hN hr hrf HG.out (hbw.alloc hbw.size (.cells zero5 24)) (heap_alloc_new w1 (.cells zero5 24)) ((hrob.lower (Nat.le_refl _)).later ((Below.refl _ _).alloc (Nat.le_refl _) _)) hFu (by omega)
        obtain ⟨y0, z0⟩ := Option.isSome_iff_exists.1 (hz 0 (by omega))
        obtain ⟨y1, z1⟩ := Option.isSome_iff_exists.1 (hz 1 (by omega))
        obtain ⟨y2, z2⟩ := Option.isSome_iff_exists.1 (hz 2 (by omega))
        obtain ⟨y3, z3⟩ := Option.isSome_iff_exists.1 (hz 3 (by omega))
        obtain ⟨y4, z4⟩ := Option.isSome_iff_exists.1 (hz 4 (by omega))
        simp only [Nat.add_zero] at z0
        have HAPP := Lib.hid happ
        have HFIN := Lib.hid hfin
        have hgN' := Ne.symm hgN
        clear happ hfin hz hrob hb
        try simp only [Act.put, List.setIfInBounds_toArray, List.set_cons_zero, List.set_cons_succ, List.getElem_toArray, List.getElem_cons_succ, List.getElem_cons_zero]
        refine wpAnyH_ready (rs := [0, 4]) (by kernel_rfl) (by simp) ?_
        refine AllReadyH.cons rfl (fun K hK => ?_) ?_
        · go_simp
          refine hK.out _ _ trivial (fun _ => ?_)
          clear hK K
          try simp only [Act.put, List.setIfInBounds_toArray, List.set_cons_zero, List.set_cons_succ, List.getElem_toArray, List.getElem_cons_succ, List.getElem_cons_zero]
          refine wpAnyH_take (i := 3) (v := .int .i64 ys.length) rfl (by kernel_rfl) (by kernel_rfl) (by kernel_rfl) onlyN_panic (Or.inl ⟨by kernel_rfl, ?_⟩) trivial ?_
          · rintro W3 _
            go_simp
          try simp only [Act.put, List.setIfInBounds_toArray, List.set_cons_zero, List.set_cons_succ, List.getElem_toArray, List.getElem_cons_succ, List.getElem_cons_zero]
          refine wpAnyH_ready (rs := [4]) (by kernel_rfl) (by simp) ?_
          refine AllReadyH.cons rfl (fun K hK => ?_) AllReadyH.nil
          go_simp
          refine hK.out _ _ trivial (fun _ => ?_)
          clear hK K
          try simp only [Act.put, List.setIfInBounds_toArray, List.set_cons_zero, List.set_cons_succ, List.getElem_toArray, List.getElem_cons_succ, List.getElem_cons_zero]
          refine wpAnyH_ready (rs := [5]) (by kernel_rfl) (by simp) ?_
          refine AllReadyH.cons rfl (fun K hK => ?_) AllReadyH.nil
          refine step_append_run rfl _ _ 22 22 rfl rfl _ _ (by simp [Act.eval]) (by simp [Act.eval]) HAPP.out ?_
          refine hK.out _ _ trivial (fun _ => ?_)
          clear hK K
          try simp only [Act.put, List.setIfInBounds_toArray, List.set_cons_zero, List.set_cons_succ, List.getElem_toArray, List.getElem_cons_succ, List.getElem_cons_zero]
          refine wpAnyH_take (i := 6) (v := .pointer (some ⟨g9, ys.length * 5, none⟩)) rfl (by kernel_rfl) (by kernel_rfl) (by kernel_rfl) onlyN_panic (Or.inl ⟨by kernel_rfl, ?_⟩) trivial ?_
          · rintro W3 _
            go_simp
            exact fun hle => absurd hle (by omega)
          try simp only [Act.put, List.setIfInBounds_toArray, List.set_cons_zero, List.set_cons_succ, List.getElem_toArray, List.getElem_cons_succ, List.getElem_cons_zero]
          refine wpAnyH_ready (rs := [7, 8]) (by kernel_rfl) (by simp) ?_
          refine AllReadyH.cons rfl (fun K hK => ?_) ?_
          · go_simp
            refine hK.out _ _ trivial (fun _ => ?_)
            clear hK K
            try simp only [Act.put, List.setIfInBounds_toArray, List.set_cons_zero, List.set_cons_succ, List.getElem_toArray, List.getElem_cons_succ, List.getElem_cons_zero]
            refine wpAnyH_ready (rs := [8]) (by kernel_rfl) (by simp) ?_
            refine AllReadyH.cons rfl (fun K hK => ?_) AllReadyH.nil
            go_simp
            refine hK.out _ _ trivial (fun _ => ?_)
            clear hK K
            try simp only [Act.put, List.setIfInBounds_toArray, List.set_cons_zero, List.set_cons_succ, List.getElem_toArray, List.getElem_cons_succ, List.getElem_cons_zero]
            refine wpAnyH_done (by kernel_rfl) ?_ _
            have HEND := HFIN.out _ (rfl)
            rw [hsame.out, ← HYS.out]
            exact ⟨rfl, HEND.1, HEND.2.1, HEND.2.2.1, HEND.2.2.2⟩

          refine AllReadyH.cons rfl (fun K hK => ?_) AllReadyH.nil
          go_simp
          refine hK.out _ _ trivial (fun _ => ?_)
          clear hK K
          try simp only [Act.put, List.setIfInBounds_toArray, List.set_cons_zero, List.set_cons_succ, List.getElem_toArray, List.getElem_cons_succ, List.getElem_cons_zero]
          refine wpAnyH_ready (rs := [7]) (by kernel_rfl) (by simp) ?_
          refine AllReadyH.cons rfl (fun K hK => ?_) AllReadyH.nil
          go_simp
          refine hK.out _ _ trivial (fun _ => ?_)
          clear hK K
          try simp only [Act.put, List.setIfInBounds_toArray, List.set_cons_zero, List.set_cons_succ, List.getElem_toArray, List.getElem_cons_succ, List.getElem_cons_zero]
          refine wpAnyH_done (by kernel_rfl) ?_ _
          have HEND := HFIN.out _ (setAt_comm _ _ _ _ _ _ _ _ _ _ hgN')
          rw [hsame.out, ← HYS.out]
          exact ⟨rfl, HEND.1, HEND.2.1, HEND.2.2.1, HEND.2.2.2⟩

        refine AllReadyH.cons rfl (fun K hK => ?_) AllReadyH.nil
        go_simp
        refine hK.out _ _ trivial (fun _ => ?_)
        clear hK K
        try simp only [Act.put, List.setIfInBounds_toArray, List.set_cons_zero, List.set_cons_succ, List.getElem_toArray, List.getElem_cons_succ, List.getElem_cons_zero]
        refine wpAnyH_ready (rs := [0]) (by kernel_rfl) (by simp) ?_
        refine AllReadyH.cons rfl (fun K hK => ?_) AllReadyH.nil
        go_simp
        refine hK.out _ _ trivial (fun _ => ?_)
        clear hK K
        try simp only [Act.put, List.setIfInBounds_toArray, List.set_cons_zero, List.set_cons_succ, List.getElem_toArray, List.getElem_cons_succ, List.getElem_cons_zero]
        refine wpAnyH_take (i := 3) (v := .int .i64 ys.length) rfl (by kernel_rfl) (by kernel_rfl) (by kernel_rfl) onlyN_panic (Or.inl ⟨by kernel_rfl, ?_⟩) trivial ?_
        · rintro W3 _
          go_simp
        try simp only [Act.put, List.setIfInBounds_toArray, List.set_cons_zero, List.set_cons_succ, List.getElem_toArray, List.getElem_cons_succ, List.getElem_cons_zero]
        refine wpAnyH_ready (rs := [5]) (by kernel_rfl) (by simp) ?_
        refine AllReadyH.cons rfl (fun K hK => ?_) AllReadyH.nil
        refine step_append_run rfl _ _ 22 22 rfl rfl _ _ (by simp [Act.eval]) (by simp [Act.eval]) HAPP.out ?_
        refine hK.out _ _ trivial (fun _ => ?_)
        clear hK K
        try simp only [Act.put, List.setIfInBounds_toArray, List.set_cons_zero, List.set_cons_succ, List.getElem_toArray, List.getElem_cons_succ, List.getElem_cons_zero]
        refine wpAnyH_take (i := 6) (v := .pointer (some ⟨g9, ys.length * 5, none⟩)) rfl (by kernel_rfl) (by kernel_rfl) (by kernel_rfl) onlyN_panic (Or.inl ⟨by kernel_rfl, ?_⟩) trivial ?_
        · rintro W3 _
          go_simp
          exact fun hle => absurd hle (by omega)
        try simp only [Act.put, List.setIfInBounds_toArray, List.set_cons_zero, List.set_cons_succ, List.getElem_toArray, List.getElem_cons_succ, List.getElem_cons_zero]
        refine wpAnyH_ready (rs := [7, 8]) (by kernel_rfl) (by simp) ?_
        refine AllReadyH.cons rfl (fun K hK => ?_) ?_
        · go_simp
          refine hK.out _ _ trivial (fun _ => ?_)
          clear hK K
          try simp only [Act.put, List.setIfInBounds_toArray, List.set_cons_zero, List.set_cons_succ, List.getElem_toArray, List.getElem_cons_succ, List.getElem_cons_zero]
          refine wpAnyH_ready (rs := [8]) (by kernel_rfl) (by simp) ?_
          refine AllReadyH.cons rfl (fun K hK => ?_) AllReadyH.nil
          go_simp
          refine hK.out _ _ trivial (fun _ => ?_)
          clear hK K
          try simp only [Act.put, List.setIfInBounds_toArray, List.set_cons_zero, List.set_cons_succ, List.getElem_toArray, List.getElem_cons_succ, List.getElem_cons_zero]
          refine wpAnyH_done (by kernel_rfl) ?_ _
          have HEND := HFIN.out _ (rfl)
          rw [hsame.out, ← HYS.out]
          exact ⟨rfl, HEND.1, HEND.2.1, HEND.2.2.1, HEND.2.2.2⟩

        refine AllReadyH.cons rfl (fun K hK => ?_) AllReadyH.nil
        go_simp
        refine hK.out _ _ trivial (fun _ => ?_)
        clear hK K
        try simp only [Act.put, List.setIfInBounds_toArray, List.set_cons_zero, List.set_cons_succ, List.getElem_toArray, List.getElem_cons_succ, List.getElem_cons_zero]
        refine wpAnyH_ready (rs := [7]) (by kernel_rfl) (by simp) ?_
        refine AllReadyH.cons rfl (fun K hK => ?_) AllReadyH.nil
        go_simp
        refine hK.out _ _ trivial (fun _ => ?_)
        clear hK K
        try simp only [Act.put, List.setIfInBounds_toArray, List.set_cons_zero, List.set_cons_succ, List.getElem_toArray, List.getElem_cons_succ, List.getElem_cons_zero]
        refine wpAnyH_done (by kernel_rfl) ?_ _
        have HEND := HFIN.out _ (setAt_comm _ _ _ _ _ _ _ _ _ _ hgN')
        rw [hsame.out, ← HYS.out]
        exact ⟨rfl, HEND.1, HEND.2.1, HEND.2.2.1, HEND.2.2.2⟩

      refine AllReadyH.cons rfl (fun K hK => ?_) AllReadyH.nil
      go_simp
      refine hK.out _ _ trivial (fun _ => ?_)
      clear hK K
      try simp only [Act.put, List.setIfInBounds_toArray, List.set_cons_zero, List.set_cons_succ, List.getElem_toArray, List.getElem_cons_succ, List.getElem_cons_zero]
      refine wpAnyH_ready (rs := [0, 2]) (by kernel_rfl) (by simp) ?_
      refine AllReadyH.cons rfl (fun K hK => ?_) ?_
      · go_simp
        refine hK.out _ _ trivial (fun _ => ?_)
        clear hK K
        try simp only [Act.put, List.setIfInBounds_toArray, List.set_cons_zero, List.set_cons_succ, List.getElem_toArray, List.getElem_cons_succ, List.getElem_cons_zero]
        refine wpAnyH_take (i := 3) (v := .int .i64 ys.length) rfl (by kernel_rfl) (by kernel_rfl) (by kernel_rfl) onlyN_panic (Or.inl ⟨by kernel_rfl, ?_⟩) trivial ?_
        · rintro W3 _
          go_simp
        try simp only [Act.put, List.setIfInBounds_toArray, List.set_cons_zero, List.set_cons_succ, List.getElem_toArray, List.getElem_cons_succ, List.getElem_cons_zero]
        refine wpAnyH_ready (rs := [2]) (by kernel_rfl) (by simp) ?_
        refine AllReadyH.cons rfl (fun K hK => ?_) AllReadyH.nil
        go_simp
        refine (HC.out _ BA.out).mono ?_
        rintro e w1 ⟨A2, c2, rfl, hrob, hFu, hb⟩
        refine hK.out _ _ trivial (fun _ => ?_)
        clear hK K
        have hbw : Below W.heap.size W w1 := BA.out.trans (hb.mono BA.out.size)
        have hr1 := cellB hbw (Nat.le_refl _) hr
        have hN1 : w.heap.size + 1 < w1.heap.size := Nat.lt_of_lt_of_le hN hbw.size
        obtain ⟨g9, cap9, Wa, happ, hz, hfz, hrN, hfN, hgN, hfin⟩ := copies_step (N := w.heap.size + 1) (m₀ := w.heap.size + 1 + 1 + 1) (base := w.heap.size + 1 + 1) (x := (x.t, A2, c2)) HB.out (by omega) (by omega) (by omega) hN hr hrf HG.out hbw ((hb.block W.heap.size (by simp)).trans (heap_alloc_new W.drew (.cells zero5 24))) (hrob.lower (by simp)) hFu (by omega)
        obtain ⟨y0, z0⟩ := Option.isSome_iff_exists.1 (hz 0 (by omega))
        obtain ⟨y1, z1⟩ := Option.isSome_iff_exists.1 (hz 1 (by omega))
        obtain ⟨y2, z2⟩ := Option.isSome_iff_exists.1 (hz 2 (by omega))
        obtain ⟨y3, z3⟩ := Option.isSome_iff_exists.1 (hz 3 (by omega))
        obtain ⟨y4, z4⟩ := Option.isSome_iff_exists.1 (hz 4 (by omega))
        simp only [Nat.add_zero] at z0
        have HAPP := Lib.hid happ
        have HFIN := Lib.hid hfin
        have hgN' := Ne.symm hgN
        clear happ hfin hz hrob hb
        try simp only [Act.put, List.setIfInBounds_toArray, List.set_cons_zero, List.set_cons_succ, List.getElem_toArray, List.getElem_cons_succ, List.getElem_cons_zero]
        refine wpAnyH_ready (rs := [5]) (by kernel_rfl) (by simp) ?_
        refine AllReadyH.cons rfl (fun K hK => ?_) AllReadyH.nil
        refine step_append_run rfl _ _ 22 22 rfl rfl _ _ (by simp [Act.eval]) (by simp [Act.eval]) HAPP.out ?_
        refine hK.out _ _ trivial (fun _ => ?_)
        clear hK K
        try simp only [Act.put, List.setIfInBounds_toArray, List.set_cons_zero, List.set_cons_succ, List.getElem_toArray, List.getElem_cons_succ, List.getElem_cons_zero]
        refine wpAnyH_take (i := 6) (v := .pointer (some ⟨g9, ys.length * 5, none⟩)) rfl (by kernel_rfl) (by kernel_rfl) (by kernel_rfl) onlyN_panic (Or.inl ⟨by kernel_rfl, ?_⟩) trivial ?_
        · rintro W3 _
          go_simp
          exact fun hle => absurd hle (by omega)
        try simp only [Act.put, List.setIfInBounds_toArray, List.set_cons_zero, List.set_cons_succ, List.getElem_toArray, List.getElem_cons_succ, List.getElem_cons_zero]
        refine wpAnyH_ready (rs := [7, 8]) (by kernel_rfl) (by simp) ?_
        refine AllReadyH.cons rfl (fun K hK => ?_) ?_
        · go_simp
          refine hK.out _ _ trivial (fun _ => ?_)
          clear hK K
          try simp only [Act.put, List.setIfInBounds_toArray, List.set_cons_zero, List.set_cons_succ, List.getElem_toArray, List.getElem_cons_succ, List.getElem_cons_zero]
          refine wpAnyH_ready (rs := [8]) (by kernel_rfl) (by simp) ?_
          refine AllReadyH.cons rfl (fun K hK => ?_) AllReadyH.nil
          go_simp
          refine hK.out _ _ trivial (fun _ => ?_)
          clear hK K
          try simp only [Act.put, List.setIfInBounds_toArray, List.set_cons_zero, List.set_cons_succ, List.getElem_toArray, List.getElem_cons_succ, List.getElem_cons_zero]
          refine wpAnyH_done (by kernel_rfl) ?_ _
          have HEND := HFIN.out _ (rfl)
          rw [hsame.out, ← HYS.out]
          exact ⟨rfl, HEND.1, HEND.2.1, HEND.2.2.1, HEND.2.2.2⟩

        refine AllReadyH.cons rfl (fun K hK => ?_) AllReadyH.nil
        go_simp
        refine hK.out _ _ trivial (fun _ => ?_)
        clear hK K
        try simp only [Act.put, List.setIfInBounds_toArray, List.set_cons_zero, List.set_cons_succ, List.getElem_toArray, List.getElem_cons_succ, List.getElem_cons_zero]
        refine wpAnyH_ready (rs := [7]) (by kernel_rfl) (by simp) ?_
        refine AllReadyH.cons rfl (fun K hK => ?_) AllReadyH.nil
        go_simp
        refine hK.out _ _ trivial (fun _ => ?_)
        clear hK K
        try simp only [Act.put, List.setIfInBounds_toArray, List.set_cons_zero, List.set_cons_succ, List.getElem_toArray, List.getElem_cons_succ, List.getElem_cons_zero]
        refine wpAnyH_done (by kernel_rfl) ?_ _
        have HEND := HFIN.out _ (setAt_comm _ _ _ _ _ _ _ _ _ _ hgN')
        rw [hsame.out, ← HYS.out]
        exact ⟨rfl, HEND.1, HEND.2.1, HEND.2.2.1, HEND.2.2.2⟩

      refine AllReadyH.cons rfl (fun K hK => ?_) AllReadyH.nil
      go_simp
      refine (HC.out _ BA.out).mono ?_
      rintro e w1 ⟨A2, c2, rfl, hrob, hFu, hb⟩
      refine hK.out _ _ trivial (fun _ => ?_)
      clear hK K
      have hbw : Below W.heap.size W w1 := BA.out.trans (hb.mono BA.out.size)
      have hr1 := cellB hbw (Nat.le_refl _) hr
      have hN1 : w.heap.size + 1 < w1.heap.size := Nat.lt_of_lt_of_le hN hbw.size
      obtain ⟨g9, cap9, Wa, happ, hz, hfz, hrN, hfN, hgN, hfin⟩ := copies_step (N := w.heap.size + 1) (m₀ := w.heap.size + 1 + 1 + 1) (base := w.heap.size + 1 + 1) (x := (x.t, A2, c2)) HB.out (by omega) (by omega) (by omega) hN hr hrf HG.out hbw ((hb.block W.heap.size (by simp)).trans (heap_alloc_new W.drew (.cells zero5 24))) (hrob.lower (by simp)) hFu (by omega)
      obtain ⟨y0, z0⟩ := Option.isSome_iff_exists.1 (hz 0 (by omega))
      obtain ⟨y1, z1⟩ := Option.isSome_iff_exists.1 (hz 1 (by omega))
      obtain ⟨y2, z2⟩ := Option.isSome_iff_exists.1 (hz 2 (by omega))
      obtain ⟨y3, z3⟩ := Option.isSome_iff_exists.1 (hz 3 (by omega))
      obtain ⟨y4, z4⟩ := Option.isSome_iff_exists.1 (hz 4 (by omega))
      simp only [Nat.add_zero] at z0
      have HAPP := Lib.hid happ
      have HFIN := Lib.hid hfin
      have hgN' := Ne.symm hgN
      clear happ hfin hz hrob hb
      try simp only [Act.put, List.setIfInBounds_toArray, List.set_cons_zero, List.set_cons_succ, List.getElem_toArray, List.getElem_cons_succ, List.getElem_cons_zero]
      refine wpAnyH_ready (rs := [0]) (by kernel_rfl) (by simp) ?_
      refine AllReadyH.cons rfl (fun K hK => ?_) AllReadyH.nil
      go_simp
      refine hK.out _ _ trivial (fun _ => ?_)
      clear hK K
      try simp only [Act.put, List.setIfInBounds_toArray, List.set_cons_zero, List.set_cons_succ, List.getElem_toArray, List.getElem_cons_succ, List.getElem_cons_zero]
      refine wpAnyH_take (i := 3) (v := .int .i64 ys.length) rfl (by kernel_rfl) (by kernel_rfl) (by kernel_rfl) onlyN_panic (Or.inl ⟨by kernel_rfl, ?_⟩) trivial ?_
      · rintro W3 _
        go_simp
      try simp only [Act.put, List.setIfInBounds_toArray, List.set_cons_zero, List.set_cons_succ, List.getElem_toArray, List.getElem_cons_succ, List.getElem_cons_zero]
      refine wpAnyH_ready (rs := [5]) (by kernel_rfl) (by simp) ?_
      refine AllReadyH.cons rfl (fun K hK => ?_) AllReadyH.nil
      refine step_append_run rfl _ _ 22 22 rfl rfl _ _ (by simp [Act.eval]) (by simp [Act.eval]) HAPP.out ?_
      refine hK.out _ _ trivial (fun _ => ?_)
      clear hK K
      try simp only [Act.put, List.setIfInBounds_toArray, List.set_cons_zero, List.set_cons_succ, List.getElem_toArray, List.getElem_cons_succ, List.getElem_cons_zero]
      refine wpAnyH_take (i := 6) (v := .pointer (some ⟨g9, ys.length * 5, none⟩)) rfl (by kernel_rfl) (by kernel_rfl) (by kernel_rfl) onlyN_panic (Or.inl ⟨by kernel_rfl, ?_⟩) trivial ?_
      · rintro W3 _
        go_simp
        exact fun hle => absurd hle (by omega)
      try simp only [Act.put, List.setIfInBounds_toArray, List.set_cons_zero, List.set_cons_succ, List.getElem_toArray, List.getElem_cons_succ, List.getElem_cons_zero]
      refine wpAnyH_ready (rs := [7, 8]) (by kernel_rfl) (by simp) ?_
      refine AllReadyH.cons rfl (fun K hK => ?_) ?_
      · go_simp
        refine hK.out _ _ trivial (fun _ => ?_)
        clear hK K
        try simp only [Act.put, List.setIfInBounds_toArray, List.set_cons_zero, List.set_cons_succ, List.getElem_toArray, List.getElem_cons_succ, List.getElem_cons_zero]
        refine wpAnyH_ready (rs := [8]) (by kernel_rfl) (by simp) ?_
        refine AllReadyH.cons rfl (fun K hK => ?_) AllReadyH.nil
        go_simp
        refine hK.out _ _ trivial (fun _ => ?_)
        clear hK K
        try simp only [Act.put, List.setIfInBounds_toArray, List.set_cons_zero, List.set_cons_succ, List.getElem_toArray, List.getElem_cons_succ, List.getElem_cons_zero]
        refine wpAnyH_done (by kernel_rfl) ?_ _
        have HEND := HFIN.out _ (rfl)
        rw [hsame.out, ← HYS.out]
        exact ⟨rfl, HEND.1, HEND.2.1, HEND.2.2.1, HEND.2.2.2⟩

      refine AllReadyH.cons rfl (fun K hK => ?_) AllReadyH.nil
      go_simp
      refine hK.out _ _ trivial (fun _ => ?_)
      clear hK K
      try simp only [Act.put, List.setIfInBounds_toArray, List.set_cons_zero, List.set_cons_succ, List.getElem_toArray, List.getElem_cons_succ, List.getElem_cons_zero]
      refine wpAnyH_ready (rs := [7]) (by kernel_rfl) (by simp) ?_
      refine AllReadyH.cons rfl (fun K hK => ?_) AllReadyH.nil
      go_simp
      refine hK.out _ _ trivial (fun _ => ?_)
      clear hK K
      try simp only [Act.put, List.setIfInBounds_toArray, List.set_cons_zero, List.set_cons_succ, List.getElem_toArray, List.getElem_cons_succ, List.getElem_cons_zero]
      refine wpAnyH_done (by kernel_rfl) ?_ _
      have HEND := HFIN.out _ (setAt_comm _ _ _ _ _ _ _ _ _ _ hgN')
      rw [hsame.out, ← HYS.out]
      exact ⟨rfl, HEND.1, HEND.2.1, HEND.2.2.1, HEND.2.2.2⟩

    refine AllReadyH.cons rfl (fun K hK => ?_) AllReadyH.nil
    go_simp
    refine hK.out _ _ trivial (fun _ => ?_)
    clear hK K
    try simp only [Act.put, List.setIfInBounds_toArray, List.set_cons_zero, List.set_cons_succ, List.getElem_toArray, List.getElem_cons_succ, List.getElem_cons_zero]
    refine wpAnyH_ready (rs := [0, 1]) (by kernel_rfl) (by simp) ?_
    refine AllReadyH.cons rfl (fun K hK => ?_) ?_
    · go_simp
      refine hK.out _ _ trivial (fun _ => ?_)
      clear hK K
      try simp only [Act.put, List.setIfInBounds_toArray, List.set_cons_zero, List.set_cons_succ, List.getElem_toArray, List.getElem_cons_succ, List.getElem_cons_zero]
      refine wpAnyH_take (i := 3) (v := .int .i64 ys.length) rfl (by kernel_rfl) (by kernel_rfl) (by kernel_rfl) onlyN_panic (Or.inl ⟨by kernel_rfl, ?_⟩) trivial ?_
      · rintro W3 _
        go_simp
      try simp only [Act.put, List.setIfInBounds_toArray, List.set_cons_zero, List.set_cons_succ, List.getElem_toArray, List.getElem_cons_succ, List.getElem_cons_zero]
      refine wpAnyH_ready (rs := [1]) (by kernel_rfl) (by simp) ?_
      refine AllReadyH.cons rfl (fun K hK => ?_) AllReadyH.nil
      go_simp
      refine hK.out _ _ trivial (fun _ => ?_)
      clear hK K
      try simp only [Act.put, List.setIfInBounds_toArray, List.set_cons_zero, List.set_cons_succ, List.getElem_toArray, List.getElem_cons_succ, List.getElem_cons_zero]
      refine wpAnyH_ready (rs := [2]) (by kernel_rfl) (by simp) ?_
      refine AllReadyH.cons rfl (fun K hK => ?_) AllReadyH.nil
      go_simp
      refine (HC.out _ BA.out).mono ?_
      rintro e w1 ⟨A2, c2, rfl, hrob, hFu, hb⟩
      refine hK.out _ _ trivial (fun _ => ?_)
      clear hK K
      have hbw : Below W.heap.size W w1 := BA.out.trans (hb.mono BA.out.size)
      have hr1 := cellB hbw (Nat.le_refl _) hr
      have hN1 : w.heap.size + 1 < w1.heap.size := Nat.lt_of_lt_of_le hN hbw.size
      obtain ⟨g9, cap9, Wa, happ, hz, hfz, hrN, hfN, hgN, hfin⟩ := copies_step (N := w.heap.size + 1) (m₀ := w.heap.size + 1 + 1 + 1) (base := w.heap.size + 1 + 1) (x := (x.t, A2, c2)) HB.out (by omega) (by omega) (by omega) hN hr hrf HG.out hbw ((hb.block W.heap.size (by simp)).trans (heap_alloc_new W.drew (.cells zero5 24))) (hrob.lower (by simp)) hFu (by omega)
      obtain ⟨y0, z0⟩ := Option.isSome_iff_exists.1 (hz 0 (by omega))
      obtain ⟨y1, z1⟩ := Option.isSome_iff_exists.1 (hz 1 (by omega))
      obtain ⟨y2, z2⟩ := Option.isSome_iff_exists.1 (hz 2 (by omega))
      obtain ⟨y3, z3⟩ := Option.isSome_iff_exists.1 (hz 3 (by omega))
      obtain ⟨y4, z4⟩ := Option.isSome_iff_exists.1 (hz 4 (by omega))
      simp only [Nat.add_zero] at z0
      have HAPP := Lib.hid happ
      have HFIN := Lib.hid hfin
      have hgN' := Ne.symm hgN
      clear happ hfin hz hrob hb
      try simp only [Act.put, List.setIfInBounds_toArray, List.set_cons_zero, List.set_cons_succ, List.getElem_toArray, List.getElem_cons_succ, List.getElem_cons_zero]
      refine wpAnyH_ready (rs := [5]) (by kernel_rfl) (by simp) ?_
      refine AllReadyH.cons rfl (fun K hK => ?_) AllReadyH.nil
      refine step_append_run rfl _ _ 22 22 rfl rfl _ _ (by simp [Act.eval]) (by simp [Act.eval]) HAPP.out ?_
      refine hK.out _ _ trivial (fun _ => ?_)
      clear hK K
      try simp only [Act.put, List.setIfInBounds_toArray, List.set_cons_zero, List.set_cons_succ, List.getElem_toArray, List.getElem_cons_succ, List.getElem_cons_zero]
      refine wpAnyH_take (i := 6) (v := .pointer (some ⟨g9, ys.length * 5, none⟩)) rfl (by kernel_rfl) (by kernel_rfl) (by kernel_rfl) onlyN_panic (Or.inl ⟨by kernel_rfl, ?_⟩) trivial ?_
      · rintro W3 _
        go_simp
        exact fun hle => absurd hle (by omega)
      try simp only [Act.put, List.setIfInBounds_toArray, List.set_cons_zero, List.set_cons_succ, List.getElem_toArray, List.getElem_cons_succ, List.getElem_cons_zero]
      refine wpAnyH_ready (rs := [7, 8]) (by kernel_rfl) (by simp) ?_
      refine AllReadyH.cons rfl (fun K hK => ?_) ?_
      · go_simp
        refine hK.out _ _ trivial (fun _ => ?_)
        clear hK K
        try simp only [Act.put, List.setIfInBounds_toArray, List.set_cons_zero, List.set_cons_succ, List.getElem_toArray, List.getElem_cons_succ, List.getElem_cons_zero]
        refine wpAnyH_ready (rs := [8]) (by kernel_rfl) (by simp) ?_
        refine AllReadyH.cons rfl (fun K hK => ?_) AllReadyH.nil
        go_simp
        refine hK.out _ _ trivial (fun _ => ?_)
        clear hK K
        try simp only [Act.put, List.setIfInBounds_toArray, List.set_cons_zero, List.set_cons_succ, List.getElem_toArray, List.getElem_cons_succ, List.getElem_cons_zero]
        refine wpAnyH_done (by kernel_rfl) ?_ _
        have HEND := HFIN.out _ (rfl)
        rw [hsame.out, ← HYS.out]
        exact ⟨rfl, HEND.1, HEND.2.1, HEND.2.2.1, HEND.2.2.2⟩

      refine AllReadyH.cons rfl (fun K hK => ?_) AllReadyH.nil
      go_simp
      refine hK.out _ _ trivial (fun _ => ?_)
      clear hK K
      try simp only [Act.put, List.setIfInBounds_toArray, List.set_cons_zero, List.set_cons_succ, List.getElem_toArray, List.getElem_cons_succ, List.getElem_cons_zero]
      refine wpAnyH_ready (rs := [7]) (by kernel_rfl) (by simp) ?_
      refine AllReadyH.cons rfl (fun K hK => ?_) AllReadyH.nil
      go_simp
      refine hK.out _ _ trivial (fun _ => ?_)
      clear hK K
      try simp only [Act.put, List.setIfInBounds_toArray, List.set_cons_zero, List.set_cons_succ, List.getElem_toArray, List.getElem_cons_succ, List.getElem_cons_zero]
      refine wpAnyH_done (by kernel_rfl) ?_ _
      have HEND := HFIN.out _ (setAt_comm _ _ _ _ _ _ _ _ _ _ hgN')
      rw [hsame.out, ← HYS.out]
      exact ⟨rfl, HEND.1, HEND.2.1, HEND.2.2.1, HEND.2.2.2⟩

    refine AllReadyH.cons rfl (fun K hK => ?_) AllReadyH.nil
    go_simp
    refine hK.out _ _ trivial (fun _ => ?_)
    clear hK K
    try simp only [Act.put, List.setIfInBounds_toArray, List.set_cons_zero, List.set_cons_succ, List.getElem_toArray, List.getElem_cons_succ, List.getElem_cons_zero]
    refine wpAnyH_ready (rs := [0, 2]) (by kernel_rfl) (by simp) ?_
    refine AllReadyH.cons rfl (fun K hK => ?_) ?_
    · go_simp
      refine hK.out _ _ trivial (fun _ => ?_)
      clear hK K
      try simp only [Act.put, List.setIfInBounds_toArray, List.set_cons_zero, List.set_cons_succ, List.getElem_toArray, List.getElem_cons_succ, List.getElem_cons_zero]
      refine wpAnyH_take (i := 3) (v := .int .i64 ys.length) rfl (by kernel_rfl) (by kernel_rfl) (by kernel_rfl) onlyN_panic (Or.inl ⟨by kernel_rfl, ?_⟩) trivial ?_
      · rintro W3 _
        go_simp
      try simp only [Act.put, List.setIfInBounds_toArray, List.set_cons_zero, List.set_cons_succ, List.getElem_toArray, List.getElem_cons_succ, List.getElem_cons_zero]
      refine wpAnyH_ready (rs := [2]) (by kernel_rfl) (by simp) ?_
      refine AllReadyH.cons rfl (fun K hK => ?_) AllReadyH.nil
      go_simp
      refine (HC.out _ BA.out).mono ?_
      rintro e w1 ⟨A2, c2, rfl, hrob, hFu, hb⟩
      refine hK.out _ _ trivial (fun _ => ?_)
      clear hK K
      have hbw : Below W.heap.size W w1 := BA.out.trans (hb.mono BA.out.size)
      have hr1 := cellB hbw (Nat.le_refl _) hr
      have hN1 : w.heap.size + 1 < w1.heap.size := Nat.lt_of_lt_of_le hN hbw.size
      obtain ⟨g9, cap9, Wa, happ, hz, hfz, hrN, hfN, hgN, hfin⟩ := copies_step (N := w.heap.size + 1) (m₀ := w.heap.size + 1 + 1 + 1) (base := w.heap.size + 1 + 1) (x := (x.t, A2, c2)) HB.out (by omega) (by omega) (by omega) hN hr hrf HG.out hbw ((hb.block W.heap.size (by simp)).trans (heap_alloc_new W.drew (.cells zero5 24))) (hrob.lower (by simp)) hFu (by omega)
      obtain ⟨y0, z0⟩ := Option.isSome_iff_exists.1 (hz 0 (by omega))
      obtain ⟨y1, z1⟩ := Option.isSome_iff_exists.1 (hz 1 (by omega))
      obtain ⟨y2, z2⟩ := Option.isSome_iff_exists.1 (hz 2 (by omega))
      obtain ⟨y3, z3⟩ := Option.isSome_iff_exists.1 (hz 3 (by omega))
      obtain ⟨y4, z4⟩ := Option.isSome_iff_exists.1 (hz 4 (by omega))
      simp only [Nat.add_zero] at z0
      have HAPP := Lib.hid happ
      have HFIN := Lib.hid hfin
      have hgN' := Ne.symm hgN
      clear happ hfin hz hrob hb
      try simp only [Act.put, List.setIfInBounds_toArray, List.set_cons_zero, List.set_cons_succ, List.getElem_toArray, List.getElem_cons_succ, List.getElem_cons_zero]
      refine wpAnyH_ready (rs := [5]) (by kernel_rfl) (by simp) ?_
      refine AllReadyH.cons rfl (fun K hK => ?_) AllReadyH.nil
      refine step_append_run rfl _ _ 22 22 rfl rfl _ _ (by simp [Act.eval]) (by simp [Act.eval]) HAPP.out ?_
      refine hK.out _ _ trivial (fun _ => ?_)
      clear hK K
      try simp only [Act.put, List.setIfInBounds_toArray, List.set_cons_zero, List.set_cons_succ, List.getElem_toArray, List.getElem_cons_succ, List.getElem_cons_zero]
      refine wpAnyH_take (i := 6) (v := .pointer (some ⟨g9, ys.length * 5, none⟩)) rfl (by kernel_rfl) (by kernel_rfl) (by kernel_rfl) onlyN_panic (Or.inl ⟨by kernel_rfl, ?_⟩) trivial ?_
      · rintro W3 _
        go_simp
        exact fun hle => absurd hle (by omega)
      try simp only [Act.put, List.setIfInBounds_toArray, List.set_cons_zero, List.set_cons_succ, List.getElem_toArray, List.getElem_cons_succ, List.getElem_cons_zero]
      refine wpAnyH_ready (rs := [7, 8]) (by kernel_rfl) (by simp) ?_
      refine AllReadyH.cons rfl (fun K hK => ?_) ?_
      · go_simp
        refine hK.out _ _ trivial (fun _ => ?_)
        clear hK K
        try simp only [Act.put, List.setIfInBounds_toArray, List.set_cons_zero, List.set_cons_succ, List.getElem_toArray, List.getElem_cons_succ, List.getElem_cons_zero]
        refine wpAnyH_ready (rs := [8]) (by kernel_rfl) (by simp) ?_
        refine AllReadyH.cons rfl (fun K hK => ?_) AllReadyH.nil
        go_simp
        refine hK.out _ _ trivial (fun _ => ?_)
        clear hK K
        try simp only [Act.put, List.setIfInBounds_toArray, List.set_cons_zero, List.set_cons_succ, List.getElem_toArray, List.getElem_cons_succ, List.getElem_cons_zero]
        refine wpAnyH_done (by kernel_rfl) ?_ _
        have HEND := HFIN.out _ (rfl)
        rw [hsame.out, ← HYS.out]
        exact ⟨rfl, HEND.1, HEND.2.1, HEND.2.2.1, HEND.2.2.2⟩

      refine AllReadyH.cons rfl (fun K hK => ?_) AllReadyH.nil
      go_simp
      refine hK.out _ _ trivial (fun _ => ?_)
      clear hK K
      try simp only [Act.put, List.setIfInBounds_toArray, List.set_cons_zero, List.set_cons_succ, List.getElem_toArray, List.getElem_cons_succ, List.getElem_cons_zero]
      refine wpAnyH_ready (rs := [7]) (by kernel_rfl) (by simp) ?_
      refine AllReadyH.cons rfl (fun K hK => ?_) AllReadyH.nil
      go_simp
      refine hK.out _ _ trivial (fun _ => ?_)
      clear hK K
      try simp only [Act.put, List.setIfInBounds_toArray, List.set_cons_zero, List.set_cons_succ, List.getElem_toArray, List.getElem_cons_succ, List.getElem_cons_zero]
      refine wpAnyH_done (by kernel_rfl) ?_ _
      have HEND := HFIN.out _ (setAt_comm _ _ _ _ _ _ _ _ _ _ hgN')
      rw [hsame.out, ← HYS.out]
      exact ⟨rfl, HEND.1, HEND.2.1, HEND.2.2.1, HEND.2.2.2⟩

    refine AllReadyH.cons rfl (fun K hK => ?_) AllReadyH.nil
    go_simp
    refine (HC.out _ BA.out).mono ?_
    rintro e w1 ⟨A2, c2, rfl, hrob, hFu, hb⟩
    refine hK.out _ _ trivial (fun _ => ?_)
    clear hK K
    have hbw : Below W.heap.size W w1 := BA.out.trans (hb.mono BA.out.size)
    have hr1 := cellB hbw (Nat.le_refl _) hr
    have hN1 : w.heap.size + 1 < w1.heap.size := Nat.lt_of_lt_of_le hN hbw.size
    obtain ⟨g9, cap9, Wa, happ, hz, hfz, hrN, hfN, hgN, hfin⟩ := copies_step (N := w.heap.size + 1) (m₀ := w.heap.size + 1 + 1 + 1) (base := w.heap.size + 1 + 1) (x := (x.t, A2, c2)) HB.out (by omega) (by omega) (by omega) hN hr hrf HG.out hbw ((hb.block W.heap.size (by simp)).trans (heap_alloc_new W.drew (.cells zero5 24))) (hrob.lower (by simp)) hFu (by omega)
    obtain ⟨y0, z0⟩ := Option.isSome_iff_exists.1 (hz 0 (by omega))
    obtain ⟨y1, z1⟩ := Option.isSome_iff_exists.1 (hz 1 (by omega))
    obtain ⟨y2, z2⟩ := Option.isSome_iff_exists.1 (hz 2 (by omega))
    obtain ⟨y3, z3⟩ := Option.isSome_iff_exists.1 (hz 3 (by omega))
    obtain ⟨y4, z4⟩ := Option.isSome_iff_exists.1 (hz 4 (by omega))
    simp only [Nat.add_zero] at z0
    have HAPP := Lib.hid happ
    have HFIN := Lib.hid hfin
    have hgN' := Ne.symm hgN
    clear happ hfin hz hrob hb
    try simp only [Act.put, List.setIfInBounds_toArray, List.set_cons_zero, List.set_cons_succ, List.getElem_toArray, List.getElem_cons_succ, List.getElem_cons_zero]
    refine wpAnyH_ready (rs := [0]) (by kernel_rfl) (by simp) ?_
    refine AllReadyH.cons rfl (fun K hK => ?_) AllReadyH.nil
    go_simp
    refine hK.out _ _ trivial (fun _ => ?_)
    clear hK K
    try simp only [Act.put, List.setIfInBounds_toArray, List.set_cons_zero, List.set_cons_succ, List.getElem_toArray, List.getElem_cons_succ, List.getElem_cons_zero]
    refine wpAnyH_take (i := 3) (v := .int .i64 ys.length) rfl (by kernel_rfl) (by kernel_rfl) (by kernel_rfl) onlyN_panic (Or.inl ⟨by kernel_rfl, ?_⟩) trivial ?_
    · rintro W3 _
      go_simp
    try simp only [Act.put, List.setIfInBounds_toArray, List.set_cons_zero, List.set_cons_succ, List.getElem_toArray, List.getElem_cons_succ, List.getElem_cons_zero]
    refine wpAnyH_ready (rs := [5]) (by kernel_rfl) (by simp) ?_
    refine AllReadyH.cons rfl (fun K hK => ?_) AllReadyH.nil
    refine step_append_run rfl _ _ 22 22 rfl rfl _ _ (by simp [Act.eval]) (by simp [Act.eval]) HAPP.out ?_
    refine hK.out _ _ trivial (fun _ => ?_)
    clear hK K
    try simp only [Act.put, List.setIfInBounds_toArray, List.set_cons_zero, List.set_cons_succ, List.getElem_toArray, List.getElem_cons_succ, List.getElem_cons_zero]
    refine wpAnyH_take (i := 6) (v := .pointer (some ⟨g9, ys.length * 5, none⟩)) rfl (by kernel_rfl) (by kernel_rfl) (by kernel_rfl) onlyN_panic (Or.inl ⟨by kernel_rfl, ?_⟩) trivial ?_
    · rintro W3 _
      go_simp
      exact fun hle => absurd hle (by omega)
    try simp only [Act.put, List.setIfInBounds_toArray, List.set_cons_zero, List.set_cons_succ, List.getElem_toArray, List.getElem_cons_succ, List.getElem_cons_zero]
    refine wpAnyH_ready (rs := [7, 8]) (by kernel_rfl) (by simp) ?_
    refine AllReadyH.cons rfl (fun K hK => ?_) ?_
    · go_simp
      refine hK.out _ _ trivial (fun _ => ?_)
      clear hK K
      try simp only [Act.put, List.setIfInBounds_toArray, List.set_cons_zero, List.set_cons_succ, List.getElem_toArray, List.getElem_cons_succ, List.getElem_cons_zero]
      refine wpAnyH_ready (rs := [8]) (by kernel_rfl) (by simp) ?_
      refine AllReadyH.cons rfl (fun K hK => ?_) AllReadyH.nil
      go_simp
      refine hK.out _ _ trivial (fun _ => ?_)
      clear hK K
      try simp only [Act.put, List.setIfInBounds_toArray, List.set_cons_zero, List.set_cons_succ, List.getElem_toArray, List.getElem_cons_succ, List.getElem_cons_zero]
      refine wpAnyH_done (by kernel_rfl) ?_ _
      have HEND := HFIN.out _ (rfl)
      rw [hsame.out, ← HYS.out]
      exact ⟨rfl, HEND.1, HEND.2.1, HEND.2.2.1, HEND.2.2.2⟩

    refine AllReadyH.cons rfl (fun K hK => ?_) AllReadyH.nil
    go_simp
    refine hK.out _ _ trivial (fun _ => ?_)
    clear hK K
    try simp only [Act.put, List.setIfInBounds_toArray, List.set_cons_zero, List.set_cons_succ, List.getElem_toArray, List.getElem_cons_succ, List.getElem_cons_zero]
    refine wpAnyH_ready (rs := [7]) (by kernel_rfl) (by simp) ?_
    refine AllReadyH.cons rfl (fun K hK => ?_) AllReadyH.nil
    go_simp
    refine hK.out _ _ trivial (fun _ => ?_)
    clear hK K
    try simp only [Act.put, List.setIfInBounds_toArray, List.set_cons_zero, List.set_cons_succ, List.getElem_toArray, List.getElem_cons_succ, List.getElem_cons_zero]
    refine wpAnyH_done (by kernel_rfl) ?_ _
    have HEND := HFIN.out _ (setAt_comm _ _ _ _ _ _ _ _ _ _ hgN')
    rw [hsame.out, ← HYS.out]
    exact ⟨rfl, HEND.1, HEND.2.1, HEND.2.2.1, HEND.2.2.2⟩

  case done =>
    rintro D ys W hD rfl ⟨⟨v, zs, hr, hrf, hg, hzs⟩, hB⟩ hK
    have hcl := conjOf_len ys
    have hzl : zs.length = (conjOf ys).length := by rw [← hzs, List.length_map]
    obtain ⟨A', cap', rfl, hrob⟩ := hg.rob (by unfold maxLen; omega)
    have hcc : zs.length ≤ cap' := by
      rcases hg.row.2 with ⟨hv, hn⟩ | ⟨g, c, cur, hv, h1, h2, h3, _⟩
      · omega
      · injection hv with _ _ e; omega
    rw [hzs] at hrob
    have HR := Lib.hid ((hrob.lower (n0 := w.heap.size) (by omega)).kept (grownBy_putObj' _ D (.deferred none)) (fun r e => by cases e; exact ⟨_, hK, rfl⟩))
    clear H HL hB0 r0 c1 hg hrob hzs
    gi_wp2
    refine ⟨by simp, .inl ⟨_, _, rfl, run_takeDeferred hK, ?_⟩⟩
    exact ⟨_, results_tmp rfl _ _ _, ⟨A', cap', by rw [← hzl]; rfl, HR.out, hB.trans (belowK_b (w := w) (Nat.le_refl _) W D _ _ (by simp at hD; omega) hK rfl rfl)⟩, fun A n c h => by cases h; exact hzl ▸ hcc⟩
  case stop =>
    rintro D c pre W _ _ h _
    exact h.elim
end Go.Proofs.Ytbadegimohdfeaa
