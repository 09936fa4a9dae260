/-
  What the library's Insert of one element does to a row that grows, at declarations and at nodes; conditions: the row is the caller's own and not too long to be grown.
-/
import Derived.Shelf.Spec.SlicesInsertGrow
import Derived.Laws.CopyRow
import Derived.Test.YtpjokapkoeclpaaSame
namespace Go.Proofs.Ytpjokapkoeclpaa
open Go.RowKit Go.Shelf Go.Lib

attribute [local go_sem] Oper.semAt_some
theorem run_copy_rowK {P : Program} (w : World) (dT sT ty elem : TypeId) (k g o dLen dCap : Nat) (a : Addr) (sLen sCap : Nat) (cur : Array Value) (t : TypeId) (cs : List Value)
    (hu : P.underlying dT = some (.slice elem)) (hs : (P.info? elem).map (·.size) = some k)
    (hg : w.heap[g]? = some (.cells cur t (0, 0))) (hn : cs.length = Nat.min sLen dLen * k)
    (hsrc : ∀ j v, cs[j]? = some v → w.cell? (a.add j) = some v) (hfit : o + cs.length ≤ cur.size) (h1 : ∀ v ∈ cs, v.oneCell' = true) :
    (Builtin.copy_ #[dT, sT] ty #[.slice (some ⟨g, o, none⟩) dLen dCap, .slice (some a) sLen sCap]).run P w =
      .ok (goInt (Nat.min sLen dLen)) (w.setRow g (cur.toList.take o ++ cs ++ cur.toList.drop (o + cs.length)).toArray) := by
  have hl := run_loadCells_list (P := P) w a cs hsrc
  have hst := run_storeCells_at P g o t cs 0 cur w hg (by simpa using hfit) h1
  cases hq : P.info? elem with
  | none => simp [hq] at hs
  | some i =>
    have hi : i.size = k := by simpa [hq] using hs
    simp [Builtin.copy_, run_underlying hu, Builtin.lenOf, Builtin.firstCells, sizeOf, typeInfo, hq, hi, ← hn, hl, hst]

theorem shift_list (cur xs es : List Value) (a N k : Nat) (hx : cur.take N = xs) (hN : N + k ≤ cur.length) (ha : a ≤ N) (hk : es.length = k) :
    ((cur.take (a + k) ++ xs.drop a ++ cur.drop (a + k + (xs.drop a).length)).take a ++ es ++ (cur.take (a + k) ++ xs.drop a ++ cur.drop (a + k + (xs.drop a).length)).drop (a + es.length)).take (N + k) = xs.take a ++ es ++ xs.drop a := by
  have l1 : (cur.take (a + k)).length = a + k := by rw [List.length_take]; omega
  have lx : xs.length = N := by rw [← hx, List.length_take]; omega
  have e1 : (cur.take (a + k) ++ xs.drop a ++ cur.drop (a + k + (xs.drop a).length)).take a = xs.take a := by
    rw [List.append_assoc, List.take_append_of_le_length (by omega), List.take_take, ← hx, List.take_take, Nat.min_eq_left (by omega), Nat.min_eq_left ha]
  have e2 : (cur.take (a + k) ++ xs.drop a ++ cur.drop (a + k + (xs.drop a).length)).drop (a + es.length) = xs.drop a ++ cur.drop (a + k + (xs.drop a).length) := by
    rw [hk, List.append_assoc, List.drop_left' l1]
  rw [e1, e2, ← List.append_assoc]
  exact List.take_left' (by simp only [List.length_append, List.length_take, List.length_drop]; omega)

theorem grow_list (xs es Z : List Value) (a N k : Nat) (lx : xs.length = N) (ha : a ≤ N) (hk : es.length = k) :
    (((xs.take a ++ Z).take a ++ es ++ (xs.take a ++ Z).drop (a + es.length)).take (a + k) ++ xs.drop a ++ ((xs.take a ++ Z).take a ++ es ++ (xs.take a ++ Z).drop (a + es.length)).drop (a + k + (xs.drop a).length)).take (N + k) = xs.take a ++ es ++ xs.drop a := by
  have l1 : (xs.take a).length = a := by rw [List.length_take]; omega
  have e1 : (xs.take a ++ Z).take a = xs.take a := List.take_left' l1
  rw [e1]
  have l2 : (xs.take a ++ es).length = a + k := by rw [List.length_append]; omega
  rw [List.take_left' (l₂ := (xs.take a ++ Z).drop (a + es.length)) l2]
  exact List.take_left' (by simp only [List.length_append, List.length_take, List.length_drop]; omega)

theorem setRow_grownBy (w : World) (g : Nat) (cs : Array Value) : w.grownBy (w.setRow g cs) (some g) :=
  ⟨rfl, rfl, rfl, by simp [World.setRow], fun k _ hk => by
    unfold World.setRow
    simp only [Array.getElem?_modify]
    rw [if_neg (fun e => hk (by rw [e]))]⟩

/-- One element more stands in a row. -/
def InsPost (k : Nat) (E : TypeId) (base : Nat) (w : World) (v : Value) (n : Nat) (out : List Value) (e : Ending) (w' : World) : Prop :=
  ∃ v', e = .returned v' ∧ w'.ownsRow base E k v' (n + 1) out ∧ w.grownBy w' v.ownBlock ∧ (v'.ownBlock = v.ownBlock ∨ v'.ownBlock = some w.heap.size)

set_option maxRecDepth 100000 in
set_option maxHeartbeats 4000000 in
theorem insertSl_end_D (xs es : List Value) (n : Nat) (v : Value) (base vb : Nat) (w : World) (hown : w.ownsRow base 58 2 v n xs) (hbase : base ≤ w.heap.size) (hn : n ≤ 1048576) (hes : es.length = 2) (hvs : ∀ j u, es[j]? = some u → w.cell? ((⟨vb, 0, none⟩ : Addr).add j) = some u) (h1 : ∀ u ∈ es, u.oneCell' = true) :
    Calls Try.prog 91 #[v, .int .i64 n, .slice (some ⟨vb, 0, none⟩) 1 1] w (InsPost 2 58 base w v n (xs ++ es)) := by
  obtain ⟨i0, hi, hz0, hz1, hz2⟩ := info_parts Try.info58
  have I0 := Lib.hid hi
  have Z0 := Lib.hid hz0
  have Z1 := Lib.hid hz1
  have Z2 := Lib.hid hz2
  have HS := Lib.hid hvs
  have H1 := Lib.hid h1
  have HB := Lib.hid hbase
  have HO := Lib.hid hown
  have hvv : (∃ A c, v = .slice A n c ∧ n ≤ c ∧ c ≤ maxLen) := by
    rcases hown.2 with ⟨rfl, rfl⟩ | ⟨g, cap, cur, rfl, _, _, h3, h4, _⟩
    · exact ⟨_, _, rfl, Nat.le_refl _, by simp⟩
    · exact ⟨_, _, rfl, h3, h4⟩
  obtain ⟨A, c, rfl, hnc, hcm⟩ := hvv
  unfold maxLen at hcm
  have hin : (n : Int) ≤ (n : Int) := Int.le_refl _
  have h0n : (0 : Int) ≤ (n : Int) := Int.natCast_nonneg _
  clear hi hz0 hz1 hz2 hvs h1 hbase hown
  go_enter Try.func91, Try.ntmps91
  go_wp2_with (at_builtin; refine wpList_append_own_at _ rfl _ _ 35 rfl base 58 i0 _ 2 24 Try.underlying35 I0.out Z0.out Z1.out Z2.out rfl (by decide) (.slice A n c) n xs rfl HO.out ⟨vb, 0, none⟩ 1 1 es rfl (by rw [hes]) HS.out H1.out (by unfold maxLen; omega) (by omega) HB.out ?_; intro v' w1 hown1 hgrow1 _ hor)
  all_goals
    go_ret
    first
      | exact ⟨v', rfl, hown1, hgrow1, hor⟩
      | (rename_i h; subst h; exact ⟨v', rfl, hown1, hgrow1, hor⟩)

set_option maxRecDepth 100000 in
set_option maxHeartbeats 4000000 in
theorem insertSl_room_D (xs es : List Value) (n i c g : Nat) (cur : Array Value) (base vb : Nat) (w : World) (hb : base ≤ g) (hg : w.heap[g]? = some (.cells cur 58 (0, 0))) (hcm : c ≤ maxLen) (hcs : cur.size = c * 2) (htk : cur.toList.take (n * 2) = xs)
    (hx1 : ∀ u ∈ xs, u.oneCell' = true) (hi : i < n) (hn : n ≤ 1048576) (hroom : n + 1 ≤ c) (hes : es.length = 2) (hvb : w.heap[vb]? = some (.cells es.toArray 58 (0, 0))) (hne : vb ≠ g) (h1 : ∀ u ∈ es, u.oneCell' = true) :
    Calls Try.prog 91 #[.slice (some ⟨g, 0, none⟩) n c, .int .i64 i, .slice (some ⟨vb, 0, none⟩) 1 1] w (InsPost 2 58 base w (.slice (some ⟨g, 0, none⟩) n c) n (xs.take (i * 2) ++ (es ++ xs.drop (i * 2)))) := by
  obtain ⟨i0, hi0, hz0, hz1, hz2⟩ := info_parts Try.info58
  have hsz : (Try.prog.info? 58).map (·.size) = some 2 := by rw [hi0]; simp [hz1]
  unfold maxLen at hcm
  have hz : ∀ w, (Go.sizeOf 58).run Try.prog w = .ok 2 w := fun w => by simp [sizeOf, typeInfo, hi0, hz1]
  have hsa : w.shape? vb = some (58, 2) := by unfold World.shape?; rw [hvb]; simp [hes]
  have hsb : w.shape? g = some (58, c * 2) := by unfold World.shape?; rw [hg]; simp [hcs]
  have hov : ∀ lb cb, (callFunc 108 #[.slice (some ⟨vb, 0, none⟩) 1 1, .slice (some ⟨g, (i + 1) * 2, none⟩) lb cb]).run Try.prog w = .ok (.value (.bool false)) w := fun lb cb => by
    rw [run_callFunc_extern Try.func108 (by kernel_rfl) (by kernel_rfl) (by kernel_rfl) (e := Extern.SlicesOverlaps.overlaps #[35, 35] #[4]) (by kernel_rfl),
      Lib.run_overlaps_apart w 35 4 58 Try.underlying35 2 hz ⟨vb, 0, none⟩ ⟨g, (i + 1) * 2, none⟩ 1 1 lb cb hne 58 58 2 (c * 2) hsa hsb (by omega) (by simp [World.frozen?, hvb]) (by simp [World.frozen?, hvb])]
    rfl
  have lx : xs.length = n * 2 := by rw [← htk, List.length_take, Array.length_toList, hcs]; omega
  have hdl : (xs.drop (i * 2)).length = (n - i) * 2 := by rw [List.length_drop, lx, Nat.sub_mul]
  have hsrc1 : ∀ (W : World), (W.heap[g]? = some (.cells cur 58 (0, 0))) → ∀ j u, (xs.drop (i * 2))[j]? = some u → W.cell? ((⟨g, i * 2, none⟩ : Addr).add j) = some u := fun W hW j u hj => by
    rw [Addr.add_lit]
    rw [List.getElem?_drop, ← htk] at hj
    have hlt := (List.getElem?_eq_some_iff.1 hj).1
    rw [List.length_take] at hlt
    rw [List.getElem?_take_of_lt (by omega), Array.getElem?_toList] at hj
    simp [World.cell?, hW, hj]
  obtain ⟨C1, hC1⟩ : ∃ C1 : Array Value, C1 = (cur.toList.take ((i + 1) * 2) ++ xs.drop (i * 2) ++ cur.toList.drop ((i + 1) * 2 + (xs.drop (i * 2)).length)).toArray := ⟨_, rfl⟩
  have hgd : w.drew.heap[g]? = some (.cells cur 58 (0, 0)) := hg
  have hcp1 : ∀ ty dc sc, (Builtin.copy_ #[35, 35] ty #[.slice (some ⟨g, (i + 1) * 2, none⟩) (n - i) dc, .slice (some ⟨g, i * 2, none⟩) (n + 1 - i) sc]).run Try.prog w.drew = .ok (goInt (Nat.min (n + 1 - i) (n - i))) (w.drew.setRow g C1) := fun ty dc sc => by
    rw [hC1]
    exact run_copy_rowK w.drew _ _ ty 58 2 g ((i + 1) * 2) (n - i) dc ⟨g, i * 2, none⟩ (n + 1 - i) sc cur 58 (xs.drop (i * 2)) Try.underlying35 hsz hgd (by rw [hdl]; congr 1; simp only [Nat.min_def]; split <;> omega)
      (hsrc1 _ hgd) (by rw [hdl, hcs]; omega) (fun u hu => hx1 u (List.mem_of_mem_drop hu))
  have hC1s : C1.size = c * 2 := by rw [hC1]; simp only [List.size_toArray, List.length_append, List.length_take, List.length_drop, Array.length_toList, hcs, lx]; omega
  obtain ⟨W1, hW1⟩ : ∃ W1, W1 = w.drew.setRow g C1 := ⟨_, rfl⟩
  have hg1 : W1.heap[g]? = some (.cells C1 58 (0, 0)) := by rw [hW1]; exact setRow_heap w.drew g cur C1 58 (0, 0) hg
  have hv1 : W1.heap[vb]? = some (.cells es.toArray 58 (0, 0)) := by rw [hW1]; exact (setRow_other w.drew g vb C1 hne).trans hvb
  obtain ⟨C2, hC2⟩ : ∃ C2 : Array Value, C2 = (C1.toList.take (i * 2) ++ es ++ C1.toList.drop (i * 2 + es.length)).toArray := ⟨_, rfl⟩
  have hcp2 : ∀ (W : World), W.heap[g]? = some (.cells C1 58 (0, 0)) → W.heap[vb]? = some (.cells es.toArray 58 (0, 0)) → ∀ ty dc, (Builtin.copy_ #[35, 35] ty #[.slice (some ⟨g, i * 2, none⟩) (n + 1 - i) dc, .slice (some ⟨vb, 0, none⟩) 1 1]).run Try.prog W = .ok (goInt (Nat.min 1 (n + 1 - i))) (W.setRow g C2) := fun W hWg hWv ty dc => by
    rw [hC2]
    exact run_copy_rowK W _ _ ty 58 2 g (i * 2) (n + 1 - i) dc ⟨vb, 0, none⟩ 1 1 C1 58 es Try.underlying35 hsz hWg (by rw [hes]; simp only [Nat.min_def]; split <;> omega)
      (fun j u hj => by rw [Addr.add_lit]; simp [World.cell?, hWv, hj]) (by rw [hes, hC1s]; omega) h1
  rw [← hW1] at hcp1
  have hfinal : ∀ W : World, W.heap[g]? = some (.cells C1 58 (0, 0)) → w.grownBy W (some g) → ∀ e, e = .returned (.slice (some ⟨g, 0, none⟩) (n + 1) c) → InsPost 2 58 base w (.slice (some ⟨g, 0, none⟩) n c) n (xs.take (i * 2) ++ (es ++ xs.drop (i * 2))) e (W.setRow g C2) := fun W hWg hWr e he => by
    rw [hC2]
    refine ⟨_, he, ⟨?_, .inr ⟨g, c, _, rfl, hb, setRow_heap W g C1 _ 58 (0, 0) hWg, hroom, hcm, ?_, ?_⟩⟩, ?_, .inl rfl⟩
    · simp only [List.length_append, List.length_take, List.length_drop, lx, hes]; omega
    · simp only [List.size_toArray, List.length_append, List.length_take, List.length_drop, Array.length_toList, hC1s, hes]; omega
    · have := shift_list cur.toList xs es (i * 2) (n * 2) 2 htk (by rw [Array.length_toList, hcs]; omega) (by omega) hes
      rw [hC1]
      rw [show (n + 1) * 2 = n * 2 + 2 by omega, show (i + 1) * 2 = i * 2 + 2 by omega]
      rw [← List.append_assoc]
      exact this
    · have h2 := setRow_grownBy W g (C1.toList.take (i * 2) ++ es ++ C1.toList.drop (i * 2 + es.length)).toArray
      exact ⟨h2.os.trans hWr.os, h2.tape.trans hWr.tape, h2.output.trans hWr.output, Nat.le_trans hWr.size h2.size, fun k hk hkr => (h2.block k (Nat.lt_of_lt_of_le hk hWr.size) hkr).trans (hWr.block k hk hkr)⟩
  have hgr : w.grownBy W1 (some g) := by
    rw [hW1]
    have := setRow_grownBy w.drew g C1
    exact ⟨this.os, this.tape, this.output, this.size, this.block⟩
  have HF := Lib.hid hfinal
  have HG := Lib.hid hgr
  have HG1 := Lib.hid hg1
  have HV1 := Lib.hid hv1
  have HC2 := Lib.hid hcp2
  have HC1 := Lib.hid hcp1
  have w1' : IntKind.i64.wrap ((i : Int) + 1) = (i : Int) + 1 := by rw [IntKind.wrap_i64]; omega
  have w2' : IntKind.i64.wrap ((n : Int) + 1) = (n : Int) + 1 := by rw [IntKind.wrap_i64]; omega
  have e1 : ¬ ((i : Int) = (n : Int)) := by omega
  have e2 : ¬ ((c : Int) < (n : Int) + 1) := by omega
  have b1 : (0 : Int) ≤ (i : Int) + 1 := by omega
  have b2 : (i : Int) ≤ (n : Int) := by omega
  have b3 : (n : Int) + 1 ≤ (c : Int) := by omega
  have b4 : (i : Int) + 1 ≤ (n : Int) + 1 := by omega
  have b5 : (i : Int) ≤ (n : Int) + 1 := by omega
  have b6 : ¬ (c = i + 1) := by omega
  have b7 : ¬ (c = i) := by omega
  have t1 : ((i : Int) + 1).toNat = i + 1 := by omega
  have t2 : ((n : Int) + 1).toNat = n + 1 := by omega
  have mixed : Try.prog.follows Departure.mixedOrders = true := by kernel_rfl
  clear hC2 hW1 hfinal hgr hg1 hv1 hcp2 hcp1 hsrc1 hdl lx hC1s hC1 hz hsz hsa hsb hi0 hz0 hz1 hz2 hgd
  go_enter Try.func91, Try.ntmps91
  go_wp2_with (simp only [hov])
  go_region_law_o (refine step_copy_runI rfl _ _ 35 35 rfl (.slice (some ⟨g, (i + 1) * 2, none⟩) (n - i) (c - (i + 1))) (.slice (some ⟨g, i * 2, none⟩) (n + 1 - i) (c - i)) (by simp [Act.eval, Act.put]) (by simp [Act.eval, Act.put]) (HC1.out 3 (c - (i + 1)) (c - i)) ?_)
  go_wp2_with (refine wpList_copy_runI _ rfl _ _ 35 35 rfl _ _ rfl rfl (HC2.out _ HG1.out HV1.out _ _) ?_)
  go_ret
  exact HF.out _ HG1.out HG.out _ rfl

set_option maxRecDepth 100000 in
set_option maxHeartbeats 4000000 in
theorem insertSl_grow_D (xs es : List Value) (n i c g : Nat) (cur : Array Value) (base vb : Nat) (w : World) (hb : base ≤ g) (hg : w.heap[g]? = some (.cells cur 58 (0, 0))) (hnc : n ≤ c) (hcs : cur.size = c * 2) (htk : cur.toList.take (n * 2) = xs)
    (hx1 : ∀ u ∈ xs, u.oneCell' = true) (hi : i < n) (hn : n ≤ 1048576) (hroom : c < n + 1) (hes : es.length = 2) (hvb : w.heap[vb]? = some (.cells es.toArray 58 (0, 0))) (h1 : ∀ u ∈ es, u.oneCell' = true) :
    Calls Try.prog 91 #[.slice (some ⟨g, 0, none⟩) n c, .int .i64 i, .slice (some ⟨vb, 0, none⟩) 1 1] w (InsPost 2 58 base w (.slice (some ⟨g, 0, none⟩) n c) n (xs.take (i * 2) ++ (es ++ xs.drop (i * 2)))) := by
  obtain ⟨i0, hi0, hz0, hz1, hz2⟩ := info_parts Try.info58
  have hsz : (Try.prog.info? 58).map (·.size) = some 2 := by rw [hi0]; simp [hz1]
  have lx : xs.length = n * 2 := by rw [← htk, List.length_take, Array.length_toList, hcs]; omega
  have hdl : (xs.drop (i * 2)).length = (n - i) * 2 := by rw [List.length_drop, lx, Nat.sub_mul]
  have hgw : g < w.heap.size := (Array.getElem?_eq_some_iff.1 hg).1
  have hvw : vb < w.heap.size := (Array.getElem?_eq_some_iff.1 hvb).1
  have hxc : ∀ (W : World), W.heap[g]? = some (.cells cur 58 (0, 0)) → ∀ j u, xs[j]? = some u → W.cell? ⟨g, j, none⟩ = some u := fun W hW j u hj => by
    rw [← htk] at hj
    have hlt := (List.getElem?_eq_some_iff.1 hj).1
    rw [List.length_take] at hlt
    rw [List.getElem?_take_of_lt (by omega), Array.getElem?_toList] at hj
    simp [World.cell?, hW, hj]
  have hold : (Builtin.firstCells i0.size i (.slice (some ⟨g, 0, none⟩) i c)).run Try.prog w.drew = .ok (xs.take (i * 2)).toArray w.drew := by
    rw [hz1]
    exact run_firstCells_some w.drew 2 i ⟨g, 0, none⟩ i c (xs.take (i * 2)) (by rw [List.length_take, lx]; omega) (fun j v hj => by
      rw [Addr.add_lit, Nat.zero_add]
      rw [List.getElem?_take] at hj
      split at hj
      · exact hxc _ hg j v hj
      · cases hj)
  have hik : i + (n + 1 - i) = n + 1 := by omega
  obtain ⟨G, hG⟩ : ∃ G, G = grownCap w (n + 1) c 58 := ⟨_, rfl⟩
  have hGn : n + 1 ≤ G := by rw [hG]; exact grownCap_ge w _ _ _
  have hG63 : G ≤ maxLen := by rw [hG]; exact grownCap_le_maxLen w (n + 1) c 58 (by unfold maxLen; omega)
  obtain ⟨Z, hZ⟩ : ∃ Z : List Value, Z = (Builtin.zeroCells (Value.agg #[.string ⟨#[]⟩, .int .i64 0]).cells (n + 1 - i)).toList ++ (Builtin.zeroCells (Value.agg #[.string ⟨#[]⟩, .int .i64 0]).cells (G - (n + 1))).toList := ⟨_, rfl⟩
  have hZl : Z.length = (n + 1 - i) * 2 + (G - (n + 1)) * 2 := by rw [hZ, List.length_append, Array.length_toList, Array.length_toList, size_zeroCells, size_zeroCells]; rfl
  obtain ⟨ROW, hROW⟩ : ∃ ROW : Array Value, ROW = (xs.take (i * 2) ++ Z).toArray := ⟨_, rfl⟩
  have hRs : ROW.size = G * 2 := by rw [hROW, List.size_toArray, List.length_append, List.length_take, lx, hZl]; omega
  have hrz : ∀ ty, (Builtin.append_ #[35, 3] ty #[.slice (some ⟨g, 0, none⟩) i c, .int .i64 ((n : Int) + 1 - (i : Int))]).run Try.prog w =
      .ok (.slice (some ⟨w.heap.size, 0, none⟩) (n + 1) G) (w.drew.alloc (.cells ROW 58)) := fun ty => by
    have h := Lib.run_append_grow_zeros w 35 3 ty 58 i0 _ .i64 .i64 Try.underlying35 Try.underlying3 hi0 hz0 (some ⟨g, 0, none⟩) i c (xs.take (i * 2)) hold (n + 1 - i) (by omega) (by omega) (by omega) (by omega) (by rw [hz2]; omega) (by rw [hz2, hik]; exact growslice_fits hroom (by omega))
    rw [hik, ← hG] at h
    rw [show (n : Int) + 1 - (i : Int) = ((n + 1 - i : Nat) : Int) by omega, h, hROW, hZ]
    congr 3
    simp
  obtain ⟨W1, hW1⟩ : ∃ W1, W1 = w.drew.alloc (.cells ROW 58) := ⟨_, rfl⟩
  have hk1 : ∀ k, k < w.heap.size → W1.heap[k]? = w.heap[k]? := fun k hk => by rw [hW1]; exact Below.heap_alloc w.drew _ k hk
  have hr1 : W1.heap[w.heap.size]? = some (.cells ROW 58 (0, 0)) := by rw [hW1]; exact heap_alloc_new w.drew (.cells ROW 58)
  obtain ⟨R1, hR1⟩ : ∃ R1 : Array Value, R1 = (ROW.toList.take (i * 2) ++ es ++ ROW.toList.drop (i * 2 + es.length)).toArray := ⟨_, rfl⟩
  have hR1s : R1.size = G * 2 := by rw [hR1]; simp only [List.size_toArray, List.length_append, List.length_take, List.length_drop, Array.length_toList, hRs, hes]; omega
  have hcpA : ∀ (W : World), W.heap[w.heap.size]? = some (.cells ROW 58 (0, 0)) → W.heap[vb]? = some (.cells es.toArray 58 (0, 0)) → ∀ ty dc, (Builtin.copy_ #[35, 35] ty #[.slice (some ⟨w.heap.size, i * 2, none⟩) (n + 1 - i) dc, .slice (some ⟨vb, 0, none⟩) 1 1]).run Try.prog W = .ok (goInt (Nat.min 1 (n + 1 - i))) (W.setRow w.heap.size R1) := fun W hWg hWv ty dc => by
    rw [hR1]
    exact run_copy_rowK W _ _ ty 58 2 w.heap.size (i * 2) (n + 1 - i) dc ⟨vb, 0, none⟩ 1 1 ROW 58 es Try.underlying35 hsz hWg (by rw [hes]; simp only [Nat.min_def]; split <;> omega)
      (fun j u hj => by rw [Addr.add_lit]; simp [World.cell?, hWv, hj]) (by rw [hes, hRs]; omega) h1
  obtain ⟨R2, hR2⟩ : ∃ R2 : Array Value, R2 = (R1.toList.take ((i + 1) * 2) ++ xs.drop (i * 2) ++ R1.toList.drop ((i + 1) * 2 + (xs.drop (i * 2)).length)).toArray := ⟨_, rfl⟩
  have hcpB : ∀ (W : World), W.heap[w.heap.size]? = some (.cells R1 58 (0, 0)) → W.heap[g]? = some (.cells cur 58 (0, 0)) → ∀ ty dc sc, (Builtin.copy_ #[35, 35] ty #[.slice (some ⟨w.heap.size, (i + 1) * 2, none⟩) (n - i) dc, .slice (some ⟨g, i * 2, none⟩) (n - i) sc]).run Try.prog W = .ok (goInt (Nat.min (n - i) (n - i))) (W.setRow w.heap.size R2) := fun W hWg hWv ty dc sc => by
    rw [hR2]
    exact run_copy_rowK W _ _ ty 58 2 w.heap.size ((i + 1) * 2) (n - i) dc ⟨g, i * 2, none⟩ (n - i) sc R1 58 (xs.drop (i * 2)) Try.underlying35 hsz hWg (by rw [hdl]; congr 1; simp only [Nat.min_def]; split <;> omega)
      (fun j u hj => by rw [Addr.add_lit]; exact hxc W hWv _ u (by rwa [List.getElem?_drop] at hj)) (by rw [hdl, hR1s]; omega) (fun u hu => hx1 u (List.mem_of_mem_drop hu))
  rw [← hW1] at hrz
  have hfinal : ∀ W : World, W.heap[w.heap.size]? = some (.cells R1 58 (0, 0)) → w.grownBy W none → ∀ e, e = .returned (.slice (some ⟨w.heap.size, 0, none⟩) (n + 1) G) → InsPost 2 58 base w (.slice (some ⟨g, 0, none⟩) n c) n (xs.take (i * 2) ++ (es ++ xs.drop (i * 2))) e (W.setRow w.heap.size R2) := fun W hWg hWr e he => by
    refine ⟨_, he, ⟨?_, .inr ⟨w.heap.size, G, _, rfl, by omega, setRow_heap W w.heap.size R1 _ 58 (0, 0) hWg, hGn, hG63, ?_, ?_⟩⟩, ?_, .inr rfl⟩
    · simp only [List.length_append, List.length_take, List.length_drop, lx, hes]; omega
    · rw [hR2]; simp only [List.size_toArray, List.length_append, List.length_take, List.length_drop, Array.length_toList, hR1s, lx]; omega
    · have := grow_list xs es Z (i * 2) (n * 2) 2 lx (by omega) hes
      rw [hR2, hR1, hROW]
      rw [show (n + 1) * 2 = n * 2 + 2 by omega, show (i + 1) * 2 = i * 2 + 2 by omega]
      rw [← List.append_assoc]
      exact this
    · have h2 := setRow_grownBy W w.heap.size R2
      exact ⟨h2.os.trans hWr.os, h2.tape.trans hWr.tape, h2.output.trans hWr.output, Nat.le_trans hWr.size h2.size, fun k hk hkr => (h2.block k (Nat.lt_of_lt_of_le hk hWr.size) (fun e => by cases e; omega)).trans (hWr.block k hk (by simp))⟩
  have hs1 : W1.heap.size = w.heap.size + 1 := by rw [hW1]; simp
  have hgr : w.grownBy (W1.setRow w.heap.size R1) none := by
    have h2 := setRow_grownBy W1 w.heap.size R1
    rw [hW1] at h2 ⊢
    exact ⟨h2.os, h2.tape, h2.output, Nat.le_trans (by simp) h2.size, fun k hk _ => (h2.block k (by simp; omega) (fun e => by cases e; omega)).trans (Below.heap_alloc w.drew _ k hk)⟩
  have hg2 : (W1.setRow w.heap.size R1).heap[g]? = some (.cells cur 58 (0, 0)) := (setRow_other W1 w.heap.size g R1 (by omega)).trans ((hk1 g hgw).trans hg)
  have hr2 : (W1.setRow w.heap.size R1).heap[w.heap.size]? = some (.cells R1 58 (0, 0)) := setRow_heap W1 w.heap.size ROW R1 58 (0, 0) hr1
  have HF := Lib.hid hfinal
  have HGR := Lib.hid hgr
  have HR1 := Lib.hid hr1
  have HR2 := Lib.hid hr2
  have HG2 := Lib.hid hg2
  have HRD : Hid ((W1.setRow w.heap.size R1).drew.heap[w.heap.size]? = some (.cells R1 58 (0, 0))) := hr2
  have HGD : Hid ((W1.setRow w.heap.size R1).drew.heap[g]? = some (.cells cur 58 (0, 0))) := hg2
  have HGRD : Hid (w.grownBy (W1.setRow w.heap.size R1).drew none) := (⟨hgr.os, hgr.tape, hgr.output, hgr.size, hgr.block⟩ : w.grownBy (W1.setRow w.heap.size R1).drew none)
  have HV1 := Lib.hid ((hk1 vb hvw).trans hvb)
  have HA := Lib.hid hcpA
  have H24 := Lib.hid hcpB
  have HZ := Lib.hid hrz
  have w1' : IntKind.i64.wrap ((i : Int) + 1) = (i : Int) + 1 := by rw [IntKind.wrap_i64]; omega
  have w2' : IntKind.i64.wrap ((n : Int) + 1) = (n : Int) + 1 := by rw [IntKind.wrap_i64]; omega
  have w3' : IntKind.i64.wrap ((n : Int) + 1 - (i : Int)) = (n : Int) + 1 - (i : Int) := by rw [IntKind.wrap_i64]; omega
  have e1 : ¬ ((i : Int) = (n : Int)) := by omega
  have e2 : (c : Int) < (n : Int) + 1 := by omega
  have b1 : (0 : Int) ≤ (i : Int) + 1 := by omega
  have b2 : (i : Int) ≤ (n : Int) := by omega
  have b4 : (i : Int) + 1 ≤ (n : Int) + 1 := by omega
  have b5 : (i : Int) ≤ (n : Int) + 1 := by omega
  have b8 : (i : Int) ≤ (c : Int) := by omega
  have b6 : ¬ (G = i + 1) := by omega
  have b7 : ¬ (G = i) := by omega
  have b9 : ¬ (c = i) := by omega
  have t1 : ((i : Int) + 1).toNat = i + 1 := by omega
  have mixed : Try.prog.follows Departure.mixedOrders = true := by kernel_rfl
  unfold maxLen at hG63
  clear hW1 hfinal hgr hr1 hr2 hg2 hcpA hcpB hrz hxc hold hdl lx hR1s hR1 hR2 hROW hRs hZ hZl hG hk1 hs1 hsz hi0 hz0 hz1 hz2
  go_enter Try.func91, Try.ntmps91
  go_wp2_with (first
    | (at_builtin; refine Lib.wpList_append_run _ rfl _ _ _ _ rfl _ _ rfl rfl _ _ (HZ.out _) ?_)
    | (refine wpList_copy_runI _ rfl _ _ 35 35 rfl _ _ rfl rfl (HA.out _ HR1.out HV1.out _ _) ?_)
    | (refine wpList_copy_runI _ rfl _ _ 35 35 rfl _ _ rfl rfl (H24.out _ HR2.out HG2.out _ _ _) ?_))
  go_region_law_o (refine step_copy_runI rfl _ _ 35 35 rfl (.slice (some ⟨w.heap.size, (i + 1) * 2, none⟩) (n - i) (G - (i + 1))) (.slice (some ⟨g, i * 2, none⟩) (n - i) (c - i)) (by simp [Act.eval, Act.put]) (by simp [Act.eval, Act.put]) (H24.out _ (HRD.out) (HGD.out) 3 (G - (i + 1)) (c - i)) ?_)
  go_wp2_with fail
  go_ret
  exact HF.out _ HRD.out HGRD.out _ rfl

theorem insertSl_D (xs es : List Value) (n i : Nat) (v : Value) (base vb : Nat) (w : World) (hown : w.ownsRow base 58 2 v n xs) (hbase : base ≤ w.heap.size) (hi : i ≤ n) (hn : n ≤ 1048576) (hx1 : ∀ u ∈ xs, u.oneCell' = true) (hes : es.length = 2) (hvb : w.heap[vb]? = some (.cells es.toArray 58 (0, 0))) (hne : v.ownBlock ≠ some vb) (h1 : ∀ u ∈ es, u.oneCell' = true) :
    Calls Try.prog 91 #[v, .int .i64 i, .slice (some ⟨vb, 0, none⟩) 1 1] w (InsPost 2 58 base w v n (xs.take (i * 2) ++ (es ++ xs.drop (i * 2)))) := by
  by_cases hin : i = n
  · subst hin
    have lx := hown.1
    rw [List.take_of_length_le (by omega), List.drop_of_length_le (by omega), List.append_nil]
    exact insertSl_end_D xs es i v base vb w hown hbase hn hes (fun j u hj => by rw [Addr.add_lit]; simp [World.cell?, hvb, hj]) h1
  · rcases hown.2 with ⟨_, h0⟩ | ⟨g, c, cur, rfl, hb, hg, hnc, hcm, hcs, htk⟩
    · omega
    · by_cases hr : n + 1 ≤ c
      · exact insertSl_room_D xs es n i c g cur base vb w hb hg hcm hcs htk hx1 (by omega) hn hr hes hvb (fun e => hne (by rw [e]; rfl)) h1
      · exact insertSl_grow_D xs es n i c g cur base vb w hb hg hnc hcs htk hx1 (by omega) hn (by omega) hes hvb h1

set_option maxRecDepth 100000 in
set_option maxHeartbeats 4000000 in
theorem insertSl_end_N (xs es : List Value) (n : Nat) (v : Value) (base vb : Nat) (w : World) (hown : w.ownsRow base 24 5 v n xs) (hbase : base ≤ w.heap.size) (hn : n ≤ 1048576) (hes : es.length = 5) (hvs : ∀ j u, es[j]? = some u → w.cell? ((⟨vb, 0, none⟩ : Addr).add j) = some u) (h1 : ∀ u ∈ es, u.oneCell' = true) :
    Calls Try.prog 95 #[v, .int .i64 n, .slice (some ⟨vb, 0, none⟩) 1 1] w (InsPost 5 24 base w v n (xs ++ es)) := by
  obtain ⟨i0, hi, hz0, hz1, hz2⟩ := info_parts info24
  have I0 := Lib.hid hi
  have Z0 := Lib.hid hz0
  have Z1 := Lib.hid hz1
  have Z2 := Lib.hid hz2
  have HS := Lib.hid hvs
  have H1 := Lib.hid h1
  have HB := Lib.hid hbase
  have HO := Lib.hid hown
  have hvv : (∃ A c, v = .slice A n c ∧ n ≤ c ∧ c ≤ maxLen) := by
    rcases hown.2 with ⟨rfl, rfl⟩ | ⟨g, cap, cur, rfl, _, _, h3, h4, _⟩
    · exact ⟨_, _, rfl, Nat.le_refl _, by simp⟩
    · exact ⟨_, _, rfl, h3, h4⟩
  obtain ⟨A, c, rfl, hnc, hcm⟩ := hvv
  unfold maxLen at hcm
  have hin : (n : Int) ≤ (n : Int) := Int.le_refl _
  have h0n : (0 : Int) ≤ (n : Int) := Int.natCast_nonneg _
  clear hi hz0 hz1 hz2 hvs h1 hbase hown
  go_enter Try.func95, Try.ntmps95
  go_wp2_with (at_builtin; refine wpList_append_own_at _ rfl _ _ 22 rfl base 24 i0 _ 5 64 Try.underlying22 I0.out Z0.out Z1.out Z2.out rfl (by decide) (.slice A n c) n xs rfl HO.out ⟨vb, 0, none⟩ 1 1 es rfl (by rw [hes]) HS.out H1.out (by unfold maxLen; omega) (by omega) HB.out ?_; intro v' w1 hown1 hgrow1 _ hor)
  all_goals
    go_ret
    first
      | exact ⟨v', rfl, hown1, hgrow1, hor⟩
      | (rename_i h; subst h; exact ⟨v', rfl, hown1, hgrow1, hor⟩)

set_option maxRecDepth 100000 in
set_option maxHeartbeats 4000000 in
theorem insertSl_room_N (xs es : List Value) (n i c g : Nat) (cur : Array Value) (base vb : Nat) (w : World) (hb : base ≤ g) (hg : w.heap[g]? = some (.cells cur 24 (0, 0))) (hcm : c ≤ maxLen) (hcs : cur.size = c * 5) (htk : cur.toList.take (n * 5) = xs)
    (hx1 : ∀ u ∈ xs, u.oneCell' = true) (hi : i < n) (hn : n ≤ 1048576) (hroom : n + 1 ≤ c) (hes : es.length = 5) (hvb : w.heap[vb]? = some (.cells es.toArray 24 (0, 0))) (hne : vb ≠ g) (h1 : ∀ u ∈ es, u.oneCell' = true) :
    Calls Try.prog 95 #[.slice (some ⟨g, 0, none⟩) n c, .int .i64 i, .slice (some ⟨vb, 0, none⟩) 1 1] w (InsPost 5 24 base w (.slice (some ⟨g, 0, none⟩) n c) n (xs.take (i * 5) ++ (es ++ xs.drop (i * 5)))) := by
  obtain ⟨i0, hi0, hz0, hz1, hz2⟩ := info_parts info24
  have hsz : (Try.prog.info? 24).map (·.size) = some 5 := by rw [hi0]; simp [hz1]
  unfold maxLen at hcm
  have hz : ∀ w, (Go.sizeOf 24).run Try.prog w = .ok 5 w := fun w => by simp [sizeOf, typeInfo, hi0, hz1]
  have hsa : w.shape? vb = some (24, 5) := by unfold World.shape?; rw [hvb]; simp [hes]
  have hsb : w.shape? g = some (24, c * 5) := by unfold World.shape?; rw [hg]; simp [hcs]
  have hov : ∀ lb cb, (callFunc 111 #[.slice (some ⟨vb, 0, none⟩) 1 1, .slice (some ⟨g, (i + 1) * 5, none⟩) lb cb]).run Try.prog w = .ok (.value (.bool false)) w := fun lb cb => by
    rw [run_callFunc_extern Try.func111 (by kernel_rfl) (by kernel_rfl) (by kernel_rfl) (e := Extern.SlicesOverlaps.overlaps #[22, 22] #[4]) (by kernel_rfl),
      Lib.run_overlaps_apart w 22 4 24 Try.underlying22 5 hz ⟨vb, 0, none⟩ ⟨g, (i + 1) * 5, none⟩ 1 1 lb cb hne 24 24 5 (c * 5) hsa hsb (by omega) (by simp [World.frozen?, hvb]) (by simp [World.frozen?, hvb])]
    rfl
  have lx : xs.length = n * 5 := by rw [← htk, List.length_take, Array.length_toList, hcs]; omega
  have hdl : (xs.drop (i * 5)).length = (n - i) * 5 := by rw [List.length_drop, lx, Nat.sub_mul]
  have hsrc1 : ∀ (W : World), (W.heap[g]? = some (.cells cur 24 (0, 0))) → ∀ j u, (xs.drop (i * 5))[j]? = some u → W.cell? ((⟨g, i * 5, none⟩ : Addr).add j) = some u := fun W hW j u hj => by
    rw [Addr.add_lit]
    rw [List.getElem?_drop, ← htk] at hj
    have hlt := (List.getElem?_eq_some_iff.1 hj).1
    rw [List.length_take] at hlt
    rw [List.getElem?_take_of_lt (by omega), Array.getElem?_toList] at hj
    simp [World.cell?, hW, hj]
  obtain ⟨C1, hC1⟩ : ∃ C1 : Array Value, C1 = (cur.toList.take ((i + 1) * 5) ++ xs.drop (i * 5) ++ cur.toList.drop ((i + 1) * 5 + (xs.drop (i * 5)).length)).toArray := ⟨_, rfl⟩
  have hgd : w.drew.heap[g]? = some (.cells cur 24 (0, 0)) := hg
  have hcp1 : ∀ ty dc sc, (Builtin.copy_ #[22, 22] ty #[.slice (some ⟨g, (i + 1) * 5, none⟩) (n - i) dc, .slice (some ⟨g, i * 5, none⟩) (n + 1 - i) sc]).run Try.prog w.drew = .ok (goInt (Nat.min (n + 1 - i) (n - i))) (w.drew.setRow g C1) := fun ty dc sc => by
    rw [hC1]
    exact run_copy_rowK w.drew _ _ ty 24 5 g ((i + 1) * 5) (n - i) dc ⟨g, i * 5, none⟩ (n + 1 - i) sc cur 24 (xs.drop (i * 5)) Try.underlying22 hsz hgd (by rw [hdl]; congr 1; simp only [Nat.min_def]; split <;> omega)
      (hsrc1 _ hgd) (by rw [hdl, hcs]; omega) (fun u hu => hx1 u (List.mem_of_mem_drop hu))
  have hC1s : C1.size = c * 5 := by rw [hC1]; simp only [List.size_toArray, List.length_append, List.length_take, List.length_drop, Array.length_toList, hcs, lx]; omega
  obtain ⟨W1, hW1⟩ : ∃ W1, W1 = w.drew.setRow g C1 := ⟨_, rfl⟩
  have hg1 : W1.heap[g]? = some (.cells C1 24 (0, 0)) := by rw [hW1]; exact setRow_heap w.drew g cur C1 24 (0, 0) hg
  have hv1 : W1.heap[vb]? = some (.cells es.toArray 24 (0, 0)) := by rw [hW1]; exact (setRow_other w.drew g vb C1 hne).trans hvb
  obtain ⟨C2, hC2⟩ : ∃ C2 : Array Value, C2 = (C1.toList.take (i * 5) ++ es ++ C1.toList.drop (i * 5 + es.length)).toArray := ⟨_, rfl⟩
  have hcp2 : ∀ (W : World), W.heap[g]? = some (.cells C1 24 (0, 0)) → W.heap[vb]? = some (.cells es.toArray 24 (0, 0)) → ∀ ty dc, (Builtin.copy_ #[22, 22] ty #[.slice (some ⟨g, i * 5, none⟩) (n + 1 - i) dc, .slice (some ⟨vb, 0, none⟩) 1 1]).run Try.prog W = .ok (goInt (Nat.min 1 (n + 1 - i))) (W.setRow g C2) := fun W hWg hWv ty dc => by
    rw [hC2]
    exact run_copy_rowK W _ _ ty 24 5 g (i * 5) (n + 1 - i) dc ⟨vb, 0, none⟩ 1 1 C1 24 es Try.underlying22 hsz hWg (by rw [hes]; simp only [Nat.min_def]; split <;> omega)
      (fun j u hj => by rw [Addr.add_lit]; simp [World.cell?, hWv, hj]) (by rw [hes, hC1s]; omega) h1
  rw [← hW1] at hcp1
  have hfinal : ∀ W : World, W.heap[g]? = some (.cells C1 24 (0, 0)) → w.grownBy W (some g) → ∀ e, e = .returned (.slice (some ⟨g, 0, none⟩) (n + 1) c) → InsPost 5 24 base w (.slice (some ⟨g, 0, none⟩) n c) n (xs.take (i * 5) ++ (es ++ xs.drop (i * 5))) e (W.setRow g C2) := fun W hWg hWr e he => by
    rw [hC2]
    refine ⟨_, he, ⟨?_, .inr ⟨g, c, _, rfl, hb, setRow_heap W g C1 _ 24 (0, 0) hWg, hroom, hcm, ?_, ?_⟩⟩, ?_, .inl rfl⟩
    · simp only [List.length_append, List.length_take, List.length_drop, lx, hes]; omega
    · simp only [List.size_toArray, List.length_append, List.length_take, List.length_drop, Array.length_toList, hC1s, hes]; omega
    · have := shift_list cur.toList xs es (i * 5) (n * 5) 5 htk (by rw [Array.length_toList, hcs]; omega) (by omega) hes
      rw [hC1]
      rw [show (n + 1) * 5 = n * 5 + 5 by omega, show (i + 1) * 5 = i * 5 + 5 by omega]
      rw [← List.append_assoc]
      exact this
    · have h2 := setRow_grownBy W g (C1.toList.take (i * 5) ++ es ++ C1.toList.drop (i * 5 + es.length)).toArray
      exact ⟨h2.os.trans hWr.os, h2.tape.trans hWr.tape, h2.output.trans hWr.output, Nat.le_trans hWr.size h2.size, fun k hk hkr => (h2.block k (Nat.lt_of_lt_of_le hk hWr.size) hkr).trans (hWr.block k hk hkr)⟩
  have hgr : w.grownBy W1 (some g) := by
    rw [hW1]
    have := setRow_grownBy w.drew g C1
    exact ⟨this.os, this.tape, this.output, this.size, this.block⟩
  have HF := Lib.hid hfinal
  have HG := Lib.hid hgr
  have HG1 := Lib.hid hg1
  have HV1 := Lib.hid hv1
  have HC2 := Lib.hid hcp2
  have HC1 := Lib.hid hcp1
  have w1' : IntKind.i64.wrap ((i : Int) + 1) = (i : Int) + 1 := by rw [IntKind.wrap_i64]; omega
  have w2' : IntKind.i64.wrap ((n : Int) + 1) = (n : Int) + 1 := by rw [IntKind.wrap_i64]; omega
  have e1 : ¬ ((i : Int) = (n : Int)) := by omega
  have e2 : ¬ ((c : Int) < (n : Int) + 1) := by omega
  have b1 : (0 : Int) ≤ (i : Int) + 1 := by omega
  have b2 : (i : Int) ≤ (n : Int) := by omega
  have b3 : (n : Int) + 1 ≤ (c : Int) := by omega
  have b4 : (i : Int) + 1 ≤ (n : Int) + 1 := by omega
  have b5 : (i : Int) ≤ (n : Int) + 1 := by omega
  have b6 : ¬ (c = i + 1) := by omega
  have b7 : ¬ (c = i) := by omega
  have t1 : ((i : Int) + 1).toNat = i + 1 := by omega
  have t2 : ((n : Int) + 1).toNat = n + 1 := by omega
  have mixed : Try.prog.follows Departure.mixedOrders = true := by kernel_rfl
  clear hC2 hW1 hfinal hgr hg1 hv1 hcp2 hcp1 hsrc1 hdl lx hC1s hC1 hz hsz hsa hsb hi0 hz0 hz1 hz2 hgd
  go_enter Try.func95, Try.ntmps95
  go_wp2_with (simp only [hov])
  go_region_law_o (refine step_copy_runI rfl _ _ 22 22 rfl (.slice (some ⟨g, (i + 1) * 5, none⟩) (n - i) (c - (i + 1))) (.slice (some ⟨g, i * 5, none⟩) (n + 1 - i) (c - i)) (by simp [Act.eval, Act.put]) (by simp [Act.eval, Act.put]) (HC1.out 3 (c - (i + 1)) (c - i)) ?_)
  go_wp2_with (refine wpList_copy_runI _ rfl _ _ 22 22 rfl _ _ rfl rfl (HC2.out _ HG1.out HV1.out _ _) ?_)
  go_ret
  exact HF.out _ HG1.out HG.out _ rfl

set_option maxRecDepth 100000 in
set_option maxHeartbeats 4000000 in
theorem insertSl_grow_N (xs es : List Value) (n i c g : Nat) (cur : Array Value) (base vb : Nat) (w : World) (hb : base ≤ g) (hg : w.heap[g]? = some (.cells cur 24 (0, 0))) (hnc : n ≤ c) (hcs : cur.size = c * 5) (htk : cur.toList.take (n * 5) = xs)
    (hx1 : ∀ u ∈ xs, u.oneCell' = true) (hi : i < n) (hn : n ≤ 1048576) (hroom : c < n + 1) (hes : es.length = 5) (hvb : w.heap[vb]? = some (.cells es.toArray 24 (0, 0))) (h1 : ∀ u ∈ es, u.oneCell' = true) :
    Calls Try.prog 95 #[.slice (some ⟨g, 0, none⟩) n c, .int .i64 i, .slice (some ⟨vb, 0, none⟩) 1 1] w (InsPost 5 24 base w (.slice (some ⟨g, 0, none⟩) n c) n (xs.take (i * 5) ++ (es ++ xs.drop (i * 5)))) := by
  obtain ⟨i0, hi0, hz0, hz1, hz2⟩ := info_parts info24
  have hsz : (Try.prog.info? 24).map (·.size) = some 5 := by rw [hi0]; simp [hz1]
  have lx : xs.length = n * 5 := by rw [← htk, List.length_take, Array.length_toList, hcs]; omega
  have hdl : (xs.drop (i * 5)).length = (n - i) * 5 := by rw [List.length_drop, lx, Nat.sub_mul]
  have hgw : g < w.heap.size := (Array.getElem?_eq_some_iff.1 hg).1
  have hvw : vb < w.heap.size := (Array.getElem?_eq_some_iff.1 hvb).1
  have hxc : ∀ (W : World), W.heap[g]? = some (.cells cur 24 (0, 0)) → ∀ j u, xs[j]? = some u → W.cell? ⟨g, j, none⟩ = some u := fun W hW j u hj => by
    rw [← htk] at hj
    have hlt := (List.getElem?_eq_some_iff.1 hj).1
    rw [List.length_take] at hlt
    rw [List.getElem?_take_of_lt (by omega), Array.getElem?_toList] at hj
    simp [World.cell?, hW, hj]
  have hold : (Builtin.firstCells i0.size i (.slice (some ⟨g, 0, none⟩) i c)).run Try.prog w.drew = .ok (xs.take (i * 5)).toArray w.drew := by
    rw [hz1]
    exact run_firstCells_some w.drew 5 i ⟨g, 0, none⟩ i c (xs.take (i * 5)) (by rw [List.length_take, lx]; omega) (fun j v hj => by
      rw [Addr.add_lit, Nat.zero_add]
      rw [List.getElem?_take] at hj
      split at hj
      · exact hxc _ hg j v hj
      · cases hj)
  have hik : i + (n + 1 - i) = n + 1 := by omega
  obtain ⟨G, hG⟩ : ∃ G, G = grownCap w (n + 1) c 24 := ⟨_, rfl⟩
  have hGn : n + 1 ≤ G := by rw [hG]; exact grownCap_ge w _ _ _
  have hG63 : G ≤ maxLen := by rw [hG]; exact grownCap_le_maxLen w (n + 1) c 24 (by unfold maxLen; omega)
  obtain ⟨Z, hZ⟩ : ∃ Z : List Value, Z = (Builtin.zeroCells (Value.agg #[.int .i64 0, .int .i64 0, .string ⟨#[]⟩, .int .i64 0, .slice none 0 0]).cells (n + 1 - i)).toList ++ (Builtin.zeroCells (Value.agg #[.int .i64 0, .int .i64 0, .string ⟨#[]⟩, .int .i64 0, .slice none 0 0]).cells (G - (n + 1))).toList := ⟨_, rfl⟩
  have hZl : Z.length = (n + 1 - i) * 5 + (G - (n + 1)) * 5 := by rw [hZ, List.length_append, Array.length_toList, Array.length_toList, size_zeroCells, size_zeroCells]; rfl
  obtain ⟨ROW, hROW⟩ : ∃ ROW : Array Value, ROW = (xs.take (i * 5) ++ Z).toArray := ⟨_, rfl⟩
  have hRs : ROW.size = G * 5 := by rw [hROW, List.size_toArray, List.length_append, List.length_take, lx, hZl]; omega
  have hrz : ∀ ty, (Builtin.append_ #[22, 3] ty #[.slice (some ⟨g, 0, none⟩) i c, .int .i64 ((n : Int) + 1 - (i : Int))]).run Try.prog w =
      .ok (.slice (some ⟨w.heap.size, 0, none⟩) (n + 1) G) (w.drew.alloc (.cells ROW 24)) := fun ty => by
    have h := Lib.run_append_grow_zeros w 22 3 ty 24 i0 _ .i64 .i64 Try.underlying22 Try.underlying3 hi0 hz0 (some ⟨g, 0, none⟩) i c (xs.take (i * 5)) hold (n + 1 - i) (by omega) (by omega) (by omega) (by omega) (by rw [hz2]; omega) (by rw [hz2, hik]; exact growslice_fits hroom (by omega))
    rw [hik, ← hG] at h
    rw [show (n : Int) + 1 - (i : Int) = ((n + 1 - i : Nat) : Int) by omega, h, hROW, hZ]
    congr 3
    simp
  obtain ⟨W1, hW1⟩ : ∃ W1, W1 = w.drew.alloc (.cells ROW 24) := ⟨_, rfl⟩
  have hk1 : ∀ k, k < w.heap.size → W1.heap[k]? = w.heap[k]? := fun k hk => by rw [hW1]; exact Below.heap_alloc w.drew _ k hk
  have hr1 : W1.heap[w.heap.size]? = some (.cells ROW 24 (0, 0)) := by rw [hW1]; exact heap_alloc_new w.drew (.cells ROW 24)
  obtain ⟨R1, hR1⟩ : ∃ R1 : Array Value, R1 = (ROW.toList.take (i * 5) ++ es ++ ROW.toList.drop (i * 5 + es.length)).toArray := ⟨_, rfl⟩
  have hR1s : R1.size = G * 5 := by rw [hR1]; simp only [List.size_toArray, List.length_append, List.length_take, List.length_drop, Array.length_toList, hRs, hes]; omega
  have hcpA : ∀ (W : World), W.heap[w.heap.size]? = some (.cells ROW 24 (0, 0)) → W.heap[vb]? = some (.cells es.toArray 24 (0, 0)) → ∀ ty dc, (Builtin.copy_ #[22, 22] ty #[.slice (some ⟨w.heap.size, i * 5, none⟩) (n + 1 - i) dc, .slice (some ⟨vb, 0, none⟩) 1 1]).run Try.prog W = .ok (goInt (Nat.min 1 (n + 1 - i))) (W.setRow w.heap.size R1) := fun W hWg hWv ty dc => by
    rw [hR1]
    exact run_copy_rowK W _ _ ty 24 5 w.heap.size (i * 5) (n + 1 - i) dc ⟨vb, 0, none⟩ 1 1 ROW 24 es Try.underlying22 hsz hWg (by rw [hes]; simp only [Nat.min_def]; split <;> omega)
      (fun j u hj => by rw [Addr.add_lit]; simp [World.cell?, hWv, hj]) (by rw [hes, hRs]; omega) h1
  obtain ⟨R2, hR2⟩ : ∃ R2 : Array Value, R2 = (R1.toList.take ((i + 1) * 5) ++ xs.drop (i * 5) ++ R1.toList.drop ((i + 1) * 5 + (xs.drop (i * 5)).length)).toArray := ⟨_, rfl⟩
  have hcpB : ∀ (W : World), W.heap[w.heap.size]? = some (.cells R1 24 (0, 0)) → W.heap[g]? = some (.cells cur 24 (0, 0)) → ∀ ty dc sc, (Builtin.copy_ #[22, 22] ty #[.slice (some ⟨w.heap.size, (i + 1) * 5, none⟩) (n - i) dc, .slice (some ⟨g, i * 5, none⟩) (n - i) sc]).run Try.prog W = .ok (goInt (Nat.min (n - i) (n - i))) (W.setRow w.heap.size R2) := fun W hWg hWv ty dc sc => by
    rw [hR2]
    exact run_copy_rowK W _ _ ty 24 5 w.heap.size ((i + 1) * 5) (n - i) dc ⟨g, i * 5, none⟩ (n - i) sc R1 24 (xs.drop (i * 5)) Try.underlying22 hsz hWg (by rw [hdl]; congr 1; simp only [Nat.min_def]; split <;> omega)
      (fun j u hj => by rw [Addr.add_lit]; exact hxc W hWv _ u (by rwa [List.getElem?_drop] at hj)) (by rw [hdl, hR1s]; omega) (fun u hu => hx1 u (List.mem_of_mem_drop hu))
  rw [← hW1] at hrz
  have hfinal : ∀ W : World, W.heap[w.heap.size]? = some (.cells R1 24 (0, 0)) → w.grownBy W none → ∀ e, e = .returned (.slice (some ⟨w.heap.size, 0, none⟩) (n + 1) G) → InsPost 5 24 base w (.slice (some ⟨g, 0, none⟩) n c) n (xs.take (i * 5) ++ (es ++ xs.drop (i * 5))) e (W.setRow w.heap.size R2) := fun W hWg hWr e he => by
    refine ⟨_, he, ⟨?_, .inr ⟨w.heap.size, G, _, rfl, by omega, setRow_heap W w.heap.size R1 _ 24 (0, 0) hWg, hGn, hG63, ?_, ?_⟩⟩, ?_, .inr rfl⟩
    · simp only [List.length_append, List.length_take, List.length_drop, lx, hes]; omega
    · rw [hR2]; simp only [List.size_toArray, List.length_append, List.length_take, List.length_drop, Array.length_toList, hR1s, lx]; omega
    · have := grow_list xs es Z (i * 5) (n * 5) 5 lx (by omega) hes
      rw [hR2, hR1, hROW]
      rw [show (n + 1) * 5 = n * 5 + 5 by omega, show (i + 1) * 5 = i * 5 + 5 by omega]
      rw [← List.append_assoc]
      exact this
    · have h2 := setRow_grownBy W w.heap.size R2
      exact ⟨h2.os.trans hWr.os, h2.tape.trans hWr.tape, h2.output.trans hWr.output, Nat.le_trans hWr.size h2.size, fun k hk hkr => (h2.block k (Nat.lt_of_lt_of_le hk hWr.size) (fun e => by cases e; omega)).trans (hWr.block k hk (by simp))⟩
  have hs1 : W1.heap.size = w.heap.size + 1 := by rw [hW1]; simp
  have hgr : w.grownBy (W1.setRow w.heap.size R1) none := by
    have h2 := setRow_grownBy W1 w.heap.size R1
    rw [hW1] at h2 ⊢
    exact ⟨h2.os, h2.tape, h2.output, Nat.le_trans (by simp) h2.size, fun k hk _ => (h2.block k (by simp; omega) (fun e => by cases e; omega)).trans (Below.heap_alloc w.drew _ k hk)⟩
  have hg2 : (W1.setRow w.heap.size R1).heap[g]? = some (.cells cur 24 (0, 0)) := (setRow_other W1 w.heap.size g R1 (by omega)).trans ((hk1 g hgw).trans hg)
  have hr2 : (W1.setRow w.heap.size R1).heap[w.heap.size]? = some (.cells R1 24 (0, 0)) := setRow_heap W1 w.heap.size ROW R1 24 (0, 0) hr1
  have HF := Lib.hid hfinal
  have HGR := Lib.hid hgr
  have HR1 := Lib.hid hr1
  have HR2 := Lib.hid hr2
  have HG2 := Lib.hid hg2
  have HRD : Hid ((W1.setRow w.heap.size R1).drew.heap[w.heap.size]? = some (.cells R1 24 (0, 0))) := hr2
  have HGD : Hid ((W1.setRow w.heap.size R1).drew.heap[g]? = some (.cells cur 24 (0, 0))) := hg2
  have HGRD : Hid (w.grownBy (W1.setRow w.heap.size R1).drew none) := (⟨hgr.os, hgr.tape, hgr.output, hgr.size, hgr.block⟩ : w.grownBy (W1.setRow w.heap.size R1).drew none)
  have HV1 := Lib.hid ((hk1 vb hvw).trans hvb)
  have HA := Lib.hid hcpA
  have H64 := Lib.hid hcpB
  have HZ := Lib.hid hrz
  have w1' : IntKind.i64.wrap ((i : Int) + 1) = (i : Int) + 1 := by rw [IntKind.wrap_i64]; omega
  have w2' : IntKind.i64.wrap ((n : Int) + 1) = (n : Int) + 1 := by rw [IntKind.wrap_i64]; omega
  have w3' : IntKind.i64.wrap ((n : Int) + 1 - (i : Int)) = (n : Int) + 1 - (i : Int) := by rw [IntKind.wrap_i64]; omega
  have e1 : ¬ ((i : Int) = (n : Int)) := by omega
  have e2 : (c : Int) < (n : Int) + 1 := by omega
  have b1 : (0 : Int) ≤ (i : Int) + 1 := by omega
  have b2 : (i : Int) ≤ (n : Int) := by omega
  have b4 : (i : Int) + 1 ≤ (n : Int) + 1 := by omega
  have b5 : (i : Int) ≤ (n : Int) + 1 := by omega
  have b8 : (i : Int) ≤ (c : Int) := by omega
  have b6 : ¬ (G = i + 1) := by omega
  have b7 : ¬ (G = i) := by omega
  have b9 : ¬ (c = i) := by omega
  have t1 : ((i : Int) + 1).toNat = i + 1 := by omega
  have mixed : Try.prog.follows Departure.mixedOrders = true := by kernel_rfl
  unfold maxLen at hG63
  clear hW1 hfinal hgr hr1 hr2 hg2 hcpA hcpB hrz hxc hold hdl lx hR1s hR1 hR2 hROW hRs hZ hZl hG hk1 hs1 hsz hi0 hz0 hz1 hz2
  go_enter Try.func95, Try.ntmps95
  go_wp2_with (first
    | (at_builtin; refine Lib.wpList_append_run _ rfl _ _ _ _ rfl _ _ rfl rfl _ _ (HZ.out _) ?_)
    | (refine wpList_copy_runI _ rfl _ _ 22 22 rfl _ _ rfl rfl (HA.out _ HR1.out HV1.out _ _) ?_)
    | (refine wpList_copy_runI _ rfl _ _ 22 22 rfl _ _ rfl rfl (H64.out _ HR2.out HG2.out _ _ _) ?_))
  go_region_law_o (refine step_copy_runI rfl _ _ 22 22 rfl (.slice (some ⟨w.heap.size, (i + 1) * 5, none⟩) (n - i) (G - (i + 1))) (.slice (some ⟨g, i * 5, none⟩) (n - i) (c - i)) (by simp [Act.eval, Act.put]) (by simp [Act.eval, Act.put]) (H64.out _ (HRD.out) (HGD.out) 3 (G - (i + 1)) (c - i)) ?_)
  go_wp2_with fail
  go_ret
  exact HF.out _ HRD.out HGRD.out _ rfl

theorem insertSl_N (xs es : List Value) (n i : Nat) (v : Value) (base vb : Nat) (w : World) (hown : w.ownsRow base 24 5 v n xs) (hbase : base ≤ w.heap.size) (hi : i ≤ n) (hn : n ≤ 1048576) (hx1 : ∀ u ∈ xs, u.oneCell' = true) (hes : es.length = 5) (hvb : w.heap[vb]? = some (.cells es.toArray 24 (0, 0))) (hne : v.ownBlock ≠ some vb) (h1 : ∀ u ∈ es, u.oneCell' = true) :
    Calls Try.prog 95 #[v, .int .i64 i, .slice (some ⟨vb, 0, none⟩) 1 1] w (InsPost 5 24 base w v n (xs.take (i * 5) ++ (es ++ xs.drop (i * 5)))) := by
  by_cases hin : i = n
  · subst hin
    have lx := hown.1
    rw [List.take_of_length_le (by omega), List.drop_of_length_le (by omega), List.append_nil]
    exact insertSl_end_N xs es i v base vb w hown hbase hn hes (fun j u hj => by rw [Addr.add_lit]; simp [World.cell?, hvb, hj]) h1
  · rcases hown.2 with ⟨_, h0⟩ | ⟨g, c, cur, rfl, hb, hg, hnc, hcm, hcs, htk⟩
    · omega
    · by_cases hr : n + 1 ≤ c
      · exact insertSl_room_N xs es n i c g cur base vb w hb hg hcm hcs htk hx1 (by omega) hn hr hes hvb (fun e => hne (by rw [e]; rfl)) h1
      · exact insertSl_grow_N xs es n i c g cur base vb w hb hg hnc hcs htk hx1 (by omega) hn (by omega) hes hvb h1
end Go.Proofs.Ytpjokapkoeclpaa
