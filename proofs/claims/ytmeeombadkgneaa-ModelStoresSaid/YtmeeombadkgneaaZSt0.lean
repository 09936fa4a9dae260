/-
  What Check asks of a tree, and that trees made anew of a checked tree's parts pass it too; the laws of stored arrays; plain mathematics.
  What the law on stored arrays returns; conditions: its arguments lie in memory.
  What the law on stored arrays returns: true; conditions: its arguments lie in memory.
-/
import Derived.Test.YtmeeombadkgneaaZEvS
import Derived.Test.YtmeeombadkgneaaZRefPut
import Derived.Test.YtmeeombadkgneaaZOpenM
import Derived.Test.YtmeeombadkgneaaZVa36
import Derived.Test.YtmeeombadkgneaaZVa20
namespace Go.Proofs.Ytmeeombadkgneaa
open Go.Proofs Go.RowKit Go.Shelf Go.Sort Go.Lib

def LevOk (lv : Int) (t : Nd) : Prop := ∀ p ∈ preN lv t, p.1 ≤ 100
theorem mem_preNs {lv : Int} {p : Int × Nd} : ∀ {l : List Nd}, p ∈ preNs lv l ↔ ∃ k ∈ l, p ∈ preN lv k
  | [] => by simp [preNs]
  | x :: xs => by
    rw [preNs, List.mem_append, mem_preNs]
    simp
theorem levOk_head {lv : Int} {t : Nd} (h : LevOk lv t) : lv ≤ 100 := h (lv, t) (by rw [preN_eq]; simp)
theorem levOk_kid {lv : Int} {t k : Nd} (h1 : 1 ≤ lv) (h : LevOk lv t) (hk : k ∈ t.ks) : LevOk (lv + 1) k := by
  have h2 := levOk_head h
  intro p hp
  refine h p ?_
  rw [preN_eq, wrap_small (by omega) (by omega)]
  exact List.mem_cons_of_mem _ (mem_preNs.2 ⟨k, hk, hp⟩)
theorem levOk_mk {lv : Int} {t : Nd} (h1 : 1 ≤ lv) (h2 : lv ≤ 100) (hk : ∀ k ∈ t.ks, LevOk (lv + 1) k) : LevOk lv t := by
  intro p hp
  rw [preN_eq, wrap_small (by omega) (by omega)] at hp
  rcases List.mem_cons.1 hp with rfl | hp
  · exact h2
  · obtain ⟨k, hk', hp⟩ := mem_preNs.1 hp
    exact hk k hk' p hp
theorem levOk_down (t : Nd) : ∀ lv, 1 ≤ lv → LevOk (lv + 1) t → LevOk lv t := by
  induction t using Nd.ind with
  | h t ih =>
  intro lv h1 h
  have h2 := levOk_head h
  refine levOk_mk h1 (by omega) fun k hk => ?_
  obtain ⟨i, hi, rfl⟩ := List.getElem_of_mem hk
  exact ih i hi (lv + 1) (by omega) (levOk_kid (by omega) h hk)
/-- What Check asks of a tree, but for its sort. -/
structure Sane (t : Nd) : Prop where
  len : cnt t ≤ 4000
  lev : LevOk 1 t
  all : allN t = true
  uok : UOk (nodesOf t)
theorem sane_of {t : Nd} (h : checkV t 0 = 0) : Sane t := by
  have h0 := check_allN h
  unfold checkV at h
  split at h
  · cases h
  split at h
  · cases h
  split at h
  · cases h
  rename_i h1 h2 h3
  have hl : limB (preN 1 t) = true := by simpa using h2
  have hl' := of_decide_eq_true hl
  have hu : uniB (List.map Prod.snd (preN 1 t)) = true := by simpa using fun e => h3 (.inr e)
  unfold uniB at hu
  exact ⟨by rw [← pre_cnt]; exact hl'.1, hl'.2, h0, @of_decide_eq_true _ (Classical.propDecidable _) hu⟩
theorem sane_check {t : Nd} (h : Sane t) : checkV t 0 = 0 := by
  unfold checkV
  rw [if_neg (by decide), if_neg (by rw [show limB (preN 1 t) = true from decide_eq_true ⟨by rw [pre_cnt]; exact h.len, h.lev⟩]; simp), if_neg, if_neg (by simp)]
  rw [allN_pre, h.all, show uniB (List.map Prod.snd (preN 1 t)) = true from uniB_true h.uok]
  simp
theorem uok_sub {l m : List Nd} (h : UOk l) (hs : ∀ x ∈ m, x ∈ l) : UOk m := fun y hy z hz => h y (hs y hy) z (hs z hz)
theorem sane_mk {op so nu : Int} {nm : ByteArray} {ks : List Nd} {L : List Nd} (h1 : op ≠ 1) (h3 : op ≠ 3) (ho : okN (.mk op so nm nu ks) = true) (hc : cnt (.mk op so nm nu ks) ≤ 4000) (hL : UOk L)
    (hk : ∀ k ∈ ks, LevOk 2 k ∧ allN k = true ∧ ∀ p ∈ nodesOf k, p ∈ L) : Sane (.mk op so nm nu ks) := by
  refine ⟨hc, levOk_mk (by decide) (by decide) fun k h => (hk k h).1, ?_, ?_⟩
  · rw [allN_eq, ho, Bool.true_and]
    exact List.all_eq_true.2 fun k h => (hk k h).2.1
  · rw [nodesOf_eq]
    have hn : ∀ z ∈ (Nd.mk op so nm nu ks).ks.flatMap nodesOf, z ∈ L := fun z hz => by
      obtain ⟨k, hk', hz⟩ := List.mem_flatMap.1 hz
      exact (hk k hk').2.2 z hz
    intro y hy z hz hcf
    rcases List.mem_cons.1 hy with rfl | hy
    · exact h1 hcf.2.1
    · rcases List.mem_cons.1 hz with rfl | hz
      · rcases hcf.2.2 with ⟨h, _⟩ | h
        · exact h1 h
        · exact h3 h.1
      · exact hL y (hn y hy) z (hn z hz) hcf
theorem sane_kid {t k : Nd} (h : Sane t) (hk : k ∈ t.ks) : Sane k ∧ LevOk 2 k ∧ ∀ p ∈ nodesOf k, p ∈ nodesOf t := by
  have hs : ∀ p ∈ nodesOf k, p ∈ nodesOf t := fun p hp => by
    rw [nodesOf_eq]; exact List.mem_cons_of_mem _ (List.mem_flatMap.2 ⟨k, hk, hp⟩)
  have hl : LevOk 2 k := levOk_kid (by decide) h.lev hk
  have ha := h.all
  rw [allN_eq, Bool.and_eq_true] at ha
  have := cnt_kid hk
  have := h.len
  exact ⟨⟨by omega, levOk_down k 1 (by decide) hl, List.all_eq_true.1 ha.2 k hk, uok_sub h.uok hs⟩, hl, hs⟩
theorem hole_of {t : Nd} (h : ∀ p ∈ nodesOf t, p.op ≠ 42) : holeB (preN 1 t) = false := by
  unfold holeB
  rw [List.any_eq_false]
  intro q hq e
  exact h q.2 (List.mem_map.2 ⟨q, hq, rfl⟩) (by simpa using e)
/-- Value answers well. -/
structure ValOk (l : List EA) (t : Nd) (v : Vl) : Prop where
  sane : Sane t
  good : validM l = true
  hole : ∀ p ∈ nodesOf t, p.op ≠ 42
  ev : evO l t = some v
theorem valOk_of {l : List EA} {t : Nd} (h : valE l t 0 = 0) : ∃ v, ValOk l t v ∧ valV l t 0 = v := by
  have h' := h
  unfold valE at h
  split at h
  · rename_i hc; exact absurd h hc
  rename_i hc
  split at h
  · cases h
  rename_i h2
  split at h
  · cases h
  rename_i h3
  have hc' : checkV t 0 = 0 := by simpa using hc
  have hv : validM l = true := by simpa using fun e => h2 (.inl e)
  have hh : holeB (preN 1 t) = false := by simpa using fun e => h2 (.inr e)
  cases he : evO l t with
  | none => exact absurd he h3
  | some v => exact ⟨v, ⟨sane_of hc', hv, hole_no hh, he⟩, valV_ok h' he⟩
theorem ValOk.err {l : List EA} {t : Nd} {v : Vl} (h : ValOk l t v) : valE l t 0 = 0 := valE_ok (sane_check h.sane) h.good (hole_of h.hole) h.ev
theorem ValOk.val {l : List EA} {t : Nd} {v : Vl} (h : ValOk l t v) : valV l t 0 = v := valV_ok h.err h.ev
theorem ValOk.ok {l : List EA} {t : Nd} {v : Vl} (h : ValOk l t v) : OkV v ∧ v.so = sortN t := evO_ok h.good t h.sane.all h.hole v h.ev
theorem ValOk.kid {l : List EA} {t k : Nd} {v : Vl} (h : ValOk l t v) (hk : k ∈ t.ks) : ∃ u, ValOk l k u := by
  obtain ⟨hs, _, hn⟩ := sane_kid h.sane hk
  have hev := h.ev
  cases hvs : evOs l t.ks with
  | none => rw [evO_none hvs] at hev; cases hev
  | some vs =>
    obtain ⟨hl, hi⟩ := evOs_len hvs
    obtain ⟨i, hi', rfl⟩ := List.getElem_of_mem hk
    exact ⟨_, hs, h.good, fun p hp => h.hole p (hn p hp), hi i hi' (by omega)⟩
theorem evOs_two {l : List EA} {a b : Nd} {x y : Vl} (ha : evO l a = some x) (hb : evO l b = some y) : evOs l [a, b] = some [x, y] := by
  rw [evOs, ha, evOs, hb, evOs]
theorem evOs_one {l : List EA} {a : Nd} {x : Vl} (ha : evO l a = some x) : evOs l [a] = some [x] := by
  rw [evOs, ha, evOs]
theorem evOs_three {l : List EA} {a b c : Nd} {x y z : Vl} (ha : evO l a = some x) (hb : evO l b = some y) (hc : evO l c = some z) : evOs l [a, b, c] = some [x, y, z] := by
  rw [evOs, ha, evOs, hb, evOs, hc, evOs]
/-- The empty name. -/
abbrev nm0 : ByteArray := ⟨#[]⟩
abbrev stoT (a i x : Nd) : Nd := .mk 15 0 nm0 0 [a, i, x]
abbrev selT (a j : Nd) : Nd := .mk 14 0 nm0 0 [a, j]
abbrev lenT (a : Nd) : Nd := .mk 16 0 nm0 0 [a]
theorem okN_sel {a j : Nd} (ha : sortN a = 5) (hj : sortN j = 1) : okN (selT a j) = true := by
  unfold okN
  rw [show fieldsB (selT a j).op (selT a j).so (selT a j).nm (selT a j).nu = true from (by decide +kernel : fieldsB 14 0 nm0 0 = true), Bool.true_and]
  simp [kidsB, takesB, Nd.op, Nd.ks, ha, hj]
theorem okN_len {a : Nd} (ha : sortN a = 5) : okN (lenT a) = true := by
  unfold okN
  rw [show fieldsB (lenT a).op (lenT a).so (lenT a).nm (lenT a).nu = true from (by decide +kernel : fieldsB 16 0 nm0 0 = true), Bool.true_and]
  simp [kidsB, takesB, Nd.op, Nd.ks, ha]
theorem okV_int {v : Vl} (h : OkV v) (hs : v.so = 1) : v = ⟨1, v.nu, [], [], []⟩ := by
  obtain ⟨so, nu, st, ix, xs⟩ := v
  have := h.sh
  unfold shapeV at this
  rw [if_pos (.inl hs)] at this
  have hh := of_decide_eq_true this
  have h2 : ix = [] := List.length_eq_zero_iff.1 hh.2
  have h3 : xs = [] := List.length_eq_zero_iff.1 (by have := h.len; rw [show (⟨so, nu, st, ix, xs⟩ : Vl).ix = [] from h2] at this; exact this)
  have h1 : st = [] := List.length_eq_zero_iff.1 hh.1
  subst h1 h2 h3
  have h4 : so = 1 := hs
  subst h4
  rfl
/-- What is stored is read. -/
theorem at_same {ix xs : List Int} (ha : AscI ix) (hlen : xs.length = ix.length) (k n : Int) : atI (stoI ix ix k n k) (stoI ix xs k n n) k = n := by
  by_cases h : n = 0
  · unfold atI
    rw [if_neg (fun hm => by rcases (sto_mem ha k n k).1 hm with ⟨_, h2⟩ | ⟨_, h2⟩; exact h2 h; exact h2 rfl)]
    exact h.symm
  · have hm : k ∈ stoI ix ix k n k := (sto_mem ha k n k).2 (.inl ⟨rfl, h⟩)
    obtain ⟨i, hi, e⟩ := List.getElem_of_mem hm
    rw [atI_hit (sto_asc ha k n) (sto_len _ _ hlen _ _ _ _) hi e]
    have := sto_vals ha hlen k n
    rw [List.getElem_of_eq this (by rw [sto_len _ _ hlen _ _ _ k]; exact hi), List.getElem_map, e, if_pos rfl]
/-- Other indices are as before. -/
theorem at_other {ix xs : List Int} (ha : AscI ix) (hlen : xs.length = ix.length) (k n z : Int) (hz : z ≠ k) : atI (stoI ix ix k n k) (stoI ix xs k n n) z = atI ix xs z := by
  by_cases hm : z ∈ ix
  · have hm' : z ∈ stoI ix ix k n k := (sto_mem ha k n z).2 (.inr ⟨hm, hz⟩)
    obtain ⟨i, hi, e⟩ := List.getElem_of_mem hm'
    rw [atI_hit (sto_asc ha k n) (sto_len _ _ hlen _ _ _ _) hi e]
    have := sto_vals ha hlen k n
    rw [List.getElem_of_eq this (by rw [sto_len _ _ hlen _ _ _ k]; exact hi), List.getElem_map, e, if_neg hz]
  · have hm' : ¬ z ∈ stoI ix ix k n k := fun h => by rcases (sto_mem ha k n z).1 h with ⟨h1, _⟩ | ⟨h1, _⟩; exact hz h1; exact hm h1
    unfold atI
    rw [if_neg hm, if_neg hm']
/-- The parts of what the law asks for first. -/
structure StoFacts (l : List EA) (a i j x : Nd) (v : Vl) : Prop where
  parts : ∃ va vi vj vx, ValOk l a va ∧ ValOk l i vi ∧ ValOk l j vj ∧ ValOk l x vx ∧ valV l i 0 = vi ∧ valV l j 0 = vj ∧
    (vi.nu = vj.nu → v = vx) ∧ (vi.nu ≠ vj.nu → ValOk l (selT a j) v) ∧ ValOk l (lenT (stoT a i x)) ⟨1, va.nu, [], [], []⟩ ∧ ValOk l (lenT a) ⟨1, va.nu, [], [], []⟩
set_option maxHeartbeats 1000000 in
theorem stores_facts {l : List EA} {a i j x : Nd} (sa : sortN a = 5) (sj : sortN j = 1) {v : Vl} (h : ValOk l (selT (stoT a i x) j) v) : StoFacts l a i j x v := by
  obtain ⟨hsS, hlS, hnS⟩ := sane_kid h.sane (k := stoT a i x) (by simp [Nd.ks])
  obtain ⟨hsj, hlj, hnj⟩ := sane_kid h.sane (k := j) (by simp [Nd.ks])
  obtain ⟨vs, HS⟩ := h.kid (k := stoT a i x) (by simp [Nd.ks])
  obtain ⟨vj, HJ⟩ := h.kid (k := j) (by simp [Nd.ks])
  obtain ⟨va, HA⟩ := HS.kid (k := a) (by simp [Nd.ks])
  obtain ⟨vi, HI⟩ := HS.kid (k := i) (by simp [Nd.ks])
  obtain ⟨vx, HX⟩ := HS.kid (k := x) (by simp [Nd.ks])
  obtain ⟨hsa, hla, hna⟩ := sane_kid hsS (k := a) (by simp [Nd.ks])
  obtain ⟨oka, soa⟩ := HA.ok
  obtain ⟨okx, sox⟩ := HX.ok
  have soS : sortN (stoT a i x) = 5 := by rw [sortN_no (by simp [Nd.op])]; simp [sortO, Nd.op]
  have sx : sortN x = 1 := by
    have := HS.sane.all
    rw [allN_eq, Bool.and_eq_true] at this
    have hk := this.1
    unfold okN at hk
    rw [Bool.and_eq_true] at hk
    have : [a, i, x].map sortN = [5, 1, 1] := by simpa [kidsB, takesB, Nd.op, Nd.ks] using hk.2
    simpa using (List.cons.inj (List.cons.inj (List.cons.inj this).2).2).1
  have eS : stoO va vi.nu vx.nu = some vs := by
    have := HS.ev
    rw [evO_some (vs := [va, vi, vx]) (evOs_three HA.ev HI.ev HX.ev)] at this
    simpa [apO, k0, k1, k2, Nd.op] using this
  have eV : intO (atI vs.ix vs.xs vj.nu) = some v := by
    have := h.ev
    rw [evO_some (vs := [vs, vj]) (evOs_two HS.ev HJ.ev)] at this
    simpa [apO, k0, k1, Nd.op] using this
  have hvs : vs = stoV va vi.nu vx.nu := by
    unfold stoO at eS
    split at eS
    · exact (Option.some.inj eS).symm
    · cases eS
  have hv : v = ⟨1, atI vs.ix vs.xs vj.nu, [], [], []⟩ := by
    unfold intO at eV
    split at eV
    · exact (Option.some.inj eV).symm
    · cases eV
  have hcS := cnt_eq (stoT a i x)
  have hcT := cnt_eq (selT (stoT a i x) j)
  have hlenT := h.sane.len
  simp only [Nd.ks, List.map_cons, List.map_nil, List.sum_cons, List.sum_nil] at hcS hcT
  refine ⟨va, vi, vj, vx, HA, HI, HJ, HX, HI.val, HJ.val, fun he => ?_, fun hne => ?_, ?_, ?_⟩
  · rw [hv, hvs, ← he]
    have hs1 : vx.so = 1 := by omega
    rw [okV_int okx hs1]
    show (⟨1, atI (stoI va.ix va.ix vi.nu vx.nu vi.nu) (stoI va.ix va.xs vi.nu vx.nu vx.nu) vi.nu, [], [], []⟩ : Vl) = _
    rw [at_same oka.s2 oka.len]
  · have hat : atI vs.ix vs.xs vj.nu = atI va.ix va.xs vj.nu := by
      rw [hvs]
      exact at_other oka.s2 oka.len vi.nu vx.nu vj.nu (fun e => hne e.symm)
    refine ⟨sane_mk (L := nodesOf (selT (stoT a i x) j)) (by decide) (by decide) (okN_sel sa sj) ?_ h.sane.uok fun k hk => ?_, h.good, fun p hp => ?_, ?_⟩
    · rw [cnt_eq]; simp only [Nd.ks, List.map_cons, List.map_nil, List.sum_cons, List.sum_nil]; omega
    · simp only [List.mem_cons, List.not_mem_nil, or_false] at hk
      rcases hk with rfl | rfl
      · exact ⟨levOk_down _ 2 (by decide) (levOk_kid (by decide) hlS (by simp [Nd.ks])), hsa.all, fun p hp => hnS p (hna p hp)⟩
      · exact ⟨hlj, hsj.all, hnj⟩
    · rw [nodesOf_eq] at hp
      rcases List.mem_cons.1 hp with rfl | hp
      · exact (by decide : (14 : Int) ≠ 42)
      · obtain ⟨k, hk, hq⟩ := List.mem_flatMap.1 hp
        simp only [Nd.ks, List.mem_cons, List.not_mem_nil, or_false] at hk
        rcases hk with rfl | rfl
        · exact HA.hole p hq
        · exact HJ.hole p hq
    · rw [evO_some (vs := [va, vj]) (evOs_two HA.ev HJ.ev)]
      rw [hat] at eV
      simpa [apO, k0, k1, Nd.op] using eV
  · refine ⟨sane_mk (L := nodesOf (selT (stoT a i x) j)) (by decide) (by decide) (okN_len soS) ?_ h.sane.uok fun k hk => ?_, h.good, fun p hp => ?_, ?_⟩
    · rw [cnt_eq]; simp only [Nd.ks, List.map_cons, List.map_nil, List.sum_cons, List.sum_nil]; omega
    · simp only [List.mem_cons, List.not_mem_nil, or_false] at hk
      subst hk
      exact ⟨hlS, hsS.all, hnS⟩
    · rw [nodesOf_eq] at hp
      rcases List.mem_cons.1 hp with rfl | hp
      · exact (by decide : (16 : Int) ≠ 42)
      · obtain ⟨k, hk, hq⟩ := List.mem_flatMap.1 hp
        simp only [Nd.ks, List.mem_cons, List.not_mem_nil, or_false] at hk
        subst hk
        exact HS.hole p hq
    · rw [evO_some (vs := [vs]) (evOs_one HS.ev)]
      have hb : bndB va.nu = true := oka.nu
      rw [hvs]
      simp [apO, k0, Nd.op, intO, stoV, hb]
  · refine ⟨sane_mk (L := nodesOf (selT (stoT a i x) j)) (by decide) (by decide) (okN_len sa) ?_ h.sane.uok fun k hk => ?_, h.good, fun p hp => ?_, ?_⟩
    · rw [cnt_eq]; simp only [Nd.ks, List.map_cons, List.map_nil, List.sum_cons, List.sum_nil]; omega
    · simp only [List.mem_cons, List.not_mem_nil, or_false] at hk
      subst hk
      exact ⟨levOk_down _ 2 (by decide) (levOk_kid (by decide) hlS (by simp [Nd.ks])), hsa.all, fun p hp => hnS p (hna p hp)⟩
    · rw [nodesOf_eq] at hp
      rcases List.mem_cons.1 hp with rfl | hp
      · exact (by decide : (16 : Int) ≠ 42)
      · obtain ⟨k, hk, hq⟩ := List.mem_flatMap.1 hp
        simp only [Nd.ks, List.mem_cons, List.not_mem_nil, or_false] at hk
        subst hk
        exact HA.hole p hq
    · rw [evO_some (vs := [va]) (evOs_one HA.ev)]
      have hb : bndB va.nu = true := oka.nu
      simp [apO, k0, Nd.op, intO, hb]
end Go.Proofs.Ytmeeombadkgneaa
namespace Go.Proofs.Ytmeeombadkgneaa
open Go.Proofs Go.RowKit Go.Shelf Go.Sort Go.Lib

attribute [local go_sem] Oper.semAt_some
abbrev nc (t : Nd) (A : Option Addr) (c : Nat) : List Value := [.int .i64 t.op, .int .i64 t.so, .string t.nm, .int .i64 t.nu, .slice A t.ks.length c]
theorem five_row {W : World} {g : Nat} {ty : TypeId} {t : Nd} {A : Option Addr} {c o : Nat} {cur : Array Value} (h : W.heap[g]? = some (.cells cur ty (0, 0))) (h0 : ∀ j, j < 5 → cur[o + j]? = (nc t A c)[j]?) : Five W g o t (.slice A t.ks.length c) :=
  ⟨cell_row h (by rw [← Nat.add_zero o]; exact h0 0 (by omega)), cell_row h (h0 1 (by omega)), cell_row h (h0 2 (by omega)), cell_row h (h0 3 (by omega)), cell_row h (h0 4 (by omega))⟩
/-- A list of nodes that has just been laid. -/
theorem lies_one {W : World} {g : Nat} {ty : TypeId} {t : Nd} {A : Option Addr} {c cap : Nat} (h : W.heap[g]? = some (.cells #[.int .i64 t.op, .int .i64 t.so, .string t.nm, .int .i64 t.nu, .slice A t.ks.length c] ty (0, 0))) (hk : Lies W A c t.ks) (hf : Fine t) : Lies W (some ⟨g, 0, none⟩) cap [t] := by
  refine .mk _ _ _ (by simp [maxLen]) g 0 (fun _ => A) (fun _ => c) (fun _ => rfl) (fun i hi => ?_) (fun i hi => ?_) (fun i hi => ?_)
  all_goals
    have hi' : i = 0 := by simp at hi; omega
    subst hi'
  · exact five_row h fun j hj => by rcases j with _ | _ | _ | _ | _ | j <;> first | rfl | omega
  · exact hk
  · exact hf
theorem lies_two {W : World} {g : Nat} {ty : TypeId} {t u : Nd} {A B : Option Addr} {c d cap : Nat} (h : W.heap[g]? = some (.cells #[.int .i64 t.op, .int .i64 t.so, .string t.nm, .int .i64 t.nu, .slice A t.ks.length c, .int .i64 u.op, .int .i64 u.so, .string u.nm, .int .i64 u.nu, .slice B u.ks.length d] ty (0, 0)))
    (hk : Lies W A c t.ks) (hf : Fine t) (hk2 : Lies W B d u.ks) (hf2 : Fine u) : Lies W (some ⟨g, 0, none⟩) cap [t, u] := by
  refine .mk _ _ _ (by simp [maxLen]) g 0 (fun i => if i = 0 then A else B) (fun i => if i = 0 then c else d) (fun _ => rfl) (fun i hi => ?_) (fun i hi => ?_) (fun i hi => ?_)
  all_goals
    have hi' : i = 0 ∨ i = 1 := by simp at hi; omega
    rcases hi' with rfl | rfl
  · exact five_row h fun j hj => by rcases j with _ | _ | _ | _ | _ | j <;> first | rfl | omega
  · exact five_row h fun j hj => by rcases j with _ | _ | _ | _ | _ | j <;> first | rfl | omega
  · exact hk
  · exact hk2
  · exact hf
  · exact hf2
theorem lies_three {W : World} {g : Nat} {ty : TypeId} {t u v : Nd} {A B C : Option Addr} {c d e cap : Nat} (h : W.heap[g]? = some (.cells #[.int .i64 t.op, .int .i64 t.so, .string t.nm, .int .i64 t.nu, .slice A t.ks.length c, .int .i64 u.op, .int .i64 u.so, .string u.nm, .int .i64 u.nu, .slice B u.ks.length d, .int .i64 v.op, .int .i64 v.so, .string v.nm, .int .i64 v.nu, .slice C v.ks.length e] ty (0, 0)))
    (hk : Lies W A c t.ks) (hf : Fine t) (hk2 : Lies W B d u.ks) (hf2 : Fine u) (hk3 : Lies W C e v.ks) (hf3 : Fine v) : Lies W (some ⟨g, 0, none⟩) cap [t, u, v] := by
  refine .mk _ _ _ (by simp [maxLen]) g 0 (fun i => if i = 0 then A else if i = 1 then B else C) (fun i => if i = 0 then c else if i = 1 then d else e) (fun _ => rfl) (fun i hi => ?_) (fun i hi => ?_) (fun i hi => ?_)
  all_goals
    have hi' : i = 0 ∨ i = 1 ∨ i = 2 := by simp at hi; omega
    rcases hi' with rfl | rfl | rfl
  · exact five_row h fun j hj => by rcases j with _ | _ | _ | _ | _ | j <;> first | rfl | omega
  · exact five_row h fun j hj => by rcases j with _ | _ | _ | _ | _ | j <;> first | rfl | omega
  · exact five_row h fun j hj => by rcases j with _ | _ | _ | _ | _ | j <;> first | rfl | omega
  · exact hk
  · exact hk2
  · exact hk3
  · exact hf
  · exact hf2
  · exact hf3
/-- An argument that is a node, and where its kids lie. -/
structure NA where
  t : Nd
  A : Option Addr
  c : Nat
abbrev nq (x : NA) : Value := nv x.t.op x.t.so x.t.nm x.t.nu (.slice x.A x.t.ks.length x.c)
abbrev boxQ (x : NA) : Obj := .cells #[.int .i64 x.t.op, .int .i64 x.t.so, .string x.t.nm, .int .i64 x.t.nu, .slice x.A x.t.ks.length x.c] 24
def LQ (W : World) (x : NA) : Prop := Lies W x.A x.c x.t.ks ∧ Fine x.t
theorem LQ.later {w w' : World} {x : NA} (h : LQ w x) (hb : RowKit.Below w.heap.size w w') : LQ w' x := ⟨h.1.later hb, h.2⟩
theorem fine_sto (a i x : Nd) : Fine (stoT a i x) := ⟨show nm0.size ≤ maxLen by decide, show (Lit.int .i64 15).wf = true by decide, show (Lit.int .i64 0).wf = true by decide, show (Lit.int .i64 0).wf = true by decide⟩
theorem fine_sel (a j : Nd) : Fine (selT a j) := ⟨show nm0.size ≤ maxLen by decide, show (Lit.int .i64 14).wf = true by decide, show (Lit.int .i64 0).wf = true by decide, show (Lit.int .i64 0).wf = true by decide⟩
theorem fine_len (a : Nd) : Fine (lenT a) := ⟨show nm0.size ≤ maxLen by decide, show (Lit.int .i64 16).wf = true by decide, show (Lit.int .i64 0).wf = true by decide, show (Lit.int .i64 0).wf = true by decide⟩
theorem four_blocks (w : World) (a b c d : Obj) : (((((w.alloc a).alloc b).alloc c).alloc d).heap.size = w.heap.size + 4 ∧ RowKit.Below w.heap.size w ((((w.alloc a).alloc b).alloc c).alloc d)) ∧ ((((w.alloc a).alloc b).alloc c).alloc d).heap[w.heap.size]? = some a ∧ ((((w.alloc a).alloc b).alloc c).alloc d).heap[w.heap.size + 1]? = some b ∧ ((((w.alloc a).alloc b).alloc c).alloc d).heap[w.heap.size + 1 + 1]? = some c ∧ ((((w.alloc a).alloc b).alloc c).alloc d).heap[w.heap.size + 1 + 1 + 1]? = some d := by
  have h2 := two_size w a b
  have h3 : (((w.alloc a).alloc b).alloc c).heap.size = w.heap.size + 3 := by rw [one_size, h2]
  have g1 : RowKit.Below ((w.alloc a).alloc b).heap.size ((w.alloc a).alloc b) (((w.alloc a).alloc b).alloc c) := (RowKit.Below.refl _ _).alloc (Nat.le_refl _) _
  have g2 : RowKit.Below (((w.alloc a).alloc b).alloc c).heap.size (((w.alloc a).alloc b).alloc c) ((((w.alloc a).alloc b).alloc c).alloc d) := (RowKit.Below.refl _ _).alloc (Nat.le_refl _) _
  have g0 : RowKit.Below w.heap.size w ((w.alloc a).alloc b) := ((RowKit.Below.refl _ _).alloc (Nat.le_refl _) _).alloc (by rw [one_size]; omega) _
  refine ⟨⟨by rw [one_size, h3], (g0.trans (g1.mono g0.size)).trans (g2.mono (by omega))⟩, (g2.block _ (by omega)).trans ((g1.block _ (by omega)).trans (two_fst _ _ _)), (g2.block _ (by omega)).trans ((g1.block _ (by omega)).trans (two_snd _ _ _)), (g2.block _ (by omega)).trans ?_, ?_⟩
  · rw [show w.heap.size + 1 + 1 = ((w.alloc a).alloc b).heap.size by omega]; exact heap_alloc_new _ _
  · rw [show w.heap.size + 1 + 1 + 1 = (((w.alloc a).alloc b).alloc c).heap.size by omega]; exact heap_alloc_new _ _
end Go.Proofs.Ytmeeombadkgneaa
namespace Go.Proofs.Ytmeeombadkgneaa
open Go.Proofs Go.RowKit Go.Shelf Go.Sort Go.Lib

attribute [local go_sem] Oper.semAt_some
set_option maxRecDepth 100000 in
set_option maxHeartbeats 8000000 in
theorem storesLaw_any (a i j x : NA) (m : List EA) (A : Option Addr) (cap : Nat) (w : World) (ha : LQ w a) (hi : LQ w i) (hj : LQ w j) (hx : LQ w x) (hL : LiesM w A m) (hcap : ∀ e ∈ m, CapV e.val) :
    Calls Try.prog 3 #[nq a, nq i, nq j, nq x, .slice A m.length cap] w fun e w' => e = .returned (.bool true) ∧ RowKit.Below w.heap.size w w' := by
  obtain ⟨W, hW⟩ : ∃ W, (((w.alloc (boxQ a)).alloc (boxQ i)).alloc (boxQ j)).alloc (boxQ x) = W := ⟨_, rfl⟩
  obtain ⟨⟨hS, hB⟩, hA, hI, hJ, hX⟩ := four_blocks w (boxQ a) (boxQ i) (boxQ j) (boxQ x)
  rw [hW] at hS hB hA hI hJ hX
  have HB := Lib.hid hB
  have RA := Lib.hid (fun W' (h : RowKit.Below W.heap.size W W') => (h.block _ (Array.getElem?_eq_some_iff.1 hA).1).trans hA)
  have RI := Lib.hid (fun W' (h : RowKit.Below W.heap.size W W') => (h.block _ (Array.getElem?_eq_some_iff.1 hI).1).trans hI)
  have RJ := Lib.hid (fun W' (h : RowKit.Below W.heap.size W W') => (h.block _ (Array.getElem?_eq_some_iff.1 hJ).1).trans hJ)
  have RX := Lib.hid (fun W' (h : RowKit.Below W.heap.size W W') => (h.block _ (Array.getElem?_eq_some_iff.1 hX).1).trans hX)
  have LA := Lib.hid (fun W' (h : RowKit.Below W.heap.size W W') => (ha.later hB).later h)
  have LI := Lib.hid (fun W' (h : RowKit.Below W.heap.size W W') => (hi.later hB).later h)
  have LJ := Lib.hid (fun W' (h : RowKit.Below W.heap.size W W') => (hj.later hB).later h)
  have LX := Lib.hid (fun W' (h : RowKit.Below W.heap.size W W') => (hx.later hB).later h)
  have LM := Lib.hid (fun W' (h : RowKit.Below W.heap.size W W') => (hL.later hB).later h)
  have HCAP := Lib.hid hcap
  have HW := Lib.hid hW
  clear hW hA hI hJ hX hB ha hi hj hx hL hcap hS
  obtain ⟨at_, aA, ac⟩ := a
  obtain ⟨it, iA, ic⟩ := i
  obtain ⟨jt, jA, jc⟩ := j
  obtain ⟨xt, xA, xc⟩ := x
  go_enter Try.func3, Try.ntmps3
  go_upto_region 1 with fail
  rw [HW.out]
  go_wp2_with fail
  refine (awake_any _).mono ?_
  rintro e w1 ⟨rfl, b1⟩
  have B1 := Lib.hid b1
  clear b1
  obtain ⟨z0, z1, z2, z3, z4, _, _, _, _, _⟩ := boxT_facts (RA.out _ B1.out)
  go_wp2_with fail
  refine (refSort_any at_ aA ac _ (LA.out _ B1.out).1).mono ?_
  rintro e w2 ⟨rfl, b2⟩
  have B2 := Lib.hid (B1.out.trans (b2.mono B1.out.size))
  clear b2
  clear z0 z1 z2 z3 z4
  by_cases hsa : sortN at_ = 5
  case neg =>
    have hd : (sortN at_ != 5) = true := by simpa using hsa
    have HO := Lib.hid (HB.out.trans (B2.out.mono HB.out.size))
    go_wp2_with fail
    go_ret
    exact ⟨rfl, HO.out⟩
  have HSa := Lib.hid hsa
  have hda : (sortN at_ != 5) = false := by simpa using hsa
  rw [hsa]
  clear hsa hda
  obtain ⟨z0, z1, z2, z3, z4, _, _, _, _, _⟩ := boxT_facts (RI.out _ B2.out)
  go_wp2_with fail
  refine (refSort_any it iA ic _ (LI.out _ B2.out).1).mono ?_
  rintro e w3 ⟨rfl, b3⟩
  have B3 := Lib.hid (B2.out.trans (b3.mono B2.out.size))
  clear b3
  clear z0 z1 z2 z3 z4
  by_cases hsi : sortN it = 1
  case neg =>
    have hd : (sortN it != 1) = true := by simpa using hsi
    have HO := Lib.hid (HB.out.trans (B3.out.mono HB.out.size))
    go_wp2_with fail
    go_ret
    exact ⟨rfl, HO.out⟩
  have HSi := Lib.hid hsi
  have hdi : (sortN it != 1) = false := by simpa using hsi
  rw [hsi]
  clear hsi hdi
  obtain ⟨z0, z1, z2, z3, z4, _, _, _, _, _⟩ := boxT_facts (RJ.out _ B3.out)
  go_wp2_with fail
  refine (refSort_any jt jA jc _ (LJ.out _ B3.out).1).mono ?_
  rintro e w4 ⟨rfl, b4⟩
  have B4 := Lib.hid (B3.out.trans (b4.mono B3.out.size))
  clear b4
  clear z0 z1 z2 z3 z4
  by_cases hsj : sortN jt = 1
  case neg =>
    have hd : (sortN jt != 1) = true := by simpa using hsj
    have HO := Lib.hid (HB.out.trans (B4.out.mono HB.out.size))
    go_wp2_with fail
    go_ret
    exact ⟨rfl, HO.out⟩
  have HSj := Lib.hid hsj
  have hdj : (sortN jt != 1) = false := by simpa using hsj
  rw [hsj]
  clear hsj hdj
  obtain ⟨z0, z1, z2, z3, z4, _, _, _, _, _⟩ := boxT_facts (RX.out _ B4.out)
  go_wp2_with fail
  refine (refSort_any xt xA xc _ (LX.out _ B4.out).1).mono ?_
  rintro e w5 ⟨rfl, b5⟩
  have B5 := Lib.hid (B4.out.trans (b5.mono B4.out.size))
  clear b5
  clear z0 z1 z2 z3 z4
  by_cases hsx : sortN xt = 1
  case neg =>
    have hd : (sortN xt != 1) = true := by simpa using hsx
    have HO := Lib.hid (HB.out.trans (B5.out.mono HB.out.size))
    go_wp2_with fail
    go_ret
    exact ⟨rfl, HO.out⟩
  have HSx := Lib.hid hsx
  have hdx : (sortN xt != 1) = false := by simpa using hsx
  rw [hsx]
  clear hsx hdx
  go_wp2_with fail
  refine (short_any m A cap _ (LM.out _ B5.out)).mono ?_
  rintro e w6 ⟨rfl, b6⟩
  have B6 := Lib.hid (B5.out.trans (b6.mono B5.out.size))
  clear b6
  cases hsm : shortM m
  case false =>
    have HO := Lib.hid (HB.out.trans (B6.out.mono HB.out.size))
    go_wp2_with fail
    go_ret
    exact ⟨rfl, HO.out⟩
  clear hsm
  obtain ⟨z0, z1, z2, z3, z4, _, _, _, _, _⟩ := boxT_facts (RA.out _ B6.out)
  obtain ⟨y0, y1, y2, y3, y4, _, _, _, _, _⟩ := boxT_facts (RI.out _ B6.out)
  obtain ⟨c0, c1, c2, c3, c4, _, _, _, _, _⟩ := boxT_facts (RX.out _ B6.out)
  go_upto_region 6 with fail
  obtain ⟨w7, hw7⟩ : ∃ w7, (w6.alloc (.cells #[.int .i64 at_.op, .int .i64 at_.so, .string at_.nm, .int .i64 at_.nu, .slice aA at_.ks.length ac, .int .i64 it.op, .int .i64 it.so, .string it.nm, .int .i64 it.nu, .slice iA it.ks.length ic, .int .i64 xt.op, .int .i64 xt.so, .string xt.nm, .int .i64 xt.nu, .slice xA xt.ks.length xc] 24)).alloc (.cells #[.int .i64 15, .int .i64 0, .string ⟨#[]⟩, .int .i64 0, .slice (some ⟨w6.heap.size, 0, none⟩) 3 3] 24) = w7 := ⟨_, rfl⟩
  have g7 : RowKit.Below w6.heap.size w6 w7 := by rw [← hw7]; exact ((RowKit.Below.refl _ _).alloc (Nat.le_refl _) _).alloc (by rw [one_size]; omega) _
  have r7a : w7.heap[w6.heap.size]? = some (.cells #[.int .i64 at_.op, .int .i64 at_.so, .string at_.nm, .int .i64 at_.nu, .slice aA at_.ks.length ac, .int .i64 it.op, .int .i64 it.so, .string it.nm, .int .i64 it.nu, .slice iA it.ks.length ic, .int .i64 xt.op, .int .i64 xt.so, .string xt.nm, .int .i64 xt.nu, .slice xA xt.ks.length xc] 24) := by rw [← hw7]; exact two_fst _ _ _
  have r7s : w7.heap[w6.heap.size + 1]? = some (.cells #[.int .i64 15, .int .i64 0, .string ⟨#[]⟩, .int .i64 0, .slice (some ⟨w6.heap.size, 0, none⟩) 3 3] 24) := by rw [← hw7]; exact two_snd _ _ _
  rw [hw7]
  have hB7 := B6.out.trans (g7.mono B6.out.size)
  have B7 := Lib.hid hB7
  have R7S := Lib.hid (fun W' (h : RowKit.Below w7.heap.size w7 W') => (h.block _ (Array.getElem?_eq_some_iff.1 r7s).1).trans r7s)
  have l7 := lies_three (cap := 3) r7a (LA.out _ hB7).1 (LA.out _ hB7).2 (LI.out _ hB7).1 (LI.out _ hB7).2 (LX.out _ hB7).1 (LX.out _ hB7).2
  have L7 := Lib.hid (fun W' (h : RowKit.Below w7.heap.size w7 W') => (show LQ W' ⟨stoT at_ it xt, some ⟨w6.heap.size, 0, none⟩, 3⟩ from ⟨l7.later h, fine_sto _ _ _⟩))
  clear z0 z1 z2 z3 z4
  clear y0 y1 y2 y3 y4
  clear c0 c1 c2 c3 c4
  obtain ⟨z0, z1, z2, z3, z4, _, _, _, _, _⟩ := boxT_facts r7s
  obtain ⟨y0, y1, y2, y3, y4, _, _, _, _, _⟩ := boxT_facts (RJ.out _ hB7)
  clear hw7 g7 r7a r7s hB7 l7
  go_upto_region 7 with fail
  obtain ⟨w8, hw8⟩ : ∃ w8, (w7.alloc (.cells #[.int .i64 15, .int .i64 0, .string ⟨#[]⟩, .int .i64 0, .slice (some ⟨w6.heap.size, 0, none⟩) 3 3, .int .i64 jt.op, .int .i64 jt.so, .string jt.nm, .int .i64 jt.nu, .slice jA jt.ks.length jc] 24)).alloc (.cells #[.int .i64 14, .int .i64 0, .string ⟨#[]⟩, .int .i64 0, .slice (some ⟨w7.heap.size, 0, none⟩) 2 2] 24) = w8 := ⟨_, rfl⟩
  have g8 : RowKit.Below w7.heap.size w7 w8 := by rw [← hw8]; exact ((RowKit.Below.refl _ _).alloc (Nat.le_refl _) _).alloc (by rw [one_size]; omega) _
  have r8a : w8.heap[w7.heap.size]? = some (.cells #[.int .i64 15, .int .i64 0, .string ⟨#[]⟩, .int .i64 0, .slice (some ⟨w6.heap.size, 0, none⟩) 3 3, .int .i64 jt.op, .int .i64 jt.so, .string jt.nm, .int .i64 jt.nu, .slice jA jt.ks.length jc] 24) := by rw [← hw8]; exact two_fst _ _ _
  have r8s : w8.heap[w7.heap.size + 1]? = some (.cells #[.int .i64 14, .int .i64 0, .string ⟨#[]⟩, .int .i64 0, .slice (some ⟨w7.heap.size, 0, none⟩) 2 2] 24) := by rw [← hw8]; exact two_snd _ _ _
  rw [hw8]
  have hB8 := B7.out.trans (g8.mono B7.out.size)
  have B8 := Lib.hid hB8
  have G8 := Lib.hid g8
  have R8T := Lib.hid (fun W' (h : RowKit.Below w8.heap.size w8 W') => (h.block _ (Array.getElem?_eq_some_iff.1 r8s).1).trans r8s)
  have l8 := lies_two (cap := 2) (t := stoT at_ it xt) (A := some ⟨w6.heap.size, 0, none⟩) (c := 3) r8a (L7.out _ g8).1 (L7.out _ g8).2 (LJ.out _ hB8).1 (LJ.out _ hB8).2
  have L8 := Lib.hid (fun W' (h : RowKit.Below w8.heap.size w8 W') => (show LQ W' ⟨selT (stoT at_ it xt) jt, some ⟨w7.heap.size, 0, none⟩, 2⟩ from ⟨l8.later h, fine_sel _ _⟩))
  clear z0 z1 z2 z3 z4
  clear y0 y1 y2 y3 y4
  obtain ⟨z0, z1, z2, z3, z4, _, _, _, _, _⟩ := boxT_facts r8s
  clear hw8 g8 r8a r8s hB8 l8
  go_wp2_with fail
  refine (refSize_any (selT (stoT at_ it xt) jt) (some ⟨w7.heap.size, 0, none⟩) 2 _ (L8.out _ (RowKit.Below.refl _ _)).1).mono ?_
  rintro e w9 ⟨rfl, b9⟩
  have B9 := Lib.hid (B8.out.trans (b9.mono B8.out.size))
  have G9 := Lib.hid b9
  clear b9
  clear z0 z1 z2 z3 z4
  generalize sizeW (selT (stoT at_ it xt) jt) = sz
  by_cases hsz : 240 < sz
  case pos =>
    have HO := Lib.hid (HB.out.trans (B9.out.mono HB.out.size))
    have hd : decide (240 < sz) = true := decide_eq_true hsz
    go_wp2_with fail
    go_ret
    exact ⟨rfl, HO.out⟩
  have hd : decide (240 < sz) = false := decide_eq_false hsz
  obtain ⟨z0, z1, z2, z3, z4, _, _, _, _, _⟩ := boxT_facts (R8T.out _ G9.out)
  go_wp2_with fail
  have hv1 := value_any m (selT (stoT at_ it xt) jt) A (some ⟨w7.heap.size, 0, none⟩) cap 2 w9 (LM.out _ B9.out) HCAP.out (L8.out _ G9.out).1 (L8.out _ G9.out).2
  refine hv1.mono ?_
  rintro e w10 ⟨⟨v, rfl, hvv, hvr⟩, b10⟩
  clear z0 z1 z2 z3 z4 hv1 hd hsz
  have B10 := Lib.hid (B9.out.trans (b10.mono B9.out.size))
  have HVR := Lib.hid hvr.here
  have HV9 := Lib.hid b10
  have HVV := Lib.hid hvv
  clear b10 hvr hvv
  obtain ⟨ev, hev⟩ : ∃ ev, valE m (selT (stoT at_ it xt) jt) 0 = ev := ⟨_, rfl⟩
  have HEV := Lib.hid hev
  rw [hev]
  clear hev
  go_upto_region 10 with fail
  obtain ⟨w11, hw11⟩ : ∃ w11, w10.alloc (boxV v 32) = w11 := ⟨_, rfl⟩
  have g11 : RowKit.Below w10.heap.size w10 w11 := by rw [← hw11]; exact (RowKit.Below.refl _ _).alloc (Nat.le_refl _) _
  have r11 : w11.heap[w10.heap.size]? = some (boxV v 32) := by rw [← hw11]; exact heap_alloc_new _ _
  rw [hw11]
  have B11 := Lib.hid (B10.out.trans (g11.mono B10.out.size))
  have G11 := Lib.hid g11
  have R11 := Lib.hid (fun W' (h : RowKit.Below w11.heap.size w11 W') => (h.block _ (Array.getElem?_eq_some_iff.1 r11).1).trans r11)
  have LV := Lib.hid (fun W' (h : RowKit.Below w11.heap.size w11 W') => (HVR.out.later g11).later h)
  clear hw11 g11 r11 HVR
  obtain ⟨z0, z1, z2, z3, z4, _, _, _, _, _⟩ := boxT_facts (RI.out _ B11.out)
  go_wp2_with fail
  have hv1 := value_any m it A iA cap ic w11 (LM.out _ B11.out) HCAP.out (LI.out _ B11.out).1 (LI.out _ B11.out).2
  refine hv1.mono ?_
  rintro e w12 ⟨⟨p, rfl, hvv, hvr⟩, b12⟩
  clear z0 z1 z2 z3 z4 hv1
  have B12 := Lib.hid (B11.out.trans (b12.mono B11.out.size))
  have G12 := Lib.hid b12
  have HVp := Lib.hid hvv
  clear b12 hvr hvv
  obtain ⟨ep, hev⟩ : ∃ ev, valE m it 0 = ev := ⟨_, rfl⟩
  have HEp := Lib.hid hev
  rw [hev]
  clear hev
  go_upto_region 11 with fail
  obtain ⟨w13, hw13⟩ : ∃ w13, w12.alloc (boxV p 32) = w13 := ⟨_, rfl⟩
  have g13 : RowKit.Below w12.heap.size w12 w13 := by rw [← hw13]; exact (RowKit.Below.refl _ _).alloc (Nat.le_refl _) _
  have r13 : w13.heap[w12.heap.size]? = some (boxV p 32) := by rw [← hw13]; exact heap_alloc_new _ _
  rw [hw13]
  have B13 := Lib.hid (B12.out.trans (g13.mono B12.out.size))
  have G13 := Lib.hid (G12.out.trans (g13.mono G12.out.size))
  have R13 := Lib.hid (fun W' (h : RowKit.Below w13.heap.size w13 W') => (h.block _ (Array.getElem?_eq_some_iff.1 r13).1).trans r13)
  clear hw13 g13 r13
  obtain ⟨z0, z1, z2, z3, z4, _, _, _, _, _⟩ := boxT_facts (RJ.out _ B13.out)
  go_wp2_with fail
  have hv1 := value_any m jt A jA cap jc w13 (LM.out _ B13.out) HCAP.out (LJ.out _ B13.out).1 (LJ.out _ B13.out).2
  refine hv1.mono ?_
  rintro e w14 ⟨⟨q, rfl, hvv, hvr⟩, b14⟩
  clear z0 z1 z2 z3 z4 hv1
  have B14 := Lib.hid (B13.out.trans (b14.mono B13.out.size))
  have G14 := Lib.hid b14
  have HVq := Lib.hid hvv
  clear b14 hvr hvv
  obtain ⟨eq, hev⟩ : ∃ ev, valE m jt 0 = ev := ⟨_, rfl⟩
  have HEq := Lib.hid hev
  rw [hev]
  clear hev
  go_upto_region 12 with fail
  obtain ⟨w15, hw15⟩ : ∃ w15, w14.alloc (boxV q 32) = w15 := ⟨_, rfl⟩
  have g15 : RowKit.Below w14.heap.size w14 w15 := by rw [← hw15]; exact (RowKit.Below.refl _ _).alloc (Nat.le_refl _) _
  have r15 : w15.heap[w14.heap.size]? = some (boxV q 32) := by rw [← hw15]; exact heap_alloc_new _ _
  rw [hw15]
  have B15 := Lib.hid (B14.out.trans (g15.mono B14.out.size))
  have G15 := Lib.hid (G14.out.trans (g15.mono G14.out.size))
  have R15 := Lib.hid (fun W' (h : RowKit.Below w15.heap.size w15 W') => (h.block _ (Array.getElem?_eq_some_iff.1 r15).1).trans r15)
  clear hw15 g15 r15
  by_cases he1 : ev = 0
  case neg =>
    have hd : (ev != 0) = true := by simpa using he1
    have HO := Lib.hid (HB.out.trans (B15.out.mono HB.out.size))
    go_wp2_with fail
    go_ret
    exact ⟨rfl, HO.out⟩
  by_cases he2 : ep = 0
  case neg =>
    have hd : (ep != 0) = true := by simpa using he2
    have HO := Lib.hid (HB.out.trans (B15.out.mono HB.out.size))
    have HE1 := Lib.hid he1
    have hd1 : (ev != 0) = false := by simpa using he1
    clear he1
    go_wp2_with fail
    go_ret
    exact ⟨rfl, HO.out⟩
  by_cases he3 : eq = 0
  case neg =>
    have hd : (eq != 0) = true := by simpa using he3
    have HO := Lib.hid (HB.out.trans (B15.out.mono HB.out.size))
    have hd1 : (ev != 0) = false := by simpa using he1
    have hd2 : (ep != 0) = false := by simpa using he2
    clear he1 he2
    go_wp2_with fail
    go_ret
    exact ⟨rfl, HO.out⟩
  subst he1 he2 he3
  obtain ⟨vl, hok, hvl⟩ := valOk_of HEV.out
  have hfacts := stores_facts HSa.out HSj.out hok
  obtain ⟨va, vi, vj, vx, HA, HI, HJ, HX, hvi, hvj, hsame, hdiff, hl1, hl2⟩ := hfacts.parts
  have hpi : p.v.nu = vi.nu := by rw [HVp.out, hvi]
  have hqj : q.v.nu = vj.nu := by rw [HVq.out, hvj]
  have HVL := Lib.hid (show v.v = vl by rw [HVV.out, hvl])
  have HL1 := Lib.hid hl1
  have HL2 := Lib.hid hl2
  have HXX := Lib.hid HX
  have HSAME := Lib.hid hsame
  have HDIFF := Lib.hid hdiff
  have HPI := Lib.hid hpi
  have HQJ := Lib.hid hqj
  clear hfacts hok hvl HA HI HJ HX hvi hvj hsame hdiff hl1 hl2 hpi hqj
  obtain ⟨z0, z1, z2, z3, z4, _, _, _, _, _⟩ := boxT_facts (RX.out _ B15.out)
  go_upto_region 15 with fail
  obtain ⟨w16, hw16⟩ : ∃ w16, w15.alloc (.cells #[.int .i64 xt.op, .int .i64 xt.so, .string xt.nm, .int .i64 xt.nu, .slice xA xt.ks.length xc] 24) = w16 := ⟨_, rfl⟩
  have g16 : RowKit.Below w15.heap.size w15 w16 := by rw [← hw16]; exact (RowKit.Below.refl _ _).alloc (Nat.le_refl _) _
  have r16 : w16.heap[w15.heap.size]? = some (.cells #[.int .i64 xt.op, .int .i64 xt.so, .string xt.nm, .int .i64 xt.nu, .slice xA xt.ks.length xc] 24) := by rw [← hw16]; exact heap_alloc_new _ _
  rw [hw16]
  have B16 := Lib.hid (B15.out.trans (g16.mono B15.out.size))
  have G16 := Lib.hid g16
  have R16 := Lib.hid r16
  clear z0 z1 z2 z3 z4
  clear hw16 g16 r16
  have hp16 := R13.out w16 (G15.out.trans (G16.out.mono G15.out.size))
  have hq16 := R15.out w16 G16.out
  have H15 := Lib.hid (Nat.lt_of_lt_of_le (Nat.lt_of_lt_of_le (Array.getElem?_eq_some_iff.1 (R11.out w11 (RowKit.Below.refl _ _))).1 (Nat.le_trans G13.out.size (Nat.le_trans (Nat.le_refl _) G15.out.size))) (Nat.le_refl _))
  obtain ⟨_, y1, _, _, _, _, _, _, _, _⟩ := boxT_facts hp16
  obtain ⟨_, c1, _, _, _, _, _, _, _, _⟩ := boxT_facts hq16
  clear hp16 hq16
  have G9U := Lib.hid ((HV9.out).trans (G11.out.mono HV9.out.size))
  have G1115 := Lib.hid (G13.out.trans (G15.out.mono G13.out.size))
  have G11K' := Lib.hid (G13.out.trans ((G15.out.trans (G16.out.mono G15.out.size)).mono G13.out.size))
  have G8K' := Lib.hid (G9.out.trans ((G9U.out.trans (G11K'.out.mono G9U.out.size)).mono G9.out.size))
  by_cases hpq : p.v.nu = q.v.nu
  · have hd : (p.v.nu != q.v.nu) = false := by simpa using hpq
    have OKW := Lib.hid (show ValOk m xt vl by rw [HSAME.out (HPI.out.symm.trans (hpq.trans HQJ.out))]; exact HXX.out)
    have RW := R16
    have LW := Lib.hid (LX.out _ B16.out)
    have G8K := G8K'
    have G11K := G11K'
    clear hpq
    go_upto_region 17 with fail
    clear y1 c1 hd
    obtain ⟨z0, z1, z2, z3, z4, _, _, _, _, _⟩ := boxT_facts RW.out
    go_wp2_with fail
    have hv1 := value_any m xt A xA cap xc w16 (LM.out _ B16.out) HCAP.out LW.out.1 LW.out.2
    refine hv1.mono ?_
    rintro e u1 ⟨⟨v2, rfl, hvv, hvr⟩, b⟩
    clear z0 z1 z2 z3 z4 hv1
    have BU1 := Lib.hid (B16.out.trans (b.mono B16.out.size))
    have GU1 := Lib.hid b
    have HV2 := Lib.hid (hvv.trans OKW.out.val)
    have LV2 := Lib.hid hvr.here
    clear b hvv hvr
    rw [OKW.out.err]
    go_upto_region 18 with fail
    obtain ⟨u2, hu2⟩ : ∃ u2, u1.alloc (boxV v2 32) = u2 := ⟨_, rfl⟩
    have g2 : RowKit.Below u1.heap.size u1 u2 := by rw [← hu2]; exact (RowKit.Below.refl _ _).alloc (Nat.le_refl _) _
    have r2 : u2.heap[u1.heap.size]? = some (boxV v2 32) := by rw [← hu2]; exact heap_alloc_new _ _
    rw [hu2]
    have BU2 := Lib.hid (BU1.out.trans (g2.mono BU1.out.size))
    have GU2 := Lib.hid (GU1.out.trans (g2.mono GU1.out.size))
    have RV2 := Lib.hid (fun W' (h : RowKit.Below u2.heap.size u2 W') => (h.block _ (Array.getElem?_eq_some_iff.1 r2).1).trans r2)
    have LV2' := Lib.hid (fun W' (h : RowKit.Below u2.heap.size u2 W') => (LV2.out.later g2).later h)
    have G8U := Lib.hid (G8K.out.trans (GU2.out.mono G8K.out.size))
    clear hu2 g2 r2
    obtain ⟨z0, z1, z2, z3, z4, _, _, _, _, _⟩ := boxT_facts (R7S.out _ (G8.out.trans (G8U.out.mono G8.out.size)))
    go_wp2_with fail
    obtain ⟨u3, hu3⟩ : ∃ u3, u2.alloc (.cells #[.int .i64 15, .int .i64 0, .string ⟨#[]⟩, .int .i64 0, .slice (some ⟨w6.heap.size, 0, none⟩) 3 3] 24) = u3 := ⟨_, rfl⟩
    have g3 : RowKit.Below u2.heap.size u2 u3 := by rw [← hu3]; exact (RowKit.Below.refl _ _).alloc (Nat.le_refl _) _
    have r3 : u3.heap[u2.heap.size]? = some (.cells #[.int .i64 15, .int .i64 0, .string ⟨#[]⟩, .int .i64 0, .slice (some ⟨w6.heap.size, 0, none⟩) 3 3] 24) := by rw [← hu3]; exact heap_alloc_new _ _
    rw [hu3]
    have BU3 := Lib.hid (BU2.out.trans (g3.mono BU2.out.size))
    have GU3 := Lib.hid g3
    have LU3 := Lib.hid (show LQ u3 ⟨lenT (stoT at_ it xt), some ⟨u2.heap.size, 0, none⟩, 1⟩ from ⟨lies_one (t := stoT at_ it xt) (A := some ⟨w6.heap.size, 0, none⟩) (c := 3) r3 (L7.out _ (G8.out.trans ((G8U.out.trans (g3.mono G8U.out.size)).mono G8.out.size))).1 (fine_sto _ _ _), fine_len _⟩)
    clear hu3 g3 r3 z0 z1 z2 z3 z4
    have hv1 := value_any m (lenT (stoT at_ it xt)) A (some ⟨u2.heap.size, 0, none⟩) cap 1 u3 (LM.out _ BU3.out) HCAP.out LU3.out.1 LU3.out.2
    refine hv1.mono ?_
    rintro e u4 ⟨⟨k2, rfl, hvv, hvr⟩, b⟩
    clear hv1
    have BU4 := Lib.hid (BU3.out.trans (b.mono BU3.out.size))
    have GU4 := Lib.hid (GU3.out.trans (b.mono GU3.out.size))
    have HK2 := Lib.hid (hvv.trans HL1.out.val)
    have LK2 := Lib.hid hvr.here
    clear b hvv hvr
    rw [HL1.out.err]
    go_upto_region 19 with fail
    obtain ⟨u5, hu5⟩ : ∃ u5, u4.alloc (boxV k2 32) = u5 := ⟨_, rfl⟩
    have g5 : RowKit.Below u4.heap.size u4 u5 := by rw [← hu5]; exact (RowKit.Below.refl _ _).alloc (Nat.le_refl _) _
    have r5 : u5.heap[u4.heap.size]? = some (boxV k2 32) := by rw [← hu5]; exact heap_alloc_new _ _
    rw [hu5]
    have BU5 := Lib.hid (BU4.out.trans (g5.mono BU4.out.size))
    have GU5 := Lib.hid (GU4.out.trans (g5.mono GU4.out.size))
    have RK2 := Lib.hid (fun W' (h : RowKit.Below u5.heap.size u5 W') => (h.block _ (Array.getElem?_eq_some_iff.1 r5).1).trans r5)
    have LK2' := Lib.hid (fun W' (h : RowKit.Below u5.heap.size u5 W') => (LK2.out.later g5).later h)
    clear hu5 g5 r5
    obtain ⟨z0, z1, z2, z3, z4, _, _, _, _, _⟩ := boxT_facts (RA.out _ BU5.out)
    go_wp2_with fail
    obtain ⟨u6, hu6⟩ : ∃ u6, u5.alloc (.cells #[.int .i64 at_.op, .int .i64 at_.so, .string at_.nm, .int .i64 at_.nu, .slice aA at_.ks.length ac] 24) = u6 := ⟨_, rfl⟩
    have g6 : RowKit.Below u5.heap.size u5 u6 := by rw [← hu6]; exact (RowKit.Below.refl _ _).alloc (Nat.le_refl _) _
    have r6 : u6.heap[u5.heap.size]? = some (.cells #[.int .i64 at_.op, .int .i64 at_.so, .string at_.nm, .int .i64 at_.nu, .slice aA at_.ks.length ac] 24) := by rw [← hu6]; exact heap_alloc_new _ _
    rw [hu6]
    have BU6 := Lib.hid (BU5.out.trans (g6.mono BU5.out.size))
    have GU6 := Lib.hid g6
    have LU6 := Lib.hid (show LQ u6 ⟨lenT at_, some ⟨u5.heap.size, 0, none⟩, 1⟩ from ⟨lies_one r6 (LA.out _ BU6.out).1 (LA.out _ BU6.out).2, fine_len _⟩)
    clear hu6 g6 r6 z0 z1 z2 z3 z4
    have hv1 := value_any m (lenT at_) A (some ⟨u5.heap.size, 0, none⟩) cap 1 u6 (LM.out _ BU6.out) HCAP.out LU6.out.1 LU6.out.2
    refine hv1.mono ?_
    rintro e u7 ⟨⟨l2, rfl, hvv, hvr⟩, b⟩
    clear hv1
    have BU7 := Lib.hid (BU6.out.trans (b.mono BU6.out.size))
    have GU7 := Lib.hid (GU6.out.trans (b.mono GU6.out.size))
    have HLL := Lib.hid (hvv.trans HL2.out.val)
    have LLL := Lib.hid hvr.here
    clear b hvv hvr
    rw [HL2.out.err]
    go_upto_region 20 with fail
    obtain ⟨u8, hu8⟩ : ∃ u8, u7.alloc (boxV l2 32) = u8 := ⟨_, rfl⟩
    have g8' : RowKit.Below u7.heap.size u7 u8 := by rw [← hu8]; exact (RowKit.Below.refl _ _).alloc (Nat.le_refl _) _
    have r8 : u8.heap[u7.heap.size]? = some (boxV l2 32) := by rw [← hu8]; exact heap_alloc_new _ _
    rw [hu8]
    have BU8 := Lib.hid (BU7.out.trans (g8'.mono BU7.out.size))
    have G5U8 := Lib.hid (GU7.out.trans (g8'.mono GU7.out.size))
    have G2U8 := Lib.hid (GU5.out.trans (G5U8.out.mono GU5.out.size))
    have GKU8 := Lib.hid (GU2.out.trans (G2U8.out.mono GU2.out.size))
    have G11U8 := Lib.hid (G11K.out.trans (GKU8.out.mono G11K.out.size))
    have LL8 := Lib.hid (fun W' (h : RowKit.Below u8.heap.size u8 W') => (LLL.out.later g8').later h)
    have RL8 := Lib.hid (fun W' (h : RowKit.Below u8.heap.size u8 W') => (h.block _ (Array.getElem?_eq_some_iff.1 r8).1).trans r8)
    clear hu8 g8' r8
    obtain ⟨z0, z1, z2, z3, z4, _, _, _, _, _⟩ := boxT_facts (R11.out _ G11U8.out)
    obtain ⟨y0, y1, y2, y3, y4, _, _, _, _, _⟩ := boxT_facts (RV2.out _ G2U8.out)
    go_wp2_with fail
    refine (refSame_any v v2 _ (LV.out _ G11U8.out) (LV2'.out _ G2U8.out)).mono ?_
    rintro e u9 ⟨rfl, b⟩
    rw [show sameB v.v v2.v = true from (sameB_iff _ _).2 (by rw [HVL.out, HV2.out])]
    have BU9 := Lib.hid (BU8.out.trans (b.mono BU8.out.size))
    have G8U9 := Lib.hid b
    clear b z0 z1 z2 z3 z4 y0 y1 y2 y3 y4
    obtain ⟨z0, z1, z2, z3, z4, _, _, _, _, _⟩ := boxT_facts (RK2.out _ (G5U8.out.trans (G8U9.out.mono G5U8.out.size)))
    obtain ⟨y0, y1, y2, y3, y4, _, _, _, _, _⟩ := boxT_facts (RL8.out _ G8U9.out)
    go_wp2_with fail
    refine (refSame_any k2 l2 _ (LK2'.out _ (G5U8.out.trans (G8U9.out.mono G5U8.out.size))) (LL8.out _ G8U9.out)).mono ?_
    rintro e u10 ⟨rfl, b⟩
    rw [show sameB k2.v l2.v = true from (sameB_iff _ _).2 (by rw [HK2.out, HLL.out])]
    have HO := Lib.hid (HB.out.trans ((BU9.out.trans (b.mono BU9.out.size)).mono HB.out.size))
    clear b z0 z1 z2 z3 z4 y0 y1 y2 y3 y4
    go_wp2_with fail
    go_ret
    exact ⟨rfl, HO.out⟩
  · have hd : (p.v.nu != q.v.nu) = true := by simpa using hpq
    have OKW := Lib.hid (HDIFF.out (fun h => hpq (HPI.out.trans (h.trans HQJ.out.symm))))
    obtain ⟨z0, z1, z2, z3, z4, f0, f1, f2, f3, f4⟩ := boxT_facts R16.out
    obtain ⟨a0, a1, a2, a3, a4, _, _, _, _, _⟩ := boxT_facts (RA.out _ B16.out)
    obtain ⟨d0, d1, d2, d3, d4, _, _, _, _, _⟩ := boxT_facts (RJ.out _ B16.out)
    have hlt : w15.heap.size < w16.heap.size := (Array.getElem?_eq_some_iff.1 R16.out).1
    clear hpq
    go_upto_region 17 with fail
    obtain ⟨w17, hw17⟩ : ∃ w17, set5 w16 w15.heap.size (.int .i64 14) (.int .i64 0) (.string ⟨#[]⟩) (.int .i64 0) (.slice (some ⟨w16.heap.size, 0, none⟩) 2 2) = w17 := ⟨_, rfl⟩
    have hs17 : w17.heap.size = w16.heap.size := by rw [← hw17, set5_size]
    have hr17 : w17.heap[w15.heap.size]? = some (.cells #[.int .i64 14, .int .i64 0, .string ⟨#[]⟩, .int .i64 0, .slice (some ⟨w16.heap.size, 0, none⟩) 2 2] 24) := by rw [← hw17]; exact setT_same (.int .i64 14) (.int .i64 0) (.string ⟨#[]⟩) (.int .i64 0) (.slice (some ⟨w16.heap.size, 0, none⟩) 2 2) R16.out
    have g17 : RowKit.Below w15.heap.size w15 w17 := by rw [← hw17]; exact Below.set5 G16.out (Nat.le_refl _) (.int .i64 14) (.int .i64 0) (.string ⟨#[]⟩) (.int .i64 0) (.slice (some ⟨w16.heap.size, 0, none⟩) 2 2)
    obtain ⟨w18, hw18⟩ : ∃ w18, w17.alloc (.cells #[.int .i64 at_.op, .int .i64 at_.so, .string at_.nm, .int .i64 at_.nu, .slice aA at_.ks.length ac, .int .i64 jt.op, .int .i64 jt.so, .string jt.nm, .int .i64 jt.nu, .slice jA jt.ks.length jc] 24) = w18 := ⟨_, rfl⟩
    have g18 : RowKit.Below w17.heap.size w17 w18 := by rw [← hw18]; exact (RowKit.Below.refl _ _).alloc (Nat.le_refl _) _
    have hr18 : w18.heap[w16.heap.size]? = some (.cells #[.int .i64 at_.op, .int .i64 at_.so, .string at_.nm, .int .i64 at_.nu, .slice aA at_.ks.length ac, .int .i64 jt.op, .int .i64 jt.so, .string jt.nm, .int .i64 jt.nu, .slice jA jt.ks.length jc] 24) := by rw [← hw18, ← hs17]; exact heap_alloc_new _ _
    have g158 := g17.trans (g18.mono g17.size)
    rw [show (set5 w16 w15.heap.size (.int .i64 14) (.int .i64 0) (.string ⟨#[]⟩) (.int .i64 0) (.slice (some ⟨w16.heap.size, 0, none⟩) 2 2)).alloc (.cells #[.int .i64 at_.op, .int .i64 at_.so, .string at_.nm, .int .i64 at_.nu, .slice aA at_.ks.length ac, .int .i64 jt.op, .int .i64 jt.so, .string jt.nm, .int .i64 jt.nu, .slice jA jt.ks.length jc] 24) = w18 by rw [hw17, hw18]]
    have RW := Lib.hid ((g18.block _ (Array.getElem?_eq_some_iff.1 hr17).1).trans hr17)
    have B18 := Lib.hid (B15.out.trans (g158.mono B15.out.size))
    have LW := Lib.hid (show LQ w18 ⟨selT at_ jt, some ⟨w16.heap.size, 0, none⟩, 2⟩ from ⟨lies_two hr18 (LA.out _ B18.out).1 (LA.out _ B18.out).2 (LJ.out _ B18.out).1 (LJ.out _ B18.out).2, fine_sel _ _⟩)
    have G11K := Lib.hid (G1115.out.trans (g158.mono G1115.out.size))
    have G8K := Lib.hid (G9.out.trans ((G9U.out.trans (G11K.out.mono G9U.out.size)).mono G9.out.size))
    clear hw17 hw18 hs17 hr17 g17 g18 hr18 g158 z0 z1 z2 z3 z4 f0 f1 f2 f3 f4 a0 a1 a2 a3 a4 d0 d1 d2 d3 d4 hd y1 c1 hlt
    obtain ⟨z0, z1, z2, z3, z4, _, _, _, _, _⟩ := boxT_facts RW.out
    go_wp2_with fail
    have hv1 := value_any m (selT at_ jt) A (some ⟨w16.heap.size, 0, none⟩) cap 2 w18 (LM.out _ B18.out) HCAP.out LW.out.1 LW.out.2
    refine hv1.mono ?_
    rintro e u1 ⟨⟨v2, rfl, hvv, hvr⟩, b⟩
    clear z0 z1 z2 z3 z4 hv1
    have BU1 := Lib.hid (B18.out.trans (b.mono B18.out.size))
    have GU1 := Lib.hid b
    have HV2 := Lib.hid (hvv.trans OKW.out.val)
    have LV2 := Lib.hid hvr.here
    clear b hvv hvr
    rw [OKW.out.err]
    go_upto_region 18 with fail
    obtain ⟨u2, hu2⟩ : ∃ u2, u1.alloc (boxV v2 32) = u2 := ⟨_, rfl⟩
    have g2 : RowKit.Below u1.heap.size u1 u2 := by rw [← hu2]; exact (RowKit.Below.refl _ _).alloc (Nat.le_refl _) _
    have r2 : u2.heap[u1.heap.size]? = some (boxV v2 32) := by rw [← hu2]; exact heap_alloc_new _ _
    rw [hu2]
    have BU2 := Lib.hid (BU1.out.trans (g2.mono BU1.out.size))
    have GU2 := Lib.hid (GU1.out.trans (g2.mono GU1.out.size))
    have RV2 := Lib.hid (fun W' (h : RowKit.Below u2.heap.size u2 W') => (h.block _ (Array.getElem?_eq_some_iff.1 r2).1).trans r2)
    have LV2' := Lib.hid (fun W' (h : RowKit.Below u2.heap.size u2 W') => (LV2.out.later g2).later h)
    have G8U := Lib.hid (G8K.out.trans (GU2.out.mono G8K.out.size))
    clear hu2 g2 r2
    obtain ⟨z0, z1, z2, z3, z4, _, _, _, _, _⟩ := boxT_facts (R7S.out _ (G8.out.trans (G8U.out.mono G8.out.size)))
    go_wp2_with fail
    obtain ⟨u3, hu3⟩ : ∃ u3, u2.alloc (.cells #[.int .i64 15, .int .i64 0, .string ⟨#[]⟩, .int .i64 0, .slice (some ⟨w6.heap.size, 0, none⟩) 3 3] 24) = u3 := ⟨_, rfl⟩
    have g3 : RowKit.Below u2.heap.size u2 u3 := by rw [← hu3]; exact (RowKit.Below.refl _ _).alloc (Nat.le_refl _) _
    have r3 : u3.heap[u2.heap.size]? = some (.cells #[.int .i64 15, .int .i64 0, .string ⟨#[]⟩, .int .i64 0, .slice (some ⟨w6.heap.size, 0, none⟩) 3 3] 24) := by rw [← hu3]; exact heap_alloc_new _ _
    rw [hu3]
    have BU3 := Lib.hid (BU2.out.trans (g3.mono BU2.out.size))
    have GU3 := Lib.hid g3
    have LU3 := Lib.hid (show LQ u3 ⟨lenT (stoT at_ it xt), some ⟨u2.heap.size, 0, none⟩, 1⟩ from ⟨lies_one (t := stoT at_ it xt) (A := some ⟨w6.heap.size, 0, none⟩) (c := 3) r3 (L7.out _ (G8.out.trans ((G8U.out.trans (g3.mono G8U.out.size)).mono G8.out.size))).1 (fine_sto _ _ _), fine_len _⟩)
    clear hu3 g3 r3 z0 z1 z2 z3 z4
    have hv1 := value_any m (lenT (stoT at_ it xt)) A (some ⟨u2.heap.size, 0, none⟩) cap 1 u3 (LM.out _ BU3.out) HCAP.out LU3.out.1 LU3.out.2
    refine hv1.mono ?_
    rintro e u4 ⟨⟨k2, rfl, hvv, hvr⟩, b⟩
    clear hv1
    have BU4 := Lib.hid (BU3.out.trans (b.mono BU3.out.size))
    have GU4 := Lib.hid (GU3.out.trans (b.mono GU3.out.size))
    have HK2 := Lib.hid (hvv.trans HL1.out.val)
    have LK2 := Lib.hid hvr.here
    clear b hvv hvr
    rw [HL1.out.err]
    go_upto_region 19 with fail
    obtain ⟨u5, hu5⟩ : ∃ u5, u4.alloc (boxV k2 32) = u5 := ⟨_, rfl⟩
    have g5 : RowKit.Below u4.heap.size u4 u5 := by rw [← hu5]; exact (RowKit.Below.refl _ _).alloc (Nat.le_refl _) _
    have r5 : u5.heap[u4.heap.size]? = some (boxV k2 32) := by rw [← hu5]; exact heap_alloc_new _ _
    rw [hu5]
    have BU5 := Lib.hid (BU4.out.trans (g5.mono BU4.out.size))
    have GU5 := Lib.hid (GU4.out.trans (g5.mono GU4.out.size))
    have RK2 := Lib.hid (fun W' (h : RowKit.Below u5.heap.size u5 W') => (h.block _ (Array.getElem?_eq_some_iff.1 r5).1).trans r5)
    have LK2' := Lib.hid (fun W' (h : RowKit.Below u5.heap.size u5 W') => (LK2.out.later g5).later h)
    clear hu5 g5 r5
    obtain ⟨z0, z1, z2, z3, z4, _, _, _, _, _⟩ := boxT_facts (RA.out _ BU5.out)
    go_wp2_with fail
    obtain ⟨u6, hu6⟩ : ∃ u6, u5.alloc (.cells #[.int .i64 at_.op, .int .i64 at_.so, .string at_.nm, .int .i64 at_.nu, .slice aA at_.ks.length ac] 24) = u6 := ⟨_, rfl⟩
    have g6 : RowKit.Below u5.heap.size u5 u6 := by rw [← hu6]; exact (RowKit.Below.refl _ _).alloc (Nat.le_refl _) _
    have r6 : u6.heap[u5.heap.size]? = some (.cells #[.int .i64 at_.op, .int .i64 at_.so, .string at_.nm, .int .i64 at_.nu, .slice aA at_.ks.length ac] 24) := by rw [← hu6]; exact heap_alloc_new _ _
    rw [hu6]
    have BU6 := Lib.hid (BU5.out.trans (g6.mono BU5.out.size))
    have GU6 := Lib.hid g6
    have LU6 := Lib.hid (show LQ u6 ⟨lenT at_, some ⟨u5.heap.size, 0, none⟩, 1⟩ from ⟨lies_one r6 (LA.out _ BU6.out).1 (LA.out _ BU6.out).2, fine_len _⟩)
    clear hu6 g6 r6 z0 z1 z2 z3 z4
    have hv1 := value_any m (lenT at_) A (some ⟨u5.heap.size, 0, none⟩) cap 1 u6 (LM.out _ BU6.out) HCAP.out LU6.out.1 LU6.out.2
    refine hv1.mono ?_
    rintro e u7 ⟨⟨l2, rfl, hvv, hvr⟩, b⟩
    clear hv1
    have BU7 := Lib.hid (BU6.out.trans (b.mono BU6.out.size))
    have GU7 := Lib.hid (GU6.out.trans (b.mono GU6.out.size))
    have HLL := Lib.hid (hvv.trans HL2.out.val)
    have LLL := Lib.hid hvr.here
    clear b hvv hvr
    rw [HL2.out.err]
    go_upto_region 20 with fail
    obtain ⟨u8, hu8⟩ : ∃ u8, u7.alloc (boxV l2 32) = u8 := ⟨_, rfl⟩
    have g8' : RowKit.Below u7.heap.size u7 u8 := by rw [← hu8]; exact (RowKit.Below.refl _ _).alloc (Nat.le_refl _) _
    have r8 : u8.heap[u7.heap.size]? = some (boxV l2 32) := by rw [← hu8]; exact heap_alloc_new _ _
    rw [hu8]
    have BU8 := Lib.hid (BU7.out.trans (g8'.mono BU7.out.size))
    have G5U8 := Lib.hid (GU7.out.trans (g8'.mono GU7.out.size))
    have G2U8 := Lib.hid (GU5.out.trans (G5U8.out.mono GU5.out.size))
    have GKU8 := Lib.hid (GU2.out.trans (G2U8.out.mono GU2.out.size))
    have G11U8 := Lib.hid (G11K.out.trans (GKU8.out.mono G11K.out.size))
    have LL8 := Lib.hid (fun W' (h : RowKit.Below u8.heap.size u8 W') => (LLL.out.later g8').later h)
    have RL8 := Lib.hid (fun W' (h : RowKit.Below u8.heap.size u8 W') => (h.block _ (Array.getElem?_eq_some_iff.1 r8).1).trans r8)
    clear hu8 g8' r8
    obtain ⟨z0, z1, z2, z3, z4, _, _, _, _, _⟩ := boxT_facts (R11.out _ G11U8.out)
    obtain ⟨y0, y1, y2, y3, y4, _, _, _, _, _⟩ := boxT_facts (RV2.out _ G2U8.out)
    go_wp2_with fail
    refine (refSame_any v v2 _ (LV.out _ G11U8.out) (LV2'.out _ G2U8.out)).mono ?_
    rintro e u9 ⟨rfl, b⟩
    rw [show sameB v.v v2.v = true from (sameB_iff _ _).2 (by rw [HVL.out, HV2.out])]
    have BU9 := Lib.hid (BU8.out.trans (b.mono BU8.out.size))
    have G8U9 := Lib.hid b
    clear b z0 z1 z2 z3 z4 y0 y1 y2 y3 y4
    obtain ⟨z0, z1, z2, z3, z4, _, _, _, _, _⟩ := boxT_facts (RK2.out _ (G5U8.out.trans (G8U9.out.mono G5U8.out.size)))
    obtain ⟨y0, y1, y2, y3, y4, _, _, _, _, _⟩ := boxT_facts (RL8.out _ G8U9.out)
    go_wp2_with fail
    refine (refSame_any k2 l2 _ (LK2'.out _ (G5U8.out.trans (G8U9.out.mono G5U8.out.size))) (LL8.out _ G8U9.out)).mono ?_
    rintro e u10 ⟨rfl, b⟩
    rw [show sameB k2.v l2.v = true from (sameB_iff _ _).2 (by rw [HK2.out, HLL.out])]
    have HO := Lib.hid (HB.out.trans ((BU9.out.trans (b.mono BU9.out.size)).mono HB.out.size))
    clear b z0 z1 z2 z3 z4 y0 y1 y2 y3 y4
    go_wp2_with fail
    go_ret
    exact ⟨rfl, HO.out⟩
end Go.Proofs.Ytmeeombadkgneaa
