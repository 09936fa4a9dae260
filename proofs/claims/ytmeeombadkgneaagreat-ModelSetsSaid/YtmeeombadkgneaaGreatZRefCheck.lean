/-
  The document's own Check, and that package logic's returns the same; conditions: the tree lies in memory and has few nodes.
-/
import Derived.Test.YtmeeombadkgneaaGreatZRefUni
import Derived.Test.YtmeeombadkgneaaGreatZCheck
namespace Go.Proofs.YtmeeombadkgneaaGreat
open Go.RowKit Go.Shelf

attribute [local go_sem] Oper.semAt_some
theorem kOf_inj {a b : ByteArray} : kOf a = kOf b ↔ a.toList = b.toList := by
  unfold kOf
  rw [ByteArray.toList_eq, ByteArray.toList_eq]
  constructor
  · intro h; injection h
  · intro h; rw [h]
theorem ltD_irrefl (d : ByteArray × Int) : ¬ ltD d d := by
  unfold ltD
  have := cmpB_self d.1.toList
  omega
theorem conB_iff {nm : ByteArray} {t : Nd} : conB nm t = true ↔ ∃ z ∈ nodesOf t, isCon z ∧ z.nm.toList = nm.toList := by
  unfold conB isCon
  rw [List.any_eq_true]
  constructor
  · rintro ⟨z, hz, h⟩
    rw [Bool.and_eq_true, Bool.and_eq_true, beq_iff_eq, beq_iff_eq, decide_eq_true_iff] at h
    exact ⟨z, hz, ⟨h.1, h.2.2⟩, h.2.1⟩
  · rintro ⟨z, hz, ⟨h1, h2⟩, h3⟩
    refine ⟨z, hz, ?_⟩
    rw [Bool.and_eq_true, Bool.and_eq_true, beq_iff_eq, beq_iff_eq, decide_eq_true_iff]
    exact ⟨h1, h3, h2⟩
theorem mem_gath {t : Nd} {d : ByteArray × Int} : d ∈ gathL [] t ↔ ∃ y ∈ nodesOf t, y.op = 1 ∧ d = (y.nm, y.so) := by
  unfold gathL
  rw [fold_gsD_mem]
  simp
theorem gath_sorted (t : Nd) : (gathL [] t).Pairwise ltD := fold_gsD_sorted _ _ List.Pairwise.nil
theorem near {dl : List (ByteArray × Int)} (hs : dl.Pairwise ltD) {i j : Nat} (hi : i < dl.length) (hj : j < dl.length) (h : i < j) (he : dl[i].1.toList = dl[j].1.toList) : ¬ apartL dl := by
  intro ha
  have hi1 : i + 1 < dl.length := by omega
  refine ha i hi1 ?_
  by_cases e : i + 1 = j
  · subst e; exact he
  · have h1 : ltD dl[i] dl[i + 1] := List.pairwise_iff_getElem.1 hs i (i + 1) hi hi1 (by omega)
    have h2 : ltD dl[i + 1] dl[j] := List.pairwise_iff_getElem.1 hs (i + 1) j hi1 hj (by omega)
    unfold ltD at h1 h2
    rw [← he] at h2
    have hn := cmpB_neg dl[i].1.toList dl[i + 1].1.toList
    rcases h1 with h1 | ⟨h1, _⟩
    · rcases h2 with h2 | ⟨h2, _⟩
      · omega
      · rw [he, h2]
    · rw [h1]
theorem uni_eq (t : Nd) : refUniB t = uniB (nodesOf t) := by
  by_cases h : UOk (nodesOf t)
  · rw [uniB_true h]
    refine refUniB_true ⟨fun i hi he => ?_, fun d hd => ?_⟩
    · obtain ⟨y, hy, hyv, ey⟩ := mem_gath.1 (List.getElem_mem (show i < (gathL [] t).length by omega))
      obtain ⟨z, hz, hzv, ez⟩ := mem_gath.1 (List.getElem_mem hi)
      have hl := List.pairwise_iff_getElem.1 (gath_sorted t) i (i + 1) (by omega) hi (by omega)
      rw [ey, ez] at he hl
      refine h y hy z hz ⟨kOf_inj.2 he, hyv, .inl ⟨hzv, fun hs => ?_⟩⟩
      have : (y.nm, y.so) = (z.nm, z.so) := Prod.ext (toList_inj he) hs
      rw [this] at hl
      exact ltD_irrefl _ hl
    · obtain ⟨y, hy, hyv, rfl⟩ := mem_gath.1 hd
      rw [← Bool.not_eq_true, conB_iff]
      rintro ⟨z, hz, hc, hn⟩
      exact h y hy z hz ⟨kOf_inj.2 hn.symm, hyv, .inr hc⟩
  · rw [uniB_false h]
    refine refUniB_false fun ⟨ha, hc⟩ => h fun y hy z hz hcf => ?_
    obtain ⟨hk, hyv, hzz⟩ := hcf
    have hk := kOf_inj.1 hk
    rcases hzz with ⟨hzv, hs⟩ | hzc
    · obtain ⟨i, hi, ei⟩ := List.getElem_of_mem (mem_gath.2 ⟨y, hy, hyv, rfl⟩)
      obtain ⟨j, hj, ej⟩ := List.getElem_of_mem (mem_gath.2 ⟨z, hz, hzv, rfl⟩)
      by_cases hlt : i < j
      · exact near (gath_sorted t) hi hj hlt (by rw [ei, ej]; exact hk) ha
      · by_cases hgt : j < i
        · exact near (gath_sorted t) hj hi hgt (by rw [ei, ej]; exact hk.symm) ha
        · have : i = j := by omega
          subst this
          rw [ei] at ej
          exact hs (Prod.mk.inj ej).2
    · have := hc (y.nm, y.so) (mem_gath.2 ⟨y, hy, hyv, rfl⟩)
      rw [(conB_iff (nm := y.nm) (t := t)).2 ⟨z, hz, hzc, hk.symm⟩] at this
      cases this

/-- The number of nodes. -/
def cnt (t : Nd) : Nat := (nodesOf t).length
theorem flat_cnt (ks : List Nd) : (ks.flatMap nodesOf).length = (ks.map cnt).sum := by
  rw [List.length_flatMap]; rfl
theorem cnt_eq (t : Nd) : cnt t = 1 + (t.ks.map cnt).sum := by
  rw [cnt, nodesOf_eq, List.length_cons, flat_cnt]; omega
theorem le_sum_mem {l : List Nat} {n : Nat} (h : n ∈ l) : n ≤ l.sum := by
  induction l with
  | nil => cases h
  | cons x xs ih =>
    rw [List.sum_cons]
    rcases List.mem_cons.1 h with rfl | h
    · omega
    · have := ih h; omega
theorem cnt_kid {t : Nd} {k : Nd} (h : k ∈ t.ks) : cnt k + 1 ≤ cnt t := by
  rw [cnt_eq t]
  have : cnt k ≤ (t.ks.map cnt).sum := le_sum_mem (List.mem_map.2 ⟨k, h, rfl⟩)
  omega
theorem pre_cnt (t : Nd) : (preN 1 t).length = cnt t := by rw [cnt, nodesOf, List.length_map]

theorem wrap_small {x : Int} (h0 : -9223372036854775808 ≤ x) (h1 : x ≤ 9223372036854775807) : wrap64 x = x := by unfold wrap64; omega

theorem sizeW_cnt (t : Nd) (h : cnt t ≤ 1048576) : sizeW t = cnt t := by
  induction t using Nd.ind with
  | h t ih =>
  rw [sizeW_eq, cnt_eq]
  rw [cnt_eq] at h
  have key : ∀ (l : List Nd), (∀ i (hi : i < l.length), cnt l[i] ≤ 1048576 → sizeW l[i] = cnt l[i]) → ∀ s : Nat, s + (l.map cnt).sum ≤ 1048577 → (l.map cnt).sum ≤ 1048576 → sizeL s l = (s : Int) + ((l.map cnt).sum : Nat) := by
    intro l
    induction l with
    | nil => intro _ s _ _; simp [sizeL]
    | cons x xs ihx =>
      intro hl s hs hs2
      rw [List.map_cons, List.sum_cons] at hs hs2 ⊢
      have hx : sizeW x = cnt x := hl 0 (by simp) (by show cnt x ≤ _; omega)
      have := ihx (fun i hi => hl (i + 1) (by simp; omega)) (s + cnt x) (by omega) (by omega)
      rw [sizeL, List.foldl_cons, hx, wrap_small (by omega) (by omega), show ((s : Int) + (cnt x : Int)) = ((s + cnt x : Nat) : Int) by omega]
      rw [sizeL] at this
      rw [this]
      omega
  have := key t.ks (fun i hi => ih i hi) 1 (by omega) (by omega)
  rw [show ((1 : Nat) : Int) = 1 from rfl] at this
  rw [this]
  omega

/-- The number of levels. -/
def dep : Nd → Nat
  | .mk _ _ _ _ ks => ks.attach.foldl (fun s k => max s (dep k.1)) 0 + 1
termination_by t => SizeOf.sizeOf t
decreasing_by
  have := List.sizeOf_lt_of_mem k.2
  simp only [Nd.mk.sizeOf_spec]
  omega
def depL (s : Nat) (ks : List Nd) : Nat := ks.foldl (fun s k => max s (dep k)) s
theorem dep_eq (t : Nd) : dep t = depL 0 t.ks + 1 := by
  cases t
  rw [dep, depL]
  simp only [Nd.ks]
  rw [List.foldl_attach (f := fun s k => max s (dep k))]
theorem depL_le {ks : List Nd} {n : Nat} : ∀ s, depL s ks ≤ n ↔ s ≤ n ∧ ∀ k ∈ ks, dep k ≤ n := by
  induction ks with
  | nil => intro s; simp [depL]
  | cons x xs ih =>
    intro s
    have e : depL s (x :: xs) = depL (max s (dep x)) xs := rfl
    rw [e, ih]
    simp only [List.mem_cons, forall_eq_or_imp, Nat.max_le]
    constructor
    · rintro ⟨⟨h1, h2⟩, h3⟩; exact ⟨h1, h2, h3⟩
    · rintro ⟨h1, h2, h3⟩; exact ⟨⟨h1, h2⟩, h3⟩
theorem dep_cnt (t : Nd) : dep t ≤ cnt t := by
  induction t using Nd.ind with
  | h t ih =>
  rw [dep_eq]
  have : depL 0 t.ks ≤ cnt t - 1 := (depL_le 0).2 ⟨Nat.zero_le _, fun k hk => by
    obtain ⟨i, hi, rfl⟩ := List.getElem_of_mem hk
    have h1 := ih i hi
    have h2 := cnt_kid hk
    omega⟩
  have h3 := cnt_eq t
  omega
theorem levW_dep (t : Nd) (h : cnt t ≤ 1048576) : levW t = dep t := by
  induction t using Nd.ind with
  | h t ih =>
  have hd := dep_cnt t
  rw [levW_eq, dep_eq] at *
  have key : ∀ (l : List Nd), (∀ k ∈ l, levW k = dep k) → ∀ s : Nat, levL s l = (depL s l : Nat) := by
    intro l
    induction l with
    | nil => intro _ s; rfl
    | cons x xs ihx =>
      intro hl s
      have e1 : levL s (x :: xs) = levL (max (s : Int) (levW x)) xs := rfl
      have e2 : depL s (x :: xs) = depL (max s (dep x)) xs := rfl
      rw [e1, e2, hl x (by simp), ← ihx (fun k hk => hl k (by simp [hk])) (max s (dep x))]
      congr 1
      omega
  have := key t.ks (fun k hk => by
    have h2 := cnt_kid hk
    obtain ⟨i, hi, rfl⟩ := List.getElem_of_mem hk
    exact ih i hi (by omega)) 0
  rw [show ((0 : Nat) : Int) = 0 from rfl] at this
  rw [this, wrap_small (by omega) (by omega)]
  omega
theorem pre_levels (t : Nd) : ∀ lv : Int, 0 ≤ lv → lv + cnt t ≤ 4000000 → ((∀ p ∈ preN lv t, p.1 ≤ 100) ↔ lv + dep t ≤ 101) := by
  induction t using Nd.ind with
  | h t ih =>
  intro lv h0 hb
  have hw : wrap64 (lv + 1) = lv + 1 := wrap_small (by omega) (by omega)
  have hns : ∀ (l : List Nd), (∀ k ∈ l, ((∀ p ∈ preN (lv + 1) k, p.1 ≤ 100) ↔ lv + 1 + dep k ≤ 101)) → ((∀ p ∈ preNs (lv + 1) l, p.1 ≤ 100) ↔ ∀ k ∈ l, lv + 1 + dep k ≤ 101) := by
    intro l
    induction l with
    | nil => intro _; simp [preNs]
    | cons x xs ihx =>
      intro hl
      rw [preNs]
      simp only [List.mem_append, List.mem_cons, forall_eq_or_imp]
      rw [← hl x (by simp), ← ihx (fun k hk => hl k (by simp [hk]))]
      constructor
      · intro h; exact ⟨fun p hp => h p (.inl hp), fun p hp => h p (.inr hp)⟩
      · rintro ⟨h1, h2⟩ p (hp | hp)
        · exact h1 p hp
        · exact h2 p hp
  have hk := hns t.ks (fun k hk => by
    have h2 := cnt_kid hk
    obtain ⟨i, hi, rfl⟩ := List.getElem_of_mem hk
    exact ih i hi (lv + 1) (by omega) (by omega))
  rw [preN_eq, hw]
  simp only [List.mem_cons, forall_eq_or_imp]
  rw [hk, dep_eq]
  constructor
  · rintro ⟨h1, h2⟩
    have : depL 0 t.ks ≤ (100 - lv).toNat := (depL_le 0).2 ⟨Nat.zero_le _, fun k hk => by have := h2 k hk; omega⟩
    omega
  · intro h
    refine ⟨by omega, fun k hk => ?_⟩
    have := ((depL_le (ks := t.ks) (n := depL 0 t.ks) 0).1 (Nat.le_refl _)).2 k hk
    omega
theorem lim_eq (t : Nd) (h : cnt t ≤ 1048576) : limB (preN 1 t) = decide (¬ (4000 < sizeW t ∨ 100 < levW t)) := by
  unfold limB
  rw [sizeW_cnt t h, levW_dep t h, pre_cnt]
  congr 1
  rw [pre_levels t 1 (by omega) (by omega)]
  apply propext
  omega
/-- What the document's Check returns. -/
noncomputable def refCheckV (t : Nd) (sort : Int) : Int :=
  if sort < 0 ∨ 5 < sort then 1
  else if 4000 < sizeW t ∨ 100 < levW t then 2
  else if allN t = false ∨ refUniB t = false then 3
  else if sort ≠ 0 ∧ sortN t ≠ sort then 10
  else 0
theorem check_eq (t : Nd) (sort : Int) (h : cnt t ≤ 1048576) : checkV t sort = refCheckV t sort := by
  unfold checkV refCheckV
  rw [lim_eq t h, uni_eq, allN_pre]
  simp only [decide_eq_false_iff_not, Classical.not_not]
  rfl

set_option maxRecDepth 100000 in
set_option maxHeartbeats 4000000 in
theorem refCheck_any (t : Nd) (sort : Int) (A : Option Addr) (cap : Nat) (w : World) (hL : Lies w A cap t.ks) (hcnt : cnt t ≤ 1048576) :
    Calls Tryz.prog 75 #[nv t.op t.so t.nm t.nu (.slice A t.ks.length cap), .int .i64 sort] w fun e w' => e = .returned (.int .i64 (refCheckV t sort)) ∧ Below w.heap.size w w' := by
  have HB1 : Below w.heap.size w (w.alloc (.cells #[.int .i64 t.op, .int .i64 t.so, .string t.nm, .int .i64 t.nu, .slice A t.ks.length cap] 44)) := (Below.refl _ _).alloc (Nat.le_refl _) _
  have HL := Lib.hid hL
  have F0 := Lib.hid (five_new w t (.slice A t.ks.length cap) 44)
  clear hL
  by_cases h0 : sort < 0
  · rw [show refCheckV t sort = 1 from if_pos (.inl h0)]
    go_enter Tryz.func75, Tryz.ntmps75
    go_wp2_with fail
    go_ret
    exact ⟨rfl, HB1⟩
  by_cases h5 : 5 < sort
  · rw [show refCheckV t sort = 1 from if_pos (.inr h5)]
    go_enter Tryz.func75, Tryz.ntmps75
    go_wp2_with fail
    go_ret
    exact ⟨rfl, HB1⟩
  have hc1 : refCheckV t sort = if 4000 < sizeW t ∨ 100 < levW t then 2
      else if allN t = false ∨ refUniB t = false then 3
      else if sort ≠ 0 ∧ sortN t ≠ sort then 10 else 0 := if_neg (by omega)
  rw [hc1]
  clear hc1
  by_cases hs : 4000 < sizeW t
  · rw [if_pos (.inl hs)]
    go_enter Tryz.func75, Tryz.ntmps75
    go_wp2_with fail
    refine (refSize_any t _ _ _ (HL.out.later HB1)).mono ?_
    rintro e w1 ⟨rfl, hb1⟩
    have hB : Below w.heap.size w w1 := HB1.trans (hb1.mono (by simp))
    clear hb1
    go_wp2_with fail
    go_ret
    exact ⟨rfl, hB⟩
  by_cases hl : 100 < levW t
  · rw [if_pos (.inr hl)]
    go_enter Tryz.func75, Tryz.ntmps75
    go_wp2_with fail
    refine (refSize_any t _ _ _ (HL.out.later HB1)).mono ?_
    rintro e w1 ⟨rfl, hb1⟩
    have hB : Below w.heap.size w w1 := HB1.trans (hb1.mono (by simp))
    obtain ⟨a0, a1, a2, a3, a4⟩ := F0.out.later hb1
    clear hb1
    go_wp2_with fail
    refine (refLevels_any t _ _ _ (HL.out.later hB)).mono ?_
    rintro e w2 ⟨rfl, hb2⟩
    have hB2 : Below w.heap.size w w2 := hB.trans (hb2.mono hB.size)
    clear hb2 a0 a1 a2 a3 a4
    go_wp2_with fail
    go_ret
    exact ⟨rfl, hB2⟩
  rw [if_neg (by omega)]
  cases hw : allN t
  case false =>
    rw [if_pos (.inl rfl)]
    have Hw := Lib.hid hw
    clear hw
    go_enter Tryz.func75, Tryz.ntmps75
    go_wp2_with fail
    refine (refSize_any t _ _ _ (HL.out.later HB1)).mono ?_
    rintro e w1 ⟨rfl, hb1⟩
    have hB : Below w.heap.size w w1 := HB1.trans (hb1.mono (by simp))
    have F1 := Lib.hid (F0.out.later hb1)
    obtain ⟨a0, a1, a2, a3, a4⟩ := F1.out
    clear hb1
    go_wp2_with fail
    refine (refLevels_any t _ _ _ (HL.out.later hB)).mono ?_
    rintro e w2 ⟨rfl, hb2⟩
    have hB2 : Below w.heap.size w w2 := hB.trans (hb2.mono hB.size)
    have F2 := Lib.hid (F1.out.later hb2)
    clear hb2 a0 a1 a2 a3 a4
    obtain ⟨a0, a1, a2, a3, a4⟩ := F2.out
    go_wp2_with fail
    refine (refSorted_any t _ _ _ (HL.out.later hB2)).mono ?_
    rintro e w3 ⟨rfl, hb3⟩
    rw [Hw.out]
    have hB3 : Below w.heap.size w w3 := hB2.trans (hb3.mono hB2.size)
    clear hb3 a0 a1 a2 a3 a4
    go_wp2_with fail
    go_ret
    exact ⟨rfl, hB3⟩
  have Hw := Lib.hid hw
  clear hw
  cases hu : refUniB t
  case false =>
    rw [if_pos (.inr rfl)]
    have Hu := Lib.hid hu
    clear hu
    go_enter Tryz.func75, Tryz.ntmps75
    go_wp2_with fail
    refine (refSize_any t _ _ _ (HL.out.later HB1)).mono ?_
    rintro e w1 ⟨rfl, hb1⟩
    have hB : Below w.heap.size w w1 := HB1.trans (hb1.mono (by simp))
    have F1 := Lib.hid (F0.out.later hb1)
    obtain ⟨a0, a1, a2, a3, a4⟩ := F1.out
    clear hb1
    go_wp2_with fail
    refine (refLevels_any t _ _ _ (HL.out.later hB)).mono ?_
    rintro e w2 ⟨rfl, hb2⟩
    have hB2 : Below w.heap.size w w2 := hB.trans (hb2.mono hB.size)
    have F2 := Lib.hid (F1.out.later hb2)
    clear hb2 a0 a1 a2 a3 a4
    obtain ⟨a0, a1, a2, a3, a4⟩ := F2.out
    go_wp2_with fail
    refine (refSorted_any t _ _ _ (HL.out.later hB2)).mono ?_
    rintro e w3 ⟨rfl, hb3⟩
    rw [Hw.out]
    have hB3 : Below w.heap.size w w3 := hB2.trans (hb3.mono hB2.size)
    have F3 := Lib.hid (F2.out.later hb3)
    clear hb3 a0 a1 a2 a3 a4
    obtain ⟨a0, a1, a2, a3, a4⟩ := F3.out
    go_wp2_with fail
    refine (refUniform_any t _ _ _ (HL.out.later hB3) hcnt).mono ?_
    rintro e w4 ⟨rfl, hb4⟩
    rw [Hu.out]
    have hB4 : Below w.heap.size w w4 := hB3.trans (hb4.mono hB3.size)
    clear hb4 a0 a1 a2 a3 a4
    go_wp2_with fail
    go_ret
    exact ⟨rfl, hB4⟩
  rw [if_neg (by simp)]
  have Hu := Lib.hid hu
  clear hu
  by_cases hz : sort = 0
  · subst hz
    rw [if_neg (by simp)]
    go_enter Tryz.func75, Tryz.ntmps75
    go_wp2_with fail
    refine (refSize_any t _ _ _ (HL.out.later HB1)).mono ?_
    rintro e w1 ⟨rfl, hb1⟩
    have hB : Below w.heap.size w w1 := HB1.trans (hb1.mono (by simp))
    have F1 := Lib.hid (F0.out.later hb1)
    obtain ⟨a0, a1, a2, a3, a4⟩ := F1.out
    clear hb1
    go_wp2_with fail
    refine (refLevels_any t _ _ _ (HL.out.later hB)).mono ?_
    rintro e w2 ⟨rfl, hb2⟩
    have hB2 : Below w.heap.size w w2 := hB.trans (hb2.mono hB.size)
    have F2 := Lib.hid (F1.out.later hb2)
    clear hb2 a0 a1 a2 a3 a4
    obtain ⟨a0, a1, a2, a3, a4⟩ := F2.out
    go_wp2_with fail
    refine (refSorted_any t _ _ _ (HL.out.later hB2)).mono ?_
    rintro e w3 ⟨rfl, hb3⟩
    rw [Hw.out]
    have hB3 : Below w.heap.size w w3 := hB2.trans (hb3.mono hB2.size)
    have F3 := Lib.hid (F2.out.later hb3)
    clear hb3 a0 a1 a2 a3 a4
    obtain ⟨a0, a1, a2, a3, a4⟩ := F3.out
    go_wp2_with fail
    refine (refUniform_any t _ _ _ (HL.out.later hB3) hcnt).mono ?_
    rintro e w4 ⟨rfl, hb4⟩
    rw [Hu.out]
    have hB4 : Below w.heap.size w w4 := hB3.trans (hb4.mono hB3.size)
    clear hb4 a0 a1 a2 a3 a4
    go_wp2_with fail
    go_ret
    exact ⟨rfl, hB4⟩
  have hz1 : (sort == 0) = false := by simpa using hz
  have hz2 : (sort != 0) = true := by simpa using hz
  have hrest : ∀ v, (if sort ≠ 0 ∧ sortN t ≠ sort then (10 : Int) else 0) = v → (sortN t = sort → v = 0) ∧ (sortN t ≠ sort → v = 10) := fun v hv =>
    ⟨fun e => by rw [← hv, if_neg (by simp [e])], fun e => by rw [← hv, if_pos ⟨hz, e⟩]⟩
  generalize hv : (if sort ≠ 0 ∧ sortN t ≠ sort then (10 : Int) else 0) = v
  have hr := Lib.hid (hrest v hv)
  clear hrest hv hz
  go_enter Tryz.func75, Tryz.ntmps75
  go_wp2_with fail
  refine (refSize_any t _ _ _ (HL.out.later HB1)).mono ?_
  rintro e w1 ⟨rfl, hb1⟩
  have hB : Below w.heap.size w w1 := HB1.trans (hb1.mono (by simp))
  have F1 := Lib.hid (F0.out.later hb1)
  obtain ⟨a0, a1, a2, a3, a4⟩ := F1.out
  clear hb1
  go_wp2_with fail
  refine (refLevels_any t _ _ _ (HL.out.later hB)).mono ?_
  rintro e w2 ⟨rfl, hb2⟩
  have hB2 : Below w.heap.size w w2 := hB.trans (hb2.mono hB.size)
  have F2 := Lib.hid (F1.out.later hb2)
  clear hb2 a0 a1 a2 a3 a4
  obtain ⟨a0, a1, a2, a3, a4⟩ := F2.out
  go_wp2_with fail
  refine (refSorted_any t _ _ _ (HL.out.later hB2)).mono ?_
  rintro e w3 ⟨rfl, hb3⟩
  rw [Hw.out]
  have hB3 : Below w.heap.size w w3 := hB2.trans (hb3.mono hB2.size)
  have F3 := Lib.hid (F2.out.later hb3)
  clear hb3 a0 a1 a2 a3 a4
  obtain ⟨a0, a1, a2, a3, a4⟩ := F3.out
  go_wp2_with fail
  refine (refUniform_any t _ _ _ (HL.out.later hB3) hcnt).mono ?_
  rintro e w4 ⟨rfl, hb4⟩
  rw [Hu.out]
  have hB4 : Below w.heap.size w w4 := hB3.trans (hb4.mono hB3.size)
  have F4 := Lib.hid (F3.out.later hb4)
  clear hb4 a0 a1 a2 a3 a4
  obtain ⟨a0, a1, a2, a3, a4⟩ := F4.out
  go_wp2_with fail
  refine (refSort_any t _ _ _ (HL.out.later hB4)).mono ?_
  rintro e w5 ⟨rfl, hb5⟩
  have hB5 : Below w.heap.size w w5 := hB4.trans (hb5.mono hB4.size)
  clear hb5 a0 a1 a2 a3 a4
  by_cases hs : sortN t = sort
  · have hs1 : (sortN t == sort) = true := by simpa using hs
    have hs2 : (sortN t != sort) = false := by simpa using hs
    obtain rfl := hr.out.1 hs
    clear hs hr
    go_wp2_with fail
    go_ret
    exact ⟨rfl, hB5⟩
  · have hs1 : (sortN t == sort) = false := by simpa using hs
    have hs2 : (sortN t != sort) = true := by simpa using hs
    obtain rfl := hr.out.2 hs
    clear hs hr
    go_wp2_with fail
    go_ret
    exact ⟨rfl, hB5⟩
end Go.Proofs.YtmeeombadkgneaaGreat
