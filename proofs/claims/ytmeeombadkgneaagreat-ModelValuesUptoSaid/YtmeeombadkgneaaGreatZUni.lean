/-
  What package logic's Uniform returns; conditions: the tree lies in memory and has no more nodes than a slice can have elements.
-/
import Derived.Maps.OwnIn
import Derived.Maps.OwnSet
import Derived.Test.YtmeeombadkgneaaGreatZLoops
namespace Go.Proofs.YtmeeombadkgneaaGreat
open Go.RowKit Go.Shelf Go.WideMaps

attribute [local go_sem] Oper.semAt_some

/-- The key of a name in a map. -/
def kOf (s : ByteArray) : Lit := .string s.data.toList
theorem kOf_key (s : ByteArray) : WideAt.IsKeyLit (kOf s) := trivial

def isVar (t : Nd) : Prop := t.op = 1
def isCon (t : Nd) : Prop := t.op = 3 ∧ t.ks.length = 0
/-- Two nodes that a uniform tree does not hold together. -/
def conflict (y z : Nd) : Prop := kOf y.nm = kOf z.nm ∧ isVar y ∧ (isVar z ∧ y.so ≠ z.so ∨ isCon z)
def UOk (l : List Nd) : Prop := ∀ y ∈ l, ∀ z ∈ l, ¬ conflict y z

/-- What the two maps hold of the nodes that have come. -/
structure Agree (l : List Nd) (D1 D2 : DataW Unit) : Prop where
  ok : UOk l
  v : ∀ k, Maps.has D1 k = true ↔ ∃ y ∈ l, isVar y ∧ kOf y.nm = k
  s : ∀ y ∈ l, isVar y → D1.atKey (kOf y.nm) (.lit (.int .i64 0)) = .lit (.int .i64 y.so)
  c : ∀ k, ∃ b, D2.atKey k (.lit (.bool false)) = .lit (.bool b) ∧ (b = true ↔ ∃ y ∈ l, isCon y ∧ kOf y.nm = k)
  m1 : Maps.IsMap D1
  m2 : Maps.IsMap D2

theorem agree_nil : Agree [] (.map []) (.map []) :=
  ⟨fun _ h => by simp at h, fun k => by simp [Maps.has], fun _ h => by simp at h, fun k => ⟨false, rfl, by simp⟩, Maps.isMap_empty, Maps.isMap_empty⟩

theorem uok_snoc {l : List Nd} {x : Nd} (h : UOk l) (h1 : ∀ y ∈ l, ¬ conflict y x) (h2 : ∀ y ∈ l, ¬ conflict x y) (h3 : ¬ conflict x x) : UOk (l ++ [x]) := by
  intro y hy z hz
  rcases List.mem_append.1 hy with ha | ha <;> rcases List.mem_append.1 hz with hb | hb
  · exact h y ha z hb
  · simp only [List.mem_singleton] at hb; subst hb; exact h1 y ha
  · simp only [List.mem_singleton] at ha; subst ha; exact h2 z hb
  · simp only [List.mem_singleton] at ha hb; subst ha; subst hb; exact h3

theorem var_not_con {t : Nd} (h : isVar t) : ¬ isCon t := fun hc => by unfold isVar at h; have := hc.1; omega
theorem self_ok (t : Nd) : ¬ conflict t t := fun h => by
  rcases h.2.2 with ⟨_, h2⟩ | h2
  · exact h2 rfl
  · exact var_not_con h.2.1 h2

theorem agree_other {l : List Nd} {D1 D2 : DataW Unit} (h : Agree l D1 D2) {x : Nd} (hv : ¬ isVar x) (hc : ¬ isCon x) : Agree (l ++ [x]) D1 D2 :=
  ⟨uok_snoc h.ok (fun y _ hh => hh.2.2.elim (fun e => hv e.1) hc) (fun y _ hh => hv hh.2.1) (self_ok x),
   fun k => by rw [h.v]; simp [hv],
   fun y hy hyv => (List.mem_append.1 hy).elim (fun hy => h.s y hy hyv) (fun e => by simp at e; subst e; exact absurd hyv hv),
   fun k => by obtain ⟨b, h1, h2⟩ := h.c k; exact ⟨b, h1, by rw [h2]; simp [hc]⟩, h.m1, h.m2⟩

theorem agree_var {l : List Nd} {D1 D2 : DataW Unit} (h : Agree l D1 D2) {x : Nd} (hv : isVar x) (hno : ∀ y ∈ l, isCon y → kOf y.nm ≠ kOf x.nm) (hs : ∀ y ∈ l, isVar y → kOf y.nm = kOf x.nm → y.so = x.so) :
    Agree (l ++ [x]) (D1.put (kOf x.nm) (.lit (.int .i64 x.so))) D2 :=
  ⟨uok_snoc h.ok (fun y hy hh => hh.2.2.elim (fun e => e.2 (hs y hy hh.2.1 hh.1)) (var_not_con hv)) (fun y hy hh => hh.2.2.elim (fun e => e.2 (hs y hy e.1 hh.1.symm).symm) (fun e => hno y hy e hh.1.symm)) (self_ok x),
   fun k => by
    by_cases e : k = kOf x.nm
    · subst e; rw [Maps.has_put_same h.m1 (kOf_key _)]; simp only [true_iff]; exact ⟨x, by simp, hv, rfl⟩
    · rw [Maps.has_put_other e, h.v]
      constructor
      · rintro ⟨y, hy, h1, h2⟩; exact ⟨y, by simp [hy], h1, h2⟩
      · rintro ⟨y, hy, h1, h2⟩
        rcases List.mem_append.1 hy with hy | hy
        · exact ⟨y, hy, h1, h2⟩
        · simp at hy; subst hy; exact absurd h2.symm e,
   fun y hy hyv => by
    by_cases e : kOf y.nm = kOf x.nm
    · rw [e, Maps.atKey_put_same h.m1 (kOf_key _)]
      rcases List.mem_append.1 hy with hy | hy
      · rw [hs y hy hyv e]
      · simp at hy; subst hy; rfl
    · rw [Maps.atKey_put_other e]
      rcases List.mem_append.1 hy with hy | hy
      · exact h.s y hy hyv
      · simp at hy; subst hy; exact absurd rfl e,
   fun k => by
    obtain ⟨b, h1, h2⟩ := h.c k
    refine ⟨b, h1, ?_⟩
    rw [h2]
    constructor
    · rintro ⟨y, hy, h1, h2⟩; exact ⟨y, by simp [hy], h1, h2⟩
    · rintro ⟨y, hy, h1, h2⟩
      rcases List.mem_append.1 hy with hy | hy
      · exact ⟨y, hy, h1, h2⟩
      · simp at hy; subst hy; exact absurd h1 (var_not_con hv), h.m1.put _ _, h.m2⟩

theorem agree_con {l : List Nd} {D1 D2 : DataW Unit} (h : Agree l D1 D2) {x : Nd} (hc : isCon x) (hno : ∀ y ∈ l, isVar y → kOf y.nm ≠ kOf x.nm) :
    Agree (l ++ [x]) D1 (D2.put (kOf x.nm) (.lit (.bool true))) :=
  ⟨uok_snoc h.ok (fun y hy hh => hno y hy hh.2.1 hh.1) (fun y _ hh => var_not_con hh.2.1 hc) (self_ok x),
   fun k => by
    rw [h.v]
    constructor
    · rintro ⟨y, hy, h1, h2⟩; exact ⟨y, by simp [hy], h1, h2⟩
    · rintro ⟨y, hy, h1, h2⟩
      rcases List.mem_append.1 hy with hy | hy
      · exact ⟨y, hy, h1, h2⟩
      · simp at hy; subst hy; exact absurd hc (var_not_con h1),
   fun y hy hyv => (List.mem_append.1 hy).elim (fun hy => h.s y hy hyv) (fun e => by simp at e; subst e; exact absurd hc (var_not_con hyv)),
   fun k => by
    by_cases e : k = kOf x.nm
    · subst e
      refine ⟨true, Maps.atKey_put_same h.m2 (kOf_key _) _ _, ?_⟩
      simp only [true_iff]
      exact ⟨x, by simp, hc, rfl⟩
    · obtain ⟨b, h1, h2⟩ := h.c k
      refine ⟨b, by rw [Maps.atKey_put_other e]; exact h1, ?_⟩
      rw [h2]
      constructor
      · rintro ⟨y, hy, h1, h2⟩; exact ⟨y, by simp [hy], h1, h2⟩
      · rintro ⟨y, hy, h1, h2⟩
        rcases List.mem_append.1 hy with hy | hy
        · exact ⟨y, hy, h1, h2⟩
        · simp at hy; subst hy; exact absurd h2.symm e, h.m1, h.m2.put _ _⟩

theorem plainElem_bool_inv {H : Type} {P : Program} {e : TypeId} (he : P.underlying e = some .bool) {v : Value} {z : DataW H × List MemPlace} (h : plainElem P e v = some z) : ∃ a, v = .bool a ∧ z = (.lit (.bool a), []) := by
  unfold plainElem at h
  rw [he] at h
  cases v <;> simp at h
  exact ⟨_, rfl, h.symm⟩

theorem wpListIn_lookup_bool {H : Type} {F : Fence} {nF : Nat} {P : Program} (w : World) {ops : Array Oper} {rest : List Oper} {o : Oper} {a : Act} {Q : Exit → Act → World → Prop}
    (hg : o.guard = none) (m x : Operand) (t : TypeId) (hop : o.op = Op.lookup t m x false)
    (k e : TypeId) (K : Maps.Keyed P k) (ht : P.underlying t = some (.map k e)) (he : P.underlying e = some .bool) (hz : (zeroValue e).run P w = .ok (.bool false) w) (b n : Nat) (D : DataW H)
    (hm : a.eval m = .map (some b)) (hown : w.ownsMap P k (plainElem P e) b n D) (key : Value) (kl : Lit) (hx : a.eval x = key) (hkey : keyOf P k key = some kl)
    (hK : ∀ c : Bool, D.atKey kl (.lit (.bool false)) = .lit (.bool c) → wpListIn F nF P ops Q rest (a.put o.dst (.bool c)) w) :
    wpListIn F nF P ops Q (o :: rest) a w := by
  refine wpListIn_plain hg fun K' hK' => ?_
  obtain ⟨v, ps, hrun, hv⟩ := hown.lookup K ht hz (plainElem_bool he false) hkey
  obtain ⟨c, rfl, hc⟩ := plainElem_bool_inv he hv
  have hat := congrArg Prod.fst hc
  unfold Oper.wpIn
  refine ⟨by simp [Oper.about, hop], ?_⟩
  rw [Oper.semAt_plain F _ _ (by rw [hop]; intro c hc'; cases hc')]
  simp [execOp, hop, hm, hx, hrun, Result.andThen]
  exact hK' _ _ (hK c hat)

theorem atKey_int {D : DataW Unit} {k : Lit} {a b : Int} (h : D.atKey k (.lit (.int .i64 0)) = .lit (.int .i64 a)) (h' : D.atKey k (.lit (.int .i64 0)) = .lit (.int .i64 b)) : b = a := by
  rw [h] at h'; cases h'; rfl
theorem atKey_bool {D : DataW Unit} {k : Lit} {a b : Bool} (h : D.atKey k (.lit (.bool false)) = .lit (.bool a)) (h' : D.atKey k (.lit (.bool false)) = .lit (.bool b)) : b = a := by
  rw [h] at h'; cases h'; rfl

open Classical in
/-- Whether no name has variables of two sorts, or a variable and an application without kids. -/
noncomputable def uniB (l : List Nd) : Bool := decide (UOk l)
theorem uniB_true {l : List Nd} (h : UOk l) : uniB l = true := by
  unfold uniB
  exact @decide_eq_true _ (Classical.propDecidable _) h
theorem uniB_false {l : List Nd} (h : ¬ UOk l) : uniB l = false := by
  unfold uniB
  exact @decide_eq_false _ (Classical.propDecidable _) h

theorem not_uok_l {w0 : World} {pre : List (El w0)} {x : El w0} {y : Nd} (hy : y ∈ pre.map (·.t)) (h : conflict y x.t) : Hid (¬ UOk ((pre ++ [x]).map (·.t))) := fun hh =>
  hh y (by rw [List.map_append]; exact List.mem_append.2 (.inl hy)) x.t (by simp) h
theorem not_uok_r {w0 : World} {pre : List (El w0)} {x : El w0} {y : Nd} (hy : y ∈ pre.map (·.t)) (h : conflict x.t y) : Hid (¬ UOk ((pre ++ [x]).map (·.t))) := fun hh =>
  hh x.t (by simp) y (by rw [List.map_append]; exact List.mem_append.2 (.inl hy)) h

/-- The box of a node. -/
@[reducible] def boxO (t : Nd) (s : Value) : Obj := .cells #[.int .i64 t.op, .int .i64 t.so, .string t.nm, .int .i64 t.nu, s] 44

theorem KpC.of_grownBy {n₀ m₀ b : Nat} {W W' : World} (hg : W.grownBy W' (some b)) (h1 : n₀ ≤ b) (h2 : b < m₀) (hn : n₀ ≤ W.heap.size) : KpC n₀ m₀ W W' :=
  ⟨(Below.refl n₀ W).grown hg hn (fun k e => by cases e; exact h1), fun k o hk ho _ => (hg.block k (Array.getElem?_eq_some_iff.1 ho).1 (fun e => by cases e; omega)).trans ho⟩

/-- What the loop of Uniform knows between two rounds. -/
def UniI (N : Nat) {w0 : World} (pre : List (El w0)) (W : World) : Prop :=
  ∃ D1 D2, Agree (pre.map (·.t)) D1 D2 ∧ W.ownsMap Tryz.prog 9 (plainElem Tryz.prog 3) (N + 1 + 1) pre.length D1 ∧ W.ownsMap Tryz.prog 9 (plainElem Tryz.prog 4) (N + 1 + 1 + 1 + 1) pre.length D2

theorem uniI_from (N : Nat) {w0 : World} : OwnFrom (N + 1 + 1 + 1 + 1 + 1 + 1 + 1) (fun (pre : List (El w0)) W => UniI N pre W) := by
  intro pre X Y row hs hg hr
  obtain ⟨D1, D2, h, h1, h2⟩ := hs
  exact ⟨D1, D2, h, h1.kept hg (fun e => by have := (hr _ e.symm).1; omega), h2.kept hg (fun e => by have := (hr _ e.symm).1; omega)⟩

set_option maxRecDepth 100000 in
set_option maxHeartbeats 2000000 in
theorem uniform_any (t : Nd) (A : Option Addr) (cap : Nat) (w : World) (hL : Lies w A cap t.ks) (hfine : Fine t) (hbig : (preN 1 t).length ≤ maxLen) :
    Calls Tryz.prog 95 #[nv t.op t.so t.nm t.nu (.slice A t.ks.length cap)] w fun e w' => e = .returned (.bool (uniB ((preN 1 t).map Prod.snd))) ∧ Below w.heap.size w w' := by
  obtain ⟨xs, hxs, hst⟩ := walk_stops t A cap w hL hfine
  rw [← hxs] at hbig ⊢
  clear hxs
  rw [List.length_map] at hbig
  have hmm := @run_makeMap Tryz.prog
  refine callsIn_wide (n := 9).1 ?_
  refine callsIn_of_wp_marks Tryz.func95 rfl trivial ?_ rfl
  simp only [Tryz.ntmps95, List.size_toArray, List.length_cons, List.length_nil, Nat.reduceAdd, Nat.reduceSub, Array.replicate_succ, Array.replicate_zero, List.push_toArray, List.append_toArray, List.nil_append, List.cons_append]
  have H := Lib.hid hst
  have HL := Lib.hid hL
  clear hst hL
  gi_wp2_with (refine ⟨trivial, ?_⟩; gi_at_call 97; refine (walkClo_any _ _ _ _ _ _ _).mono ?_; rintro e w' ⟨rfl, rfl⟩)
  obtain ⟨N, hN⟩ : ∃ N, N = w.heap.size := ⟨_, rfl⟩
  have hB0 : Below w.heap.size w (((((((w.alloc (boxO t (.slice A t.ks.length cap))).alloc (.cells #[.bool false] 4)).alloc (.map #[] 0)).alloc (.cells #[.map (some (w.heap.size + 1 + 1))] 130)).alloc (.map #[] 0)).alloc (.cells #[.map (some (w.heap.size + 1 + 1 + 1 + 1))] 131)).alloc (boxO t (.slice A t.ks.length cap))) :=
    (((((((Below.refl _ w).alloc (Nat.le_refl _) _).alloc (by simp) _).alloc (by simp; omega) _).alloc (by simp; omega) _).alloc (by simp; omega) _).alloc (by simp; omega) _).alloc (by simp; omega) _
  have r0 := cell_new_l (w.alloc (boxO t (.slice A t.ks.length cap))) (.bool false) 4
  have m1 := World.ownsMap_made ((w.alloc (boxO t (.slice A t.ks.length cap))).alloc (.cells #[.bool false] 4)) Tryz.prog 9 (plainElem (H := Unit) Tryz.prog 3)
  have v0 := cell_new_l (((w.alloc (boxO t (.slice A t.ks.length cap))).alloc (.cells #[.bool false] 4)).alloc (.map #[] 0)) (.map (some (w.heap.size + 1 + 1))) 130
  have m2 := World.ownsMap_made ((((w.alloc (boxO t (.slice A t.ks.length cap))).alloc (.cells #[.bool false] 4)).alloc (.map #[] 0)).alloc (.cells #[.map (some (w.heap.size + 1 + 1))] 130)) Tryz.prog 9 (plainElem (H := Unit) Tryz.prog 4)
  have k0 := cell_new_l (((((w.alloc (boxO t (.slice A t.ks.length cap))).alloc (.cells #[.bool false] 4)).alloc (.map #[] 0)).alloc (.cells #[.map (some (w.heap.size + 1 + 1))] 130)).alloc (.map #[] 0)) (.map (some (w.heap.size + 1 + 1 + 1 + 1))) 131
  have c1 := five_new ((((((w.alloc (boxO t (.slice A t.ks.length cap))).alloc (.cells #[.bool false] 4)).alloc (.map #[] 0)).alloc (.cells #[.map (some (w.heap.size + 1 + 1))] 130)).alloc (.map #[] 0)).alloc (.cells #[.map (some (w.heap.size + 1 + 1 + 1 + 1))] 131)) t (.slice A t.ks.length cap) 44
  simp only [World.size_alloc] at r0 m1 v0 m2 k0 c1
  refine wpIn_rangeFunc_ownH rfl (by decide) (gf := 119) (lb := #[.pointer (some ⟨w.heap.size + 1 + 1 + 1 + 1 + 1 + 1, 0, none⟩)]) rfl trivial (enters_of Tryz.func119 (by kernel_rfl) rfl)
    (H.out _ _ _ hB0 c1) KpC.trans (kpC_b (by simp; omega)) (Below.refl _ _) (fun _ => rfl)
    (fun pre W => (UniI w.heap.size pre W ∧ W.cell? ⟨w.heap.size + 1, 0, none⟩ = some (.bool false) ∧ W.frozen? ⟨w.heap.size + 1, 0, none⟩ = false ∧ W.cell? ⟨w.heap.size + 1 + 1 + 1, 0, none⟩ = some (.map (some (w.heap.size + 1 + 1))) ∧ W.cell? ⟨w.heap.size + 1 + 1 + 1 + 1 + 1, 0, none⟩ = some (.map (some (w.heap.size + 1 + 1 + 1 + 1)))) ∧ Below w.heap.size w W)
    (fun c pre W => (c = .ret ∧ Hid (¬ UOk (pre.map (·.t))) ∧ W.cell? ⟨w.heap.size + 1, 0, none⟩ = some (.bool false)) ∧ Below w.heap.size w W)
    (OwnFrom.and (fun s A B row hs hg hr => ⟨uniI_from _ s A B row hs.1 hg (by simpa using hr), cell_kept hs.2.1 hg (fun r e => (hr r e).2), (frozen_kept hs.2.1 hg (fun r e => (hr r e).2)).trans hs.2.2.1, cell_kept hs.2.2.2.1 hg (fun r e => (hr r e).2), cell_kept hs.2.2.2.2 hg (fun r e => (hr r e).2)⟩) (ownFrom_below (Nat.le_refl _) (by simp; omega)))
    (fun c => OwnFrom.and (Own.from (fun s A B row hs hg hr => ⟨hs.1, hs.2.1, cell_kept hs.2.2 hg hr⟩) _) (ownFrom_below (Nat.le_refl _) (by simp; omega)))
    ⟨⟨⟨_, _, agree_nil, ((((m1.alloc _).alloc _).alloc _).alloc _), ((m2.alloc _).alloc _)⟩, cell_alloc_l _ (cell_alloc_l _ (cell_alloc_l _ (cell_alloc_l _ (cell_alloc_l _ r0.1)))),
      frozen_alloc_l _ (cell_alloc_l _ (cell_alloc_l _ (cell_alloc_l _ (cell_alloc_l _ r0.1)))) (frozen_alloc_l _ (cell_alloc_l _ (cell_alloc_l _ (cell_alloc_l _ r0.1))) (frozen_alloc_l _ (cell_alloc_l _ (cell_alloc_l _ r0.1)) (frozen_alloc_l _ (cell_alloc_l _ r0.1) (frozen_alloc_l _ r0.1 r0.2)))),
      cell_alloc_l _ (cell_alloc_l _ (cell_alloc_l _ v0.1)), cell_alloc_l _ k0.1⟩, hB0⟩
    (fun x a' W => BoxAt (fun Bx => { tmps := #[nv t.op t.so t.nm t.nu (.slice A t.ks.length cap), .pointer (some ⟨w.heap.size, 0, none⟩), .pointer (some ⟨w.heap.size + 1, 0, none⟩), .pointer (some ⟨w.heap.size + 1 + 1 + 1, 0, none⟩), .pointer (some ⟨w.heap.size + 1 + 1 + 1 + 1 + 1, 0, none⟩), undef, .pointer (some ⟨Bx, 0, none⟩), undef, undef, .map (some (w.heap.size + 1 + 1)), .map (some (w.heap.size + 1 + 1 + 1 + 1)), nv t.op t.so t.nm t.nu (.slice A t.ks.length cap), .func (.func 119) #[] #[.pointer (some ⟨w.heap.size + 1 + 1 + 1 + 1 + 1 + 1, 0, none⟩)], .int .i64 x.lv, nv x.t.op x.t.so x.t.nm x.t.nu (.slice x.A x.t.ks.length x.cap),
      undef, undef, undef, undef, undef, undef, undef, undef, undef, undef, undef, undef, undef, undef, undef, undef, undef, undef, undef, undef, undef, undef, undef, undef, undef, undef, undef, undef, undef, undef, undef, undef, undef, undef, undef, undef, undef, undef, undef, undef, undef, undef, undef], defers := [] }) x a' W)
    (fun x a' => boxAt_own _ _ x a') ?assign ?body ?done ?stop
  case assign =>
    rintro l pre x W K ⟨⟨hu, hr, hrf, hv, hc⟩, hB⟩ hK
    have hu := Lib.hid hu
    have HK := Lib.hid hK
    clear H HL hB0 r0 c1 hK m1 m2 v0 k0 hmm
    simp only [encE]
    gi_wp2
    obtain ⟨D1, D2, h, h1, h2⟩ := hu.out
    exact HK.out _ _ (KeepsFrom.alloc _ _ _) ((KpC.refl _ _ W).alloc hB.size _) ⟨⟨⟨D1, D2, h, h1.alloc _, h2.alloc _⟩, cell_alloc_l _ hr, frozen_alloc_l _ hr hrf, cell_alloc_l _ hv, cell_alloc_l _ hc⟩, hB.alloc hB.size _⟩ ⟨W.heap.size, five_new _ _ _ _, rfl⟩
  case body =>
    rintro l pre x a' W hl hrec ⟨⟨⟨D1, D2, hag, h1, h2⟩, hr, hrf, hv, hc⟩, hB⟩ ⟨Bx, hx5, rfl⟩ hlt
    have hkey : keyOf Tryz.prog 9 (.string x.t.nm) = some (kOf x.t.nm) := keyOf_string_mk Tryz.underlying9 x.fine.nm
    obtain ⟨c0, _, hc0, _⟩ := h1.lookup_int (t := 130) (Maps.string_keyed Tryz.underlying9) Tryz.underlying130 Tryz.underlying3 (Tryz.zeroValue3 _) hkey
    obtain ⟨cb, hcb, hcbi⟩ := hag.c (kOf x.t.nm)
    have hag := Lib.hid hag
    have h1 := Lib.hid h1
    have h2 := Lib.hid h2
    have hc0 := Lib.hid hc0
    have hcb := Lib.hid hcb
    have hcbi := Lib.hid hcbi
    have hB := Lib.hid hB
    have hlen : pre.length < maxLen := by omega
    obtain ⟨a0, a1, a2, a3, a4⟩ := hx5
    have e3 := Lib.hid (World.cell?_setCell_same' W ⟨w.heap.size + 1, 0, none⟩ (.bool false) (by rw [hr]; rfl))
    clear H HL hB0 r0 c1 hrec m1 m2 v0 k0 hmm
    by_cases o1 : x.t.op = 1
    case pos =>
      have o1' : (x.t.op == 1) = true := by simpa using o1
      have hvx : Hid (isVar x.t) := o1
      clear o1
      cases cb
      case true =>
        have Hno : Hid (¬ UOk ((pre ++ [x]).map (·.t))) := by
          obtain ⟨y, hy, hyc, hyk⟩ := hcbi.out.1 rfl
          exact not_uok_r hy ⟨hyk.symm, hvx.out, .inr hyc⟩
        clear hcbi hag
        gi_wp2_with (first
                | (gi_at_lookup; refine wpListIn_lookup_own_ok_int _ rfl _ _ 130 rfl 9 3 .i64 (Maps.string_keyed Tryz.underlying9) Tryz.underlying130 Tryz.underlying3 (Tryz.zeroValue3 _) (w.heap.size + 1 + 1) pre.length _ rfl h1.out _ _ rfl hkey ?_; intro c hat hwc; have hcc := atKey_int hc0.out hat; subst hcc; clear hat hwc)
                | (gi_at_lookup; refine wpListIn_lookup_bool _ rfl _ _ 131 rfl 9 4 (Maps.string_keyed Tryz.underlying9) Tryz.underlying131 Tryz.underlying4 (Tryz.zeroValue4 _) (w.heap.size + 1 + 1 + 1 + 1) pre.length _ rfl h2.out _ _ rfl hkey ?_; intro c hat; have hcc := atKey_bool hcb.out hat; subst hcc; clear hat)
                | (gi_at_mapUpdate; refine wpListIn_mapUpdate_own _ rfl _ _ _ 130 rfl 9 3 (Maps.string_keyed Tryz.underlying9) Tryz.underlying130 _ (w.heap.size + 1 + 1) pre.length _ rfl h1.out (by omega) _ _ _ rfl rfl hkey _ [] (plainElem_int Tryz.underlying3 x.fine.so) ?_; intro w1 hown1 hgrow1)
                | (gi_at_mapUpdate; refine wpListIn_mapUpdate_own _ rfl _ _ _ 131 rfl 9 4 (Maps.string_keyed Tryz.underlying9) Tryz.underlying131 _ (w.heap.size + 1 + 1 + 1 + 1) pre.length _ rfl h2.out (by omega) _ _ _ rfl rfl hkey _ [] (plainElem_bool Tryz.underlying4 true) ?_; intro w1 hown1 hgrow1))
        all_goals first | (exact ⟨by simpa using KeepsFrom.setCell _ W ⟨w.heap.size + 1, 0, none⟩ (.bool false), ⟨rfl, Hno.out, e3.out⟩, hB.out.setCell (p := ⟨w.heap.size + 1, 0, none⟩) (by simp) _⟩) | (have hq : W.frozen? ⟨w.heap.size + 1, 0, none⟩ = true := (by assumption); exact absurd (hrf.symm.trans hq) (by simp))
      case false =>
        have hnc : Hid (∀ y ∈ pre.map (·.t), isCon y → kOf y.nm ≠ kOf x.t.nm) := fun y hy hyc hyk => by
          have := hcbi.out.2 ⟨y, hy, hyc, hyk⟩
          cases this
        cases hk : Maps.has D1 (kOf x.t.nm)
        case true =>
          obtain ⟨y, hy, hyv, hyk⟩ := (hag.out.v (kOf x.t.nm)).1 hk
          have hys : c0 = y.so := by
            have := hag.out.s y hy hyv
            rw [hyk] at this
            exact atKey_int this hc0.out
          by_cases hs : c0 = x.t.so
          case neg =>
            have hs' : (c0 == x.t.so) = false := by simpa using hs
            have hs2 : (c0 != x.t.so) = true := by simpa using hs
            have Hno : Hid (¬ UOk ((pre ++ [x]).map (·.t))) := not_uok_l hy ⟨hyk, hyv, .inl ⟨hvx.out, fun e => hs (hys.trans e)⟩⟩
            clear hcbi hag hs hys hy hyv hyk
            gi_wp2_with (first
                    | (gi_at_lookup; refine wpListIn_lookup_own_ok_int _ rfl _ _ 130 rfl 9 3 .i64 (Maps.string_keyed Tryz.underlying9) Tryz.underlying130 Tryz.underlying3 (Tryz.zeroValue3 _) (w.heap.size + 1 + 1) pre.length _ rfl h1.out _ _ rfl hkey ?_; intro c hat hwc; have hcc := atKey_int hc0.out hat; subst hcc; clear hat hwc)
                    | (gi_at_lookup; refine wpListIn_lookup_bool _ rfl _ _ 131 rfl 9 4 (Maps.string_keyed Tryz.underlying9) Tryz.underlying131 Tryz.underlying4 (Tryz.zeroValue4 _) (w.heap.size + 1 + 1 + 1 + 1) pre.length _ rfl h2.out _ _ rfl hkey ?_; intro c hat; have hcc := atKey_bool hcb.out hat; subst hcc; clear hat)
                    | (gi_at_mapUpdate; refine wpListIn_mapUpdate_own _ rfl _ _ _ 130 rfl 9 3 (Maps.string_keyed Tryz.underlying9) Tryz.underlying130 _ (w.heap.size + 1 + 1) pre.length _ rfl h1.out (by omega) _ _ _ rfl rfl hkey _ [] (plainElem_int Tryz.underlying3 x.fine.so) ?_; intro w1 hown1 hgrow1)
                    | (gi_at_mapUpdate; refine wpListIn_mapUpdate_own _ rfl _ _ _ 131 rfl 9 4 (Maps.string_keyed Tryz.underlying9) Tryz.underlying131 _ (w.heap.size + 1 + 1 + 1 + 1) pre.length _ rfl h2.out (by omega) _ _ _ rfl rfl hkey _ [] (plainElem_bool Tryz.underlying4 true) ?_; intro w1 hown1 hgrow1))
            all_goals first | (exact ⟨by simpa using KeepsFrom.setCell _ W ⟨w.heap.size + 1, 0, none⟩ (.bool false), ⟨rfl, Hno.out, e3.out⟩, hB.out.setCell (p := ⟨w.heap.size + 1, 0, none⟩) (by simp) _⟩) | (have hq : W.frozen? ⟨w.heap.size + 1, 0, none⟩ = true := (by assumption); exact absurd (hrf.symm.trans hq) (by simp))
          case pos =>
            have hs' : (c0 == x.t.so) = true := by simpa using hs
            have hs2 : (c0 != x.t.so) = false := by simpa using hs
            have Hag : Hid (Agree ((pre ++ [x]).map (·.t)) (D1.put (kOf x.t.nm) (.lit (.int .i64 x.t.so))) D2) := by
              rw [List.map_append]
              refine agree_var hag.out hvx.out hnc.out (fun z hz hzv hzk => ?_)
              have := hag.out.s z hz hzv
              rw [hzk] at this
              exact (atKey_int this hc0.out).symm.trans hs
            clear hcbi hag hs hys hy hyv hyk
            gi_wp2_with (first
                    | (gi_at_lookup; refine wpListIn_lookup_own_ok_int _ rfl _ _ 130 rfl 9 3 .i64 (Maps.string_keyed Tryz.underlying9) Tryz.underlying130 Tryz.underlying3 (Tryz.zeroValue3 _) (w.heap.size + 1 + 1) pre.length _ rfl h1.out _ _ rfl hkey ?_; intro c hat hwc; have hcc := atKey_int hc0.out hat; subst hcc; clear hat hwc)
                    | (gi_at_lookup; refine wpListIn_lookup_bool _ rfl _ _ 131 rfl 9 4 (Maps.string_keyed Tryz.underlying9) Tryz.underlying131 Tryz.underlying4 (Tryz.zeroValue4 _) (w.heap.size + 1 + 1 + 1 + 1) pre.length _ rfl h2.out _ _ rfl hkey ?_; intro c hat; have hcc := atKey_bool hcb.out hat; subst hcc; clear hat)
                    | (gi_at_mapUpdate; refine wpListIn_mapUpdate_own _ rfl _ _ _ 130 rfl 9 3 (Maps.string_keyed Tryz.underlying9) Tryz.underlying130 _ (w.heap.size + 1 + 1) pre.length _ rfl h1.out (by omega) _ _ _ rfl rfl hkey _ [] (plainElem_int Tryz.underlying3 x.fine.so) ?_; intro w1 hown1 hgrow1)
                    | (gi_at_mapUpdate; refine wpListIn_mapUpdate_own _ rfl _ _ _ 131 rfl 9 4 (Maps.string_keyed Tryz.underlying9) Tryz.underlying131 _ (w.heap.size + 1 + 1 + 1 + 1) pre.length _ rfl h2.out (by omega) _ _ _ rfl rfl hkey _ [] (plainElem_bool Tryz.underlying4 true) ?_; intro w1 hown1 hgrow1))
            obtain ⟨es, ck, hh, _⟩ := h1.out
            have hrow : ∀ r, some (w.heap.size + 1 + 1) = some r → ∃ o : Obj, W.heap[r]? = some o ∧ o.isCells = false := fun r e => by cases e; exact ⟨_, hh, rfl⟩
            exact ⟨KeepsFrom.of_grownBy hgrow1 (fun j e => by cases e; first | (simp; done) | (simp; omega)), KpC.of_grownBy hgrow1 (by omega) (by first | (simp; done) | (simp; omega)) hB.out.size, ⟨⟨_, D2, Hag.out, by simpa using hown1, (h2.out.kept hgrow1 (by first | (simp; done) | (simp; omega))).mono (by simp)⟩, cell_kept hr hgrow1 hrow, (frozen_kept hr hgrow1 hrow).trans hrf, cell_kept hv hgrow1 hrow, cell_kept hc hgrow1 hrow⟩, hB.out.grown hgrow1 hB.out.size (fun k e => by cases e; omega)⟩
        case false =>
          have Hag : Hid (Agree ((pre ++ [x]).map (·.t)) (D1.put (kOf x.t.nm) (.lit (.int .i64 x.t.so))) D2) := by
            rw [List.map_append]
            refine agree_var hag.out hvx.out hnc.out (fun z hz hzv hzk => ?_)
            have := (hag.out.v (kOf x.t.nm)).2 ⟨z, hz, hzv, hzk⟩
            rw [hk] at this
            cases this
          clear hcbi hag
          gi_wp2_with (first
                  | (gi_at_lookup; refine wpListIn_lookup_own_ok_int _ rfl _ _ 130 rfl 9 3 .i64 (Maps.string_keyed Tryz.underlying9) Tryz.underlying130 Tryz.underlying3 (Tryz.zeroValue3 _) (w.heap.size + 1 + 1) pre.length _ rfl h1.out _ _ rfl hkey ?_; intro c hat hwc; have hcc := atKey_int hc0.out hat; subst hcc; clear hat hwc)
                  | (gi_at_lookup; refine wpListIn_lookup_bool _ rfl _ _ 131 rfl 9 4 (Maps.string_keyed Tryz.underlying9) Tryz.underlying131 Tryz.underlying4 (Tryz.zeroValue4 _) (w.heap.size + 1 + 1 + 1 + 1) pre.length _ rfl h2.out _ _ rfl hkey ?_; intro c hat; have hcc := atKey_bool hcb.out hat; subst hcc; clear hat)
                  | (gi_at_mapUpdate; refine wpListIn_mapUpdate_own _ rfl _ _ _ 130 rfl 9 3 (Maps.string_keyed Tryz.underlying9) Tryz.underlying130 _ (w.heap.size + 1 + 1) pre.length _ rfl h1.out (by omega) _ _ _ rfl rfl hkey _ [] (plainElem_int Tryz.underlying3 x.fine.so) ?_; intro w1 hown1 hgrow1)
                  | (gi_at_mapUpdate; refine wpListIn_mapUpdate_own _ rfl _ _ _ 131 rfl 9 4 (Maps.string_keyed Tryz.underlying9) Tryz.underlying131 _ (w.heap.size + 1 + 1 + 1 + 1) pre.length _ rfl h2.out (by omega) _ _ _ rfl rfl hkey _ [] (plainElem_bool Tryz.underlying4 true) ?_; intro w1 hown1 hgrow1))
          obtain ⟨es, ck, hh, _⟩ := h1.out
          have hrow : ∀ r, some (w.heap.size + 1 + 1) = some r → ∃ o : Obj, W.heap[r]? = some o ∧ o.isCells = false := fun r e => by cases e; exact ⟨_, hh, rfl⟩
          exact ⟨KeepsFrom.of_grownBy hgrow1 (fun j e => by cases e; first | (simp; done) | (simp; omega)), KpC.of_grownBy hgrow1 (by omega) (by first | (simp; done) | (simp; omega)) hB.out.size, ⟨⟨_, D2, Hag.out, by simpa using hown1, (h2.out.kept hgrow1 (by first | (simp; done) | (simp; omega))).mono (by simp)⟩, cell_kept hr hgrow1 hrow, (frozen_kept hr hgrow1 hrow).trans hrf, cell_kept hv hgrow1 hrow, cell_kept hc hgrow1 hrow⟩, hB.out.grown hgrow1 hB.out.size (fun k e => by cases e; omega)⟩
    have o1' : (x.t.op == 1) = false := by simpa using o1
    have hvx : Hid (¬ isVar x.t) := o1
    clear o1
    by_cases o3 : x.t.op = 3
    case neg =>
      have o3' : (x.t.op == 3) = false := by simpa using o3
      have Hag : Hid (Agree ((pre ++ [x]).map (·.t)) D1 D2) := by
        rw [List.map_append]
        exact agree_other hag.out hvx.out (fun h => o3 h.1)
      clear hcbi hag o3
      gi_wp2_with (first
              | (gi_at_lookup; refine wpListIn_lookup_own_ok_int _ rfl _ _ 130 rfl 9 3 .i64 (Maps.string_keyed Tryz.underlying9) Tryz.underlying130 Tryz.underlying3 (Tryz.zeroValue3 _) (w.heap.size + 1 + 1) pre.length _ rfl h1.out _ _ rfl hkey ?_; intro c hat hwc; have hcc := atKey_int hc0.out hat; subst hcc; clear hat hwc)
              | (gi_at_lookup; refine wpListIn_lookup_bool _ rfl _ _ 131 rfl 9 4 (Maps.string_keyed Tryz.underlying9) Tryz.underlying131 Tryz.underlying4 (Tryz.zeroValue4 _) (w.heap.size + 1 + 1 + 1 + 1) pre.length _ rfl h2.out _ _ rfl hkey ?_; intro c hat; have hcc := atKey_bool hcb.out hat; subst hcc; clear hat)
              | (gi_at_mapUpdate; refine wpListIn_mapUpdate_own _ rfl _ _ _ 130 rfl 9 3 (Maps.string_keyed Tryz.underlying9) Tryz.underlying130 _ (w.heap.size + 1 + 1) pre.length _ rfl h1.out (by omega) _ _ _ rfl rfl hkey _ [] (plainElem_int Tryz.underlying3 x.fine.so) ?_; intro w1 hown1 hgrow1)
              | (gi_at_mapUpdate; refine wpListIn_mapUpdate_own _ rfl _ _ _ 131 rfl 9 4 (Maps.string_keyed Tryz.underlying9) Tryz.underlying131 _ (w.heap.size + 1 + 1 + 1 + 1) pre.length _ rfl h2.out (by omega) _ _ _ rfl rfl hkey _ [] (plainElem_bool Tryz.underlying4 true) ?_; intro w1 hown1 hgrow1))
      all_goals
        exact ⟨KeepsFrom.refl _ _, KpC.refl _ _ _, ⟨⟨D1, D2, Hag.out, h1.out.mono (by simp), h2.out.mono (by simp)⟩, hr, hrf, hv, hc⟩, hB.out⟩
    have o3' : (x.t.op == 3) = true := by simpa using o3
    by_cases ol : x.t.ks.length = 0
    case neg =>
      have ol' : ((x.t.ks.length : Int) == 0) = false := by rw [beq_eq_false_iff_ne]; omega
      have Hag : Hid (Agree ((pre ++ [x]).map (·.t)) D1 D2) := by
        rw [List.map_append]
        exact agree_other hag.out hvx.out (fun h => ol h.2)
      clear hcbi hag o3 ol
      gi_wp2_with (first
              | (gi_at_lookup; refine wpListIn_lookup_own_ok_int _ rfl _ _ 130 rfl 9 3 .i64 (Maps.string_keyed Tryz.underlying9) Tryz.underlying130 Tryz.underlying3 (Tryz.zeroValue3 _) (w.heap.size + 1 + 1) pre.length _ rfl h1.out _ _ rfl hkey ?_; intro c hat hwc; have hcc := atKey_int hc0.out hat; subst hcc; clear hat hwc)
              | (gi_at_lookup; refine wpListIn_lookup_bool _ rfl _ _ 131 rfl 9 4 (Maps.string_keyed Tryz.underlying9) Tryz.underlying131 Tryz.underlying4 (Tryz.zeroValue4 _) (w.heap.size + 1 + 1 + 1 + 1) pre.length _ rfl h2.out _ _ rfl hkey ?_; intro c hat; have hcc := atKey_bool hcb.out hat; subst hcc; clear hat)
              | (gi_at_mapUpdate; refine wpListIn_mapUpdate_own _ rfl _ _ _ 130 rfl 9 3 (Maps.string_keyed Tryz.underlying9) Tryz.underlying130 _ (w.heap.size + 1 + 1) pre.length _ rfl h1.out (by omega) _ _ _ rfl rfl hkey _ [] (plainElem_int Tryz.underlying3 x.fine.so) ?_; intro w1 hown1 hgrow1)
              | (gi_at_mapUpdate; refine wpListIn_mapUpdate_own _ rfl _ _ _ 131 rfl 9 4 (Maps.string_keyed Tryz.underlying9) Tryz.underlying131 _ (w.heap.size + 1 + 1 + 1 + 1) pre.length _ rfl h2.out (by omega) _ _ _ rfl rfl hkey _ [] (plainElem_bool Tryz.underlying4 true) ?_; intro w1 hown1 hgrow1))
      all_goals
        exact ⟨KeepsFrom.refl _ _, KpC.refl _ _ _, ⟨⟨D1, D2, Hag.out, h1.out.mono (by simp), h2.out.mono (by simp)⟩, hr, hrf, hv, hc⟩, hB.out⟩
    have ol' : ((x.t.ks.length : Int) == 0) = true := by rw [beq_iff_eq]; omega
    have hcx : Hid (isCon x.t) := ⟨o3, ol⟩
    clear o3 ol
    cases hk : Maps.has D1 (kOf x.t.nm)
    case true =>
      have Hno : Hid (¬ UOk ((pre ++ [x]).map (·.t))) := by
        obtain ⟨y, hy, hyv, hyk⟩ := (hag.out.v (kOf x.t.nm)).1 hk
        exact not_uok_l hy ⟨hyk, hyv, .inr hcx.out⟩
      clear hcbi hag
      gi_wp2_with (first
              | (gi_at_lookup; refine wpListIn_lookup_own_ok_int _ rfl _ _ 130 rfl 9 3 .i64 (Maps.string_keyed Tryz.underlying9) Tryz.underlying130 Tryz.underlying3 (Tryz.zeroValue3 _) (w.heap.size + 1 + 1) pre.length _ rfl h1.out _ _ rfl hkey ?_; intro c hat hwc; have hcc := atKey_int hc0.out hat; subst hcc; clear hat hwc)
              | (gi_at_lookup; refine wpListIn_lookup_bool _ rfl _ _ 131 rfl 9 4 (Maps.string_keyed Tryz.underlying9) Tryz.underlying131 Tryz.underlying4 (Tryz.zeroValue4 _) (w.heap.size + 1 + 1 + 1 + 1) pre.length _ rfl h2.out _ _ rfl hkey ?_; intro c hat; have hcc := atKey_bool hcb.out hat; subst hcc; clear hat)
              | (gi_at_mapUpdate; refine wpListIn_mapUpdate_own _ rfl _ _ _ 130 rfl 9 3 (Maps.string_keyed Tryz.underlying9) Tryz.underlying130 _ (w.heap.size + 1 + 1) pre.length _ rfl h1.out (by omega) _ _ _ rfl rfl hkey _ [] (plainElem_int Tryz.underlying3 x.fine.so) ?_; intro w1 hown1 hgrow1)
              | (gi_at_mapUpdate; refine wpListIn_mapUpdate_own _ rfl _ _ _ 131 rfl 9 4 (Maps.string_keyed Tryz.underlying9) Tryz.underlying131 _ (w.heap.size + 1 + 1 + 1 + 1) pre.length _ rfl h2.out (by omega) _ _ _ rfl rfl hkey _ [] (plainElem_bool Tryz.underlying4 true) ?_; intro w1 hown1 hgrow1))
      all_goals first | (exact ⟨by simpa using KeepsFrom.setCell _ W ⟨w.heap.size + 1, 0, none⟩ (.bool false), ⟨rfl, Hno.out, e3.out⟩, hB.out.setCell (p := ⟨w.heap.size + 1, 0, none⟩) (by simp) _⟩) | (have hq : W.frozen? ⟨w.heap.size + 1, 0, none⟩ = true := (by assumption); exact absurd (hrf.symm.trans hq) (by simp))
    case false =>
      have Hag : Hid (Agree ((pre ++ [x]).map (·.t)) D1 (D2.put (kOf x.t.nm) (.lit (.bool true)))) := by
        rw [List.map_append]
        refine agree_con hag.out hcx.out (fun z hz hzv hzk => ?_)
        have := (hag.out.v (kOf x.t.nm)).2 ⟨z, hz, hzv, hzk⟩
        rw [hk] at this
        cases this
      clear hcbi hag
      gi_wp2_with (first
              | (gi_at_lookup; refine wpListIn_lookup_own_ok_int _ rfl _ _ 130 rfl 9 3 .i64 (Maps.string_keyed Tryz.underlying9) Tryz.underlying130 Tryz.underlying3 (Tryz.zeroValue3 _) (w.heap.size + 1 + 1) pre.length _ rfl h1.out _ _ rfl hkey ?_; intro c hat hwc; have hcc := atKey_int hc0.out hat; subst hcc; clear hat hwc)
              | (gi_at_lookup; refine wpListIn_lookup_bool _ rfl _ _ 131 rfl 9 4 (Maps.string_keyed Tryz.underlying9) Tryz.underlying131 Tryz.underlying4 (Tryz.zeroValue4 _) (w.heap.size + 1 + 1 + 1 + 1) pre.length _ rfl h2.out _ _ rfl hkey ?_; intro c hat; have hcc := atKey_bool hcb.out hat; subst hcc; clear hat)
              | (gi_at_mapUpdate; refine wpListIn_mapUpdate_own _ rfl _ _ _ 130 rfl 9 3 (Maps.string_keyed Tryz.underlying9) Tryz.underlying130 _ (w.heap.size + 1 + 1) pre.length _ rfl h1.out (by omega) _ _ _ rfl rfl hkey _ [] (plainElem_int Tryz.underlying3 x.fine.so) ?_; intro w1 hown1 hgrow1)
              | (gi_at_mapUpdate; refine wpListIn_mapUpdate_own _ rfl _ _ _ 131 rfl 9 4 (Maps.string_keyed Tryz.underlying9) Tryz.underlying131 _ (w.heap.size + 1 + 1 + 1 + 1) pre.length _ rfl h2.out (by omega) _ _ _ rfl rfl hkey _ [] (plainElem_bool Tryz.underlying4 true) ?_; intro w1 hown1 hgrow1))
      obtain ⟨es, ck, hh, _⟩ := h2.out
      have hrow : ∀ r, some (w.heap.size + 1 + 1 + 1 + 1) = some r → ∃ o : Obj, W.heap[r]? = some o ∧ o.isCells = false := fun r e => by cases e; exact ⟨_, hh, rfl⟩
      exact ⟨KeepsFrom.of_grownBy hgrow1 (fun j e => by cases e; first | (simp; done) | (simp; omega)), KpC.of_grownBy hgrow1 (by omega) (by first | (simp; done) | (simp; omega)) hB.out.size, ⟨⟨D1, _, Hag.out, (h1.out.kept hgrow1 (by first | (simp; done) | (simp; omega))).mono (by simp), by simpa using hown1⟩, cell_kept hr hgrow1 hrow, (frozen_kept hr hgrow1 hrow).trans hrf, cell_kept hv hgrow1 hrow, cell_kept hc hgrow1 hrow⟩, hB.out.grown hgrow1 hB.out.size (fun k e => by cases e; omega)⟩
  case done =>
    rintro D ys W hD rfl ⟨⟨hu, hr, hrf, hv, hc⟩, hB⟩ hK
    have Hr := Lib.hid (show uniB ((ys.map El.key).map Prod.snd) = true from uniB_true (by
      obtain ⟨D1, D2, h, _⟩ := hu
      rw [List.map_map]
      exact h.ok))
    clear hu H HL hB0 r0 c1 m1 m2 v0 k0 hmm
    gi_wp2
    have hK' := (KeepsOthers.setCell W ⟨w.heap.size + 1, 0, none⟩ (.bool true)).same D _ hK rfl
    refine ⟨by simp, .inl ⟨_, _, rfl, run_takeDeferred hK', ?_⟩⟩
    have hc5 := cell_kept (World.cell?_setCell_same' W ⟨w.heap.size + 1, 0, none⟩ (.bool true) (by rw [hr]; rfl)) (grownBy_putObj' _ D (.deferred none)) (fun r e => by cases e; exact ⟨_, hK', rfl⟩)
    refine ⟨.bool true, ?_, by rw [Hr.out], (hB.setCell (p := ⟨w.heap.size + 1, 0, none⟩) (by simp) _).trans (belowK_b (w := w) (Nat.le_refl _) _ D _ _ (by simp at hD; omega) hK' rfl rfl)⟩
    simp [results, Tryz.f95, go_sem, hc5]
  case stop =>
    rintro D c pre W hD hpre ⟨⟨rfl, hin, hcr⟩, hB⟩ hK
    have Hr := Lib.hid (show uniB ((xs.map El.key).map Prod.snd) = false from uniB_false (by
      rw [List.map_map]
      exact fun h => hin.out fun y hy z hz => h y ((hpre.map _).subset hy) z ((hpre.map _).subset hz)))
    clear hin H HL hB0 r0 c1 m1 m2 v0 k0 hmm
    gi_wp2
    refine ⟨by simp, .inl ⟨_, _, rfl, run_takeDeferred hK, ?_⟩⟩
    have hc5 := cell_kept hcr (grownBy_putObj' _ D (.deferred none)) (fun r e => by cases e; exact ⟨_, hK, rfl⟩)
    refine ⟨.bool false, ?_, by rw [Hr.out], hB.trans (belowK_b (w := w) (Nat.le_refl _) W D _ _ (by simp at hD; omega) hK rfl rfl)⟩
    simp [results, Tryz.f95, go_sem, hc5]
end Go.Proofs.YtmeeombadkgneaaGreat
