/-
  The value of a node in a model as plain mathematics: each operator at values, a node by recursion; none where a number or a list is too great.
  Each operator at values, what a node's operator asks of its kids' values, and that an operator's value is valid and of the node's sort; plain mathematics.
  Where a value's lists lie when other blocks are written; what find returns, against the mathematics; conditions: the model lies in memory.
-/
import Derived.Test.YtmeeombadkgneaaGreatZEv13
import Derived.Test.YtmeeombadkgneaaGreatZRefSorted
namespace Go.Proofs.YtmeeombadkgneaaGreat
open Go.Proofs Go.RowKit Go.Shelf Go.Sort Go.Lib

def restI (ix : List Int) (k : Int) : Nat := if k ∈ ix then plI ix k + 1 else plI ix k
def stoI (ix : List Int) (l : List Int) (k n : Int) (e : Int) : List Int := l.take (plI ix k) ++ ((if n = 0 then [] else [e]) ++ l.drop (restI ix k))
open Classical in
theorem ascB_iff (l : List Int) : ascB l = true ↔ AscI l ∧ ∀ x ∈ l, bndB x = true := by
  constructor
  · intro h
    refine ⟨ascI_of h, fun x hx => ?_⟩
    obtain ⟨i, hi, rfl⟩ := List.getElem_of_mem hx
    unfold ascB at h
    exact ((of_decide_eq_true h) i hi).1
  · rintro ⟨h1, h2⟩
    refine ascB_yes fun j hj => ⟨h2 _ (List.getElem_mem hj), fun h0 => ?_⟩
    exact List.pairwise_iff_getElem.1 h1 (j - 1) j (by omega) hj (by omega)
open Classical in
theorem nzB_iff (l : List Int) : nzB l = true ↔ ∀ x ∈ l, bndB x = true ∧ x ≠ 0 := by
  constructor
  · intro h x hx
    obtain ⟨i, hi, rfl⟩ := List.getElem_of_mem hx
    unfold nzB at h
    exact (of_decide_eq_true h) i hi
  · intro h
    exact nzB_yes fun j hj => h _ (List.getElem_mem hj)
theorem plI_lo : ∀ {l : List Int} {n : Int}, AscI l → ∀ j (h : j < l.length), j < plI l n → l[j] < n
  | [], _, _, _, h, _ => absurd h (by simp)
  | x :: t, n, ha, j, h, hp => by
    have ha' := List.pairwise_cons.1 ha
    by_cases hx : x < n
    · cases j with
      | zero => exact hx
      | succ i =>
        have : plI (x :: t) n = plI t n + 1 := by unfold plI; rw [List.filter_cons_of_pos (by simpa using hx), List.length_cons]
        exact plI_lo ha'.2 i (by simpa using h) (by omega)
    · have h0 : plI (x :: t) n = 0 := by
        unfold plI
        rw [List.length_eq_zero_iff, List.filter_eq_nil_iff]
        intro y hy
        rcases List.mem_cons.1 hy with rfl | hy
        · simpa using hx
        · have := ha'.1 y hy
          simp; omega
      omega
theorem plI_hi : ∀ {l : List Int} {n : Int}, AscI l → ∀ j (h : j < l.length), plI l n ≤ j → n ≤ l[j]
  | [], _, _, _, h, _ => absurd h (by simp)
  | x :: t, n, ha, j, h, hp => by
    have ha' := List.pairwise_cons.1 ha
    by_cases hx : x < n
    · have hs : plI (x :: t) n = plI t n + 1 := by unfold plI; rw [List.filter_cons_of_pos (by simpa using hx), List.length_cons]
      cases j with
      | zero => omega
      | succ i => exact plI_hi ha'.2 i (by simpa using h) (by omega)
    · cases j with
      | zero => simp; omega
      | succ i =>
        have := ha'.1 (t[i]'(by simpa using h)) (List.getElem_mem _)
        simp; omega
theorem plI_le (l : List Int) (n : Int) : plI l n ≤ l.length := by unfold plI; exact List.length_filter_le _ _
theorem plI_at {l : List Int} {n : Int} (ha : AscI l) (h : n ∈ l) : l[plI l n]'(plI_lt h) = n := by
  obtain ⟨i, hi, e⟩ := List.getElem_of_mem h
  have h1 : ¬ plI l n < i := fun hh => by
    have := plI_hi (n := n) ha (plI l n) (plI_lt h) (Nat.le_refl _)
    have := List.pairwise_iff_getElem.1 ha (plI l n) i (plI_lt h) hi hh
    omega
  have h2 : ¬ i < plI l n := fun hh => by
    have := plI_lo (n := n) ha i hi hh
    omega
  have h3 : plI l n = i := by omega
  have : ∀ j (hj : j < l.length), j = i → l[j] = n := by rintro j hj rfl; exact e
  exact this _ _ h3
theorem rest_hi {l : List Int} {n : Int} (ha : AscI l) (j : Nat) (h : j < l.length) (hr : restI l n ≤ j) : n < l[j] := by
  unfold restI at hr
  by_cases hm : n ∈ l
  · rw [if_pos hm] at hr
    have h1 := plI_at ha hm
    have := List.pairwise_iff_getElem.1 ha (plI l n) j (plI_lt hm) h (by omega)
    omega
  · rw [if_neg hm] at hr
    have h1 := plI_hi (n := n) ha j h hr
    have h2 : l[j] ≠ n := fun e => hm (e ▸ List.getElem_mem h)
    omega
theorem rest_le (l : List Int) (n : Int) : restI l n ≤ l.length := by
  unfold restI
  split
  · rename_i h; exact plI_lt h
  · exact plI_le l n
/-- Which indices the stored array has. -/
theorem sto_mem {ix : List Int} (ha : AscI ix) (k n z : Int) : z ∈ stoI ix ix k n k ↔ (z = k ∧ n ≠ 0) ∨ (z ∈ ix ∧ z ≠ k) := by
  unfold stoI
  rw [List.mem_append, List.mem_append]
  have hmid : z ∈ (if n = 0 then ([] : List Int) else [k]) ↔ z = k ∧ n ≠ 0 := by
    by_cases h : n = 0
    · simp [h]
    · simp [h]
  rw [hmid]
  constructor
  · rintro (h | h | h)
    · obtain ⟨i, hi, rfl⟩ := List.getElem_of_mem h
      rw [List.length_take] at hi
      rw [List.getElem_take]
      have := plI_lo (n := k) ha i (by omega) (by omega)
      exact .inr ⟨List.getElem_mem _, by omega⟩
    · exact .inl h
    · obtain ⟨i, hi, rfl⟩ := List.getElem_of_mem h
      rw [List.length_drop] at hi
      rw [List.getElem_drop]
      have := rest_hi (n := k) ha (restI ix k + i) (by omega) (by omega)
      exact .inr ⟨List.getElem_mem _, by omega⟩
  · rintro (h | ⟨h, hne⟩)
    · exact .inr (.inl h)
    · obtain ⟨i, hi, rfl⟩ := List.getElem_of_mem h
      by_cases h1 : i < plI ix k
      · refine .inl (List.mem_iff_getElem.2 ⟨i, by rw [List.length_take]; omega, by rw [List.getElem_take]⟩)
      · refine .inr (.inr (List.mem_iff_getElem.2 ⟨i - restI ix k, ?_, ?_⟩))
        all_goals
          have h2 : restI ix k ≤ i := by
            unfold restI
            split
            · rename_i hm
              have h3 := plI_at ha hm
              have : i ≠ plI ix k := fun e => by subst e; exact hne h3
              omega
            · omega
        · rw [List.length_drop]; omega
        · rw [List.getElem_drop]
          congr 1
          omega
theorem sto_asc {ix : List Int} (ha : AscI ix) (k n : Int) : AscI (stoI ix ix k n k) := by
  unfold stoI
  have hl : ∀ x ∈ ix.take (plI ix k), x < k := fun x hx => by
    obtain ⟨i, hi, rfl⟩ := List.getElem_of_mem hx
    rw [List.length_take] at hi
    rw [List.getElem_take]
    exact plI_lo ha i (by omega) (by omega)
  have hr : ∀ x ∈ ix.drop (restI ix k), k < x := fun x hx => by
    obtain ⟨i, hi, rfl⟩ := List.getElem_of_mem hx
    rw [List.length_drop] at hi
    rw [List.getElem_drop]
    exact rest_hi ha _ (by omega) (by omega)
  have hm : ∀ x ∈ (if n = 0 then ([] : List Int) else [k]), x = k := fun x hx => by
    by_cases h : n = 0
    · simp [h] at hx
    · simpa [h] using hx
  refine List.pairwise_append.2 ⟨List.Pairwise.sublist (List.take_sublist _ _) ha, List.pairwise_append.2 ⟨?_, List.Pairwise.sublist (List.drop_sublist _ _) ha, ?_⟩, ?_⟩
  · by_cases h : n = 0
    · simp [h]
    · simp [h]
  · intro x hx y hy
    have := hm x hx
    have := hr y hy
    omega
  · intro x hx y hy
    have h1 := hl x hx
    rcases List.mem_append.1 hy with hy | hy
    · have := hm y hy; omega
    · have := hr y hy; omega
theorem sto_len (ix l : List Int) (h : l.length = ix.length) (k n e e' : Int) : (stoI ix l k n e).length = (stoI ix ix k n e').length := by
  unfold stoI
  by_cases h0 : n = 0
  · simp [h0, h]
  · simp [h0, h]
theorem sto_short (ix : List Int) (k n e : Int) : (stoI ix ix k n e).length ≤ ix.length + 1 := by
  unfold stoI
  have h1 := plI_le ix k
  have h2 : plI ix k ≤ restI ix k := by unfold restI; split <;> omega
  have h3 := rest_le ix k
  by_cases h0 : n = 0
  · simp [h0]; omega
  · simp [h0]; omega
/-- The integers of the stored array, index by index. -/
theorem sto_vals {ix xs : List Int} (ha : AscI ix) (hlen : xs.length = ix.length) (k n : Int) : stoI ix xs k n n = (stoI ix ix k n k).map fun z => if z = k then n else atI ix xs z := by
  unfold stoI
  rw [List.map_append, List.map_append]
  have hp := plI_le ix k
  have hr := rest_le ix k
  congr 1
  · apply List.ext_getElem (by simp [hlen])
    intro i h1 h2
    rw [List.length_take] at h1
    rw [List.getElem_take, List.getElem_map, List.getElem_take]
    have := plI_lo (n := k) ha i (by omega) (by omega)
    rw [if_neg (by omega), atI_hit ha hlen (k := i) (by omega) rfl]
  congr 1
  · by_cases h0 : n = 0
    · simp [h0]
    · simp [h0]
  · apply List.ext_getElem (by simp [hlen])
    intro i h1 h2
    rw [List.length_drop] at h1
    rw [List.getElem_drop, List.getElem_map, List.getElem_drop]
    have := rest_hi (n := k) ha (restI ix k + i) (by omega) (by omega)
    rw [if_neg (by omega), atI_hit ha hlen (k := restI ix k + i) (by omega) rfl]
theorem atI_nz {ix xs : List Int} (ha : AscI ix) (hlen : xs.length = ix.length) (hn : nzB xs = true) {z : Int} (hz : z ∈ ix) : bndB (atI ix xs z) = true ∧ atI ix xs z ≠ 0 := by
  obtain ⟨i, hi, e⟩ := List.getElem_of_mem hz
  rw [atI_hit ha hlen hi e]
  exact (nzB_iff _).1 hn _ (List.getElem_mem _)
/-- The stored array as the document has it. -/
theorem sto_doc {ix xs : List Int} (ha : AscI ix) (hlen : xs.length = ix.length) (hn : nzB xs = true) (k n : Int) :
    stoI ix ix k n k = (uniI [k] ix).filter (fun z => decide ((if z = k then n else atI ix xs z) ≠ 0)) := by
  refine asc_ext (sto_asc ha k n) (List.Pairwise.filter _ (uniI_asc _ _ _ (Nat.le_refl _) (asc_one k) ha)) fun z => ?_
  rw [sto_mem ha, List.mem_filter, uniI_mem _ _ _ (Nat.le_refl _)]
  simp only [List.mem_singleton, decide_eq_true_eq]
  constructor
  · rintro (⟨rfl, h⟩ | ⟨h, hne⟩)
    · exact ⟨.inl rfl, by rw [if_pos rfl]; exact h⟩
    · exact ⟨.inr h, by rw [if_neg hne]; exact (atI_nz ha hlen hn h).2⟩
  · rintro ⟨h, h2⟩
    by_cases e : z = k
    · rw [if_pos e] at h2; exact .inl ⟨e, h2⟩
    · rcases h with h | h
      · exact absurd h e
      · exact .inr ⟨h, e⟩
end Go.Proofs.YtmeeombadkgneaaGreat
namespace Go.Proofs.YtmeeombadkgneaaGreat
open Go.Proofs Go.RowKit Go.Shelf Go.Sort Go.Lib

def zV : Vl := ⟨0, 0, [], [], []⟩
def mkV (v : Vl) : VA := ⟨v, none, 0, none, 0, none, 0⟩
theorem mkV_v (vs : List Vl) : (vs.map mkV).map (·.v) = vs := by induction vs <;> simp_all [mkV]
def intO (r : Int) : Option Vl := if bndB r = true then some ⟨1, r, [], [], []⟩ else none
def setO (l : List Int) : Option Vl := if l.length ≤ 200 then some ⟨4, 0, l, [], []⟩ else none
def trV (b : Bool) : Vl := ⟨2, if b = true then 1 else 0, [], [], []⟩
def stoV (x : Vl) (k n : Int) : Vl := ⟨x.so, x.nu, x.st, stoI x.ix x.ix k n k, stoI x.ix x.xs k n n⟩
def stoO (x : Vl) (k n : Int) : Option Vl := if (stoI x.ix x.ix k n k).length ≤ 200 then some (stoV x k n) else none
/-- What a model gives a name at arguments. -/
def valF (l : List EA) (nm : ByteArray) (vs : List Vl) (so : Int) : Vl := ((l.find? fun x => cmpE x (skA nm (vs.map mkV) none 0 so) == 0).map fun x => x.val.v).getD ⟨so, 0, [], [], []⟩
def k0 (vs : List Vl) : Vl := vs.getD 0 zV
def k1 (vs : List Vl) : Vl := vs.getD 1 zV
def k2 (vs : List Vl) : Vl := vs.getD 2 zV
def trB (op : Int) (vs : List Vl) : Bool :=
  if op = 30 then true
  else if op = 32 then !((k0 vs).nu == 1)
  else if op = 33 then ((k0 vs).nu == 1) && ((k1 vs).nu == 1)
  else if op = 34 then ((k0 vs).nu == 1) || ((k1 vs).nu == 1)
  else if op = 35 then !((k0 vs).nu == 1) || ((k1 vs).nu == 1)
  else if op = 36 then sameB (k0 vs) (k1 vs)
  else if op = 37 then sameB (k0 vs) (k1 vs)
  else if op = 38 then decide ((k0 vs).nu ≤ (k1 vs).nu)
  else if op = 39 then decide ((k0 vs).nu < (k1 vs).nu)
  else if op = 40 then decide ((k0 vs).nu ∈ (k1 vs).st)
  else if op = 41 then decide (∀ n ∈ (k0 vs).st, n ∈ (k1 vs).st)
  else false
def apO (l : List EA) (op so : Int) (nm : ByteArray) (nu : Int) (vs : List Vl) : Option Vl :=
  if op = 1 then some (valF l nm vs so)
  else if op = 3 then some (valF l nm vs so)
  else if op = 2 then intO nu
  else if op = 4 then intO ((k0 vs).nu + (k1 vs).nu)
  else if op = 5 then intO ((k0 vs).nu - (k1 vs).nu)
  else if op = 6 then intO (-(k0 vs).nu)
  else if op = 7 then intO (nu * (k0 vs).nu)
  else if op = 8 then some (if ((k0 vs).nu == 1) = true then k1 vs else k2 vs)
  else if op = 9 then some ⟨4, 0, [], [], []⟩
  else if op = 10 then some ⟨4, 0, [(k0 vs).nu], [], []⟩
  else if op = 11 then setO (uniI (k0 vs).st (k1 vs).st)
  else if op = 12 then setO ((k0 vs).st.filter fun n => decide (n ∈ (k1 vs).st))
  else if op = 13 then setO ((k0 vs).st.filter fun n => !decide (n ∈ (k1 vs).st))
  else if op = 14 then intO (atI (k0 vs).ix (k0 vs).xs (k1 vs).nu)
  else if op = 15 then stoO (k0 vs) (k1 vs).nu (k2 vs).nu
  else if op = 16 then intO (k0 vs).nu
  else some (trV (trB op vs))
mutual
def evO (l : List EA) : Nd → Option Vl
  | .mk op so nm nu ks => match evOs l ks with
    | none => none
    | some vs => apO l op so nm nu vs
def evOs (l : List EA) : List Nd → Option (List Vl)
  | [] => some []
  | k :: ks => match evO l k with
    | none => none
    | some v => match evOs l ks with
      | none => none
      | some vs => some (v :: vs)
end
theorem evO_none {l : List EA} {t : Nd} (h : evOs l t.ks = none) : evO l t = none := by
  obtain ⟨op, so, nm, nu, ks⟩ := t
  rw [evO, show evOs l ks = none from h]
theorem evO_some {l : List EA} {t : Nd} {vs : List Vl} (h : evOs l t.ks = some vs) : evO l t = apO l t.op t.so t.nm t.nu vs := by
  obtain ⟨op, so, nm, nu, ks⟩ := t
  rw [evO, show evOs l ks = some vs from h]
  rfl
theorem evOs_none : ∀ {l : List EA} {ks : List Nd} {k : Nat} (h : k < ks.length), evO l ks[k] = none → evOs l ks = none
  | l, [], k, h, _ => absurd h (by simp)
  | l, a :: ks, 0, h, e => by rw [evOs, show evO l a = none from e]
  | l, a :: ks, k + 1, h, e => by
    rw [evOs]
    cases evO l a with
    | none => rfl
    | some v => simp only; rw [evOs_none (k := k) (by simpa using h) (by simpa using e)]
theorem evOs_snoc : ∀ {l : List EA} {ks : List Nd} {vs : List Vl} {t : Nd} {v : Vl}, evOs l ks = some vs → evO l t = some v → evOs l (ks ++ [t]) = some (vs ++ [v])
  | l, [], vs, t, v, h, e => by
    rw [evOs] at h
    cases h
    rw [List.nil_append, evOs, e, evOs]
    rfl
  | l, a :: ks, vs, t, v, h, e => by
    rw [evOs] at h
    cases ha : evO l a with
    | none => rw [ha] at h; cases h
    | some x =>
      cases hb : evOs l ks with
      | none => rw [ha, hb] at h; cases h
      | some ws =>
        rw [ha, hb] at h
        cases h
        rw [List.cons_append, evOs, ha, evOs_snoc hb e]
        rfl
theorem evOs_take {l : List EA} {ks : List Nd} {k : Nat} (h : k < ks.length) {vs : List Vl} {v : Vl} (h1 : evOs l (ks.take k) = some vs) (h2 : evO l ks[k] = some v) : evOs l (ks.take (k + 1)) = some (vs ++ [v]) := by
  rw [List.take_succ_eq_append_getElem h]
  exact evOs_snoc h1 h2
theorem evOs_len : ∀ {l : List EA} {ks : List Nd} {vs : List Vl}, evOs l ks = some vs → vs.length = ks.length ∧ ∀ i (h : i < ks.length) (h2 : i < vs.length), evO l ks[i] = some vs[i]
  | l, [], vs, h => by
    rw [evOs] at h; cases h
    exact ⟨rfl, fun i h => absurd h (by simp)⟩
  | l, a :: ks, vs, h => by
    rw [evOs] at h
    cases ha : evO l a with
    | none => rw [ha] at h; cases h
    | some x =>
      cases hb : evOs l ks with
      | none => rw [ha, hb] at h; cases h
      | some ws =>
        rw [ha, hb] at h
        cases h
        have ih := evOs_len hb
        refine ⟨by simp [ih.1], fun i h1 h2 => ?_⟩
        cases i with
        | zero => exact ha
        | succ j => exact ih.2 j (by simpa using h1) (by simpa using h2)
/-- What a valid value is. -/
structure OkV (v : Vl) : Prop where
  nu : bndB v.nu = true
  l1 : v.st.length ≤ 200
  l2 : v.ix.length ≤ 200
  s1 : AscI v.st
  b1 : ∀ x ∈ v.st, bndB x = true
  s2 : AscI v.ix
  b2 : ∀ x ∈ v.ix, bndB x = true
  len : v.xs.length = v.ix.length
  nz : nzB v.xs = true
  sh : shapeV v = true
theorem okV_iff (v : Vl) : validV v = true ↔ OkV v := by
  unfold validV smallV
  simp only [Bool.and_eq_true, decide_eq_true_eq, ascB_iff]
  constructor
  · rintro ⟨⟨h1, h2, h3⟩, ⟨h4, h5⟩, ⟨h6, h7⟩, h8, h9, h10⟩
    exact ⟨h1, h2, h3, h4, h5, h6, h7, h8, h9, h10⟩
  · rintro ⟨h1, h2, h3, h4, h5, h6, h7, h8, h9, h10⟩
    exact ⟨⟨h1, h2, h3⟩, ⟨h4, h5⟩, ⟨h6, h7⟩, h8, h9, h10⟩
theorem OkV.small {v : Vl} (h : OkV v) : smallV v = true := by
  unfold smallV
  simp only [Bool.and_eq_true, decide_eq_true_eq]
  exact ⟨h.nu, h.l1, h.l2⟩
theorem nzB_nil : nzB [] = true := (nzB_iff _).2 fun _ h => absurd h (by simp)
theorem asc_nil : AscI [] := List.Pairwise.nil
theorem okV_num {so n : Int} (h : bndB n = true) (hs : (so = 1 ∨ so = 3) ∨ (so = 2 ∧ (n = 0 ∨ n = 1)) ∨ (so = 5 ∧ 0 ≤ n)) : OkV ⟨so, n, [], [], []⟩ := by
  refine ⟨h, by simp, by simp, asc_nil, fun _ h => absurd h (by simp), asc_nil, fun _ h => absurd h (by simp), rfl, nzB_nil, ?_⟩
  unfold shapeV
  rcases hs with h | ⟨rfl, h⟩ | ⟨rfl, h⟩
  · rw [if_pos h]; simp
  · simp [h]
  · simp [h]
theorem okV_set {l : List Int} (h : l.length ≤ 200) (ha : AscI l) (hb : ∀ x ∈ l, bndB x = true) : OkV ⟨4, 0, l, [], []⟩ :=
  ⟨show bndB 0 = true by decide, h, by simp, ha, hb, asc_nil, fun _ h => absurd h (by simp), rfl, nzB_nil, by simp [shapeV]⟩
theorem okV_plain {so : Int} (h1 : 1 ≤ so) (h5 : so ≤ 5) : OkV ⟨so, 0, [], [], []⟩ := by
  by_cases h4 : so = 4
  · subst h4; exact okV_set (by simp) asc_nil (fun _ h => absurd h (by simp))
  · exact okV_num (by decide) (by omega)
theorem OkV.arr {v : Vl} (h : OkV v) (hs : v.so = 5) : v.st = [] ∧ 0 ≤ v.nu := by
  have := h.sh
  unfold shapeV at this
  rw [if_neg (by omega), if_neg (by omega), if_neg (by omega), if_pos hs] at this
  have := of_decide_eq_true this
  exact ⟨List.length_eq_zero_iff.1 this.2, this.1⟩
theorem OkV.boo {v : Vl} (h : OkV v) (hs : v.so = 2) : (v.nu = 0 ∨ v.nu = 1) ∧ v.st = [] ∧ v.ix = [] ∧ v.xs = [] := by
  have := h.sh
  unfold shapeV at this
  rw [if_neg (by omega), if_pos hs] at this
  have := of_decide_eq_true this
  have h2 := List.length_eq_zero_iff.1 this.2.2
  exact ⟨this.1, List.length_eq_zero_iff.1 this.2.1, h2, List.length_eq_zero_iff.1 (by rw [h.len, h2]; rfl)⟩
/-- The capacities of a value's lists. -/
structure CapV (x : VA) : Prop where
  p1 : x.v.st.length ≤ x.c1
  p2 : x.v.ix.length ≤ x.c2
  p3 : x.v.xs.length ≤ x.c3
/-- What the operator of a well sorted node asks of its kids' values; s is the node's sort. -/
inductive ApK (so nu : Int) (nm : ByteArray) : Int → Int → List VA → Prop
  | var : nameB nm = true → 1 ≤ so → so ≤ 5 → ApK so nu nm so 1 []
  | app (xs : List VA) : nameB nm = true → 1 ≤ so → so ≤ 5 → xs.length ≤ 8 → ApK so nu nm so 3 xs
  | ite (x y z : VA) : x.v.so = 2 → z.v.so = y.v.so → ApK so nu nm y.v.so 8 [x, y, z]
  | eq (x y : VA) : y.v.so = x.v.so → ApK so nu nm 2 37 [x, y]
  | sto (x y z : VA) : x.v.so = 5 → y.v.so = 1 → z.v.so = 1 → ApK so nu nm 5 15 [x, y, z]
  | num : -1000000000000 ≤ nu → nu ≤ 1000000000000 → ApK so nu nm 1 2 []
  | empty : ApK so nu nm 4 9 []
  | tru : ApK so nu nm 2 30 []
  | fls : ApK so nu nm 2 31 []
  | neg (x : VA) : x.v.so = 1 → ApK so nu nm 1 6 [x]
  | scale (x : VA) : -1000000000000 ≤ nu → nu ≤ 1000000000000 → x.v.so = 1 → ApK so nu nm 1 7 [x]
  | sing (x : VA) : x.v.so = 1 → ApK so nu nm 4 10 [x]
  | len (x : VA) : x.v.so = 5 → ApK so nu nm 1 16 [x]
  | not (x : VA) : x.v.so = 2 → ApK so nu nm 2 32 [x]
  | add (x y : VA) : x.v.so = 1 → y.v.so = 1 → ApK so nu nm 1 4 [x, y]
  | sub (x y : VA) : x.v.so = 1 → y.v.so = 1 → ApK so nu nm 1 5 [x, y]
  | le (x y : VA) : x.v.so = 1 → y.v.so = 1 → ApK so nu nm 2 38 [x, y]
  | lt (x y : VA) : x.v.so = 1 → y.v.so = 1 → ApK so nu nm 2 39 [x, y]
  | cup (x y : VA) : x.v.so = 4 → y.v.so = 4 → ApK so nu nm 4 11 [x, y]
  | cap (x y : VA) : x.v.so = 4 → y.v.so = 4 → ApK so nu nm 4 12 [x, y]
  | minus (x y : VA) : x.v.so = 4 → y.v.so = 4 → ApK so nu nm 4 13 [x, y]
  | subset (x y : VA) : x.v.so = 4 → y.v.so = 4 → ApK so nu nm 2 41 [x, y]
  | mem (x y : VA) : x.v.so = 1 → y.v.so = 4 → ApK so nu nm 2 40 [x, y]
  | sel (x y : VA) : x.v.so = 5 → y.v.so = 1 → ApK so nu nm 1 14 [x, y]
  | and (x y : VA) : x.v.so = 2 → y.v.so = 2 → ApK so nu nm 2 33 [x, y]
  | or (x y : VA) : x.v.so = 2 → y.v.so = 2 → ApK so nu nm 2 34 [x, y]
  | imp (x y : VA) : x.v.so = 2 → y.v.so = 2 → ApK so nu nm 2 35 [x, y]
  | iff (x y : VA) : x.v.so = 2 → y.v.so = 2 → ApK so nu nm 2 36 [x, y]
theorem vs0 {xs : List VA} (h : xs.map (fun x => x.v.so) = []) : xs = [] := by simpa using h
theorem vs1 {xs : List VA} {a : Int} (h : xs.map (fun x => x.v.so) = [a]) : ∃ x, xs = [x] ∧ x.v.so = a := by
  match xs, h with
  | [x], h => exact ⟨x, rfl, by simpa using h⟩
theorem vs2 {xs : List VA} {a b : Int} (h : xs.map (fun x => x.v.so) = [a, b]) : ∃ x y, xs = [x, y] ∧ x.v.so = a ∧ y.v.so = b := by
  match xs, h with
  | [x, y], h => simp at h; exact ⟨x, y, rfl, h.1, h.2⟩
theorem vs3 {xs : List VA} {a b c : Int} (h : xs.map (fun x => x.v.so) = [a, b, c]) : ∃ x y z, xs = [x, y, z] ∧ x.v.so = a ∧ y.v.so = b ∧ z.v.so = c := by
  match xs, h with
  | [x, y, z], h => simp at h; exact ⟨x, y, z, rfl, h.1, h.2.1, h.2.2⟩
theorem fields_sort {op so nu : Int} {nm : ByteArray} (h : fieldsB op so nm nu = true) (ho : op = 1 ∨ op = 3) : nameB nm = true ∧ 1 ≤ so ∧ so ≤ 5 := by
  rw [fields_1 (by simpa using ho)] at h
  simp only [Bool.and_eq_true, decide_eq_true_eq] at h
  exact ⟨h.1, h.2.1, h.2.2.1⟩
theorem fields_num {op so nu : Int} {nm : ByteArray} (h : fieldsB op so nm nu = true) (ho : op = 2 ∨ op = 7) : -1000000000000 ≤ nu ∧ nu ≤ 1000000000000 := by
  unfold fieldsB at h
  rw [if_neg (by simp; omega)] at h
  split at h
  · cases h
  · rw [if_pos (by simpa using ho)] at h
    simpa using h
set_option maxHeartbeats 4000000 in
theorem apK_of {op so nu : Int} {nm : ByteArray} {ks : List Nd} {xs : List VA} (hf : fieldsB op so nm nu = true) (hk : kidsB op ks = true) (h42 : op ≠ 42) (hso : xs.map (fun x => x.v.so) = ks.map sortN) : ApK so nu nm (sortN (.mk op so nm nu ks)) op xs := by
  have hop : op ∈ kidOps := by
    by_cases h : op ∈ kidOps
    · exact h
    · simp only [kidOps, List.mem_cons, List.not_mem_nil, or_false, not_or] at h
      simp [kidsB, h] at hk
  have hs8 : op ≠ 8 → sortN (.mk op so nm nu ks) = sortO op so := fun h => sortN_no (t := .mk op so nm nu ks) h
  simp only [kidOps, List.mem_cons, List.not_mem_nil, or_false] at hop
  rcases hop with rfl | rfl | rfl | rfl | rfl | rfl | rfl | rfl | rfl | rfl | rfl | rfl | rfl | rfl | rfl | rfl | rfl | rfl | rfl | rfl | rfl | rfl | rfl | rfl | rfl | rfl | rfl | rfl | rfl
  · rw [hs8 (by decide)]
    have hk' : ks.map sortN = [] := by simpa [kidsB, takesB] using hk
    obtain rfl := vs0 (hso.trans hk')
    obtain ⟨f1, f2, f3⟩ := fields_sort hf (.inl rfl)
    exact .var f1 f2 f3
  · rw [hs8 (by decide)]
    have hk' : ks.map sortN = [] := by simpa [kidsB, takesB] using hk
    obtain rfl := vs0 (hso.trans hk')
    exact .num (fields_num hf (.inl rfl)).1 (fields_num hf (.inl rfl)).2
  · rw [hs8 (by decide)]
    have hk' : ks.map sortN = [] := by simpa [kidsB, takesB] using hk
    obtain rfl := vs0 (hso.trans hk')
    exact .empty
  · rw [hs8 (by decide)]
    have hk' : ks.map sortN = [] := by simpa [kidsB, takesB] using hk
    obtain rfl := vs0 (hso.trans hk')
    exact .tru
  · rw [hs8 (by decide)]
    have hk' : ks.map sortN = [] := by simpa [kidsB, takesB] using hk
    obtain rfl := vs0 (hso.trans hk')
    exact .fls
  · have hl : ks.length ≤ 8 := by simpa [kidsB] using hk
    have hx : xs.length = ks.length := by have := congrArg List.length hso; simpa using this
    obtain ⟨f1, f2, f3⟩ := fields_sort hf (.inr rfl)
    rw [hs8 (by decide)]
    exact .app xs f1 f2 f3 (by omega)
  · exact absurd rfl h42
  · rw [hs8 (by decide)]
    have hk' : ks.map sortN = [1] := by simpa [kidsB, takesB] using hk
    obtain ⟨x, rfl, h1⟩ := vs1 (hso.trans hk')
    exact .neg x h1
  · rw [hs8 (by decide)]
    have hk' : ks.map sortN = [1] := by simpa [kidsB, takesB] using hk
    obtain ⟨x, rfl, h1⟩ := vs1 (hso.trans hk')
    exact .scale x (fields_num hf (.inr rfl)).1 (fields_num hf (.inr rfl)).2 h1
  · rw [hs8 (by decide)]
    have hk' : ks.map sortN = [1] := by simpa [kidsB, takesB] using hk
    obtain ⟨x, rfl, h1⟩ := vs1 (hso.trans hk')
    exact .sing x h1
  · rw [hs8 (by decide)]
    have hk' : ks.map sortN = [1, 1] := by simpa [kidsB, takesB] using hk
    obtain ⟨x, y, rfl, h1, h2⟩ := vs2 (hso.trans hk')
    exact .add x y h1 h2
  · rw [hs8 (by decide)]
    have hk' : ks.map sortN = [1, 1] := by simpa [kidsB, takesB] using hk
    obtain ⟨x, y, rfl, h1, h2⟩ := vs2 (hso.trans hk')
    exact .sub x y h1 h2
  · rw [hs8 (by decide)]
    have hk' : ks.map sortN = [1, 1] := by simpa [kidsB, takesB] using hk
    obtain ⟨x, y, rfl, h1, h2⟩ := vs2 (hso.trans hk')
    exact .le x y h1 h2
  · rw [hs8 (by decide)]
    have hk' : ks.map sortN = [1, 1] := by simpa [kidsB, takesB] using hk
    obtain ⟨x, y, rfl, h1, h2⟩ := vs2 (hso.trans hk')
    exact .lt x y h1 h2
  · rw [hs8 (by decide)]
    have hk' : ks.map sortN = [4, 4] := by simpa [kidsB, takesB] using hk
    obtain ⟨x, y, rfl, h1, h2⟩ := vs2 (hso.trans hk')
    exact .cup x y h1 h2
  · rw [hs8 (by decide)]
    have hk' : ks.map sortN = [4, 4] := by simpa [kidsB, takesB] using hk
    obtain ⟨x, y, rfl, h1, h2⟩ := vs2 (hso.trans hk')
    exact .cap x y h1 h2
  · rw [hs8 (by decide)]
    have hk' : ks.map sortN = [4, 4] := by simpa [kidsB, takesB] using hk
    obtain ⟨x, y, rfl, h1, h2⟩ := vs2 (hso.trans hk')
    exact .minus x y h1 h2
  · rw [hs8 (by decide)]
    have hk' : ks.map sortN = [4, 4] := by simpa [kidsB, takesB] using hk
    obtain ⟨x, y, rfl, h1, h2⟩ := vs2 (hso.trans hk')
    exact .subset x y h1 h2
  · rw [hs8 (by decide)]
    have hk' : ks.map sortN = [1, 4] := by simpa [kidsB, takesB] using hk
    obtain ⟨x, y, rfl, h1, h2⟩ := vs2 (hso.trans hk')
    exact .mem x y h1 h2
  · rw [hs8 (by decide)]
    have hk' : ks.map sortN = [5, 1] := by simpa [kidsB, takesB] using hk
    obtain ⟨x, y, rfl, h1, h2⟩ := vs2 (hso.trans hk')
    exact .sel x y h1 h2
  · rw [hs8 (by decide)]
    have hk' : ks.map sortN = [5, 1, 1] := by simpa [kidsB, takesB] using hk
    obtain ⟨x, y, z, rfl, h1, h2, h3⟩ := vs3 (hso.trans hk')
    exact .sto x y z h1 h2 h3
  · rw [hs8 (by decide)]
    have hk' : ks.map sortN = [5] := by simpa [kidsB, takesB] using hk
    obtain ⟨x, rfl, h1⟩ := vs1 (hso.trans hk')
    exact .len x h1
  · rw [hs8 (by decide)]
    have hk' : ks.map sortN = [2] := by simpa [kidsB, takesB] using hk
    obtain ⟨x, rfl, h1⟩ := vs1 (hso.trans hk')
    exact .not x h1
  · rw [hs8 (by decide)]
    have hk' : ks.map sortN = [2, 2] := by simpa [kidsB, takesB] using hk
    obtain ⟨x, y, rfl, h1, h2⟩ := vs2 (hso.trans hk')
    exact .and x y h1 h2
  · rw [hs8 (by decide)]
    have hk' : ks.map sortN = [2, 2] := by simpa [kidsB, takesB] using hk
    obtain ⟨x, y, rfl, h1, h2⟩ := vs2 (hso.trans hk')
    exact .or x y h1 h2
  · rw [hs8 (by decide)]
    have hk' : ks.map sortN = [2, 2] := by simpa [kidsB, takesB] using hk
    obtain ⟨x, y, rfl, h1, h2⟩ := vs2 (hso.trans hk')
    exact .imp x y h1 h2
  · rw [hs8 (by decide)]
    have hk' : ks.map sortN = [2, 2] := by simpa [kidsB, takesB] using hk
    obtain ⟨x, y, rfl, h1, h2⟩ := vs2 (hso.trans hk')
    exact .iff x y h1 h2
  · rw [hs8 (by decide)]
    have hk' : eqB ks = true := by simpa [kidsB] using hk
    match ks, hk', hso with
    | [a, b], hk', hso =>
      obtain ⟨x, y, rfl, h1, h2⟩ := vs2 hso
      have := (of_decide_eq_true hk').1
      exact .eq x y (by omega)
  · have hk' : iteB ks = true := by simpa [kidsB] using hk
    match ks, hk', hso with
    | [a, b, c], hk', hso =>
      obtain ⟨x, y, z, rfl, h1, h2, h3⟩ := vs3 hso
      have hk2 := (Bool.and_eq_true _ _).mp hk'
      have e1 := of_decide_eq_true hk2.1
      have e2 := (of_decide_eq_true hk2.2).1
      rw [show sortN (.mk 8 so nm nu [a, b, c]) = y.v.so by rw [h2]; exact sortN_ite (t := .mk 8 so nm nu [a, b, c]) rfl (by simp [Nd.ks])]
      exact .ite x y z (by omega) (by omega)
theorem valF_ok {l : List EA} (hv : validM l = true) (nm : ByteArray) (vs : List Vl) {so : Int} (h1 : 1 ≤ so) (h5 : so ≤ 5) : OkV (valF l nm vs so) ∧ (valF l nm vs so).so = so := by
  unfold valF
  cases hf : l.find? fun x => cmpE x (skA nm (vs.map mkV) none 0 so) == 0 with
  | none => exact ⟨okV_plain h1 h5, rfl⟩
  | some e =>
    have hm := List.mem_of_find?_eq_some hf
    have hz : cmpE e (skA nm (vs.map mkV) none 0 so) = 0 := by have := List.find?_some hf; simpa using this
    have hve := ((validM_iff l).1 hv).2.1 e hm
    have hval : validV e.val.v = true := by
      unfold validE at hve
      simp only [Bool.and_eq_true] at hve
      obtain ⟨_, _, h, _⟩ := hve
      first | exact h | simp_all
    have hp := (place_iff e _).2 hz
    unfold placeB at hp
    simp only [Bool.and_eq_true, decide_eq_true_eq] at hp
    exact ⟨(okV_iff _).1 hval, hp.2.1⟩
theorem intO_ok {r : Int} {v : Vl} (h : intO r = some v) : OkV v ∧ v.so = 1 := by
  unfold intO at h
  split at h
  · rename_i hb; cases h; exact ⟨okV_num hb (.inl (.inl rfl)), rfl⟩
  · cases h
theorem setO_ok {l : List Int} {v : Vl} (ha : AscI l) (hb : ∀ x ∈ l, bndB x = true) (h : setO l = some v) : OkV v ∧ v.so = 4 := by
  unfold setO at h
  split at h
  · rename_i hl; cases h; exact ⟨okV_set hl ha hb, rfl⟩
  · cases h
theorem trV_ok (b : Bool) : OkV (trV b) ∧ (trV b).so = 2 := by
  cases b
  · exact ⟨okV_num (by decide) (.inr (.inl ⟨rfl, .inl rfl⟩)), rfl⟩
  · exact ⟨okV_num (by decide) (.inr (.inl ⟨rfl, .inr rfl⟩)), rfl⟩
theorem stoO_ok {x : Vl} {k n : Int} {v : Vl} (hx : OkV x) (hs : x.so = 5) (hk : bndB k = true) (hn : bndB n = true) (h : stoO x k n = some v) : OkV v ∧ v.so = 5 := by
  unfold stoO at h
  split at h
  · rename_i hl
    cases h
    obtain ⟨h1, h2⟩ := hx.arr hs
    refine ⟨⟨hx.nu, hx.l1, hl, hx.s1, hx.b1, sto_asc hx.s2 k n, fun z hz => ?_, sto_len _ _ hx.len _ _ _ _, ?_, ?_⟩, hs⟩
    · rcases (sto_mem hx.s2 k n z).1 hz with ⟨rfl, _⟩ | ⟨hz, _⟩
      · exact hk
      · exact hx.b2 z hz
    · rw [nzB_iff]
      intro y hy
      rw [show (stoV x k n).xs = stoI x.ix x.xs k n n from rfl, sto_vals hx.s2 hx.len] at hy
      obtain ⟨z, hz, rfl⟩ := List.mem_map.1 hy
      rcases (sto_mem hx.s2 k n z).1 hz with ⟨rfl, h0⟩ | ⟨hz, hne⟩
      · rw [if_pos rfl]; exact ⟨hn, h0⟩
      · rw [if_neg hne]; exact atI_nz hx.s2 hx.len hx.nz hz
    · simp [shapeV, stoV, hs, h1, h2]
  · cases h
/-- An operator's value is valid and of the node's sort. -/
theorem apO_ok {l : List EA} (hv : validM l = true) {op so nu s : Int} {nm : ByteArray} {xs : List VA} (hk : ApK so nu nm s op xs) (hx : ∀ x ∈ xs, OkV x.v) {v : Vl} (h : apO l op so nm nu (xs.map (·.v)) = some v) : OkV v ∧ v.so = s := by
  cases hk
  case var f1 f2 f3 => simp only [apO, List.map_nil, ↓reduceIte, Option.some.injEq] at h; subst h; exact valF_ok hv _ _ f2 f3
  case app f1 f2 f3 f4 => simp only [apO, show ((3 : Int) = 1) = False by decide, ↓reduceIte, Option.some.injEq] at h; subst h; exact valF_ok hv _ _ f2 f3
  case ite x y z h1 h2 =>
    have e : some (if (x.v.nu == 1) = true then y.v else z.v) = some v := by rw [← h]; simp [apO, k0, k1, k2]
    obtain rfl := Option.some.inj e
    split
    · exact ⟨hx y (by simp), rfl⟩
    · exact ⟨hx z (by simp), h2⟩
  case eq x y h1 =>
    have e : v = trV (trB 37 [x.v, y.v]) := by simpa [apO, eq_comm] using h
    subst e
    exact trV_ok _
  case sto x y z h1 h2 h3 =>
    have e : stoO x.v y.v.nu z.v.nu = some v := by simpa [apO, k0, k1, k2] using h
    exact stoO_ok (hx x (by simp)) h1 (hx y (by simp)).nu (hx z (by simp)).nu e
  case num f1 f2 => exact intO_ok (by simpa [apO, k0, k1] using h)
  case empty =>
    have e : v = ⟨4, 0, [], [], []⟩ := by simpa [apO, eq_comm] using h
    subst e
    exact ⟨okV_set (by simp) asc_nil (fun _ h => absurd h (by simp)), rfl⟩
  case tru  =>
    have e : v = trV (trB 30 []) := by simpa [apO, eq_comm] using h
    subst e
    exact trV_ok _
  case fls  =>
    have e : v = trV (trB 31 []) := by simpa [apO, eq_comm] using h
    subst e
    exact trV_ok _
  case neg x h1 => exact intO_ok (by simpa [apO, k0, k1] using h)
  case scale x f1 f2 h1 => exact intO_ok (by simpa [apO, k0, k1] using h)
  case sing x h1 =>
    have e : v = ⟨4, 0, [x.v.nu], [], []⟩ := by simpa [apO, k0, eq_comm] using h
    subst e
    exact ⟨okV_set (by simp) (asc_one _) (fun y hy => by simp at hy; subst hy; exact (hx x (by simp)).nu), rfl⟩
  case len x h1 => exact intO_ok (by simpa [apO, k0, k1] using h)
  case not x h1 =>
    have e : v = trV (trB 32 [x.v]) := by simpa [apO, eq_comm] using h
    subst e
    exact trV_ok _
  case add x y h1 h2 => exact intO_ok (by simpa [apO, k0, k1] using h)
  case sub x y h1 h2 => exact intO_ok (by simpa [apO, k0, k1] using h)
  case le x y h1 h2 =>
    have e : v = trV (trB 38 [x.v, y.v]) := by simpa [apO, eq_comm] using h
    subst e
    exact trV_ok _
  case lt x y h1 h2 =>
    have e : v = trV (trB 39 [x.v, y.v]) := by simpa [apO, eq_comm] using h
    subst e
    exact trV_ok _
  case cup x y h1 h2 =>
    refine setO_ok (uniI_asc _ x.v.st y.v.st (Nat.le_refl _) (hx x (by simp)).s1 (hx y (by simp)).s1) (fun z hz => ?_) (by simpa [apO, k0, k1] using h)
    rcases (uniI_mem _ _ _ (Nat.le_refl _) z).1 hz with hz | hz
    · exact (hx x (by simp)).b1 z hz
    · exact (hx y (by simp)).b1 z hz
  case cap x y h1 h2 => exact setO_ok (l := x.v.st.filter fun n => decide (n ∈ y.v.st)) (List.Pairwise.filter _ (hx x (by simp)).s1) (fun z hz => (hx x (by simp)).b1 z (List.mem_filter.1 hz).1) (by simpa [apO, k0, k1] using h)
  case minus x y h1 h2 => exact setO_ok (l := x.v.st.filter fun n => !decide (n ∈ y.v.st)) (List.Pairwise.filter _ (hx x (by simp)).s1) (fun z hz => (hx x (by simp)).b1 z (List.mem_filter.1 hz).1) (by simpa [apO, k0, k1] using h)
  case subset x y h1 h2 =>
    have e : v = trV (trB 41 [x.v, y.v]) := by simpa [apO, eq_comm] using h
    subst e
    exact trV_ok _
  case mem x y h1 h2 =>
    have e : v = trV (trB 40 [x.v, y.v]) := by simpa [apO, eq_comm] using h
    subst e
    exact trV_ok _
  case sel x y h1 h2 => exact intO_ok (by simpa [apO, k0, k1] using h)
  case and x y h1 h2 =>
    have e : v = trV (trB 33 [x.v, y.v]) := by simpa [apO, eq_comm] using h
    subst e
    exact trV_ok _
  case or x y h1 h2 =>
    have e : v = trV (trB 34 [x.v, y.v]) := by simpa [apO, eq_comm] using h
    subst e
    exact trV_ok _
  case imp x y h1 h2 =>
    have e : v = trV (trB 35 [x.v, y.v]) := by simpa [apO, eq_comm] using h
    subst e
    exact trV_ok _
  case iff x y h1 h2 =>
    have e : v = trV (trB 36 [x.v, y.v]) := by simpa [apO, eq_comm] using h
    subst e
    exact trV_ok _
/-- A node's value is valid and of the node's sort. -/
theorem evO_ok {l : List EA} (hv : validM l = true) (t : Nd) : allN t = true → (∀ p ∈ nodesOf t, p.op ≠ 42) → ∀ v, evO l t = some v → OkV v ∧ v.so = sortN t := by
  induction t using Nd.ind with
  | h t ih =>
  intro ha hh v he
  rw [allN_eq, Bool.and_eq_true] at ha
  obtain ⟨ho, hks⟩ := ha
  unfold okN at ho
  rw [Bool.and_eq_true] at ho
  rw [nodesOf_eq] at hh
  cases hvs : evOs l t.ks with
  | none => rw [evO_none hvs] at he; cases he
  | some vs =>
    rw [evO_some hvs] at he
    obtain ⟨hl, hi⟩ := evOs_len hvs
    have hkid : ∀ i (h : i < t.ks.length) (h2 : i < vs.length), OkV vs[i] ∧ vs[i].so = sortN t.ks[i] := fun i h h2 =>
      ih i h (List.all_eq_true.1 hks _ (List.getElem_mem h)) (fun p hp => hh p (List.mem_cons_of_mem _ (List.mem_flatMap.2 ⟨_, List.getElem_mem h, hp⟩))) _ (hi i h h2)
    have hso : (vs.map mkV).map (fun x => x.v.so) = t.ks.map sortN := by
      apply List.ext_getElem (by simp [hl])
      intro i h1 h2
      simp only [List.getElem_map]
      exact (hkid i (by simpa using h2) (by simpa using h1)).2
    have hk := apK_of (so := t.so) (nu := t.nu) (nm := t.nm) ho.1 ho.2 (hh t (by simp)) hso
    rw [Nd.eta] at hk
    have hx : ∀ x ∈ vs.map mkV, OkV x.v := fun x hx => by
      obtain ⟨w, hw, rfl⟩ := List.mem_map.1 hx
      obtain ⟨i, hi', rfl⟩ := List.getElem_of_mem hw
      exact (hkid i (by omega) hi').1
    refine apO_ok hv hk hx ?_
    rw [mkV_v]
    exact he
end Go.Proofs.YtmeeombadkgneaaGreat
namespace Go.Proofs.YtmeeombadkgneaaGreat
open Go.Proofs Go.RowKit Go.Shelf Go.Sort Go.Lib

/-- W has w's blocks, but for those of P. -/
def AgrP (P : Nat → Prop) (w W : World) : Prop := ∀ k, k < w.heap.size → ¬ P k → W.heap[k]? = w.heap[k]?
def noP : Nat → Prop := fun _ => False
theorem agr_later {P : Nat → Prop} {w w' W : World} (hb : RowKit.Below w.heap.size w w') (h : AgrP P w' W) : AgrP P w W :=
  fun k hk h2 => (h k (Nat.lt_of_lt_of_le hk hb.size) h2).trans (hb.block k hk)
theorem cell_agr {w W : World} (h : AgrP noP w W) {a : Addr} {v : Value} (hc : w.cell? a = some v) : W.cell? a = some v := by
  have hb := World.block_lt_of_cell? _ _ hc
  have := h a.block hb id
  rw [← hc]
  unfold World.cell?
  rw [this]
theorem ints_agr {w W : World} (h : AgrP noP w W) {A : Option Addr} {l : List Int} (hi : Ints w A l) : Ints W A l := by
  obtain ⟨b, o, h1, h2⟩ := hi
  exact ⟨b, o, h1, fun i hi => cell_agr h (h2 i hi)⟩
theorem liesV_agr {w W : World} (h : AgrP noP w W) {x : VA} (hx : LiesV w x) : LiesV W x :=
  ⟨ints_agr h hx.st, ints_agr h hx.ix, ints_agr h hx.xs, hx.l1, hx.l2, hx.l3⟩
/-- A value whose lists lie outside of P's blocks. -/
def RobP (P : Nat → Prop) (w : World) (x : VA) : Prop := ∀ W, AgrP P w W → LiesV W x
/-- The same of the values in a table. -/
def TabP (P : Nat → Prop) (w : World) (t : List EA) : Prop := ∀ x ∈ t, RobP P w x.val
theorem RobP.later {P : Nat → Prop} {w w' : World} {x : VA} (h : RobP P w x) (hb : RowKit.Below w.heap.size w w') : RobP P w' x := fun W hW => h W (agr_later hb hW)
theorem TabP.later {P : Nat → Prop} {w w' : World} {t : List EA} (h : TabP P w t) (hb : RowKit.Below w.heap.size w w') : TabP P w' t := fun x hx => (h x hx).later hb
theorem RobP.none {w : World} {x : VA} (h : LiesV w x) : RobP noP w x := fun _ hW => liesV_agr hW h
theorem TabP.none {w : World} {A : Option Addr} {t : List EA} (h : LiesM w A t) : TabP noP w t := fun x hx => by
  obtain ⟨i, hi, rfl⟩ := List.getElem_of_mem hx
  exact RobP.none (h.each i hi).val
theorem RobP.new {P : Nat → Prop} {n0 : Nat} {w : World} {x : VA} (h : RobV n0 w x) (hb : ∀ k, n0 ≤ k → ¬ P k) : RobP P w x := fun _ hW => h _ fun k h1 h2 => hW k h2 (hb k h1)
/-- More blocks that w had not yet. -/
theorem RobP.more {P N : Nat → Prop} {w w' : World} {x : VA} (h : RobP P w x) (hb : RowKit.Below w.heap.size w w') (hg : ∀ k, N k → w.heap.size ≤ k) : RobP (fun k => P k ∨ N k) w' x :=
  fun W hW => h W fun k hk hp => (hW k (Nat.lt_of_lt_of_le hk hb.size) (by rintro (h1 | h1); exact hp h1; have := hg k h1; omega)).trans (hb.block k hk)
theorem TabP.more {P N : Nat → Prop} {w w' : World} {t : List EA} (h : TabP P w t) (hb : RowKit.Below w.heap.size w w') (hg : ∀ k, N k → w.heap.size ≤ k) : TabP (fun k => P k ∨ N k) w' t := fun x hx => (h x hx).more hb hg
theorem RobP.fewer {P Q : Nat → Prop} {w : World} {x : VA} (h : RobP P w x) (hq : ∀ k, Q k → P k) : RobP Q w x := fun W hW => h W fun k hk hp => hW k hk fun hq' => hp (hq k hq')
/-- Stores to P's blocks leave it as it is. -/
theorem RobP.same {P : Nat → Prop} {w w' : World} {x : VA} (h : RobP P w x) (hs : w'.heap.size = w.heap.size) (ho : ∀ k, ¬ P k → w'.heap[k]? = w.heap[k]?) : RobP P w' x :=
  fun W hW => h W fun k hk h2 => (hW k (by omega) h2).trans (ho k h2)
theorem RobP.here {P : Nat → Prop} {w : World} {x : VA} (h : RobP P w x) : LiesV w x := h w fun _ _ _ => rfl
theorem robP_plain {P : Nat → Prop} {w : World} (so nu : Int) : RobP P w ⟨⟨so, nu, [], [], []⟩, none, 0, none, 0, none, 0⟩ := fun W _ => ⟨ints_nil W, ints_nil W, ints_nil W, by simp, by simp, by simp⟩
theorem vls_mk (vs : List Vl) : vls (vs.map mkV) = vs := mkV_v vs
theorem cmp_key (x : EA) (nm : ByteArray) (args : List VA) (so : Int) : cmpE x (skA nm ((vls args).map mkV) none 0 so) = cmpE x (skA nm args none 0 so) := by
  unfold cmpE
  rw [show (skA nm ((vls args).map mkV) none 0 so).args = (vls args).map mkV from rfl, vls_mk]
  rfl
theorem find_valF {l t : List EA} (hp : t.Perm l) (ha : Asc t) {nm : ByteArray} {args : List VA} {so : Int} {v : VA} (hv : FindR t nm args so v) : v.v = valF l nm (vls args) so := by
  unfold valF
  rcases hv with ⟨k, hk, hz, rfl⟩ | ⟨hno, rfl⟩
  · have hm : t[k] ∈ l := hp.mem_iff.1 (List.getElem_mem hk)
    cases hf : l.find? fun x => cmpE x (skA nm ((vls args).map mkV) none 0 so) == 0 with
    | none =>
      have := List.find?_eq_none.1 hf _ hm
      rw [cmp_key, hz] at this
      simp at this
    | some e =>
      have he := List.mem_of_find?_eq_some hf
      have hz2 : cmpE e (skA nm args none 0 so) = 0 := by
        have := List.find?_some hf
        rw [cmp_key] at this
        simpa using this
      have : e = t[k] := by
        refine asc_same ha (hp.mem_iff.2 he) (List.getElem_mem hk) ?_
        have h1 := (place_iff _ _).2 hz
        have h2 := (place_iff _ _).2 hz2
        refine (place_iff _ _).1 ?_
        unfold placeB at h1 h2 ⊢
        simp only [Bool.and_eq_true, decide_eq_true_eq, vlsB_iff, beq_iff_eq] at h1 h2 ⊢
        exact ⟨h2.1.trans h1.1.symm, h2.2.1.trans h1.2.1.symm, h2.2.2.trans h1.2.2.symm⟩
      subst this
      rfl
  · cases hf : l.find? fun x => cmpE x (skA nm ((vls args).map mkV) none 0 so) == 0 with
    | none => rfl
    | some e =>
      have he := List.mem_of_find?_eq_some hf
      have := List.find?_some hf
      rw [cmp_key] at this
      exact absurd (by simpa using this) (hno e (hp.mem_iff.2 he))
theorem find_rob {t : List EA} {nm : ByteArray} {args : List VA} {so : Int} {v : VA} (hv : FindR t nm args so v) {P : Nat → Prop} {w : World} (h : TabP P w t) : RobP P w v := by
  rcases hv with ⟨k, hk, _, rfl⟩ | ⟨_, rfl⟩
  · exact h _ (List.getElem_mem hk)
  · exact robP_plain _ _
theorem find_cap {t : List EA} {nm : ByteArray} {args : List VA} {so : Int} {v : VA} (hv : FindR t nm args so v) (h : ∀ x ∈ t, CapV x.val) : CapV v := by
  rcases hv with ⟨k, hk, _, rfl⟩ | ⟨_, rfl⟩
  · exact h _ (List.getElem_mem hk)
  · exact ⟨by simp [plV2], by simp [plV2], by simp [plV2]⟩
theorem find_lies {t : List EA} {nm : ByteArray} {args : List VA} {so : Int} {v : VA} (hv : FindR t nm args so v) {w : World} {A : Option Addr} (h : LiesM w A t) : LiesV w v := by
  rcases hv with ⟨k, hk, _, rfl⟩ | ⟨_, rfl⟩
  · exact (h.each k hk).val
  · exact ⟨ints_nil w, ints_nil w, ints_nil w, by simp [plV2], by simp [plV2], by simp [plV2]⟩
end Go.Proofs.YtmeeombadkgneaaGreat
