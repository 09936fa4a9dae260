/-
  What package logic's insert does to a sorted row that grows, at declarations and at nodes; conditions: the row is the caller's own and not too long to be grown.
-/
import Derived.Test.YtpjokapkoeclpaaSrch
import Derived.Test.YtpjokapkoeclpaaRefVars
import Derived.Test.YtpjokapkoeclpaaSubstsPre
namespace Go.Proofs.Ytpjokapkoeclpaa
open Go.RowKit Go.Shelf

attribute [local go_sem] Oper.semAt_some
/-- An element put into a list in its place, once. -/
def insL {α : Type} (eq lt : α → Bool) (d : α) : List α → List α
  | [] => [d]
  | x :: xs => if eq x = true then x :: xs else if lt x = true then d :: x :: xs else x :: insL eq lt d xs
theorem insL_split {α : Type} (eq lt : α → Bool) (d : α) (cf : α → Int) (he : ∀ x, eq x = true ↔ cf x = 0) (hlt : ∀ x, lt x = true ↔ 0 < cf x) : ∀ (l : List α) (i : Nat), i ≤ l.length → (∀ t (_ : t < l.length), t < i → cf l[t] < 0) → (∀ t (_ : t < l.length), i ≤ t → 0 ≤ cf l[t]) →
    insL eq lt d l = if hitB l cf i = true then l else l.take i ++ d :: l.drop i
  | [], 0, _, _, _ => by simp [insL, hitB]
  | [], i + 1, h, _, _ => by simp at h
  | x :: xs, 0, _, _, h2 => by
    have h0 : 0 ≤ cf x := h2 0 (by simp) (Nat.le_refl _)
    rw [hitB_in (by simp), insL]
    simp only [List.getElem_cons_zero, List.take_zero, List.nil_append, List.drop_zero]
    by_cases hc : cf x = 0
    · rw [if_pos ((he x).2 hc), if_pos (by simpa using hc)]
    · rw [if_neg (fun h => hc ((he x).1 h)), if_pos ((hlt x).2 (by omega)), if_neg (by simpa using hc)]
  | x :: xs, i + 1, h, h1, h2 => by
    have h0 : cf x < 0 := h1 0 (by simp) (by omega)
    have ih := insL_split eq lt d cf he hlt xs i (by simpa using h) (fun t ht hti => h1 (t + 1) (by simp; omega) (by omega)) (fun t ht hti => h2 (t + 1) (by simp; omega) (by omega))
    rw [insL, if_neg (fun h => by have := (he x).1 h; omega), if_neg (fun h => by have := (hlt x).1 h; omega), ih]
    have hh : hitB (x :: xs) cf (i + 1) = hitB xs cf i := by unfold hitB; rw [List.getElem?_cons_succ]
    rw [hh]
    split
    · rfl
    · simp

theorem flat_take {α : Type} (f : α → List Value) (k : Nat) (hk : ∀ x, (f x).length = k) : ∀ (l : List α) (i : Nat), (l.flatMap f).take (i * k) = (l.take i).flatMap f
  | [], i => by simp
  | x :: xs, 0 => by simp
  | x :: xs, i + 1 => by
    rw [List.flatMap_cons, List.take_succ_cons, List.flatMap_cons, List.take_append, List.take_of_length_le (by rw [hk, Nat.add_mul]; omega), hk, show (i + 1) * k - k = i * k by rw [Nat.add_mul]; omega, flat_take f k hk xs i]
theorem flat_drop {α : Type} (f : α → List Value) (k : Nat) (hk : ∀ x, (f x).length = k) : ∀ (l : List α) (i : Nat), (l.flatMap f).drop (i * k) = (l.drop i).flatMap f
  | [], i => by simp
  | x :: xs, 0 => by simp
  | x :: xs, i + 1 => by
    rw [List.flatMap_cons, List.drop_succ_cons, List.drop_append, List.drop_of_length_le (by rw [hk, Nat.add_mul]; omega), hk, show (i + 1) * k - k = i * k by rw [Nat.add_mul]; omega, flat_drop f k hk xs i, List.nil_append]
theorem flat_ins {α : Type} (f : α → List Value) (k : Nat) (hk : ∀ x, (f x).length = k) (l : List α) (d : α) (i : Nat) : (l.flatMap f).take (i * k) ++ (f d ++ (l.flatMap f).drop (i * k)) = (l.take i ++ d :: l.drop i).flatMap f := by
  rw [flat_take f k hk, flat_drop f k hk, List.flatMap_append, List.flatMap_cons]

theorem grownBy_of_below {w w1 : World} (h : Below w.heap.size w w1) (row : Option Nat) : w.grownBy w1 row := ⟨h.os, h.tape, h.output, h.size, fun k hk _ => h.block k hk⟩
theorem grownBy_trans {w w1 w2 : World} {row : Option Nat} (h : w.grownBy w1 row) (h' : w1.grownBy w2 row) : w.grownBy w2 row :=
  ⟨h'.os.trans h.os, h'.tape.trans h.tape, h'.output.trans h.output, Nat.le_trans h.size h'.size, fun k hk hr => (h'.block k (Nat.lt_of_lt_of_le hk h.size) hr).trans (h.block k hk hr)⟩

/-- A row that has grown is handed back. -/
def RowPost (k : Nat) (E : TypeId) (base : Nat) (w : World) (v : Value) (n : Nat) (out : List Value) (e : Ending) (w' : World) : Prop :=
  ∃ v', e = .returned v' ∧ w'.ownsRow base E k v' n out ∧ w.grownBy w' v.ownBlock ∧ (v'.ownBlock = v.ownBlock ∨ ∃ b, v'.ownBlock = some b ∧ w.heap.size ≤ b)

theorem cmpD_zero {e d : ByteArray × Int} : eqD e d = true ↔ cmpD e.1 e.2 d.1 d.2 = 0 := by
  rw [eqD_iff]
  unfold cmpD orV
  constructor
  · rintro rfl
    rw [cmpS_self, cmpI_self]; simp
  · intro h
    split at h
    · rename_i h1; exact absurd h h1
    · rename_i h1
      have h1 : cmpS e.1 d.1 = 0 := by omega
      rw [cmpS_eq] at h1
      exact Prod.ext (toList_inj (cmpB_zero h1)) (cmpI_zero.1 h)
theorem cmpD_pos {e d : ByteArray × Int} : ahB d e = true ↔ 0 < cmpD e.1 e.2 d.1 d.2 := by
  rw [ahB_iff]
  unfold ltD cmpD orV
  rw [cmpS_eq]
  have n := cmpB_neg e.1.toList d.1.toList
  constructor
  · rintro (h | ⟨h1, h2⟩)
    · rw [if_pos (by omega)]; omega
    · rw [h1, cmpB_self, if_neg (by simp)]
      unfold cmpI
      rw [if_neg (by omega), if_pos h2]
      omega
  · intro h
    split at h
    · left; omega
    · rename_i h1
      have h1 : cmpB e.1.toList d.1.toList = 0 := by omega
      refine .inr ⟨(toList_inj (cmpB_zero h1)).symm, ?_⟩
      unfold cmpI at h
      split at h
      · omega
      · split at h
        · assumption
        · omega
theorem cmpD_neg {e d : ByteArray × Int} (h : cmpD e.1 e.2 d.1 d.2 < 0) : ltD e d :=
  Classical.byContradiction fun hn => by
    by_cases he : e = d
    · have := cmpD_zero.1 (eqD_iff.2 he); omega
    · have := cmpD_pos.1 (ahB_iff.2 (ltD_tri e d he hn)); omega
theorem cmpD_of_lt {e d : ByteArray × Int} (h : ltD e d) : cmpD e.1 e.2 d.1 d.2 < 0 := by
  have h0 : ¬ 0 < cmpD e.1 e.2 d.1 d.2 := fun q => by
    have := ltD_trans h (ahB_iff.1 (cmpD_pos.2 q))
    unfold ltD at this
    rw [cmpB_self] at this
    rcases this with q | ⟨_, q⟩ <;> omega
  have h1 : cmpD e.1 e.2 d.1 d.2 ≠ 0 := fun q => by
    have := eqD_iff.1 (cmpD_zero.2 q)
    subst this
    unfold ltD at h
    rw [cmpB_self] at h
    rcases h with q | ⟨_, q⟩ <;> omega
  omega
theorem insD_insL (d : ByteArray × Int) : ∀ l, insD d l = insL (fun x => eqD x d) (fun x => ahB d x) d l
  | [] => rfl
  | x :: xs => by rw [insD, insL, insD_insL d xs]
theorem flatD_one (l : List (ByteArray × Int)) : ∀ u ∈ flatD l, u.oneCell' = true := by
  intro u hu
  obtain ⟨x, _, h⟩ := List.mem_flatMap.1 hu
  simp only [List.mem_cons, List.not_mem_nil, or_false] at h
  rcases h with rfl | rfl <;> rfl

set_option maxRecDepth 100000 in
set_option maxHeartbeats 4000000 in
theorem insertD_any (l : List (ByteArray × Int)) (d : ByteArray × Int) (v : Value) (base : Nat) (w : World) (hown : w.ownsRow base 58 2 v l.length (flatD l)) (hbase : base ≤ w.heap.size) (hl : l.length ≤ 1048576) (hs : l.Pairwise ltD) :
    Calls Try.prog 57 #[v, dv d.1 d.2, .func (.func 58) #[] #[]] w (RowPost 2 58 base w v (insD d l).length (flatD (insD d l))) := by
  obtain ⟨A, cap, rfl, hD⟩ := ownsRow_decls hown
  have HB : Below w.heap.size w (w.alloc (.cells #[.string d.1, .int .i64 d.2] 58)) := (Below.refl _ _).alloc (Nat.le_refl _) _
  have hmono : ∀ i j (hi : i < l.length) (hj : j < l.length), i ≤ j → cmpD l[j].1 l[j].2 d.1 d.2 < 0 → cmpD l[i].1 l[i].2 d.1 d.2 < 0 := fun i j hi hj hij h => by
    by_cases e : i = j
    · subst e; exact h
    · exact cmpD_of_lt (ltD_trans (List.pairwise_iff_getElem.1 hs i j hi hj (by omega)) (cmpD_neg h))
  have hsp := fun i h1 h2 h3 => (insD_insL d l).trans (insL_split (fun x => eqD x d) (fun x => ahB d x) d (fun e => cmpD e.1 e.2 d.1 d.2) (fun x => cmpD_zero) (fun x => cmpD_pos) l i h1 h2 h3)
  have S := Lib.hid (searchD_any l d A cap _ (hD.later HB) hl hmono)
  have HSP := Lib.hid hsp
  have HO := Lib.hid hown
  have HBx := Lib.hid HB
  have HBA := Lib.hid hbase
  clear hsp hown HB hmono hD hbase hs
  go_enter Try.func57, Try.ntmps57
  go_wp2_with fail
  refine S.out.mono ?_
  rintro e w1 ⟨i, hi, rfl, h1, h2, hb1⟩
  have hsp := HSP.out i hi h1 h2
  have hB1 := Lib.hid (HBx.out.trans (hb1.mono HBx.out.size))
  have c0 : w1.cell? ⟨w.heap.size, 0, none⟩ = some (.string d.1) := (hb1.cell (by simp)).trans (by simp [go_sem])
  have c1 : w1.cell? ⟨w.heap.size, 1, none⟩ = some (.int .i64 d.2) := (hb1.cell (by simp)).trans (by simp [go_sem])
  clear hb1 h1 h2 HSP S
  cases hh : hitB l (fun e => cmpD e.1 e.2 d.1 d.2) i
  all_goals rw [hh] at hsp
  case true =>
    have hsp := Lib.hid (hsp.trans (if_pos rfl))
    have HR : Hid (∀ e, e = .returned (.slice A l.length cap) → RowPost 2 58 base w (.slice A l.length cap) (insD d l).length (flatD (insD d l)) e w1) := by
      rw [hsp.out]
      exact fun e he => ⟨.slice A l.length cap, he, ownsRow_below HO.out hB1.out, grownBy_of_below hB1.out _, .inl rfl⟩
    clear hh
    go_wp2_with fail
    go_ret
    exact HR.out _ rfl
  case false =>
    have hsp := Lib.hid (hsp.trans (if_neg (by simp)))
    clear hh
    have HI := Lib.hid (insertSl_D (flatD l) [.string d.1, .int .i64 d.2] l.length i (.slice A l.length cap) base w1.heap.size (w1.alloc (.cells #[.string d.1, .int .i64 d.2] 58)) (ownsRow_alloc (ownsRow_below HO.out hB1.out) _) (by have := hB1.out.size; have := HBA.out; simp; omega) hi hl (flatD_one l) rfl (heap_alloc_new w1 _) (fun e => by
      rcases HO.out.2 with ⟨hv, _⟩ | ⟨g, c, cur, hv, _, hg, _⟩
      · rw [hv] at e; simp [Value.ownBlock] at e
      · rw [hv] at e; simp [Value.ownBlock] at e
        have := (Array.getElem?_eq_some_iff.1 hg).1
        have := hB1.out.size
        omega) (by simp [Value.oneCell']))
    go_wp2_with fail
    refine HI.out.mono ?_
    rintro e w2 ⟨v', rfl, hown2, hgr2, hor2⟩
    have hl2 : (insD d l).length = l.length + 1 := by
      rw [hsp.out, List.length_append, List.length_cons, List.length_take, List.length_drop]; omega
    have hfl : flatD (insD d l) = (flatD l).take (i * 2) ++ ([.string d.1, .int .i64 d.2] ++ (flatD l).drop (i * 2)) := by
      rw [hsp.out]
      exact (flat_ins (fun d : ByteArray × Int => [.string d.1, .int .i64 d.2]) 2 (fun _ => rfl) l d i).symm
    have HR : Hid (∀ e, e = .returned v' → RowPost 2 58 base w (.slice A l.length cap) (insD d l).length (flatD (insD d l)) e w2) := by
      refine fun e he => ⟨v', he, ?_, grownBy_trans (grownBy_of_below (hB1.out.alloc hB1.out.size _) _) hgr2, hor2.imp id (fun e => ⟨_, e, by have := hB1.out.size; simp; omega⟩)⟩
      rw [hl2, hfl]
      exact hown2
    clear hown2 hgr2 hor2 hl2 hfl c0 c1
    go_wp2_with fail
    go_ret
    exact HR.out _ rfl

/-- A node put into a sorted list in its place, once. -/
def insA (d : NdA) (l : List NdA) : List NdA := insL (fun x => cmpN x.1 d.1 == 0) (fun x => decide (0 < cmpN x.1 d.1)) d l
def ltA (x y : NdA) : Prop := cmpN x.1 y.1 < 0

set_option maxRecDepth 100000 in
set_option maxHeartbeats 4000000 in
theorem insertN_any (l : List NdA) (d : NdA) (v : Value) (base : Nat) (w : World) (hown : w.ownsRow base 24 5 v l.length (flatN l)) (hk : ∀ x ∈ l, Lies w x.2.1 x.2.2 x.1.ks ∧ Fine x.1) (hbase : base ≤ w.heap.size) (hl : l.length ≤ 1048576) (hs : l.Pairwise ltA) (hd : Lies w d.2.1 d.2.2 d.1.ks) :
    Calls Try.prog 60 #[v, nv d.1.op d.1.so d.1.nm d.1.nu (.slice d.2.1 d.1.ks.length d.2.2), .func (.func 35) #[] #[]] w (RowPost 5 24 base w v (insA d l).length (flatN (insA d l))) := by
  obtain ⟨A, cap, rfl, hD⟩ := lies_of_row hown hk (by unfold maxLen; omega)
  rw [List.length_map] at *
  have HB : Below w.heap.size w (w.alloc (boxO d.1 (.slice d.2.1 d.1.ks.length d.2.2))) := (Below.refl _ _).alloc (Nat.le_refl _) _
  have hmono : ∀ i j (hi : i < (l.map (·.1)).length) (hj : j < (l.map (·.1)).length), i ≤ j → cmpN (l.map (·.1))[j] d.1 < 0 → cmpN (l.map (·.1))[i] d.1 < 0 := fun i j hi hj hij h => by
    by_cases e : i = j
    · subst e; exact h
    · rw [List.getElem_map] at h ⊢
      rw [List.length_map] at hi hj
      have q := List.pairwise_iff_getElem.1 hs i j hi hj (by omega)
      unfold ltA at q
      have t := (cmp_all l[i].1).2.2.2 l[j].1 d.1
      unfold Tri at t
      have := t (by omega) (by omega)
      omega
  have hsp := fun i h1 h2 h3 => (insL_split (fun x : NdA => cmpN x.1 d.1 == 0) (fun x => decide (0 < cmpN x.1 d.1)) d (fun e => cmpN e.1 d.1) (fun x => by simp) (fun x => by simp) l i h1 h2 h3)
  have S := Lib.hid (searchN_any (l.map (·.1)) d.1 A d.2.1 cap d.2.2 _ (hD.later HB) (hd.later HB) (by rw [List.length_map]; exact hl) hmono)
  rw [List.length_map] at S
  have HSP := Lib.hid hsp
  have HO := Lib.hid hown
  have HBx := Lib.hid HB
  have HBA := Lib.hid hbase
  have H5 := Lib.hid (five_new w d.1 (.slice d.2.1 d.1.ks.length d.2.2) 24)
  clear hsp hown HB hmono hD hbase hs hk hd
  go_enter Try.func60, Try.ntmps60
  go_wp2_with fail
  refine S.out.mono ?_
  rintro e w1 ⟨i, hi, rfl, h1, h2, hb1⟩
  rw [List.length_map] at hi
  have hhe : hitB (l.map (·.1)) (fun e => cmpN e d.1) i = hitB l (fun e => cmpN e.1 d.1) i := by
    unfold hitB
    rw [List.getElem?_map]
    cases l[i]? <;> rfl
  rw [hhe]
  have hsp := HSP.out i hi (fun t ht hti => by have := h1 t (by rw [List.length_map]; exact ht) hti; rwa [List.getElem_map] at this) (fun t ht hti => by have := h2 t (by rw [List.length_map]; exact ht) hti; rwa [List.getElem_map] at this)
  have hB1 := Lib.hid (HBx.out.trans (hb1.mono HBx.out.size))
  have p5 := H5.out.later hb1
  have c0 := p5.c0
  have c1 := p5.c1
  have c2 := p5.c2
  have c3 := p5.c3
  have c4 := p5.c4
  simp only [Nat.zero_add] at c1 c2 c3 c4
  clear hb1 h1 h2 HSP S hhe p5 H5
  cases hh : hitB l (fun e => cmpN e.1 d.1) i
  all_goals rw [hh] at hsp
  case true =>
    have hsp := Lib.hid (hsp.trans (if_pos rfl))
    have HR : Hid (∀ e, e = .returned (.slice A l.length cap) → RowPost 5 24 base w (.slice A l.length cap) (insA d l).length (flatN (insA d l)) e w1) := by
      show ∀ e, _
      unfold insA
      rw [hsp.out]
      exact fun e he => ⟨.slice A l.length cap, he, ownsRow_below HO.out hB1.out, grownBy_of_below hB1.out _, .inl rfl⟩
    clear hh
    go_wp2_with fail
    go_ret
    exact HR.out _ rfl
  case false =>
    have hsp := Lib.hid (hsp.trans (if_neg (by simp)))
    clear hh
    have HI := Lib.hid (insertSl_N (flatN l) (cells5 d) l.length i (.slice A l.length cap) base w1.heap.size (w1.alloc (boxO d.1 (.slice d.2.1 d.1.ks.length d.2.2))) (ownsRow_alloc (ownsRow_below HO.out hB1.out) _) (by have := hB1.out.size; have := HBA.out; simp; omega) hi hl (flatN_one l) rfl (heap_alloc_new w1 _) (fun e => by
      rcases HO.out.2 with ⟨hv, _⟩ | ⟨g, c, cur, hv, _, hg, _⟩
      · rw [hv] at e; simp [Value.ownBlock] at e
      · rw [hv] at e; simp [Value.ownBlock] at e
        have := (Array.getElem?_eq_some_iff.1 hg).1
        have := hB1.out.size
        omega) (cells5_one d))
    go_wp2_with fail
    refine HI.out.mono ?_
    rintro e w2 ⟨v', rfl, hown2, hgr2, hor2⟩
    have hl2 : (insA d l).length = l.length + 1 := by
      unfold insA
      rw [hsp.out, List.length_append, List.length_cons, List.length_take, List.length_drop]; omega
    have hfl : flatN (insA d l) = (flatN l).take (i * 5) ++ (cells5 d ++ (flatN l).drop (i * 5)) := by
      unfold insA
      rw [hsp.out]
      exact (flat_ins cells5 5 (fun _ => rfl) l d i).symm
    have HR : Hid (∀ e, e = .returned v' → RowPost 5 24 base w (.slice A l.length cap) (insA d l).length (flatN (insA d l)) e w2) := by
      refine fun e he => ⟨v', he, ?_, grownBy_trans (grownBy_of_below (hB1.out.alloc hB1.out.size _) _) hgr2, hor2.imp id (fun e => ⟨_, e, by have := hB1.out.size; simp; omega⟩)⟩
      rw [hl2, hfl]
      exact hown2
    clear hown2 hgr2 hor2 hl2 hfl c0 c1 c2 c3 c4
    go_wp2_with fail
    go_ret
    exact HR.out _ rfl
end Go.Proofs.Ytpjokapkoeclpaa
