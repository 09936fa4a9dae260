/-
  A text that Print writes, read as the grammar says, is the tree without its sorts; no program is spoken of; conditions: the tree is of the form that Print asks for, has few levels, and no Scale of a negative number.
-/
import Derived.Test.YtgkjcimgghflmaaGreatDoorYPsp
import Derived.Test.YtgkjcimgghflmaaGreatDoorYPn0
namespace Go.Proofs.YtgkjcimgghflmaaGreatDoor
open Go.RowKit Go.Shelf
/-- What stands in a text from a position on. -/
def At (s : ByteArray) (a : Nat) (l : List UInt8) : Prop := (lst s).drop a = l ∧ a + l.length = s.size
theorem At.move {s : ByteArray} {a : Nat} {x r : List UInt8} (h : At s a (x ++ r)) : At s (a + x.length) r := by
  have h1 := h.1
  have h2 := h.2
  rw [List.length_append] at h2
  refine ⟨?_, by omega⟩
  rw [← List.drop_drop, h1, List.drop_left]
theorem At.tok {s : ByteArray} {a : Nat} {l : List UInt8} (h : At s a l) : T s a = tokL l := by unfold T; rw [h.1]
theorem At.same {s : ByteArray} {a b : Nat} {l m : List UInt8} (h : At s a l) (h' : At s b m) (e : l = m) : a = b := by
  subst e
  have := h.2
  have := h'.2
  omega
def okHd (c : UInt8) : Bool := c != 35 && !blankC c
/-- A text without the blank at its head. -/
def skp : List UInt8 → List UInt8
  | [] => []
  | c :: l => if c = 32 then l else c :: l
/-- Behind a blank at the head stands no further blank and no comment. -/
def Ok (l : List UInt8) : Prop := ∀ c m, skp l = c :: m → okHd c = true
theorem skp_of {c : UInt8} {l : List UInt8} (h : c ≠ 32) : skp (c :: l) = c :: l := by rw [skp]; exact if_neg h
theorem skp_sp (l : List UInt8) : skp (32 :: l) = l := by rw [skp]; exact if_pos rfl
theorem Ok.nil : Ok [] := fun c m h => by cases h
theorem Ok.of {c : UInt8} {l : List UInt8} (h : okHd c = true) (h2 : c ≠ 32) : Ok (c :: l) := fun d m e => by
  rw [skp_of h2] at e
  cases e
  exact h
theorem Ok.sp {c : UInt8} {l : List UInt8} (h : okHd c = true) : Ok (32 :: c :: l) := fun d m e => by
  rw [skp_sp] at e
  cases e
  exact h
theorem okHd_ne {c : UInt8} (h : okHd c = true) : c ≠ 32 := fun e => by subst e; exact absurd h (by decide)
theorem At.bl {s : ByteArray} {a : Nat} {r : List UInt8} (h : At s a r) (ho : Ok r) : At s (bl s a) (skp r) := by
  cases r with
  | nil =>
    have : Go.Proofs.YtgkjcimgghflmaaGreatDoor.bl s a = a := by
      unfold Go.Proofs.YtgkjcimgghflmaaGreatDoor.bl; rw [h.1]; rfl
    rw [this]; exact h
  | cons c l =>
    have stop : ∀ (d : UInt8) (m : List UInt8), okHd d = true → skipN false (d :: m) = 0 := by
      intro d m hd
      simp only [okHd, Bool.and_eq_true, bne_iff_ne, ne_eq, Bool.not_eq_true'] at hd
      rw [skipN, if_neg hd.1, hd.2]; rfl
    by_cases hc : c = 32
    · subst hc
      have h1 : At s (a + 1) l := h.move (x := [32])
      rw [skp_sp]
      have : Go.Proofs.YtgkjcimgghflmaaGreatDoor.bl s a = a + 1 := by
        unfold Go.Proofs.YtgkjcimgghflmaaGreatDoor.bl
        rw [h.1, skipN, if_neg (by decide), if_pos (by decide)]
        cases l with
        | nil => rfl
        | cons d m => rw [stop d m (ho d m (skp_sp _))]
      rw [this]; exact h1
    · rw [skp_of hc]
      have : Go.Proofs.YtgkjcimgghflmaaGreatDoor.bl s a = a := by
        unfold Go.Proofs.YtgkjcimgghflmaaGreatDoor.bl
        rw [h.1, stop c l (ho c l (skp_of hc))]; rfl
      rw [this]; exact h
/-- A token and what stands behind it. -/
theorem At.step {s : ByteArray} {a : Nat} {x r : List UInt8} (h : At s a (x ++ r)) (hx : tokL (x ++ r) = x) (ho : Ok r) : T s a = x ∧ At s (nxt s a) (skp r) ∧ nxt s a = Go.Proofs.YtgkjcimgghflmaaGreatDoor.bl s (a + x.length) := by
  have ht : T s a = x := h.tok.trans hx
  refine ⟨ht, ?_, by unfold nxt; rw [ht]⟩
  unfold nxt
  rw [ht]
  exact h.move.bl ho
/-- A phrase is read: with enough fuel, the node and the position behind it. -/
def Gv (s : ByteArray) (nt : NT) (o a K : Nat) (x : Nd) (b : Nat) : Prop := ∀ f, K ≤ f → PA s f nt o a = .ok x b
theorem Gv.mono {s : ByteArray} {nt : NT} {o a K K' : Nat} {x : Nd} {b : Nat} (h : Gv s nt o a K x b) (hk : K ≤ K') : Gv s nt o a K' x b := fun f hf => h f (by omega)
theorem fuel1 {K f : Nat} (h : K + 1 ≤ f) : ∃ g, f = g + 1 ∧ K ≤ g := ⟨f - 1, by omega, by omega⟩
section
variable {s : ByteArray} {o a K : Nat} {x : Nd} {b : Nat}
theorem Gv.sumL (h1 : T s b ≠ [45]) (h2 : T s b ≠ [43]) : Gv s (.sumL x) o b 1 x b := fun f hf => by
  obtain ⟨f, rfl, hg⟩ := fuel1 hf
  replace hf := hg
  rw [PA, if_neg h1, if_neg h2]
theorem Gv.sum (h : Gv s .una o a K x b) {y : Nd} {c : Nat} (hl : Gv s (.sumL x) o b K y c) : Gv s .sum o a (K + 1) y c := fun f hf => by
  obtain ⟨f, rfl, hg⟩ := fuel1 hf
  replace hf := hg
  rw [PA, h _ hf]
  exact hl _ hf
theorem Gv.sum0 (h : Gv s .una o a K x b) (h1 : T s b ≠ [45]) (h2 : T s b ≠ [43]) : Gv s .sum o a (K + 2) x b :=
  (h.mono (Nat.le_succ _)).sum ((Gv.sumL h1 h2).mono (by omega))
theorem Gv.cmp (h : Gv s .sum o a K x b) (h1 : isCmp (T s b) = false) : Gv s .cmp o a (K + 1) x b := fun f hf => by
  obtain ⟨f, rfl, hg⟩ := fuel1 hf
  replace hf := hg
  rw [PA, h _ hf]
  show (if isCmp (T s b) = true then _ else _) = _
  rw [h1]; rfl
theorem Gv.not (h : Gv s .cmp o a K x b) (h1 : T s a ≠ [33]) : Gv s .not o a (K + 1) x b := fun f hf => by
  obtain ⟨f, rfl, hg⟩ := fuel1 hf
  replace hf := hg
  rw [PA, if_neg h1, h _ hf]
theorem Gv.andL (h1 : T s b ≠ [38, 38]) : Gv s (.andL x) o b 1 x b := fun f hf => by
  obtain ⟨f, rfl, hg⟩ := fuel1 hf
  replace hf := hg
  rw [PA, if_neg h1]
theorem Gv.and (h : Gv s .not o a K x b) {y : Nd} {c : Nat} (hl : Gv s (.andL x) o b K y c) : Gv s .and o a (K + 1) y c := fun f hf => by
  obtain ⟨f, rfl, hg⟩ := fuel1 hf
  replace hf := hg
  rw [PA, h _ hf]
  exact hl _ hf
theorem Gv.and0 (h : Gv s .not o a K x b) (h1 : T s b ≠ [38, 38]) : Gv s .and o a (K + 2) x b :=
  (h.mono (Nat.le_succ _)).and ((Gv.andL h1).mono (by omega))
theorem Gv.orL (h1 : T s b ≠ [124, 124]) : Gv s (.orL x) o b 1 x b := fun f hf => by
  obtain ⟨f, rfl, hg⟩ := fuel1 hf
  replace hf := hg
  rw [PA, if_neg h1]
theorem Gv.or (h : Gv s .and o a K x b) {y : Nd} {c : Nat} (hl : Gv s (.orL x) o b K y c) : Gv s .or o a (K + 1) y c := fun f hf => by
  obtain ⟨f, rfl, hg⟩ := fuel1 hf
  replace hf := hg
  rw [PA, h _ hf]
  exact hl _ hf
theorem Gv.or0 (h : Gv s .and o a K x b) (h1 : T s b ≠ [124, 124]) : Gv s .or o a (K + 2) x b :=
  (h.mono (Nat.le_succ _)).or ((Gv.orL h1).mono (by omega))
theorem Gv.imp (h : Gv s .or o a K x b) (h1 : T s b ≠ [61, 62]) : Gv s .imp o a (K + 1) x b := fun f hf => by
  obtain ⟨f, rfl, hg⟩ := fuel1 hf
  replace hf := hg
  rw [PA, h _ hf]
  exact if_neg h1
theorem Gv.form (h : Gv s .imp o a K x b) (h1 : T s b ≠ [60, 61, 62]) : Gv s .form o a (K + 1) x b := fun f hf => by
  obtain ⟨f, rfl, hg⟩ := fuel1 hf
  replace hf := hg
  rw [PA, h _ hf]
  exact if_neg h1
/-- Nothing that joins phrases. -/
def endT (t : List UInt8) : Prop := t = [41] ∨ t = [44] ∨ t = []
theorem endT.ne {t : List UInt8} (h : endT t) : t ≠ [45] ∧ t ≠ [43] ∧ isCmp t = false ∧ t ≠ [38, 38] ∧ t ≠ [124, 124] ∧ t ≠ [61, 62] ∧ t ≠ [60, 61, 62] ∧ t ≠ [42] ∧ t ≠ [40] := by
  rcases h with rfl | rfl | rfl <;> decide
theorem Gv.up_imp (h : Gv s .imp o a K x b) (he : endT (T s b)) : Gv s .form o a (K + 1) x b := h.form he.ne.2.2.2.2.2.2.1
theorem Gv.up_or (h : Gv s .or o a K x b) (he : endT (T s b)) : Gv s .form o a (K + 2) x b := (h.imp he.ne.2.2.2.2.2.1).up_imp he
theorem Gv.up_and (h : Gv s .and o a K x b) (he : endT (T s b)) : Gv s .form o a (K + 4) x b := (h.or0 he.ne.2.2.2.2.1).up_or he
theorem Gv.up_not (h : Gv s .not o a K x b) (he : endT (T s b)) : Gv s .form o a (K + 6) x b := (h.and0 he.ne.2.2.2.1).up_and he
theorem Gv.up_cmp (h : Gv s .cmp o a K x b) (hn : T s a ≠ [33]) (he : endT (T s b)) : Gv s .form o a (K + 7) x b := (h.not hn).up_not he
theorem Gv.up_sum (h : Gv s .sum o a K x b) (hn : T s a ≠ [33]) (he : endT (T s b)) : Gv s .form o a (K + 8) x b := (h.cmp he.ne.2.2.1).up_cmp hn he
theorem Gv.up_una (h : Gv s .una o a K x b) (hn : T s a ≠ [33]) (he : endT (T s b)) : Gv s .form o a (K + 10) x b := (h.sum0 he.ne.1 he.ne.2.1).up_sum hn he
end
section
variable {s : ByteArray} {o a K : Nat} {l r : Nd} {b c : Nat}
theorem Gv.add (hl : Gv s .una o a K l b) (ht : T s b = [43]) (hr : Gv s .una o (nxt s b) K r c) (he : endT (T s c)) : Gv s .sum o a (K + 3) (twoN 4 l r) c :=
  (hl.mono (by omega)).sum (K := K + 2) fun f hf => by
    obtain ⟨f, rfl, hg⟩ := fuel1 hf
    replace hf := hg
    rw [PA, if_neg (by rw [ht]; decide), if_pos ht, hr _ (by omega)]
    exact Gv.sumL he.ne.1 he.ne.2.1 _ (by omega)
theorem Gv.sub (hl : Gv s .una o a K l b) (ht : T s b = [45]) (hr : Gv s .una o (nxt s b) K r c) (he : endT (T s c)) : Gv s .sum o a (K + 3) (twoN 5 l r) c :=
  (hl.mono (by omega)).sum (K := K + 2) fun f hf => by
    obtain ⟨f, rfl, hg⟩ := fuel1 hf
    replace hf := hg
    rw [PA, if_pos ht, hr _ (by omega)]
    exact Gv.sumL he.ne.1 he.ne.2.1 _ (by omega)
theorem isCmp_not {t : List UInt8} (h : isCmp t = true) : t ≠ [45] ∧ t ≠ [43] ∧ t ≠ [42] ∧ t ≠ [40] := by
  refine ⟨?_, ?_, ?_, ?_⟩ <;> (rintro rfl; exact absurd h (by decide))
theorem Gv.cmp2 (hl : Gv s .una o a K l b) (ht : isCmp (T s b) = true) (hr : Gv s .una o (nxt s b) K r c) (he : endT (T s c)) : Gv s .cmp o a (K + 3) (cmpN2 (T s b) l r) c := fun f hf => by
  obtain ⟨f, rfl, hg⟩ := fuel1 hf
  replace hf := hg
  rw [PA, hl.sum0 (isCmp_not ht).1 (isCmp_not ht).2.1 _ hf]
  show (if isCmp (T s b) = true then _ else _) = _
  rw [if_pos ht, hr.sum0 he.ne.1 he.ne.2.1 _ hf]
  rfl
theorem Gv.un_not (h : Gv s .una o a K l b) (hn : T s a ≠ [33]) (h1 : T s b ≠ [45]) (h2 : T s b ≠ [43]) (h3 : isCmp (T s b) = false) : Gv s .not o a (K + 4) l b := ((h.sum0 h1 h2).cmp h3).not hn
theorem Gv.and2 (hl : Gv s .una o a K l b) (hn : T s a ≠ [33]) (ht : T s b = [38, 38]) (hr : Gv s .una o (nxt s b) K r c) (hm : T s (nxt s b) ≠ [33]) (he : endT (T s c)) : Gv s .and o a (K + 6) (twoN 33 l r) c :=
  ((hl.un_not hn (by rw [ht]; decide) (by rw [ht]; decide) (by rw [ht]; decide)).mono (by omega)).and (K := K + 5) fun f hf => by
    obtain ⟨f, rfl, hg⟩ := fuel1 hf
    replace hf := hg
    rw [PA, if_pos ht, hr.un_not hm he.ne.1 he.ne.2.1 he.ne.2.2.1 _ (by omega)]
    exact Gv.andL he.ne.2.2.2.1 _ (by omega)
theorem Gv.un_and (h : Gv s .una o a K l b) (hn : T s a ≠ [33]) (h1 : T s b ≠ [45]) (h2 : T s b ≠ [43]) (h3 : isCmp (T s b) = false) (h4 : T s b ≠ [38, 38]) : Gv s .and o a (K + 6) l b := (h.un_not hn h1 h2 h3).and0 h4
theorem Gv.or2 (hl : Gv s .una o a K l b) (hn : T s a ≠ [33]) (ht : T s b = [124, 124]) (hr : Gv s .una o (nxt s b) K r c) (hm : T s (nxt s b) ≠ [33]) (he : endT (T s c)) : Gv s .or o a (K + 8) (twoN 34 l r) c :=
  ((hl.un_and hn (by rw [ht]; decide) (by rw [ht]; decide) (by rw [ht]; decide) (by rw [ht]; decide)).mono (by omega)).or (K := K + 7) fun f hf => by
    obtain ⟨f, rfl, hg⟩ := fuel1 hf
    replace hf := hg
    rw [PA, if_pos ht, hr.un_and hm he.ne.1 he.ne.2.1 he.ne.2.2.1 he.ne.2.2.2.1 _ (by omega)]
    exact Gv.orL he.ne.2.2.2.2.1 _ (by omega)
theorem Gv.un_or (h : Gv s .una o a K l b) (hn : T s a ≠ [33]) (h1 : T s b ≠ [45]) (h2 : T s b ≠ [43]) (h3 : isCmp (T s b) = false) (h4 : T s b ≠ [38, 38]) (h5 : T s b ≠ [124, 124]) : Gv s .or o a (K + 8) l b := (h.un_and hn h1 h2 h3 h4).or0 h5
theorem Gv.imp2 (hl : Gv s .una o a K l b) (hn : T s a ≠ [33]) (ht : T s b = [61, 62]) (ho : ¬ 90 < o + 1) (hr : Gv s .una (o + 1) (nxt s b) K r c) (hm : T s (nxt s b) ≠ [33]) (he : endT (T s c)) : Gv s .imp o a (K + 10) (twoN 35 l r) c := fun f hf => by
  obtain ⟨f, rfl, hg⟩ := fuel1 hf
  replace hf := hg
  rw [PA, hl.un_or hn (by rw [ht]; decide) (by rw [ht]; decide) (by rw [ht]; decide) (by rw [ht]; decide) (by rw [ht]; decide) _ (by omega)]
  show (if T s b = [61, 62] then opn (o + 1) _ else _) = _
  rw [if_pos ht, opn, if_neg ho, ((hr.un_or hm he.ne.1 he.ne.2.1 he.ne.2.2.1 he.ne.2.2.2.1 he.ne.2.2.2.2.1).imp he.ne.2.2.2.2.2.1) _ (by omega)]
  rfl
theorem Gv.iff2 (hl : Gv s .una o a K l b) (hn : T s a ≠ [33]) (ht : T s b = [60, 61, 62]) (ho : ¬ 90 < o + 1) (hr : Gv s .una (o + 1) (nxt s b) K r c) (hm : T s (nxt s b) ≠ [33]) (he : endT (T s c)) : Gv s .form o a (K + 11) (twoN 36 l r) c := fun f hf => by
  obtain ⟨f, rfl, hg⟩ := fuel1 hf
  replace hf := hg
  rw [PA, ((hl.un_or hn (by rw [ht]; decide) (by rw [ht]; decide) (by rw [ht]; decide) (by rw [ht]; decide) (by rw [ht]; decide)).imp (by rw [ht]; decide)) _ (by omega)]
  show (if T s b = [60, 61, 62] then opn (o + 1) _ else _) = _
  rw [if_pos ht, opn, if_neg ho, (hr.up_una hm he) _ (by omega)]
  rfl
theorem Gv.not1 (ht : T s a = [33]) (ho : ¬ 90 < o + 1) (hr : Gv s .una (o + 1) (nxt s a) K r c) (hm : T s (nxt s a) ≠ [33]) (he : endT (T s c)) : Gv s .not o a (K + 5) (oneN 32 r) c := fun f hf => by
  obtain ⟨f, rfl, hg⟩ := fuel1 hf
  replace hf := hg
  rw [PA, if_pos ht, opn, if_neg ho, hr.un_not hm he.ne.1 he.ne.2.1 he.ne.2.2.1 _ hf]
  rfl
theorem Gv.neg1 (ht : T s a = [45]) (ho : ¬ 90 < o + 1) (hk : isNum (T s (nxt s a)) = false) (hr : Gv s .una (o + 1) (nxt s a) K r c) : Gv s .una o a (K + 1) (oneN 6 r) c := fun f hf => by
  obtain ⟨f, rfl, hg⟩ := fuel1 hf
  replace hf := hg
  rw [PA, if_pos ht, if_neg (by rw [hk]; simp), opn, if_neg ho, hr _ hf]
  rfl
theorem Gv.paren (ht : T s a = [40]) (ho : ¬ 90 < o + 1) (hr : Gv s .form (o + 1) (nxt s a) K r c) (he : T s c = [41]) : Gv s .una o a (K + 2) r (nxt s c) := fun f hf => by
  obtain ⟨f, rfl, hg⟩ := fuel1 hf
  replace hf := hg
  rw [PA, if_neg (by rw [ht]; decide), if_neg (by rw [ht]; decide)]
  obtain ⟨f, rfl, hg⟩ := fuel1 hf
  replace hf := hg
  rw [PA, if_pos ht, opn, if_neg ho, hr _ (by omega)]
  show want s [41] c _ = _
  rw [want, if_pos he]
theorem Gv.num {n : Nat} (hn : isNum (T s a) = true) (hl : ¬ 13 < (T s a).length) (hv : numV (T s a) = n) (hm : n ≤ 1000000000000) (he : T s (nxt s a) ≠ [42]) : Gv s .una o a 1 (intN n) (nxt s a) := fun f hf => by
  obtain ⟨f, rfl, hg⟩ := fuel1 hf
  replace hf := hg
  have h45 : T s a ≠ [45] := fun e => by rw [e] at hn; exact absurd hn (by decide)
  rw [PA, if_neg h45, if_pos hn, number, if_neg hl, hv, if_neg (by omega), if_neg he]
theorem Gv.scale {n : Nat} (hn : isNum (T s a) = true) (hl : ¬ 13 < (T s a).length) (hv : numV (T s a) = n) (hm : n ≤ 1000000000000) (he : T s (nxt s a) = [42]) (ho : ¬ 90 < o + 1) (hr : Gv s .una (o + 1) (nxt s (nxt s a)) K r c) : Gv s .una o a (K + 1) (.mk 7 0 noNm n [r]) c := fun f hf => by
  obtain ⟨f, rfl, hg⟩ := fuel1 hf
  replace hf := hg
  have h45 : T s a ≠ [45] := fun e => by rw [e] at hn; exact absurd hn (by decide)
  rw [PA, if_neg h45, if_pos hn, number, if_neg hl, hv, if_neg (by omega), if_pos he, opn, if_neg ho, hr _ hf]
  rfl
theorem Gv.negnum {n : Nat} (ht : T s a = [45]) (hn : isNum (T s (nxt s a)) = true) (hl : ¬ 13 < (T s (nxt s a)).length) (hv : numV (T s (nxt s a)) = n) (hm : n ≤ 1000000000000) (he : T s (nxt s (nxt s a)) ≠ [42]) : Gv s .una o a 1 (intN (-n)) (nxt s (nxt s a)) := fun f hf => by
  obtain ⟨f, rfl, hg⟩ := fuel1 hf
  replace hf := hg
  rw [PA, if_pos ht, if_pos ⟨hn, he⟩, number, if_neg hl, hv, if_neg (by omega)]
theorem Gv.prim (h45 : T s a ≠ [45]) (hn : isNum (T s a) = false) (h : Gv s .prim o a K l b) : Gv s .una o a (K + 1) l b := fun f hf => by
  obtain ⟨f, rfl, hg⟩ := fuel1 hf
  replace hf := hg
  rw [PA, if_neg h45, if_neg (by rw [hn]; decide), h _ hf]
theorem Gv.leaf {op : Int} (h : (T s a = [116, 114, 117, 101] ∧ op = 30) ∨ (T s a = [102, 97, 108, 115, 101] ∧ op = 31) ∨ (T s a = [101, 109, 112, 116, 121] ∧ op = 9)) : Gv s .prim o a 1 (leafN op) (nxt s a) := fun f hf => by
  obtain ⟨f, rfl, hg⟩ := fuel1 hf
  replace hf := hg
  rcases h with ⟨e, rfl⟩ | ⟨e, rfl⟩ | ⟨e, rfl⟩ <;> rw [PA, e] <;> rfl
/-- A name that is no word. -/
theorem name_free {t : List UInt8} (h : nameB (bs t) = true) : t ≠ [40] ∧ t ≠ [116, 114, 117, 101] ∧ t ≠ [102, 97, 108, 115, 101] ∧ t ≠ [101, 109, 112, 116, 121] ∧ wordA t = none ∧ t ≠ [45] ∧ isNum t = false ∧ t ≠ [33] := by
  have hne : ∀ x, nameB (bs x) = false → t ≠ x := fun x hx e => by rw [e, hx] at h; cases h
  refine ⟨hne _ (by decide +kernel), hne _ (by decide +kernel), hne _ (by decide +kernel), hne _ (by decide +kernel), ?_, hne _ (by decide +kernel), ?_, hne _ (by decide +kernel)⟩
  · unfold wordA
    rw [if_neg (hne _ (by decide +kernel)), if_neg (hne _ (by decide +kernel)), if_neg (hne _ (by decide +kernel)), if_neg (hne _ (by decide +kernel)), if_neg (hne _ (by decide +kernel)), if_neg (hne _ (by decide +kernel)), if_neg (hne _ (by decide +kernel)), if_neg (hne _ (by decide +kernel))]
  · cases t with
    | nil => rfl
    | cons c l =>
      unfold nameB at h
      simp only [Bool.and_eq_true, decide_eq_true_eq] at h
      obtain ⟨⟨_, ⟨h0, h1⟩, _⟩, _⟩ := h
      have h1 : letB c.toNat = true := h1
      show digB c.toNat = false
      unfold letB at h1
      unfold digB
      simp only [decide_eq_true_eq] at h1
      exact decide_eq_false (by omega)
theorem Gv.var {t : List UInt8} (ht : T s a = t) (hn : nameB (bs t) = true) (he : T s (nxt s a) ≠ [40]) : Gv s .prim o a 1 (.mk 1 0 (bs t) 0 []) (nxt s a) := fun f hf => by
  obtain ⟨f, rfl, hg⟩ := fuel1 hf
  replace hf := hg
  obtain ⟨h1, h2, h3, h4, h5, _⟩ := name_free hn
  subst ht
  rw [PA, if_neg h1, if_neg h2, if_neg h3, if_neg h4, h5]
  show (if nameB (bs (T s a)) = true then _ else _) = _
  rw [if_pos hn, if_neg he]
theorem Gv.app0 {t : List UInt8} (ht : T s a = t) (hn : nameB (bs t) = true) (he : T s (nxt s a) = [40]) (ho : ¬ 90 < o + 1) (he2 : T s (nxt s (nxt s a)) = [41]) : Gv s .prim o a 1 (.mk 3 0 (bs t) 0 []) (nxt s (nxt s (nxt s a))) := fun f hf => by
  obtain ⟨f, rfl, hg⟩ := fuel1 hf
  replace hf := hg
  obtain ⟨h1, h2, h3, h4, h5, _⟩ := name_free hn
  subst ht
  rw [PA, if_neg h1, if_neg h2, if_neg h3, if_neg h4, h5]
  show (if nameB (bs (T s a)) = true then _ else _) = _
  rw [if_pos hn, if_pos he, opn, if_neg ho, if_pos he2]
theorem Gv.app1 {t : List UInt8} (ht : T s a = t) (hn : nameB (bs t) = true) (he : T s (nxt s a) = [40]) (ho : ¬ 90 < o + 1) (he2 : T s (nxt s (nxt s a)) ≠ [41]) (h : Gv s (.app t []) (o + 1) (nxt s (nxt s a)) K l b) : Gv s .prim o a (K + 1) l b := fun f hf => by
  obtain ⟨f, rfl, hg⟩ := fuel1 hf
  replace hf := hg
  obtain ⟨h1, h2, h3, h4, h5, _⟩ := name_free hn
  subst ht
  rw [PA, if_neg h1, if_neg h2, if_neg h3, if_neg h4, h5]
  show (if nameB (bs (T s a)) = true then _ else _) = _
  rw [if_pos hn, if_pos he, opn, if_neg ho, if_neg he2, h _ hf]
theorem wordA_free {t : List UInt8} {op : Int} {n : Nat} (h : wordA t = some (op, n)) : t ≠ [40] ∧ t ≠ [116, 114, 117, 101] ∧ t ≠ [102, 97, 108, 115, 101] ∧ t ≠ [101, 109, 112, 116, 121] ∧ t ≠ [45] ∧ t ≠ [33] := by
  have hne : ∀ x, wordA x = none → t ≠ x := fun x hx e => by rw [e, hx] at h; cases h
  exact ⟨hne _ (by decide +kernel), hne _ (by decide +kernel), hne _ (by decide +kernel), hne _ (by decide +kernel), hne _ (by decide +kernel), hne _ (by decide +kernel)⟩
theorem Gv.word1 {op : Int} {n : Nat} (ht : wordA (T s a) = some (op, n)) (he : T s (nxt s a) = [40]) (ho : ¬ 90 < o + 1) (h : Gv s (.word op n []) (o + 1) (nxt s (nxt s a)) K l b) : Gv s .prim o a (K + 1) l b := fun f hf => by
  obtain ⟨f, rfl, hg⟩ := fuel1 hf
  replace hf := hg
  obtain ⟨h1, h2, h3, h4, _⟩ := wordA_free ht
  rw [PA, if_neg h1, if_neg h2, if_neg h3, if_neg h4, ht]
  show want s [40] (nxt s a) _ = _
  rw [want, if_pos he, opn, if_neg ho, h _ hf]
end
end Go.Proofs.YtgkjcimgghflmaaGreatDoor
namespace Go.Proofs.YtgkjcimgghflmaaGreatDoor
open Go.RowKit Go.Shelf
/-- A tree without its sorts. -/
def bareT : Nd → Nd
  | .mk op _ nm nu ks => .mk op 0 nm nu (ks.attach.map fun k => bareT k.1)
termination_by t => SizeOf.sizeOf t
decreasing_by
  have := List.sizeOf_lt_of_mem k.2
  simp only [Nd.mk.sizeOf_spec]
  omega
theorem bareT_eq (t : Nd) : bareT t = .mk t.op 0 t.nm t.nu (t.ks.map bareT) := by
  cases t
  rw [bareT]
  simp only [Nd.op, Nd.nm, Nd.nu, Nd.ks]
  rw [List.attach_map_val (f := bareT)]
/-- Has a tree a Scale of a negative number? -/
def turnB (t : Nd) : Bool := (nodesOf t).any fun y => y.op == 7 && decide (y.nu < 0)
theorem turnB_self {t : Nd} (h : turnB t = false) : ¬ (t.op = 7 ∧ t.nu < 0) := by
  rw [turnB, List.any_eq_false] at h
  have := h t (by rw [nodesOf_eq]; simp)
  simpa using this
theorem turnB_kid {t k : Nd} (h : turnB t = false) (hk : k ∈ t.ks) : turnB k = false := by
  rw [turnB, List.any_eq_false] at h ⊢
  exact fun y hy => h y (by rw [nodesOf_eq]; exact List.mem_cons_of_mem _ (List.mem_flatMap.2 ⟨k, hk, hy⟩))
/-- Behind a text of a node no byte follows that a name or a number may hold. -/
def Br : List UInt8 → Prop
  | [] => True
  | c :: _ => nmC c = false
theorem twAll {p : UInt8 → Bool} : ∀ (x : List UInt8) (r : List UInt8), (∀ c ∈ x, p c = true) → (∀ c m, r = c :: m → p c = false) → (x ++ r).takeWhile p = x
  | [], r, _, h => by
    cases r with
    | nil => rfl
    | cons c m => rw [List.nil_append, List.takeWhile_cons, h c m rfl]; rfl
  | c :: x, r, hx, h => by
    rw [List.cons_append, List.takeWhile_cons, hx c (by simp), if_pos rfl, twAll x r (fun d hd => hx d (by simp [hd])) h]
theorem dg_nm {c : UInt8} (h : dgC c = true) : nmC c = true := by
  unfold dgC at h
  unfold nmC okC
  rw [h]; simp
theorem Br.nm {r : List UInt8} (h : Br r) : ∀ c m, r = c :: m → nmC c = false := fun c m e => by subst e; exact h
theorem Br.dg {r : List UInt8} (h : Br r) : ∀ c m, r = c :: m → dgC c = false := fun c m e => by
  have := h.nm c m e
  cases hd : dgC c with
  | false => rfl
  | true => rw [dg_nm hd] at this; cases this
/-- A name's bytes. -/
theorem name_bytes {nm : ByteArray} (h : nameB nm = true) : ∃ c m, nm.data.toList = c :: m ∧ letB c.toNat = true ∧ (∀ d ∈ c :: m, nmC d = true) ∧ (c :: m).length ≤ 24 := by
  unfold nameB at h
  simp only [Bool.and_eq_true, decide_eq_true_eq] at h
  obtain ⟨⟨h24, ⟨h0, h1⟩, h2⟩, _⟩ := h
  have hl : nm.data.toList.length = nm.size := lst_len nm
  cases e : nm.data.toList with
  | nil => rw [e] at hl; simp at hl; omega
  | cons c m =>
    refine ⟨c, m, rfl, ?_, ?_, by rw [← e, hl]; exact h24⟩
    · have := lst_get nm 0 h0
      have e' : lst nm = c :: m := e
      rw [← this] at h1
      simpa [e'] using h1
    · intro d hd
      rw [← e] at hd
      obtain ⟨i, hi, rfl⟩ := List.getElem_of_mem hd
      have := lst_get nm i (by omega)
      exact h2 i (by omega)
theorem tok_name {nm : ByteArray} (h : nameB nm = true) {r : List UInt8} (hr : Br r) : tokL (nm.data.toList ++ r) = nm.data.toList := by
  obtain ⟨c, m, e, h1, h2, _⟩ := name_bytes h
  rw [e]
  show tokL (c :: (m ++ r)) = _
  rw [tokL, if_pos h1]
  exact twAll (c :: m) r h2 hr.nm
theorem dec_all (n : Nat) : ∀ c ∈ Lib.decDigits n, dgC c = true := by
  induction n using Nat.strongRecOn with
  | ind n ih =>
  have one : ∀ k, k < 10 → dgC (UInt8.ofNat (48 + k)) = true := by
    intro k hk
    unfold dgC digB
    have : (UInt8.ofNat (48 + k)).toNat = 48 + k := by simp; omega
    rw [this]
    exact decide_eq_true (by omega)
  rw [Lib.decDigits]
  split
  · rename_i h
    intro c hc
    rw [List.mem_singleton] at hc
    rw [hc]; exact one n h
  · intro c hc
    rw [List.mem_append, List.mem_singleton] at hc
    rcases hc with hc | rfl
    · exact ih (n / 10) (by omega) c hc
    · exact one _ (by omega)
theorem dec_numV (n : Nat) : numV (Lib.decDigits n) = n := by
  induction n using Nat.strongRecOn with
  | ind n ih =>
  have one : ∀ k, k < 10 → (UInt8.ofNat (48 + k)).toNat - 48 = k := by
    intro k hk
    have : (UInt8.ofNat (48 + k)).toNat = 48 + k := by simp; omega
    omega
  rw [Lib.decDigits]
  split
  · rename_i h
    show 10 * 0 + ((UInt8.ofNat (48 + n)).toNat - 48) = n
    rw [one n h]; omega
  · rw [numV_snocP, ih (n / 10) (by omega), one _ (by omega)]; omega
theorem dec_ne (n : Nat) : ∃ c m, Lib.decDigits n = c :: m := by
  cases e : Lib.decDigits n with
  | nil =>
    have := Lib.decDigits_length n
    have h2 := Lib.nDigits_pos n
    rw [e] at this
    simp at this
    omega
  | cons c m => exact ⟨c, m, rfl⟩
theorem dec_tok (n : Nat) {r : List UInt8} (hr : Br r) : tokL (Lib.decDigits n ++ r) = Lib.decDigits n ∧ isNum (Lib.decDigits n) = true := by
  have ha := dec_all n
  obtain ⟨c, m, e⟩ := dec_ne n
  rw [e] at ha ⊢
  have hc := ha c (by simp)
  have hl : letB c.toNat = false := by
    unfold dgC digB at hc
    simp only [decide_eq_true_eq] at hc
    unfold letB
    exact decide_eq_false (by omega)
  refine ⟨?_, hc⟩
  show tokL (c :: (m ++ r)) = _
  rw [tokL, hl, if_neg (by decide), if_pos (show digB c.toNat = true from hc)]
  exact twAll (c :: m) r ha hr.dg
theorem dec_13 {n : Nat} (h : n ≤ 1000000000000) : (Lib.decDigits n).length ≤ 13 := by
  rw [Lib.decDigits_length]
  exact nDigits_le 13 n (by omega) (by omega)
/-- How a text begins. -/
def Hd (t : Nd) (c : UInt8) : Prop := c = 40 ∨ letB c.toNat = true ∨ (dgC c = true ∧ t.op = 2 ∧ 0 ≤ t.nu)
theorem Hd.ok {t : Nd} {c : UInt8} (h : Hd t c) : okHd c = true ∧ c ≠ 33 ∧ c ≠ 45 ∧ c ≠ 41 ∧ c ≠ 61 := by
  have key : c.toNat = 40 ∨ (97 ≤ c.toNat ∧ c.toNat ≤ 122 ∨ 65 ≤ c.toNat ∧ c.toNat ≤ 90) ∨ (48 ≤ c.toNat ∧ c.toNat ≤ 57) := by
    rcases h with rfl | h | ⟨h, _⟩
    · exact .inl rfl
    · unfold letB at h
      simp only [decide_eq_true_eq] at h
      omega
    · unfold dgC digB at h
      simp only [decide_eq_true_eq] at h
      omega
  have ne : ∀ d : UInt8, c.toNat ≠ d.toNat → c ≠ d := fun d h e => h (by rw [e])
  refine ⟨?_, ne _ (by show c.toNat ≠ 33; omega), ne _ (by show c.toNat ≠ 45; omega), ne _ (by show c.toNat ≠ 41; omega), ne _ (by show c.toNat ≠ 61; omega)⟩
  have h1 : c ≠ 35 := ne _ (by show c.toNat ≠ 35; omega)
  have h2 : c ≠ 32 := ne _ (by show c.toNat ≠ 32; omega)
  have h3 : c ≠ 9 := ne _ (by show c.toNat ≠ 9; omega)
  have h4 : c ≠ 10 := ne _ (by show c.toNat ≠ 10; omega)
  simp [okHd, blankC, h1, h2, h3, h4]
theorem tok40 (l : List UInt8) : tokL (40 :: l) = [40] := rfl
theorem tok41 (l : List UInt8) : tokL (41 :: l) = [41] := rfl
theorem tok44 (l : List UInt8) : tokL (44 :: l) = [44] := rfl
theorem tok45 (l : List UInt8) : tokL (45 :: l) = [45] := rfl
theorem tok42 (l : List UInt8) : tokL (42 :: l) = [42] := rfl
theorem tok33 {c : UInt8} (l : List UInt8) (h : c ≠ 61) : tokL (33 :: c :: l) = [33] := by
  have h' : ((61 : UInt8) == c) = false := by simpa using fun e => h e.symm
  show sgnAt (33 :: c :: l) = [33]
  simp [sgnAt, signL, List.find?, List.isPrefixOf, h']
theorem tokH {t : Nd} {c : UInt8} (l : List UInt8) (h : Hd t c) : tokL (c :: l) ≠ [33] ∧ tokL (c :: l) ≠ [45] ∧ tokL (c :: l) ≠ [41] ∧ ((¬ (t.op = 2 ∧ 0 ≤ t.nu)) → isNum (tokL (c :: l)) = false) := by
  have hh := h.ok
  rcases h with rfl | h | ⟨h, h2⟩
  · rw [tok40]; exact ⟨by decide, by decide, by decide, fun _ => by decide⟩
  · have e : ∃ m, tokL (c :: l) = c :: m := by
      refine ⟨l.takeWhile nmC, ?_⟩
      rw [tokL, if_pos h, List.takeWhile_cons]
      have : nmC c = true := by unfold nmC okC; rw [h]; rfl
      rw [this]; rfl
    obtain ⟨m, e⟩ := e
    rw [e]
    refine ⟨fun e => hh.2.1 (List.cons.inj e).1, fun e => hh.2.2.1 (List.cons.inj e).1, fun e => hh.2.2.2.1 (List.cons.inj e).1, fun _ => ?_⟩
    show digB c.toNat = false
    unfold letB at h
    simp only [decide_eq_true_eq] at h
    unfold digB
    exact decide_eq_false (by omega)
  · have hl : letB c.toNat = false := by
      unfold dgC digB at h
      simp only [decide_eq_true_eq] at h
      unfold letB
      exact decide_eq_false (by omega)
    have e : ∃ m, tokL (c :: l) = c :: m := by
      refine ⟨l.takeWhile dgC, ?_⟩
      rw [tokL, hl, if_neg (by decide), if_pos (show digB c.toNat = true from h), List.takeWhile_cons, h]; rfl
    obtain ⟨m, e⟩ := e
    rw [e]
    exact ⟨fun e => hh.2.1 (List.cons.inj e).1, fun e => hh.2.2.1 (List.cons.inj e).1, fun e => hh.2.2.2.1 (List.cons.inj e).1, fun e => absurd h2 e⟩
open Classical in
/-- Facts of a node of the form that Print asks for. -/
theorem frm_of {t : Nd} (h : prB t = true) : (fldOk t ∧ cntOk t.op t.ks.length) ∧ ∀ k ∈ t.ks, prB k = true := by
  rw [prB_eq, Bool.and_eq_true, List.all_eq_true] at h
  refine ⟨?_, h.2⟩
  have := h.1
  unfold frmB at this
  exact of_decide_eq_true this
theorem toList_data (s : ByteArray) : s.toList = s.data.toList := by rw [ByteArray.toList_eq]
theorem noNm_of {s : ByteArray} (h : s.toList = []) : s = noNm := by
  rw [toList_data] at h
  cases s with
  | mk d =>
    have : d = #[] := by simpa using h
    rw [this]; rfl
theorem txt_hd (t : Nd) (h : prB t = true) : ∃ c m, txt t = c :: m ∧ Hd t c := by
  obtain ⟨⟨hf, hc⟩, _⟩ := frm_of h
  rw [txt_eq]
  have par : ∀ l, ∃ c m, paren l = c :: m ∧ Hd t c := fun l => ⟨40, l ++ [41], rfl, .inl rfl⟩
  have nmc : nameB t.nm = true → ∀ r, ∃ c m, t.nm.data.toList ++ r = c :: m ∧ Hd t c := fun hn r => by
    obtain ⟨c, m, e, h1, _⟩ := name_bytes hn
    exact ⟨c, m ++ r, by rw [e]; rfl, .inr (.inl h1)⟩
  unfold txtW
  split
  · exact par _
  split
  · rename_i h1
    unfold fldOk at hf
    rw [if_pos (.inl h1)] at hf
    have := nmc hf.1 []
    rwa [List.append_nil] at this
  split
  · rename_i h1
    rcases h1 with e | e | e <;> rw [e] <;> exact ⟨_, _, rfl, .inr (.inl (by decide))⟩
  split
  · rename_i h1
    unfold intT
    split
    · exact par _
    · rename_i h2
      rw [itoa_pos h2]
      obtain ⟨c, m, e⟩ := dec_ne t.nu.toNat
      exact ⟨c, m, e, .inr (.inr ⟨dec_all t.nu.toNat c (by rw [e]; simp), h1, by omega⟩)⟩
  split
  · exact par _
  split
  · split <;> exact par _
  split
  · split <;> exact par _
  split
  · rename_i h3
    unfold fldOk at hf
    rw [if_pos (.inr h3)] at hf
    exact nmc hf.1 _
  · rename_i hs h1 h2 h3 h4 h5 h6 h7
    have : t.op = 8 ∨ t.op = 10 ∨ t.op = 11 ∨ t.op = 12 ∨ t.op = 13 ∨ t.op = 14 ∨ t.op = 15 ∨ t.op = 16 := by
      unfold cntOk at hc
      rcases hc with hc | hc | hc | hc | hc
      · exact absurd hc.1 (by omega)
      · exact absurd hc.1 h7
      · omega
      · have hs' : ∀ op, sgn op ≠ [] → t.op ≠ op := fun op ho e => hs (by rw [e]; exact ho)
        have := hs' 4 (by decide); have := hs' 5 (by decide); have := hs' 33 (by decide); have := hs' 34 (by decide); have := hs' 35 (by decide); have := hs' 36 (by decide); have := hs' 37 (by decide); have := hs' 38 (by decide); have := hs' 39 (by decide); have := hs' 40 (by decide); have := hs' 41 (by decide)
        omega
      · omega
    rcases this with e | e | e | e | e | e | e | e <;> rw [e] <;> exact ⟨_, _, rfl, .inr (.inl (by decide))⟩
end Go.Proofs.YtgkjcimgghflmaaGreatDoor
namespace Go.Proofs.YtgkjcimgghflmaaGreatDoor
open Go.RowKit Go.Shelf
/-- The phrase of a tree's text is read wherever it stands. -/
def Rds (t : Nd) : Prop := ∀ (s : ByteArray) (a o K : Nat) (r : List UInt8), At s a (txt t ++ r) → Ok r → Br r → tokL (skp r) ≠ [42] → tokL (skp r) ≠ [40] → o + 2 * dep t ≤ 90 → 32 * (txt t).length ≤ K →
  Gv s .una o a K (bareT t) (bl s (a + (txt t).length))
theorem ok41 (r : List UInt8) : Ok (41 :: r) := Ok.of (by decide) (by decide)
theorem br41 (r : List UInt8) : Br (41 :: r) := show nmC 41 = false by decide
theorem dep_kid {t k : Nd} (h : k ∈ t.ks) : dep k + 1 ≤ dep t := by
  rw [dep_eq t]
  have := ((depL_le (ks := t.ks) 0).1 (Nat.le_refl _)).2 k h
  omega
theorem dep_pos (t : Nd) : 1 ≤ dep t := by rw [dep_eq]; omega
theorem At.close {s : ByteArray} {c : Nat} {r : List UInt8} (h : At s c (41 :: r)) (ho : Ok r) : T s c = [41] ∧ nxt s c = Go.Proofs.YtgkjcimgghflmaaGreatDoor.bl s (c + 1) := by
  have := At.step (x := [41]) h rfl ho
  exact ⟨this.1, this.2.2⟩
/-- A token behind which the next one stands at once. -/
theorem At.glue {s : ByteArray} {a : Nat} {x : List UInt8} {d : UInt8} {r : List UInt8} (h : At s a (x ++ d :: r)) (hx : tokL (x ++ d :: r) = x) (hd : okHd d = true) : T s a = x ∧ At s (nxt s a) (d :: r) := by
  have := h.step hx (Ok.of hd (okHd_ne hd))
  rw [skp_of (okHd_ne hd)] at this
  exact ⟨this.1, this.2.1⟩
/-- A token, a blank, and the next one. -/
theorem At.wide {s : ByteArray} {a : Nat} {x : List UInt8} {d : UInt8} {r : List UInt8} (h : At s a (x ++ 32 :: d :: r)) (hx : tokL (x ++ 32 :: d :: r) = x) (hd : okHd d = true) : T s a = x ∧ At s (nxt s a) (d :: r) := by
  have := h.step hx (Ok.sp hd)
  rw [skp_sp] at this
  exact ⟨this.1, this.2.1⟩
/-- What stands in parentheses. -/
theorem grp {s : ByteArray} {a o K : Nat} {m r : List UInt8} {x : Nd} (h : At s a (paren m ++ r)) {d : UInt8} {n : List UInt8} (hm : m = d :: n) (hd : okHd d = true) (ho : Ok r) (h9 : ¬ 90 < o + 1)
    (hk : At s (nxt s a) (m ++ 41 :: r) → ∃ c, At s c (41 :: r) ∧ Gv s .form (o + 1) (nxt s a) K x c) : Gv s .una o a (K + 2) x (bl s (a + (paren m).length)) := by
  have e : paren m ++ r = [40] ++ d :: (n ++ 41 :: r) := by simp [paren, hm]
  have h' := h
  rw [e] at h
  obtain ⟨h1, h2⟩ := h.glue rfl hd
  obtain ⟨c, hc, hg⟩ := hk (by rw [hm]; exact h2)
  obtain ⟨h3, h4⟩ := hc.close ho
  have := hg.paren h1 h9 h3
  rw [h4] at this
  have h5 := h'.2
  have h6 := hc.2
  rw [List.length_append] at h5
  rw [List.length_cons] at h6
  rwa [show c + 1 = a + (paren m).length by omega] at this
/-- A node of two kids, within its parentheses. -/
structure Bin (s : ByteArray) (o1 o2 p K : Nat) (l k : Nd) (sg r : List UInt8) (b c : Nat) : Prop where
  hl : Gv s .una o1 p K (bareT l) b
  tk : T s b = sg
  hr : Gv s .una o2 (nxt s b) K (bareT k) c
  np : T s p ≠ [33]
  nq : T s (nxt s b) ≠ [33]
  en : endT (T s c)
  fin : At s c (41 :: r)
theorem bin {s : ByteArray} {o1 o2 p K : Nat} {l k : Nd} {sg r : List UInt8} (hl : Rds l) (hk : Rds k) (pl : prB l = true) (pk : prB k = true) {d : UInt8} {n : List UInt8} (hsg : sg = d :: n) (hd : okHd d = true)
    (htk : ∀ q, tokL (sg ++ 32 :: q) = sg) (h42 : sg ≠ [42]) (h40 : sg ≠ [40]) (h : At s p ((txt l ++ (32 :: sg ++ (32 :: txt k))) ++ 41 :: r)) (ho1 : o1 + 2 * dep l ≤ 90) (ho2 : o2 + 2 * dep k ≤ 90)
    (hK1 : 32 * (txt l).length ≤ K) (hK2 : 32 * (txt k).length ≤ K) : ∃ b c, Bin s o1 o2 p K l k sg r b c := by
  obtain ⟨cl, ml, el, Hl⟩ := txt_hd l pl
  obtain ⟨ck, mk, ek, Hk⟩ := txt_hd k pk
  have e : (txt l ++ (32 :: sg ++ (32 :: txt k))) ++ 41 :: r = txt l ++ 32 :: (sg ++ 32 :: (txt k ++ 41 :: r)) := by simp
  rw [e] at h
  have hok : Ok (32 :: (sg ++ 32 :: (txt k ++ 41 :: r))) := by rw [hsg]; exact Ok.sp hd
  have hbr : Br (32 :: (sg ++ 32 :: (txt k ++ 41 :: r))) := show nmC 32 = false by decide
  have gl := hl s p o1 K _ h hok hbr (by rw [skp_sp, htk]; exact h42) (by rw [skp_sp, htk]; exact h40) ho1 hK1
  have hb := h.move.bl hok
  rw [skp_sp] at hb
  have hw : sg ++ 32 :: (txt k ++ 41 :: r) = sg ++ 32 :: ck :: (mk ++ 41 :: r) := by rw [ek]; rfl
  have hb' := hb
  rw [hw] at hb'
  obtain ⟨t1, a1⟩ := hb'.wide (by rw [← hw]; exact htk _) Hk.ok.1
  have a1' : At s (nxt s (bl s (p + (txt l).length))) (txt k ++ 41 :: r) := by rw [ek]; exact a1
  have gk := hk s _ o2 K _ a1' (ok41 r) (br41 r) (by rw [skp_of (by decide), tok41]; decide) (by rw [skp_of (by decide), tok41]; decide) ho2 hK2
  have hc := a1'.move.bl (ok41 r)
  rw [skp_of (by decide)] at hc
  refine ⟨_, _, gl, t1, gk, ?_, ?_, ?_, hc⟩
  · rw [h.tok, el]; exact (tokH _ Hl).1
  · rw [a1.tok]; exact (tokH _ Hk).1
  · rw [hc.tok, tok41]; exact .inl rfl
/-- Of a node of two kids in parentheses. -/
theorem bare_two {t : Nd} (hb : t.nm = noNm ∧ t.nu = 0) {l k : Nd} (hks : t.ks = [l, k]) : bareT t = twoN t.op (bareT l) (bareT k) := by
  rw [bareT_eq, hb.1, hb.2, hks]; rfl
theorem sgn_tok : ∀ op, sgn op ≠ [] → (∃ d n, sgn op = d :: n ∧ okHd d = true) ∧ (∀ q, tokL (sgn op ++ 32 :: q) = sgn op) ∧ sgn op ≠ [42] ∧ sgn op ≠ [40] ∧ (op = 4 ∨ op = 5 ∨ op = 33 ∨ op = 34 ∨ op = 35 ∨ op = 36 ∨ op = 37 ∨ op = 38 ∨ op = 39 ∨ op = 40 ∨ op = 41) := by
  intro op h
  have key : op = 4 ∨ op = 5 ∨ op = 33 ∨ op = 34 ∨ op = 35 ∨ op = 36 ∨ op = 37 ∨ op = 38 ∨ op = 39 ∨ op = 40 ∨ op = 41 := by
    apply Classical.byContradiction
    intro hn
    apply h
    unfold sgn
    rw [if_neg (by omega), if_neg (by omega), if_neg (by omega), if_neg (by omega), if_neg (by omega), if_neg (by omega), if_neg (by omega), if_neg (by omega), if_neg (by omega), if_neg (by omega), if_neg (by omega)]
  refine ⟨?_, ?_, ?_, ?_, key⟩
  · rcases key with e | e | e | e | e | e | e | e | e | e | e <;> rw [e] <;> exact ⟨_, _, rfl, by decide⟩
  · rcases key with e | e | e | e | e | e | e | e | e | e | e <;> rw [e] <;> exact fun q => rfl
  · rcases key with e | e | e | e | e | e | e | e | e | e | e <;> rw [e] <;> decide
  · rcases key with e | e | e | e | e | e | e | e | e | e | e <;> rw [e] <;> decide
theorem rds_sgn {t : Nd} (h : sgn t.op ≠ []) (hp : prB t = true) (ih : ∀ k ∈ t.ks, Rds k) : Rds t := by
  intro s a o K r hA hO hB h42 h40 ho hK
  obtain ⟨⟨d, n, esg, hd⟩, htk, n42, n40, hops⟩ := sgn_tok t.op h
  obtain ⟨⟨hf, hc⟩, hpk⟩ := frm_of hp
  have h2 : t.ks.length = 2 := by
    unfold cntOk at hc
    omega
  have hb : t.nm = noNm ∧ t.nu = 0 := by
    unfold fldOk at hf
    rw [if_neg (by omega)] at hf
    obtain ⟨f1, _, f3⟩ := hf
    rw [if_neg (by omega)] at f3
    exact ⟨noNm_of f1, f3⟩
  match hks : t.ks, h2 with
  | [l, k], _ =>
    have hl : l ∈ t.ks := by rw [hks]; simp
    have hk : k ∈ t.ks := by rw [hks]; simp
    have e : txt t = paren (txt l ++ (32 :: sgn t.op ++ (32 :: txt k))) := by
      rw [txt_eq, txtW, if_pos h, hks]; rfl
    obtain ⟨cl, ml, el, Hl⟩ := txt_hd l (hpk l hl)
    have dl := dep_kid hl
    have dk := dep_kid hk
    have hlen : (paren (txt l ++ (32 :: sgn t.op ++ (32 :: txt k)))).length = (txt l ++ (32 :: sgn t.op ++ (32 :: txt k))).length + 2 := by simp only [paren, List.length_cons, List.length_append, List.length_nil]
    have hlm : (txt l).length ≤ (txt l ++ (32 :: sgn t.op ++ (32 :: txt k))).length := by simp
    have hkm : (txt k).length ≤ (txt l ++ (32 :: sgn t.op ++ (32 :: txt k))).length := by simp only [List.length_append, List.length_cons]; omega
    rw [bare_two hb hks]
    rw [e] at hA hK ⊢
    rw [hlen] at hK
    generalize hM : (txt l ++ (32 :: sgn t.op ++ (32 :: txt k))).length = M at *
    refine (grp (K := 32 * M + 12) hA (d := cl) (n := ml ++ (32 :: sgn t.op ++ (32 :: txt k))) (by rw [el]; rfl) Hl.ok.1 hO (by omega) fun hin => ?_).mono (by omega)
    have B := fun o2 (h2 : o2 + 2 * dep k ≤ 90) => bin (K := 32 * M) (o1 := o + 1) (o2 := o2) (ih l hl) (ih k hk) (hpk l hl) (hpk k hk) esg hd htk n42 n40 hin (by omega) h2 (by omega) (by omega)
    rcases hops with e4 | e4 | e4 | e4 | e4 | e4 | e4 | e4 | e4 | e4 | e4 <;> rw [e4] at B ⊢
    · obtain ⟨b, c, b1, b2, b3, b4, b5, b6, b7⟩ := B (o + 1) (by omega)
      exact ⟨c, b7, ((b1.add b2 b3 b6).up_sum b4 b6).mono (by omega)⟩
    · obtain ⟨b, c, b1, b2, b3, b4, b5, b6, b7⟩ := B (o + 1) (by omega)
      exact ⟨c, b7, ((b1.sub b2 b3 b6).up_sum b4 b6).mono (by omega)⟩
    · obtain ⟨b, c, b1, b2, b3, b4, b5, b6, b7⟩ := B (o + 1) (by omega)
      exact ⟨c, b7, ((b1.and2 b4 b2 b3 b5 b6).up_and b6).mono (by omega)⟩
    · obtain ⟨b, c, b1, b2, b3, b4, b5, b6, b7⟩ := B (o + 1) (by omega)
      exact ⟨c, b7, ((b1.or2 b4 b2 b3 b5 b6).up_or b6).mono (by omega)⟩
    · obtain ⟨b, c, b1, b2, b3, b4, b5, b6, b7⟩ := B (o + 2) (by omega)
      exact ⟨c, b7, ((b1.imp2 b4 b2 (by omega) b3 b5 b6).up_imp b6).mono (by omega)⟩
    · obtain ⟨b, c, b1, b2, b3, b4, b5, b6, b7⟩ := B (o + 2) (by omega)
      exact ⟨c, b7, (b1.iff2 b4 b2 (by omega) b3 b5 b6).mono (by omega)⟩
    all_goals
      obtain ⟨b, c, b1, b2, b3, b4, b5, b6, b7⟩ := B (o + 1) (by omega)
      have := (b1.cmp2 (by rw [b2]; decide) b3 b6).up_cmp b4 b6
      rw [b2] at this
      exact ⟨c, b7, this.mono (by omega)⟩
end Go.Proofs.YtgkjcimgghflmaaGreatDoor
namespace Go.Proofs.YtgkjcimgghflmaaGreatDoor
open Go.RowKit Go.Shelf
/-- The arguments behind the first one. -/
def tails : List (List UInt8) → List UInt8
  | [] => []
  | x :: l => 44 :: 32 :: (x ++ tails l)
theorem commas_cons (x : List UInt8) : ∀ l, commas (x :: l) = x ++ tails l := by
  intro l
  induction l generalizing x with
  | nil => simp [commas, tails]
  | cons y l ih => rw [commas, ih, tails]
theorem tails_ok (l : List (List UInt8)) (r : List UInt8) : Ok (tails l ++ 41 :: r) ∧ Br (tails l ++ 41 :: r) ∧ skp (tails l ++ 41 :: r) = tails l ++ 41 :: r ∧ endT (tokL (tails l ++ 41 :: r)) := by
  cases l with
  | nil => exact ⟨ok41 r, br41 r, skp_of (by decide), .inl (tok41 _)⟩
  | cons x l => exact ⟨Ok.of (by decide) (by decide), show nmC 44 = false by decide, skp_of (by decide), .inr (.inl (tok44 _))⟩
/-- An argument, read as a formula. -/
theorem arg {s : ByteArray} {a o K : Nat} {k : Nd} {l : List (List UInt8)} {r : List UInt8} (hk : Rds k) (pk : prB k = true) (h : At s a (txt k ++ (tails l ++ 41 :: r))) (ho : o + 2 * dep k ≤ 90) (hK : 32 * (txt k).length ≤ K) :
    ∃ b, Gv s .form o a (K + 10) (bareT k) b ∧ At s b (tails l ++ 41 :: r) ∧ T s a ≠ [41] := by
  obtain ⟨h1, h2, h3, h4⟩ := tails_ok l r
  obtain ⟨c, m, e, H⟩ := txt_hd k pk
  have g := hk s a o K _ h h1 h2 (by rw [h3]; exact h4.ne.2.2.2.2.2.2.2.1) (by rw [h3]; exact h4.ne.2.2.2.2.2.2.2.2) ho hK
  have hb := h.move.bl h1
  rw [h3] at hb
  have hT : T s a = tokL (c :: (m ++ (tails l ++ 41 :: r))) := by rw [h.tok, e]; rfl
  refine ⟨_, g.up_una (by rw [hT]; exact (tokH _ H).1) (by rw [hb.tok]; exact h4), hb, by rw [hT]; exact (tokH _ H).2.2.1⟩
theorem tails_step {s : ByteArray} {a : Nat} {k : Nd} {l : List (List UInt8)} {r : List UInt8} (pk : prB k = true) (h : At s a (tails (txt k :: l) ++ 41 :: r)) : T s a = [44] ∧ At s (nxt s a) (txt k ++ (tails l ++ 41 :: r)) := by
  obtain ⟨c, m, e, H⟩ := txt_hd k pk
  have e2 : tails (txt k :: l) ++ 41 :: r = [44] ++ 32 :: c :: (m ++ (tails l ++ 41 :: r)) := by simp [tails, e]
  rw [e2] at h
  have := h.wide (tok44 _) H.ok.1
  rw [e]
  exact this
theorem chain_app (nm : List UInt8) (s : ByteArray) (o : Nat) (r : List UInt8) : ∀ (ks : List Nd) (k : Nd) (pre : List Nd) (a K : Nat), (∀ y ∈ k :: ks, Rds y ∧ prB y = true ∧ o + 2 * dep y ≤ 90) → pre.length + ks.length + 1 ≤ 8 → At s a (txt k ++ (tails (ks.map txt) ++ 41 :: r)) →
    32 * (txt k ++ tails (ks.map txt)).length + 12 ≤ K → ∃ c, At s c (41 :: r) ∧ Gv s (.app nm pre) o a K (.mk 3 0 (bs nm) 0 (pre ++ (k :: ks).map bareT)) (nxt s c) := by
  intro ks
  induction ks with
  | nil =>
    intro k pre a K hy hl hA hK
    obtain ⟨y1, y2, y3⟩ := hy k (by simp)
    obtain ⟨b, g, hb, _⟩ := arg (K := 32 * (txt k).length) y1 y2 hA y3 (Nat.le_refl _)
    have hb : At s b (41 :: r) := hb
    refine ⟨b, hb, fun f hf => ?_⟩
    rw [List.length_append] at hK
    obtain ⟨f, rfl, hg⟩ := fuel1 (show (K - 1) + 1 ≤ f by omega)
    replace hf := hg
    rw [PA, if_neg (by simp at hl; omega), g _ (by omega)]
    show (if T s b = [44] then _ else want s [41] b _) = _
    have ht : T s b = [41] := hb.tok.trans (tok41 _)
    rw [if_neg (by rw [ht]; decide), want, if_pos ht]
    rfl
  | cons k2 ks ih =>
    intro k pre a K hy hl hA hK
    obtain ⟨y1, y2, y3⟩ := hy k (by simp)
    obtain ⟨b, g, hb, _⟩ := arg (K := 32 * (txt k).length) y1 y2 hA y3 (Nat.le_refl _)
    obtain ⟨t1, a1⟩ := tails_step (hy k2 (by simp)).2.1 hb
    rw [List.length_append, List.map_cons, tails] at hK
    simp only [List.length_cons, List.length_append] at hK
    obtain ⟨c, hc, g2⟩ := ih k2 (pre ++ [bareT k]) (nxt s b) (K - 1) (fun y hy' => hy y (List.mem_cons_of_mem _ hy')) (by simp at hl ⊢; omega) a1 (by rw [List.length_append]; omega)
    refine ⟨c, hc, fun f hf => ?_⟩
    obtain ⟨f, rfl, hg⟩ := fuel1 (show (K - 1) + 1 ≤ f by omega)
    replace hf := hg
    rw [PA, if_neg (by simp at hl; omega), g _ (by omega)]
    show (if T s b = [44] then _ else want s [41] b _) = _
    rw [if_pos t1, g2 _ hf]
    simp
theorem chain_word (op : Int) (n : Nat) (s : ByteArray) (o : Nat) (r : List UInt8) : ∀ (ks pre : List Nd) (a K : Nat), (∀ y ∈ ks, Rds y ∧ prB y = true ∧ o + 2 * dep y ≤ 90) → pre ≠ [] → pre.length + ks.length = n → At s a (tails (ks.map txt) ++ 41 :: r) →
    32 * (tails (ks.map txt)).length + 1 ≤ K → ∃ c, At s c (41 :: r) ∧ Gv s (.word op n pre) o a K (.mk op 0 noNm 0 (pre ++ ks.map bareT)) (nxt s c) := by
  intro ks
  induction ks with
  | nil =>
    intro pre a K hy hne hl hA hK
    have hA : At s a (41 :: r) := hA
    refine ⟨a, hA, fun f hf => ?_⟩
    obtain ⟨f, rfl, hg⟩ := fuel1 (show (K - 1) + 1 ≤ f by omega)
    replace hf := hg
    have ht : T s a = [41] := hA.tok.trans (tok41 _)
    rw [PA, if_pos (by simpa using hl), want, if_pos ht]
    simp
  | cons k ks ih =>
    intro pre a K hy hne hl hA hK
    obtain ⟨y1, y2, y3⟩ := hy k (by simp)
    obtain ⟨t1, a1⟩ := tails_step y2 hA
    obtain ⟨b, g, hb, _⟩ := arg (K := 32 * (txt k).length) y1 y2 a1 y3 (Nat.le_refl _)
    rw [List.map_cons, tails] at hK
    simp only [List.length_cons, List.length_append] at hK
    obtain ⟨c, hc, g2⟩ := ih (pre ++ [bareT k]) b (K - 1) (fun y hy' => hy y (List.mem_cons_of_mem _ hy')) (by simp) (by simp at hl ⊢; omega) hb (by omega)
    refine ⟨c, hc, fun f hf => ?_⟩
    obtain ⟨f, rfl, hg⟩ := fuel1 (show (K - 1) + 1 ≤ f by omega)
    replace hf := hg
    rw [PA, if_neg (by simp at hl; omega), if_neg hne, want, if_pos t1, g _ (by omega)]
    show PA s f (.word op n (pre ++ [bareT k])) o b = _
    rw [g2 _ hf]
    simp
theorem word_first (op : Int) (n : Nat) (s : ByteArray) (o : Nat) (r : List UInt8) (k : Nd) (ks : List Nd) (a K : Nat) (hy : ∀ y ∈ k :: ks, Rds y ∧ prB y = true ∧ o + 2 * dep y ≤ 90) (hl : ks.length + 1 = n) (hA : At s a (txt k ++ (tails (ks.map txt) ++ 41 :: r)))
    (hK : 32 * (txt k ++ tails (ks.map txt)).length + 12 ≤ K) : ∃ c, At s c (41 :: r) ∧ Gv s (.word op n []) o a K (.mk op 0 noNm 0 ((k :: ks).map bareT)) (nxt s c) := by
  obtain ⟨y1, y2, y3⟩ := hy k (by simp)
  obtain ⟨b, g, hb, _⟩ := arg (K := 32 * (txt k).length) y1 y2 hA y3 (Nat.le_refl _)
  rw [List.length_append] at hK
  obtain ⟨c, hc, g2⟩ := chain_word op n s o r ks [bareT k] b (K - 1) (fun y hy' => hy y (List.mem_cons_of_mem _ hy')) (by simp) (by simp; omega) hb (by omega)
  refine ⟨c, hc, fun f hf => ?_⟩
  obtain ⟨f, rfl, hg⟩ := fuel1 (show (K - 1) + 1 ≤ f by omega)
  replace hf := hg
  rw [PA, if_neg (by simp; omega), if_pos rfl, g _ (by omega)]
  show PA s f (.word op n ([] ++ [bareT k])) o b = _
  rw [List.nil_append, g2 _ hf]
  simp
end Go.Proofs.YtgkjcimgghflmaaGreatDoor
namespace Go.Proofs.YtgkjcimgghflmaaGreatDoor
open Go.RowKit Go.Shelf
theorem txt_pos {t : Nd} (h : prB t = true) : 1 ≤ (txt t).length := by
  obtain ⟨c, m, e, _⟩ := txt_hd t h
  rw [e]; simp
theorem rds_var {t : Nd} (h : t.op = 1) (hp : prB t = true) : Rds t := by
  intro s a o K r hA hO hB h42 h40 ho hK
  have hpos := txt_pos hp
  obtain ⟨⟨hf, hc⟩, _⟩ := frm_of hp
  unfold fldOk at hf
  rw [if_pos (.inl h)] at hf
  have hks : t.ks = [] := by
    unfold cntOk at hc
    exact List.length_eq_zero_iff.1 (by omega)
  have e : txt t = t.nm.data.toList := by rw [txt_eq, txtW, h]; rfl
  have hb : bs t.nm.data.toList = t.nm := bs_back' _
  have hn : nameB (bs t.nm.data.toList) = true := by rw [hb]; exact hf.1
  rw [e] at hA hK hpos ⊢
  obtain ⟨t1, a1, n1⟩ := hA.step (tok_name hf.1 hB) hO
  have hbare : bareT t = .mk 1 0 (bs t.nm.data.toList) 0 [] := by rw [bareT_eq, h, hks, hf.2.1, hb]; rfl
  have hfree := name_free hn
  rw [hbare, ← n1]
  exact ((Gv.var t1 hn (by rw [a1.tok]; exact h40)).prim (by rw [t1]; exact hfree.2.2.2.2.2.1) (by rw [t1]; exact hfree.2.2.2.2.2.2.1)).mono (by omega)
theorem int_una {t : Nd} (h : t.op = 2) (hp : prB t = true) (hn : 0 ≤ t.nu) {s : ByteArray} {a o K : Nat} {r : List UInt8} (hA : At s a (txt t ++ r)) (hO : Ok r) (hB : Br r) (h42 : tokL (skp r) ≠ [42]) (hK : 1 ≤ K) :
    Gv s .una o a K (bareT t) (bl s (a + (txt t).length)) := by
  obtain ⟨⟨hf, hc⟩, _⟩ := frm_of hp
  unfold fldOk at hf
  rw [if_neg (by omega)] at hf
  obtain ⟨f1, _, f3⟩ := hf
  rw [if_pos (.inl h)] at f3
  have hks : t.ks = [] := by
    unfold cntOk at hc
    exact List.length_eq_zero_iff.1 (by omega)
  obtain ⟨n, hnn⟩ : ∃ n : Nat, t.nu = n := ⟨t.nu.toNat, by omega⟩
  have e : txt t = Lib.decDigits n := by
    rw [txt_eq, txtW, h, hnn]
    show intT (n : Int) = _
    rw [intT, if_neg (by omega), itoa_pos (by omega)]; rfl
  rw [e] at hA ⊢
  obtain ⟨d1, d2⟩ := dec_tok n hB
  obtain ⟨t1, a1, n1⟩ := hA.step d1 hO
  have hbare : bareT t = intN n := by rw [bareT_eq, h, hks, noNm_of f1, hnn]; rfl
  rw [hbare, ← n1]
  have h13 := dec_13 (n := n) (by omega)
  exact (Gv.num (by rw [t1]; exact d2) (by rw [t1]; omega) (by rw [t1]; exact dec_numV n) (by omega) (by rw [a1.tok]; exact h42)).mono hK
theorem rds_int {t : Nd} (h : t.op = 2) (hp : prB t = true) : Rds t := by
  intro s a o K r hA hO hB h42 h40 ho hK
  have hpos := txt_pos hp
  by_cases hn : 0 ≤ t.nu
  · exact int_una h hp hn hA hO hB h42 (by omega)
  have hd := dep_pos t
  obtain ⟨⟨hf, hc⟩, _⟩ := frm_of hp
  unfold fldOk at hf
  rw [if_neg (by omega)] at hf
  obtain ⟨f1, _, f3⟩ := hf
  rw [if_pos (.inl h)] at f3
  have hks : t.ks = [] := by
    unfold cntOk at hc
    exact List.length_eq_zero_iff.1 (by omega)
  obtain ⟨n, hnn⟩ : ∃ n : Nat, t.nu = -(n : Int) := ⟨t.nu.natAbs, by omega⟩
  have e : txt t = paren (45 :: Lib.decDigits n) := by
    rw [txt_eq, txtW, h, hnn]
    show intT (-(n : Int)) = _
    rw [intT, if_pos (by omega), itoa_neg (by omega)]
    rw [show (-(n : Int)).natAbs = n by omega]
  rw [e] at hA hK ⊢
  have hbare : bareT t = intN (-(n : Int)) := by rw [bareT_eq, h, hks, noNm_of f1, hnn]; rfl
  rw [hbare]
  have h13 := dec_13 (n := n) (by omega)
  have hl : (paren (45 :: Lib.decDigits n)).length = (Lib.decDigits n).length + 3 := by simp [paren]
  obtain ⟨c, m, ed⟩ := dec_ne n
  have hcd : Hd (intN n) c := .inr (.inr ⟨dec_all n c (by rw [ed]; simp), rfl, by show (0 : Int) ≤ n; omega⟩)
  refine (grp (K := 11) hA (d := 45) (n := Lib.decDigits n) rfl (by decide) hO (by omega) fun hin => ?_).mono (by omega)
  have hin' : At s (nxt s a) ([45] ++ c :: (m ++ 41 :: r)) := by rw [ed] at hin; exact hin
  obtain ⟨t1, a1⟩ := hin'.glue (tok45 _) hcd.ok.1
  have a1' : At s (nxt s (nxt s a)) (Lib.decDigits n ++ 41 :: r) := by rw [ed]; exact a1
  obtain ⟨d1, d2⟩ := dec_tok n (br41 r)
  obtain ⟨t2, a2, _⟩ := a1'.step d1 (ok41 r)
  rw [skp_of (by decide)] at a2
  have t3 := a2.tok.trans (tok41 r)
  exact ⟨_, a2, ((Gv.negnum t1 (by rw [t2]; exact d2) (by rw [t2]; omega) (by rw [t2]; exact dec_numV n) (by omega) (by rw [t3]; decide)).up_una (by rw [t1]; decide) (.inl t3)).mono (by omega)⟩
theorem rds_leaf {t : Nd} (h : t.op = 30 ∨ t.op = 31 ∨ t.op = 9) (hp : prB t = true) : Rds t := by
  intro s a o K r hA hO hB h42 h40 ho hK
  have hpos := txt_pos hp
  obtain ⟨⟨hf, hc⟩, _⟩ := frm_of hp
  unfold fldOk at hf
  rw [if_neg (by omega)] at hf
  obtain ⟨f1, _, f3⟩ := hf
  rw [if_neg (by omega)] at f3
  have hks : t.ks = [] := by
    unfold cntOk at hc
    exact List.length_eq_zero_iff.1 (by omega)
  have hbare : bareT t = leafN t.op := by rw [bareT_eq, hks, noNm_of f1, f3]; rfl
  rw [hbare]
  have e : txt t = wrdS t.op := by
    rw [txt_eq, txtW]
    rcases h with h | h | h <;> rw [h] <;> rfl
  have ht : tokL (wrdS t.op ++ r) = wrdS t.op := by
    have key : ∀ (c : UInt8) (m : List UInt8), letB c.toNat = true → (∀ d ∈ c :: m, nmC d = true) → tokL (c :: m ++ r) = c :: m := fun c m h1 h2 => by
      show tokL (c :: (m ++ r)) = _
      rw [tokL, if_pos h1]
      exact twAll (c :: m) r h2 hB.nm
    rcases h with h | h | h <;> rw [h] <;> exact key _ _ (by decide) (by decide)
  rw [e] at hA hK hpos ⊢
  obtain ⟨t1, a1, n1⟩ := hA.step ht hO
  rw [← n1]
  refine ((Gv.leaf ?_).prim ?_ ?_).mono (by omega)
  · rw [t1]
    rcases h with h | h | h <;> rw [h]
    · exact .inl ⟨rfl, rfl⟩
    · exact .inr (.inl ⟨rfl, rfl⟩)
    · exact .inr (.inr ⟨rfl, rfl⟩)
  · rw [t1]
    rcases h with h | h | h <;> rw [h] <;> decide
  · rw [t1]
    rcases h with h | h | h <;> rw [h] <;> decide
/-- A kid before a closing parenthesis. -/
theorem kid41 {k : Nd} (hk : Rds k) (pk : prB k = true) {s : ByteArray} {q o : Nat} {r : List UInt8} (h : At s q (txt k ++ 41 :: r)) (ho : o + 2 * dep k ≤ 90) :
    ∃ c, At s c (41 :: r) ∧ Gv s .una o q (32 * (txt k).length) (bareT k) c ∧ T s q ≠ [33] ∧ endT (T s c) := by
  obtain ⟨d, m, e, H⟩ := txt_hd k pk
  have hc := h.move.bl (ok41 r)
  rw [skp_of (by decide)] at hc
  exact ⟨_, hc, hk s q o _ _ h (ok41 r) (br41 r) (by rw [skp_of (by decide), tok41]; decide) (by rw [skp_of (by decide), tok41]; decide) ho (Nat.le_refl _), by rw [h.tok, e]; exact (tokH _ H).1, .inl (hc.tok.trans (tok41 r))⟩
/-- A node of one kid without a name. -/
theorem only_kid {t : Nd} (h : t.op = 6 ∨ t.op = 7 ∨ t.op = 32) (hp : prB t = true) : ∃ k, t.ks = [k] ∧ t.nm = noNm ∧ (t.op ≠ 7 → t.nu = 0) ∧ (t.op = 7 → t.nu ≤ 1000000000000) := by
  obtain ⟨⟨hf, hc⟩, _⟩ := frm_of hp
  unfold fldOk at hf
  rw [if_neg (by omega)] at hf
  obtain ⟨f1, _, f3⟩ := hf
  have h1 : t.ks.length = 1 := by
    unfold cntOk at hc
    omega
  match hks : t.ks, h1 with
  | [k], _ =>
    refine ⟨k, rfl, noNm_of f1, fun h7 => ?_, fun h7 => ?_⟩
    · rw [if_neg (by omega)] at f3; exact f3
    · rw [if_pos (.inr h7)] at f3; exact f3.2
theorem rds_not {t : Nd} (h : t.op = 32) (hp : prB t = true) (ih : ∀ k ∈ t.ks, Rds k) : Rds t := by
  intro s a o K r hA hO hB h42 h40 ho hK
  obtain ⟨k, hks, hnm, hnu, _⟩ := only_kid (.inr (.inr h)) hp
  have hk : k ∈ t.ks := by rw [hks]; simp
  have pk := (frm_of hp).2 k hk
  have dk := dep_kid hk
  have e : txt t = paren (33 :: txt k) := by rw [txt_eq, txtW, h, hks]; rfl
  have hbare : bareT t = oneN 32 (bareT k) := by rw [bareT_eq, h, hks, hnm, hnu (by omega)]; rfl
  have hl : (paren (33 :: txt k)).length = (txt k).length + 3 := by simp [paren]
  obtain ⟨d, m, ed, H⟩ := txt_hd k pk
  rw [hbare]
  rw [e] at hA hK ⊢
  refine (grp (K := 32 * (txt k).length + 11) hA (d := 33) (n := txt k) rfl (by decide) hO (by omega) fun hin => ?_).mono (by omega)
  have hin' : At s (nxt s a) ([33] ++ d :: (m ++ 41 :: r)) := by rw [ed] at hin; exact hin
  obtain ⟨t1, a1⟩ := hin'.glue (tok33 _ H.ok.2.2.2.2) H.ok.1
  obtain ⟨c, hc, g, hn, he⟩ := kid41 (o := o + 1 + 1) (ih k hk) pk (q := nxt s (nxt s a)) (r := r) (by rw [ed]; exact a1) (by omega)
  exact ⟨c, hc, (Gv.not1 t1 (by omega) g hn he).up_not he⟩
theorem rds_neg {t : Nd} (h : t.op = 6) (hp : prB t = true) (ih : ∀ k ∈ t.ks, Rds k) : Rds t := by
  intro s a o K r hA hO hB h42 h40 ho hK
  obtain ⟨k, hks, hnm, hnu, _⟩ := only_kid (.inl h) hp
  have hk : k ∈ t.ks := by rw [hks]; simp
  have pk := (frm_of hp).2 k hk
  have dk := dep_kid hk
  have dp := dep_pos k
  have hbare : bareT t = oneN 6 (bareT k) := by rw [bareT_eq, h, hks, hnm, hnu (by omega)]; rfl
  obtain ⟨d, m, ed, H⟩ := txt_hd k pk
  rw [hbare]
  have hnat : natKid t = (k.op == 2 && decide (0 ≤ k.nu)) := by unfold natKid; rw [hks]
  cases hnk : natKid t
  case false =>
    rw [hnk] at hnat
    have e : txt t = paren (45 :: txt k) := by
      rw [txt_eq, txtW, h, hks]
      show (if natKid t = true then _ else _) = _
      rw [hnk]; rfl
    have hl : (paren (45 :: txt k)).length = (txt k).length + 3 := by simp [paren]
    rw [e] at hA hK ⊢
    refine (grp (K := 32 * (txt k).length + 11) hA (d := 45) (n := txt k) rfl (by decide) hO (by omega) fun hin => ?_).mono (by omega)
    have hin' : At s (nxt s a) ([45] ++ d :: (m ++ 41 :: r)) := by rw [ed] at hin; exact hin
    obtain ⟨t1, a1⟩ := hin'.glue (tok45 _) H.ok.1
    obtain ⟨c, hc, g, hn, he⟩ := kid41 (o := o + 1 + 1) (ih k hk) pk (q := nxt s (nxt s a)) (r := r) (by rw [ed]; exact a1) (by omega)
    have hnum : isNum (T s (nxt s (nxt s a))) = false := by
      rw [a1.tok]
      refine (tokH _ H).2.2.2 fun hh => ?_
      rw [hh.1, decide_eq_true hh.2] at hnat
      cases hnat
    exact ⟨c, hc, (Gv.neg1 t1 (by omega) hnum g).up_una (by rw [t1]; decide) he⟩
  case true =>
    rw [hnk] at hnat
    have h2 := hnat.symm
    simp only [Bool.and_eq_true, beq_iff_eq, decide_eq_true_eq] at h2
    have e : txt t = paren (45 :: paren (txt k)) := by
      rw [txt_eq, txtW, h, hks]
      show (if natKid t = true then _ else _) = _
      rw [hnk]; rfl
    have hl : (paren (45 :: paren (txt k))).length = (txt k).length + 5 := by simp [paren]
    rw [e] at hA hK ⊢
    refine (grp (K := 24) hA (d := 45) (n := paren (txt k)) rfl (by decide) hO (by omega) fun hin => ?_).mono (by omega)
    have hin' : At s (nxt s a) ([45] ++ 40 :: (txt k ++ [41] ++ 41 :: r)) := hin
    obtain ⟨t1, a1⟩ := hin'.glue (tok45 _) (by decide)
    have hpar := grp (K := 11) (o := o + 1 + 1) (x := bareT k) (r := 41 :: r) (m := txt k) a1 ed H.ok.1 (ok41 r) (by omega) fun hi => by
      have g := int_una (o := o + 1 + 1 + 1) (K := 1) h2.1 pk h2.2 hi (ok41 _) (br41 _) (by rw [skp_of (by decide), tok41]; decide) (Nat.le_refl _)
      have hc := hi.move.bl (ok41 _)
      rw [skp_of (by decide)] at hc
      exact ⟨_, hc, g.up_una (by rw [hi.tok, ed]; exact (tokH _ H).1) (.inl (hc.tok.trans (tok41 _)))⟩
    have hc := (At.move (x := paren (txt k)) (r := 41 :: r) a1).bl (ok41 r)
    rw [skp_of (by decide)] at hc
    have t2 : T s (nxt s (nxt s a)) = [40] := a1.tok.trans (tok40 _)
    exact ⟨_, hc, ((Gv.neg1 t1 (by omega) (by rw [t2]; decide) hpar).up_una (by rw [t1]; decide) (.inl (hc.tok.trans (tok41 _)))).mono (by omega)⟩
theorem rds_scale {t : Nd} (h : t.op = 7) (hp : prB t = true) (hpos : 0 ≤ t.nu) (ih : ∀ k ∈ t.ks, Rds k) : Rds t := by
  intro s a o K r hA hO hB h42 h40 ho hK
  obtain ⟨k, hks, hnm, _, hnu⟩ := only_kid (.inr (.inl h)) hp
  have hnu := hnu h
  have hk : k ∈ t.ks := by rw [hks]; simp
  have pk := (frm_of hp).2 k hk
  have dk := dep_kid hk
  obtain ⟨n, hnn⟩ : ∃ n : Nat, t.nu = n := ⟨t.nu.toNat, by omega⟩
  have hbare : bareT t = .mk 7 0 noNm n [bareT k] := by rw [bareT_eq, h, hks, hnm, hnn]; rfl
  obtain ⟨d, m, ed, H⟩ := txt_hd k pk
  obtain ⟨d0, m0, e0⟩ := dec_ne n
  have H0 : Hd (intN n) d0 := .inr (.inr ⟨dec_all n d0 (by rw [e0]; simp), rfl, by show (0 : Int) ≤ n; omega⟩)
  have h13 := dec_13 (n := n) (by omega)
  rw [hbare]
  have e : txt t = paren (Lib.decDigits n ++ (32 :: 42 :: 32 :: txt k)) := by
    rw [txt_eq, txtW, h, hks]
    show (if t.nu < 0 then _ else _) = _
    rw [if_neg (by omega), hnn, itoa_pos (by omega)]; rfl
  have hl : (paren (Lib.decDigits n ++ (32 :: 42 :: 32 :: txt k))).length = (Lib.decDigits n).length + (txt k).length + 5 := by simp [paren]; omega
  rw [e] at hA hK ⊢
  refine (grp (K := 32 * (txt k).length + 11) hA (d := d0) (n := m0 ++ (32 :: 42 :: 32 :: txt k)) (by rw [e0]; rfl) H0.ok.1 hO (by omega) fun hin => ?_).mono (by omega)
  have hin' : At s (nxt s a) (Lib.decDigits n ++ 32 :: 42 :: (32 :: d :: (m ++ 41 :: r))) := by rw [ed] at hin; simpa using hin
  obtain ⟨d1, d2⟩ := dec_tok n (r := 32 :: 42 :: (32 :: d :: (m ++ 41 :: r))) (show nmC 32 = false by decide)
  obtain ⟨t1, a1⟩ := hin'.wide d1 (by decide)
  obtain ⟨t2, a2⟩ := At.wide (x := [42]) a1 (tok42 _) H.ok.1
  obtain ⟨c, hc, g, hn, he⟩ := kid41 (o := o + 1 + 1) (ih k hk) pk (q := nxt s (nxt s (nxt s a))) (r := r) (by rw [ed]; exact a2) (by omega)
  exact ⟨c, hc, (Gv.scale (by rw [t1]; exact d2) (by rw [t1]; omega) (by rw [t1]; exact dec_numV n) (by omega) t2 (by omega) g).up_una (by rw [t1]; intro e3; rw [e3] at d2; exact absurd d2 (by decide)) he⟩
end Go.Proofs.YtgkjcimgghflmaaGreatDoor
namespace Go.Proofs.YtgkjcimgghflmaaGreatDoor
open Go.RowKit Go.Shelf
theorem rds_app {t : Nd} (h : t.op = 3) (hp : prB t = true) (ih : ∀ k ∈ t.ks, Rds k) : Rds t := by
  intro s a o K r hA hO hB h42 h40 ho hK
  obtain ⟨⟨hf, hc⟩, hpk⟩ := frm_of hp
  unfold fldOk at hf
  rw [if_pos (.inr h)] at hf
  have h8 : t.ks.length ≤ 8 := by
    unfold cntOk at hc
    omega
  have hb : bs t.nm.data.toList = t.nm := bs_back' _
  have hn : nameB (bs t.nm.data.toList) = true := by rw [hb]; exact hf.1
  have hfree := name_free hn
  have e : txt t = t.nm.data.toList ++ paren (commas (t.ks.map txt)) := by rw [txt_eq, txtW, h]; rfl
  have hbare : bareT t = .mk 3 0 (bs t.nm.data.toList) 0 (t.ks.map bareT) := by rw [bareT_eq, h, hf.2.1, hb]
  have hdk := fun k hk => dep_kid (t := t) (k := k) hk
  have hd1 := dep_pos t
  rw [hbare]
  rw [e] at hA hK ⊢
  have hAA := hA.2
  generalize t.ks = ks at *
  generalize t.nm.data.toList = nm at *
  have htok : ∀ q, tokL (nm ++ 40 :: q) = nm := fun q => by
    have := tok_name (r := 40 :: q) hf.1 (show nmC 40 = false by decide)
    rw [← hb] at this
    simpa [bs] using this
  cases ks with
  | nil =>
    have hA1 : At s a (nm ++ 40 :: (41 :: r)) := by
      have e2 : (nm ++ paren (commas (List.map txt []))) ++ r = nm ++ 40 :: (41 :: r) := by simp [paren, commas]
      rw [e2] at hA; exact hA
    obtain ⟨t1, a1⟩ := hA1.glue (htok _) (by decide)
    obtain ⟨t2, a2⟩ := At.glue (x := [40]) (d := 41) (r := r) a1 (tok40 _) (by decide)
    obtain ⟨t3, n3⟩ := a2.close hO
    have g := (Gv.app0 (o := o) t1 hn t2 (by omega) t3).prim (by rw [t1]; exact hfree.2.2.2.2.2.1) (by rw [t1]; exact hfree.2.2.2.2.2.2.1)
    rw [n3] at g
    have l2 := a2.2
    simp only [List.length_append, List.length_cons, paren, List.length_nil, List.map_nil, commas] at hAA l2 hK
    rw [show nxt s (nxt s a) + 1 = a + (nm ++ paren (commas (List.map txt []))).length by simp only [List.length_append, List.length_cons, paren, List.length_nil, List.map_nil, commas]; omega] at g
    exact g.mono (by omega)
  | cons k ks =>
    obtain ⟨d, m, ed, H⟩ := txt_hd k (hpk k (by simp))
    have hcm : commas ((k :: ks).map txt) = txt k ++ tails (ks.map txt) := by rw [List.map_cons, commas_cons]
    rw [hcm] at hA hK hAA ⊢
    have hA1 : At s a (nm ++ 40 :: (txt k ++ (tails (ks.map txt) ++ 41 :: r))) := by
      have e2 : (nm ++ paren (txt k ++ tails (ks.map txt))) ++ r = nm ++ 40 :: (txt k ++ (tails (ks.map txt) ++ 41 :: r)) := by simp [paren]
      rw [e2] at hA; exact hA
    obtain ⟨t1, a1⟩ := hA1.glue (htok _) (by decide)
    have a1' : At s (nxt s a) ([40] ++ d :: (m ++ (tails (ks.map txt) ++ 41 :: r))) := by rw [ed] at a1; exact a1
    obtain ⟨t2, a2⟩ := a1'.glue (tok40 _) H.ok.1
    have a2' : At s (nxt s (nxt s a)) (txt k ++ (tails (ks.map txt) ++ 41 :: r)) := by rw [ed]; exact a2
    have hne : T s (nxt s (nxt s a)) ≠ [41] := by rw [a2.tok]; exact (tokH _ H).2.2.1
    have hlen : (nm ++ paren (txt k ++ tails (ks.map txt))).length = nm.length + (txt k ++ tails (ks.map txt)).length + 2 := by simp only [List.length_append, List.length_cons, paren, List.length_nil]; omega
    rw [hlen] at hK
    obtain ⟨c, hc, g⟩ := chain_app nm s (o + 1) r ks k [] (nxt s (nxt s a)) (32 * (txt k ++ tails (ks.map txt)).length + 12) (fun y hy => ⟨ih y hy, hpk y hy, by have := hdk y hy; omega⟩) (by simp at h8 ⊢; omega) a2' (Nat.le_refl _)
    obtain ⟨_, n3⟩ := hc.close hO
    have g2 := (Gv.app1 (o := o) t1 hn t2 (by omega) hne g).prim (by rw [t1]; exact hfree.2.2.2.2.2.1) (by rw [t1]; exact hfree.2.2.2.2.2.2.1)
    rw [n3] at g2
    have l2 := hc.2
    rw [List.length_append] at hAA
    rw [List.length_cons] at l2
    rw [show c + 1 = a + (nm ++ paren (txt k ++ tails (ks.map txt))).length by omega] at g2
    exact g2.mono (by omega)
theorem rds_word {t : Nd} (h : t.op = 8 ∨ t.op = 10 ∨ t.op = 11 ∨ t.op = 12 ∨ t.op = 13 ∨ t.op = 14 ∨ t.op = 15 ∨ t.op = 16) (hp : prB t = true) (ih : ∀ k ∈ t.ks, Rds k) : Rds t := by
  intro s a o K r hA hO hB h42 h40 ho hK
  obtain ⟨⟨hf, hc⟩, hpk⟩ := frm_of hp
  unfold fldOk at hf
  rw [if_neg (by omega)] at hf
  obtain ⟨f1, _, f3⟩ := hf
  rw [if_neg (by omega)] at f3
  have hw : wordA (wrdS t.op) = some (t.op, t.ks.length) := by
    unfold cntOk at hc
    rcases h with h | h | h | h | h | h | h | h <;> rw [h] at hc ⊢
    · rw [show t.ks.length = 3 by omega]; rfl
    · rw [show t.ks.length = 1 by omega]; rfl
    · rw [show t.ks.length = 2 by omega]; rfl
    · rw [show t.ks.length = 2 by omega]; rfl
    · rw [show t.ks.length = 2 by omega]; rfl
    · rw [show t.ks.length = 2 by omega]; rfl
    · rw [show t.ks.length = 3 by omega]; rfl
    · rw [show t.ks.length = 1 by omega]; rfl
  have h1 : t.ks ≠ [] := fun e => by
    unfold cntOk at hc
    rw [e] at hc
    simp only [List.length_nil] at hc
    omega
  have htok : ∀ q, tokL (wrdS t.op ++ 40 :: q) = wrdS t.op := by
    rcases h with h | h | h | h | h | h | h | h <;> rw [h] <;> exact fun q => rfl
  have hnum : isNum (wrdS t.op) = false := by
    rcases h with h | h | h | h | h | h | h | h <;> rw [h] <;> decide
  have hfree := wordA_free hw
  have e : txt t = wrdS t.op ++ paren (commas (t.ks.map txt)) := by
    rw [txt_eq, txtW]
    rcases h with h | h | h | h | h | h | h | h <;> rw [h] <;> rfl
  have hbare : bareT t = .mk t.op 0 noNm 0 (t.ks.map bareT) := by rw [bareT_eq, noNm_of f1, f3]
  have hdk := fun k hk => dep_kid (t := t) (k := k) hk
  have hd1 := dep_pos t
  rw [hbare]
  rw [e] at hA hK ⊢
  have hAA := hA.2
  generalize t.ks = ks at *
  generalize wrdS t.op = nm at *
  cases ks with
  | nil => exact absurd rfl h1
  | cons k ks =>
    obtain ⟨d, m, ed, H⟩ := txt_hd k (hpk k (by simp))
    have hcm : commas ((k :: ks).map txt) = txt k ++ tails (ks.map txt) := by rw [List.map_cons, commas_cons]
    rw [hcm] at hA hK hAA ⊢
    have hA1 : At s a (nm ++ 40 :: (txt k ++ (tails (ks.map txt) ++ 41 :: r))) := by
      have e2 : (nm ++ paren (txt k ++ tails (ks.map txt))) ++ r = nm ++ 40 :: (txt k ++ (tails (ks.map txt) ++ 41 :: r)) := by simp [paren]
      rw [e2] at hA; exact hA
    obtain ⟨t1, a1⟩ := hA1.glue (htok _) (by decide)
    have a1' : At s (nxt s a) ([40] ++ d :: (m ++ (tails (ks.map txt) ++ 41 :: r))) := by rw [ed] at a1; exact a1
    obtain ⟨t2, a2⟩ := a1'.glue (tok40 _) H.ok.1
    have a2' : At s (nxt s (nxt s a)) (txt k ++ (tails (ks.map txt) ++ 41 :: r)) := by rw [ed]; exact a2
    have hlen : (nm ++ paren (txt k ++ tails (ks.map txt))).length = nm.length + (txt k ++ tails (ks.map txt)).length + 2 := by simp only [List.length_append, List.length_cons, paren, List.length_nil]; omega
    rw [hlen] at hK
    obtain ⟨c, hc, g⟩ := word_first t.op (k :: ks).length s (o + 1) r k ks (nxt s (nxt s a)) (32 * (txt k ++ tails (ks.map txt)).length + 12) (fun y hy => ⟨ih y hy, hpk y hy, by have := hdk y hy; omega⟩) rfl a2' (Nat.le_refl _)
    obtain ⟨_, n3⟩ := hc.close hO
    have g2 := (Gv.word1 (o := o) (by rw [t1]; exact hw) t2 (by omega) g).prim (by rw [t1]; exact hfree.2.2.2.2.1) (by rw [t1]; exact hnum)
    rw [n3] at g2
    have l2 := hc.2
    rw [List.length_append] at hAA
    rw [List.length_cons] at l2
    rw [show c + 1 = a + (nm ++ paren (txt k ++ tails (ks.map txt))).length by omega] at g2
    exact g2.mono (by omega)
theorem rds_all (t : Nd) : prB t = true → turnB t = false → Rds t := by
  induction t using Nd.ind with
  | h t ih =>
  intro hp ht
  have hpk := (frm_of hp).2
  have ik : ∀ k ∈ t.ks, Rds k := fun k hk => by
    obtain ⟨i, hi, rfl⟩ := List.getElem_of_mem hk
    exact ih i hi (hpk _ hk) (turnB_kid ht hk)
  by_cases hs : sgn t.op = []
  case neg => exact rds_sgn hs hp ik
  have hs' : ∀ op, sgn op ≠ [] → t.op ≠ op := fun op ho e => ho (by rw [← e]; exact hs)
  have hc := (frm_of hp).1.2
  have := hs' 4 (by decide); have := hs' 5 (by decide); have := hs' 33 (by decide); have := hs' 34 (by decide); have := hs' 35 (by decide); have := hs' 36 (by decide); have := hs' 37 (by decide); have := hs' 38 (by decide); have := hs' 39 (by decide); have := hs' 40 (by decide); have := hs' 41 (by decide)
  have key : t.op = 1 ∨ t.op = 2 ∨ (t.op = 30 ∨ t.op = 31 ∨ t.op = 9) ∨ t.op = 3 ∨ t.op = 6 ∨ t.op = 7 ∨ t.op = 32 ∨ (t.op = 8 ∨ t.op = 10 ∨ t.op = 11 ∨ t.op = 12 ∨ t.op = 13 ∨ t.op = 14 ∨ t.op = 15 ∨ t.op = 16) := by
    unfold cntOk at hc
    omega
  rcases key with h | h | h | h | h | h | h | h
  · exact rds_var h hp
  · exact rds_int h hp
  · exact rds_leaf h hp
  · exact rds_app h hp ik
  · exact rds_neg h hp ik
  · have := turnB_self ht
    exact rds_scale h hp (by omega) ik
  · exact rds_not h hp ik
  · exact rds_word h hp ik
/-- What is printed is read. -/
theorem back_PW {t : Nd} (hp : prB t = true) (ht : turnB t = false) (hd : 2 * dep t ≤ 90) : PW (bs (txt t)) (32 * (bs (txt t)).size + 17) = .ok (bareT t) (bs (txt t)).size := by
  have hsz : (bs (txt t)).size = (txt t).length := by simp [bs, ByteArray.size]
  have hl : lst (bs (txt t)) = txt t := by simp [lst, bs]
  have hA : At (bs (txt t)) 0 (txt t ++ []) := ⟨by rw [hl]; simp, by simp [hsz]⟩
  obtain ⟨c, m, e, H⟩ := txt_hd t hp
  have g := rds_all t hp ht (bs (txt t)) 0 0 (32 * (txt t).length) [] hA Ok.nil trivial (by decide) (by decide) (by omega) (Nat.le_refl _)
  have hend := hA.move.bl Ok.nil
  have h0 : bl (bs (txt t)) 0 = 0 := by
    have := hA.bl (by rw [e]; exact Ok.of H.ok.1 (okHd_ne H.ok.1))
    exact this.same hA (by rw [e]; exact skp_of (okHd_ne H.ok.1))
  have hT : T (bs (txt t)) 0 ≠ [33] := by rw [hA.tok, e]; exact (tokH _ H).1
  have hform := g.up_una hT (.inr (.inr hend.tok))
  have hpos : bl (bs (txt t)) (0 + (txt t).length) = (bs (txt t)).size := by
    have := hend.2
    simpa [skp] using this
  rw [hpos] at hform
  rw [PW, h0, hform _ (by rw [hsz]; omega)]
  show (if (bs (txt t)).size < (bs (txt t)).size then _ else _) = _
  rw [if_neg (Nat.lt_irrefl _)]
theorem preN_bare (t : Nd) : ∀ lv, preN lv (bareT t) = (preN lv t).map fun p => (p.1, bareT p.2) := by
  induction t using Nd.ind with
  | h t ih =>
  intro lv
  have hks : (bareT t).ks = t.ks.map bareT := by rw [bareT_eq]; rfl
  rw [preN_eq, preN_eq, List.map_cons, hks]
  congr 1
  have key : ∀ (l : List Nd), (∀ k ∈ l, ∀ lv, preN lv (bareT k) = (preN lv k).map fun p => (p.1, bareT p.2)) → ∀ lv, preNs lv (l.map bareT) = (preNs lv l).map fun p => (p.1, bareT p.2) := by
    intro l
    induction l with
    | nil => intro _ lv; rfl
    | cons x xs ihx =>
      intro hl lv
      rw [List.map_cons, preNs, preNs, List.map_append, hl x (by simp), ihx (fun k hk => hl k (by simp [hk]))]
  exact key t.ks (fun k hk => by obtain ⟨i, hi, rfl⟩ := List.getElem_of_mem hk; exact ih i hi) _
theorem lim_bare (t : Nd) : limB (preN 1 (bareT t)) = limB (preN 1 t) := by
  unfold limB
  rw [preN_bare, List.length_map]
  congr 1
  apply propext
  constructor
  · rintro ⟨h1, h2⟩
    exact ⟨h1, fun p hp => h2 (p.1, bareT p.2) (List.mem_map.2 ⟨p, hp, rfl⟩)⟩
  · rintro ⟨h1, h2⟩
    refine ⟨h1, fun p hp => ?_⟩
    obtain ⟨q, hq, rfl⟩ := List.mem_map.1 hp
    exact h2 q hq
theorem bare_op (t : Nd) : (bareT t).op = t.op ∧ (bareT t).so = 0 ∧ (bareT t).nm = t.nm ∧ (bareT t).nu = t.nu ∧ (bareT t).ks = t.ks.map bareT := by rw [bareT_eq]; exact ⟨rfl, rfl, rfl, rfl, rfl⟩
theorem txt_bare (t : Nd) : txt (bareT t) = txt t := by
  induction t using Nd.ind with
  | h t ih =>
  have hk : t.ks.map (txt ∘ bareT) = t.ks.map txt := List.map_congr_left fun k hk => by
    obtain ⟨i, hi, rfl⟩ := List.getElem_of_mem hk
    exact ih i hi
  obtain ⟨b1, b2, b3, b4, b5⟩ := bare_op t
  rw [txt_eq, txt_eq t, b5, List.map_map, hk]
  have hn : natKid (bareT t) = natKid t := by
    unfold natKid
    rw [b5]
    cases t.ks with
    | nil => rfl
    | cons k l => show ((bareT k).op == 2 && decide (0 ≤ (bareT k).nu)) = _; rw [(bare_op k).1, (bare_op k).2.2.2.1]
  unfold txtW
  rw [b1, b3, b4, hn]
open Classical in
theorem pr_bare (t : Nd) : prB t = true → prB (bareT t) = true := by
  induction t using Nd.ind with
  | h t ih =>
  intro hp
  obtain ⟨⟨hf, hc⟩, hpk⟩ := frm_of hp
  obtain ⟨b1, b2, b3, b4, b5⟩ := bare_op t
  rw [prB_eq, Bool.and_eq_true, List.all_eq_true]
  refine ⟨?_, fun k hk => ?_⟩
  · unfold frmB
    refine decide_eq_true ⟨?_, by rw [b1, b5, List.length_map]; exact hc⟩
    unfold fldOk at hf ⊢
    rw [b1, b2, b3, b4]
    split
    · rename_i h1
      rw [if_pos h1] at hf
      exact ⟨hf.1, hf.2.1, by omega, by omega⟩
    · rename_i h1
      rw [if_neg h1] at hf
      exact ⟨hf.1, rfl, hf.2.2⟩
  · rw [b5] at hk
    obtain ⟨q, hq, rfl⟩ := List.mem_map.1 hk
    obtain ⟨i, hi, rfl⟩ := List.getElem_of_mem hq
    exact ih i hi (hpk _ hq)
end Go.Proofs.YtgkjcimgghflmaaGreatDoor
