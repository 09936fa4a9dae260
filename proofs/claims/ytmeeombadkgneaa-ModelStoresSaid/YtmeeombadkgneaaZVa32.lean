/-
  What Set returns: the model with the entry in its place or at the end, in memory of its own; conditions: the model and the entry lie in memory, the model is not long.
  What Set returns: the model with the entry in its place or at the end, in memory of its own; conditions: the model and the entry lie in memory, the model is not long.
  What the law's models returns of two models that are the same: true; conditions: both lie in memory.
  What BinarySearchFunc returns of a table and an entry; conditions: both lie in memory, the table is in order and not long.
-/
import Derived.Deep.RegionHeld3
import Derived.Test.YtmeeombadkgneaaZVa29
namespace Go.Proofs.Ytmeeombadkgneaa
open Go.Proofs Go.RowKit Go.Shelf Go.Sort Go.Lib

attribute [local go_sem] Oper.semAt_some
theorem same_place {x y z : EA} (h1 : placeB x y = true) (h2 : placeB z y = true) : cmpE x z = 0 := by
  rw [← place_eq, beq_iff_eq] at h1 h2
  have n1 := laws_E.neg x y
  have n2 := laws_E.neg z y
  have n3 := laws_E.neg x z
  obtain ⟨a, _⟩ := laws_E.tri x y z (by omega) (by omega)
  obtain ⟨b, _⟩ := laws_E.tri z y x (by omega) (by omega)
  omega
theorem setR_at {l : List EA} {y : EA} (hv : validM l = true) {k : Nat} (hk : k < l.length) (hp : placeB l[k] y = true) : setR l y = l.set k y := by
  have hany : l.any (fun x => placeB x y) = true := List.any_eq_true.2 ⟨l[k], List.getElem_mem hk, hp⟩
  unfold setR
  rw [hany, if_pos rfl, List.append_nil]
  apply List.ext_getElem (by simp)
  intro i h1 h2
  have hi : i < l.length := by simpa using h1
  rw [List.getElem_map, List.getElem_set]
  by_cases e : k = i
  · subst e
    rw [if_pos rfl, repE_yes hp]
  · rw [if_neg e]
    refine repE_no ?_
    rw [Bool.eq_false_iff]
    intro h
    have hz := same_place hp h
    have hpw := List.pairwise_iff_getElem.1 ((validM_iff l).1 hv).2.2
    by_cases hlt : k < i
    · exact hpw k i hk hi hlt hz
    · refine hpw i k hi hk (by omega) ?_
      have := laws_E.neg l[k] l[i]
      omega
theorem setR_new {l : List EA} {y : EA} (h : ∀ j (h : j < l.length), placeB l[j] y = false) : setR l y = l ++ [y] := by
  have hany : l.any (fun x => placeB x y) = false := by
    rw [List.any_eq_false]
    intro x hx
    obtain ⟨i, hi, rfl⟩ := List.getElem_of_mem hx
    rw [h i hi]; simp
  unfold setR
  rw [hany, if_neg (by simp)]
  congr 1
  apply List.ext_getElem (by simp)
  intro i h1 h2
  rw [List.getElem_map, repE_no (h i h2)]
theorem tameV_of {v : Vl} (h : validV v = true) : TameV v := by
  unfold validV smallV at h
  simp only [Bool.and_eq_true, decide_eq_true_eq] at h
  obtain ⟨⟨_, h1, h2⟩, _, _, h3, _⟩ := h
  exact ⟨by omega, by omega, by omega⟩
theorem tameE_of {e : EA} (h : validE e = true) : TameE e := by
  unfold validE at h
  simp only [Bool.and_eq_true, decide_eq_true_eq, List.all_eq_true] at h
  obtain ⟨_, h1, h2, h3⟩ := h
  exact ⟨by omega, fun x hx => tameV_of (h3 x hx), tameV_of h2⟩
theorem hmf (fn : Fn) (first cap : Array Value) (w : World) : (Instr.makeFunc fn first cap).run Try.prog w = .ok (.func fn first cap) w := rfl
theorem flatE_len : ∀ l : List EA, (flatE l).length = l.length * 7
  | [] => rfl
  | x :: l => by
    show (cells7E x ++ flatE l).length = _
    rw [List.length_append, flatE_len l]
    show 7 + l.length * 7 = (l.length + 1) * 7
    omega
theorem ME.owns {w : World} {n : Nat} {ks : List (ByteArray × List Vl × Vl)} {wr : World} {cur : Array Value} {xs : List EA} (h : ME w n ks wr cur xs) (hn : xs.length = n) (hm : n ≤ maxLen) : wr.ownsRow w.heap.size 40 7 (.slice (some ⟨w.heap.size, 0, none⟩) n n) n (flatE xs) :=
  ⟨by rw [flatE_len, hn], .inr ⟨w.heap.size, n, cur, rfl, Nat.le_refl _, h.row, Nat.le_refl _, hm, h.size, by have := h.head; rwa [hn] at this⟩⟩
/-- An entry of a row is written anew. -/
theorem ME.put {w : World} {n : Nat} {ks : List (ByteArray × List Vl × Vl)} {wr : World} {cur : Array Value} {xs : List EA} (h : ME w n ks wr cur xs) (hn : xs.length = n) (hm : n ≤ maxLen) {k : Nat} (hk : k < n) {y : EA} (hy : RobE (w.heap.size + 1) wr y) :
    LiesM (putE wr w.heap.size (k * 7) (.string y.nm) (.slice y.A y.args.length y.c) (.int .i64 y.val.v.so) (.int .i64 y.val.v.nu) (.slice y.val.a1 y.val.v.st.length y.val.c1) (.slice y.val.a2 y.val.v.ix.length y.val.c2) (.slice y.val.a3 y.val.v.xs.length y.val.c3)) (some ⟨w.heap.size, 0, none⟩) (xs.set k y) := by
  have hF := putE_same (o := k * 7) (.string y.nm) (.slice y.A y.args.length y.c) (.int .i64 y.val.v.so) (.int .i64 y.val.v.nu) (.slice y.val.a1 y.val.v.st.length y.val.c1) (.slice y.val.a2 y.val.v.ix.length y.val.c2) (.slice y.val.a3 y.val.v.xs.length y.val.c3) h.row
  have rob : ∀ {z : EA}, RobE (w.heap.size + 1) wr z → LiesE (putE wr w.heap.size (k * 7) (.string y.nm) (.slice y.A y.args.length y.c) (.int .i64 y.val.v.so) (.int .i64 y.val.v.nu) (.slice y.val.a1 y.val.v.st.length y.val.c1) (.slice y.val.a2 y.val.v.ix.length y.val.c2) (.slice y.val.a3 y.val.v.xs.length y.val.c3)) z :=
    fun hr => (hr.same (putE_size _ _ _ _ _ _ _ _ _ _) fun k hk => putE_other _ _ _ _ _ _ _ (by omega)).here
  refine ⟨by rw [List.length_set, hn]; exact hm, ⟨w.heap.size, 0, fun _ => rfl, fun i hi => ?_⟩, fun i hi => ?_⟩
  · have hi2 : i < xs.length := by simpa using hi
    have hin : i < n := by omega
    have hcs := h.size
    have hrd : ∀ j, j < 7 → cur[i * 7 + j]? = (cells7E xs[i])[j]? := fun j hj => by
      have := flatE_at xs i hi2 j hj
      rw [← h.head, List.getElem?_take_of_lt (by omega)] at this
      rw [← this]; simp
    rw [List.getElem_set]
    by_cases e : k = i
    · subst e
      rw [if_pos rfl]
      refine ⟨?_, ?_, ?_, ?_, ?_, ?_, ?_⟩ <;> refine cell_row hF ?_ <;> simp [Array.getElem?_setIfInBounds] <;> omega
    · rw [if_neg e]
      refine ⟨?_, ?_, ?_, ?_, ?_, ?_, ?_⟩
      · refine cell_row hF ((?_ : _ = cur[i * 7 + 0]?).trans (hrd 0 (by omega)))
        rw [Nat.zero_add]
        repeat rw [Array.getElem?_setIfInBounds_ne (by omega)]
        rfl
      · refine cell_row hF ((?_ : _ = cur[i * 7 + 1]?).trans (hrd 1 (by omega)))
        rw [Nat.zero_add]
        repeat rw [Array.getElem?_setIfInBounds_ne (by omega)]
      · refine cell_row hF ((?_ : _ = cur[i * 7 + 2]?).trans (hrd 2 (by omega)))
        rw [Nat.zero_add]
        repeat rw [Array.getElem?_setIfInBounds_ne (by omega)]
      · refine cell_row hF ((?_ : _ = cur[i * 7 + 3]?).trans (hrd 3 (by omega)))
        rw [Nat.zero_add]
        repeat rw [Array.getElem?_setIfInBounds_ne (by omega)]
      · refine cell_row hF ((?_ : _ = cur[i * 7 + 4]?).trans (hrd 4 (by omega)))
        rw [Nat.zero_add]
        repeat rw [Array.getElem?_setIfInBounds_ne (by omega)]
      · refine cell_row hF ((?_ : _ = cur[i * 7 + 5]?).trans (hrd 5 (by omega)))
        rw [Nat.zero_add]
        repeat rw [Array.getElem?_setIfInBounds_ne (by omega)]
      · refine cell_row hF ((?_ : _ = cur[i * 7 + 6]?).trans (hrd 6 (by omega)))
        rw [Nat.zero_add]
        repeat rw [Array.getElem?_setIfInBounds_ne (by omega)]
  · rw [List.getElem_set]
    split
    · exact rob hy
    · exact rob (h.each _ (List.getElem_mem _))
end Go.Proofs.Ytmeeombadkgneaa
namespace Go.Proofs.Ytmeeombadkgneaa
open Go.Proofs Go.RowKit Go.Shelf Go.Sort Go.Lib

attribute [local go_sem] Oper.semAt_some
end Go.Proofs.Ytmeeombadkgneaa
namespace Go.Proofs.Ytmeeombadkgneaa
open Go.Proofs Go.RowKit Go.Shelf Go.Sort Go.Lib

attribute [local go_sem] Oper.semAt_some
theorem below_trans2 {a b c : World} (h : RowKit.Below a.heap.size a b) (k : RowKit.Below b.heap.size b c) : RowKit.Below a.heap.size a c := h.trans (k.mono h.size)
theorem place_key {x y : EA} (h : keyE x = keyE y) : placeB x y = true := by
  unfold keyE at h
  injection h with h1 h2
  injection h2 with h2 h3
  rw [← place_eq, beq_iff_eq]
  show lexI (lexI _ _) _ = 0
  rw [lexI_zero, lexI_zero, cmpS_zero, cmpI_zero, cmpVs_zero]
  exact ⟨⟨by rw [h1], by rw [h3]⟩, h2⟩
theorem same_key {x y : EA} (h : keyE x = keyE y) : sameB x.val.v y.val.v = true := by
  unfold keyE at h
  injection h with h1 h2
  injection h2 with h2 h3
  exact (sameB_iff _ _).2 h3
end Go.Proofs.Ytmeeombadkgneaa
namespace Go.Proofs.Ytmeeombadkgneaa
open Go.Proofs Go.RowKit Go.Shelf Go.Sort Go.Lib

attribute [local go_sem] Oper.semAt_some
def hitE (l : List EA) (y : EA) (i : Nat) : Bool := match l[i]? with | some x => cmpE x y == 0 | none => false
theorem hitE_in {l : List EA} {y : EA} {i : Nat} (h : i < l.length) : hitE l y i = (cmpE l[i] y == 0) := by unfold hitE; rw [List.getElem?_eq_getElem h]
theorem hitE_out {l : List EA} {y : EA} {i : Nat} (h : l.length ≤ i) : hitE l y i = false := by unfold hitE; rw [List.getElem?_eq_none h]
theorem asc_mono {l : List EA} {y : EA} (h : Asc l) : ∀ i j (hi : i < l.length) (hj : j < l.length), i ≤ j → cmpE l[j] y < 0 → cmpE l[i] y < 0 := by
  intro i j hi hj hij hlt
  by_cases e : i = j
  · subst e; exact hlt
  · have h1 := List.pairwise_iff_getElem.1 h i j hi hj (by omega)
    obtain ⟨a, b⟩ := laws_E.tri l[i] l[j] y (by omega) (by omega)
    omega
set_option maxRecDepth 100000 in
set_option maxHeartbeats 4000000 in
theorem searchE_any (l : List EA) (y : EA) (A : Option Addr) (cap : Nat) (w : World) (hL : LiesM w A l) (hY : LiesE w y) (hl : l.length ≤ 2000) (ha : Asc l) :
    Calls Try.prog 76 #[.slice A l.length cap, ev y, .func (.func 26) #[] #[]] w fun e w' => (∃ i : Nat, i ≤ l.length ∧ e = .returned (.tuple #[.int .i64 i, .bool (hitE l y i)]) ∧ (∀ t (_ : t < l.length), t < i → cmpE l[t] y < 0) ∧ (∀ t (_ : t < l.length), i ≤ t → 0 ≤ cmpE l[t] y)) ∧ RowKit.Below w.heap.size w w' := by
  obtain ⟨W, hW⟩ : ∃ W, w.alloc (boxE y 40) = W := ⟨_, rfl⟩
  have HB : RowKit.Below w.heap.size w W := by rw [← hW]; exact (RowKit.Below.refl _ _).alloc (Nat.le_refl _) _
  have H7 := Lib.hid (show SevenE W w.heap.size 0 y by rw [← hW]; exact sevenE_new w y 40)
  have HL := Lib.hid (hL.later HB)
  have HY := Lib.hid (hY.later HB)
  have HBx := Lib.hid HB
  have HM := Lib.hid (asc_mono (y := y) ha)
  have HW := Lib.hid hW
  clear HB hL hY ha hW
  go_enter Try.func76, Try.ntmps76
  go_upto_region 1 with fail
  rw [HW.out]
  go_wp2_with fail
  go_loopw [9, 10] (fun i j wr => ∃ lo hi : Nat, i = .int .i64 lo ∧ j = .int .i64 hi ∧ lo ≤ hi ∧ hi ≤ l.length ∧ Hid (∀ t (_ : t < l.length), t < lo → cmpE l[t] y < 0) ∧ Hid (∀ t (_ : t < l.length), hi ≤ t → 0 ≤ cmpE l[t] y) ∧ Hid (RowKit.Below W.heap.size W wr)) (fun i j _ => (intOf j - intOf i).toNat)
  case atStart => exact ⟨0, l.length, rfl, rfl, Nat.zero_le _, Nat.le_refl _, Lib.hid (fun t _ h => by omega), Lib.hid (fun t h h' => by omega), RowKit.Below.refl _ _⟩
  case round =>
    obtain ⟨lo, hi, rfl, rfl, hlh, hin, I1, I2, hB⟩ := hrel
    have HLr := HL.out.later hB.out
    have Y := H7.out.later hB.out
    by_cases hlt : lo < hi
    · obtain ⟨m, hm0⟩ : ∃ m, m = (lo + hi) / 2 := ⟨_, rfl⟩
      have em : ((lo : Int) + (hi : Int)) / 2 = (m : Int) := by omega
      have hlm : lo ≤ m := by omega
      have hmh : m < hi := by omega
      have hm : m < l.length := by omega
      have Em := Lib.hid em
      clear hm0 em
      obtain ⟨b, o, ha, hc⟩ := HLr.at_
      have ha := ha (by omega)
      have X := hc m hm
      have HX := Lib.hid (HLr.each m hm)
      have HYr := Lib.hid (HY.out.later hB.out)
      have I3 := Lib.hid (fun h => fun t (ht : t < l.length) (htt : t < m + 1) => HM.out t m ht hm (by omega) h)
      have I4 := Lib.hid (fun (h : ¬ cmpE l[m] y < 0) => fun t (ht : t < l.length) (htt : m ≤ t) => Int.not_lt.1 fun h' => h (HM.out m t hm ht htt h'))
      have KC0 := fun W' (h : RowKit.Below wr.heap.size wr W') => compareE_any l[m] y W' (HX.out.later h) (HYr.out.later h)
      generalize l[m] = q at *
      generalize hx0 : cmpE q y = x at *
      clear HM HL HLr hc hx0
      rw [ha] at *
      have K6 := Lib.hid (fun W' (h : RowKit.Below wr.heap.size wr W') => (show (fun W' => RowKit.Below wr.heap.size wr W' ∧ W'.cell? ⟨b, o + m * 7, none⟩ = some (.string q.nm) ∧ W'.cell? ⟨b, o + m * 7 + 1, none⟩ = some (.slice q.A q.args.length q.c) ∧ W'.cell? ⟨b, o + m * 7 + 2, none⟩ = some (.int .i64 q.val.v.so) ∧ W'.cell? ⟨b, o + m * 7 + 3, none⟩ = some (.int .i64 q.val.v.nu) ∧ W'.cell? ⟨b, o + m * 7 + 4, none⟩ = some (.slice q.val.a1 q.val.v.st.length q.val.c1) ∧ W'.cell? ⟨b, o + m * 7 + 5, none⟩ = some (.slice q.val.a2 q.val.v.ix.length q.val.c2) ∧ W'.cell? ⟨b, o + m * 7 + 6, none⟩ = some (.slice q.val.a3 q.val.v.xs.length q.val.c3) ∧ W'.cell? ⟨w.heap.size, 0, none⟩ = some (.string y.nm) ∧ W'.cell? ⟨w.heap.size, 1, none⟩ = some (.slice y.A y.args.length y.c) ∧ W'.cell? ⟨w.heap.size, 2, none⟩ = some (.int .i64 y.val.v.so) ∧ W'.cell? ⟨w.heap.size, 3, none⟩ = some (.int .i64 y.val.v.nu) ∧ W'.cell? ⟨w.heap.size, 4, none⟩ = some (.slice y.val.a1 y.val.v.st.length y.val.c1) ∧ W'.cell? ⟨w.heap.size, 5, none⟩ = some (.slice y.val.a2 y.val.v.ix.length y.val.c2) ∧ W'.cell? ⟨w.heap.size, 6, none⟩ = some (.slice y.val.a3 y.val.v.xs.length y.val.c3)) W' from ⟨h, (X.later h).c0, (X.later h).c1, (X.later h).c2, (X.later h).c3, (X.later h).c4, (X.later h).c5, (X.later h).c6, by have := (Y.later h).c0; simpa only [Nat.zero_add] using this, by have := (Y.later h).c1; simpa only [Nat.zero_add] using this, by have := (Y.later h).c2; simpa only [Nat.zero_add] using this, by have := (Y.later h).c3; simpa only [Nat.zero_add] using this, by have := (Y.later h).c4; simpa only [Nat.zero_add] using this, by have := (Y.later h).c5; simpa only [Nat.zero_add] using this, by have := (Y.later h).c6; simpa only [Nat.zero_add] using this⟩))
      have KC := Lib.hid KC0
      clear KC0 X Y HX HYr
      by_cases hx : x < 0
      · have hx' : decide (x < 0) = true := decide_eq_true hx
        go_wp2_with fail
        rw [Em.out]
        go_region_held3 (fun W' => RowKit.Below wr.heap.size wr W' ∧ W'.cell? ⟨b, o + m * 7, none⟩ = some (.string q.nm) ∧ W'.cell? ⟨b, o + m * 7 + 1, none⟩ = some (.slice q.A q.args.length q.c) ∧ W'.cell? ⟨b, o + m * 7 + 2, none⟩ = some (.int .i64 q.val.v.so) ∧ W'.cell? ⟨b, o + m * 7 + 3, none⟩ = some (.int .i64 q.val.v.nu) ∧ W'.cell? ⟨b, o + m * 7 + 4, none⟩ = some (.slice q.val.a1 q.val.v.st.length q.val.c1) ∧ W'.cell? ⟨b, o + m * 7 + 5, none⟩ = some (.slice q.val.a2 q.val.v.ix.length q.val.c2) ∧ W'.cell? ⟨b, o + m * 7 + 6, none⟩ = some (.slice q.val.a3 q.val.v.xs.length q.val.c3) ∧ W'.cell? ⟨w.heap.size, 0, none⟩ = some (.string y.nm) ∧ W'.cell? ⟨w.heap.size, 1, none⟩ = some (.slice y.A y.args.length y.c) ∧ W'.cell? ⟨w.heap.size, 2, none⟩ = some (.int .i64 y.val.v.so) ∧ W'.cell? ⟨w.heap.size, 3, none⟩ = some (.int .i64 y.val.v.nu) ∧ W'.cell? ⟨w.heap.size, 4, none⟩ = some (.slice y.val.a1 y.val.v.st.length y.val.c1) ∧ W'.cell? ⟨w.heap.size, 5, none⟩ = some (.slice y.val.a2 y.val.v.ix.length y.val.c2) ∧ W'.cell? ⟨w.heap.size, 6, none⟩ = some (.slice y.val.a3 y.val.v.xs.length y.val.c3))
          ((go_split_ands; refine K6.out _ ?_; first | exact (RowKit.Below.refl _ _).drew | (exact below_trans2 (by assumption) (by assumption))))
          (first
            | (go_at_call 26; go_split_ands; refine (KC.out _ (by assumption)).mono ?_; rintro e w4 ⟨rfl, b4⟩))
        all_goals
          go_split_ands
          have hfin : RowKit.Below wr.heap.size wr w4 := by assumption
          have B5 := Lib.hid (hB.out.trans (hfin.mono hB.out.size))
          clear hfin
          go_wp2_with fail
          go_roundw
          case rel => exact ⟨m + 1, hi, by go_num, rfl, by omega, hin, I3.out hx, I2, B5.out⟩
          case measure => simp [intOf]; omega
      · have hx' : decide (x < 0) = false := decide_eq_false hx
        go_wp2_with fail
        rw [Em.out]
        go_region_held3 (fun W' => RowKit.Below wr.heap.size wr W' ∧ W'.cell? ⟨b, o + m * 7, none⟩ = some (.string q.nm) ∧ W'.cell? ⟨b, o + m * 7 + 1, none⟩ = some (.slice q.A q.args.length q.c) ∧ W'.cell? ⟨b, o + m * 7 + 2, none⟩ = some (.int .i64 q.val.v.so) ∧ W'.cell? ⟨b, o + m * 7 + 3, none⟩ = some (.int .i64 q.val.v.nu) ∧ W'.cell? ⟨b, o + m * 7 + 4, none⟩ = some (.slice q.val.a1 q.val.v.st.length q.val.c1) ∧ W'.cell? ⟨b, o + m * 7 + 5, none⟩ = some (.slice q.val.a2 q.val.v.ix.length q.val.c2) ∧ W'.cell? ⟨b, o + m * 7 + 6, none⟩ = some (.slice q.val.a3 q.val.v.xs.length q.val.c3) ∧ W'.cell? ⟨w.heap.size, 0, none⟩ = some (.string y.nm) ∧ W'.cell? ⟨w.heap.size, 1, none⟩ = some (.slice y.A y.args.length y.c) ∧ W'.cell? ⟨w.heap.size, 2, none⟩ = some (.int .i64 y.val.v.so) ∧ W'.cell? ⟨w.heap.size, 3, none⟩ = some (.int .i64 y.val.v.nu) ∧ W'.cell? ⟨w.heap.size, 4, none⟩ = some (.slice y.val.a1 y.val.v.st.length y.val.c1) ∧ W'.cell? ⟨w.heap.size, 5, none⟩ = some (.slice y.val.a2 y.val.v.ix.length y.val.c2) ∧ W'.cell? ⟨w.heap.size, 6, none⟩ = some (.slice y.val.a3 y.val.v.xs.length y.val.c3))
          ((go_split_ands; refine K6.out _ ?_; first | exact (RowKit.Below.refl _ _).drew | (exact below_trans2 (by assumption) (by assumption))))
          (first
            | (go_at_call 26; go_split_ands; refine (KC.out _ (by assumption)).mono ?_; rintro e w4 ⟨rfl, b4⟩))
        all_goals
          go_split_ands
          have hfin : RowKit.Below wr.heap.size wr w4 := by assumption
          have B5 := Lib.hid (hB.out.trans (hfin.mono hB.out.size))
          clear hfin
          go_wp2_with fail
          go_roundw
          case rel => exact ⟨lo, m, rfl, by go_num, by omega, by omega, I1, I4.out hx, B5.out⟩
          case measure => simp [intOf]; omega
    · obtain rfl : hi = lo := by omega
      by_cases hn : hi < l.length
      · have hh := Lib.hid (hitE_in (l := l) (y := y) hn)
        obtain ⟨b, o, ha, hc⟩ := HLr.at_
        have ha := ha (by omega)
        have X := hc hi hn
        have HX := Lib.hid (HLr.each hi hn)
        have HYr := Lib.hid (HY.out.later hB.out)
        have KC0 := fun W' (h : RowKit.Below wr.heap.size wr W') => compareE_any l[hi] y W' (HX.out.later h) (HYr.out.later h)
        generalize l[hi] = q at *
        generalize hx0 : cmpE q y = x at *
        clear HM HL HLr hc hx0
        rw [ha] at *
        have K6 := Lib.hid (fun W' (h : RowKit.Below wr.heap.size wr W') => (show (fun W' => RowKit.Below wr.heap.size wr W' ∧ W'.cell? ⟨b, o + hi * 7, none⟩ = some (.string q.nm) ∧ W'.cell? ⟨b, o + hi * 7 + 1, none⟩ = some (.slice q.A q.args.length q.c) ∧ W'.cell? ⟨b, o + hi * 7 + 2, none⟩ = some (.int .i64 q.val.v.so) ∧ W'.cell? ⟨b, o + hi * 7 + 3, none⟩ = some (.int .i64 q.val.v.nu) ∧ W'.cell? ⟨b, o + hi * 7 + 4, none⟩ = some (.slice q.val.a1 q.val.v.st.length q.val.c1) ∧ W'.cell? ⟨b, o + hi * 7 + 5, none⟩ = some (.slice q.val.a2 q.val.v.ix.length q.val.c2) ∧ W'.cell? ⟨b, o + hi * 7 + 6, none⟩ = some (.slice q.val.a3 q.val.v.xs.length q.val.c3) ∧ W'.cell? ⟨w.heap.size, 0, none⟩ = some (.string y.nm) ∧ W'.cell? ⟨w.heap.size, 1, none⟩ = some (.slice y.A y.args.length y.c) ∧ W'.cell? ⟨w.heap.size, 2, none⟩ = some (.int .i64 y.val.v.so) ∧ W'.cell? ⟨w.heap.size, 3, none⟩ = some (.int .i64 y.val.v.nu) ∧ W'.cell? ⟨w.heap.size, 4, none⟩ = some (.slice y.val.a1 y.val.v.st.length y.val.c1) ∧ W'.cell? ⟨w.heap.size, 5, none⟩ = some (.slice y.val.a2 y.val.v.ix.length y.val.c2) ∧ W'.cell? ⟨w.heap.size, 6, none⟩ = some (.slice y.val.a3 y.val.v.xs.length y.val.c3)) W' from ⟨h, (X.later h).c0, (X.later h).c1, (X.later h).c2, (X.later h).c3, (X.later h).c4, (X.later h).c5, (X.later h).c6, by have := (Y.later h).c0; simpa only [Nat.zero_add] using this, by have := (Y.later h).c1; simpa only [Nat.zero_add] using this, by have := (Y.later h).c2; simpa only [Nat.zero_add] using this, by have := (Y.later h).c3; simpa only [Nat.zero_add] using this, by have := (Y.later h).c4; simpa only [Nat.zero_add] using this, by have := (Y.later h).c5; simpa only [Nat.zero_add] using this, by have := (Y.later h).c6; simpa only [Nat.zero_add] using this⟩))
        have KC := Lib.hid KC0
        clear KC0 X Y HX HYr
        go_wp2_with fail
        go_region_held3 (fun W' => RowKit.Below wr.heap.size wr W' ∧ W'.cell? ⟨b, o + hi * 7, none⟩ = some (.string q.nm) ∧ W'.cell? ⟨b, o + hi * 7 + 1, none⟩ = some (.slice q.A q.args.length q.c) ∧ W'.cell? ⟨b, o + hi * 7 + 2, none⟩ = some (.int .i64 q.val.v.so) ∧ W'.cell? ⟨b, o + hi * 7 + 3, none⟩ = some (.int .i64 q.val.v.nu) ∧ W'.cell? ⟨b, o + hi * 7 + 4, none⟩ = some (.slice q.val.a1 q.val.v.st.length q.val.c1) ∧ W'.cell? ⟨b, o + hi * 7 + 5, none⟩ = some (.slice q.val.a2 q.val.v.ix.length q.val.c2) ∧ W'.cell? ⟨b, o + hi * 7 + 6, none⟩ = some (.slice q.val.a3 q.val.v.xs.length q.val.c3) ∧ W'.cell? ⟨w.heap.size, 0, none⟩ = some (.string y.nm) ∧ W'.cell? ⟨w.heap.size, 1, none⟩ = some (.slice y.A y.args.length y.c) ∧ W'.cell? ⟨w.heap.size, 2, none⟩ = some (.int .i64 y.val.v.so) ∧ W'.cell? ⟨w.heap.size, 3, none⟩ = some (.int .i64 y.val.v.nu) ∧ W'.cell? ⟨w.heap.size, 4, none⟩ = some (.slice y.val.a1 y.val.v.st.length y.val.c1) ∧ W'.cell? ⟨w.heap.size, 5, none⟩ = some (.slice y.val.a2 y.val.v.ix.length y.val.c2) ∧ W'.cell? ⟨w.heap.size, 6, none⟩ = some (.slice y.val.a3 y.val.v.xs.length y.val.c3))
          ((go_split_ands; refine K6.out _ ?_; first | exact (RowKit.Below.refl _ _).drew | (exact below_trans2 (by assumption) (by assumption))))
          (first
            | (go_at_call 26; go_split_ands; refine (KC.out _ (by assumption)).mono ?_; rintro e w4 ⟨rfl, b4⟩))
        all_goals
          go_split_ands
          have hfin : RowKit.Below wr.heap.size wr w4 := by assumption
          have B5 := Lib.hid (HBx.out.trans ((hB.out.trans (hfin.mono hB.out.size)).mono HBx.out.size))
          clear hfin
          go_wp2_with fail
          go_ret2
          exact ⟨⟨hi, hin, by rw [hh.out]; rfl, I1.out, I2.out⟩, B5.out⟩
      · have hh := Lib.hid (hitE_out (l := l) (y := y) (i := hi) (by omega))
        clear HM HL HLr Y
        go_wp2_with fail
        go_quiet (fail)
        have hB1 := Lib.hid (HBx.out.trans ((below_drewN hB.out nq).mono HBx.out.size))
        go_wp2_with fail
        go_ret2
        exact ⟨⟨hi, hin, by rw [hh.out]; rfl, I1.out, I2.out⟩, hB1.out⟩
end Go.Proofs.Ytmeeombadkgneaa
