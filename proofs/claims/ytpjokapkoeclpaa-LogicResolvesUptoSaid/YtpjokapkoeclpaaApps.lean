/-
  What package logic's Apps returns: the applications in order, each once, copied; conditions: the tree lies in memory and has few nodes.
-/
import Derived.Test.YtpjokapkoeclpaaVars
import Derived.Test.YtpjokapkoeclpaaCopyOf
import Derived.Test.YtpjokapkoeclpaaRefCheck
namespace Go.Proofs.Ytpjokapkoeclpaa
open Go.RowKit Go.Shelf

attribute [local go_sem] Oper.semAt_some
/-- A node put into a sorted list of nodes, once; the applications of nodes. -/
def insN (d : Nd) (l : List Nd) : List Nd := insL (fun x => cmpN x d == 0) (fun x => decide (0 < cmpN x d)) d l
def gsN (l : List Nd) (y : Nd) : List Nd := if y.op = 3 then insN y l else l
theorem insL_map {α β : Type} (f : α → β) (eq lt : β → Bool) (d : α) : ∀ l, (insL (fun x => eq (f x)) (fun x => lt (f x)) d l).map f = insL eq lt (f d) (l.map f)
  | [] => rfl
  | x :: xs => by
    rw [insL, List.map_cons, insL]
    split
    · rfl
    · split
      · rfl
      · rw [List.map_cons, insL_map f eq lt d xs]
theorem insA_map (d : NdA) (l : List NdA) : (insA d l).map (·.1) = insN d.1 (l.map (·.1)) := insL_map (fun x : NdA => x.1) (fun x => cmpN x d.1 == 0) (fun x => decide (0 < cmpN x d.1)) d l

theorem insL_len {α : Type} (eq lt : α → Bool) (d : α) : ∀ l, (insL eq lt d l).length ≤ l.length + 1
  | [] => by simp [insL]
  | x :: xs => by
    rw [insL]
    split
    · simp
    · split
      · simp
      · have := insL_len eq lt d xs; simp; omega
theorem insA_len (d : NdA) (l : List NdA) : (insA d l).length ≤ l.length + 1 := insL_len _ _ _ _
theorem insL_mem {α : Type} (eq lt : α → Bool) (d y : α) : ∀ l, y ∈ insL eq lt d l → y = d ∨ y ∈ l
  | [] => by simp [insL]
  | x :: xs => by
    rw [insL]
    split
    · exact .inr
    · split
      · intro h; exact List.mem_cons.1 h
      · intro h
        rcases List.mem_cons.1 h with h | h
        · exact .inr (by simp [h])
        · exact (insL_mem eq lt d y xs h).imp id (fun h => List.mem_cons_of_mem _ h)
theorem insA_sorted (d : NdA) : ∀ l : List NdA, l.Pairwise ltA → (insA d l).Pairwise ltA
  | [], _ => by simp [insA, insL]
  | x :: xs, h => by
    unfold insA
    rw [insL]
    obtain ⟨h1, h2⟩ := List.pairwise_cons.1 h
    have hneg := (cmp_all d.1).1 x.1
    split
    · exact h
    · rename_i he
      have he : cmpN x.1 d.1 ≠ 0 := by simpa using he
      split
      · rename_i hlt
        have hlt : 0 < cmpN x.1 d.1 := by simpa using hlt
        have hd : cmpN d.1 x.1 < 0 := by omega
        refine List.pairwise_cons.2 ⟨fun y hy => ?_, h⟩
        rcases List.mem_cons.1 hy with rfl | hy
        · exact hd
        · have q := h1 y hy
          unfold ltA at q ⊢
          have t := (cmp_all d.1).2.2.2 x.1 y.1
          unfold Tri at t
          have := t (by omega) (by omega)
          omega
      · rename_i hlt
        have hlt : ¬ 0 < cmpN x.1 d.1 := by simpa using hlt
        have ih := insA_sorted d xs h2
        refine List.pairwise_cons.2 ⟨fun y hy => ?_, ih⟩
        rcases insL_mem _ _ _ _ _ hy with rfl | hy
        · show cmpN x.1 y.1 < 0
          omega
        · exact h1 y hy

def appsOf {w0 : World} (pre : List (El w0)) : List NdA := pre.foldl (fun l x => if x.t.op = 3 then insA (x.t, x.A, x.cap) l else l) []
theorem appsOf_snoc {w0 : World} (pre : List (El w0)) (x : El w0) : appsOf (pre ++ [x]) = if x.t.op = 3 then insA (x.t, x.A, x.cap) (appsOf pre) else appsOf pre := by simp [appsOf]
theorem snoc_ind {α : Type} {p : List α → Prop} (h0 : p []) (h1 : ∀ l x, p l → p (l ++ [x])) (l : List α) : p l := by
  have : ∀ n (l : List α), l.length = n → p l := by
    intro n
    induction n with
    | zero => intro l h; obtain rfl := List.length_eq_zero_iff.1 h; exact h0
    | succ n ih =>
      intro l h
      have hne : l ≠ [] := by intro e; rw [e] at h; simp at h
      rw [← List.dropLast_concat_getLast hne]
      exact h1 _ _ (ih _ (by simp [h]))
  exact this _ l rfl
theorem appsOf_all {w0 : World} (pre : List (El w0)) : (appsOf pre).length ≤ pre.length ∧ (appsOf pre).Pairwise ltA ∧ (∀ x ∈ appsOf pre, Lies w0 x.2.1 x.2.2 x.1.ks ∧ Fine x.1 ∧ ∃ y ∈ pre, y.t = x.1) ∧ (appsOf pre).map (·.1) = (pre.map (·.t)).foldl gsN [] := by
  induction pre using snoc_ind with
  | h0 => exact ⟨Nat.le_refl _, List.Pairwise.nil, fun x h => by simp [appsOf] at h, rfl⟩
  | h1 l x ih =>
    obtain ⟨i1, i2, i3, i4⟩ := ih
    rw [appsOf_snoc, List.map_append, List.foldl_append, ← i4]
    simp only [List.map_cons, List.map_nil, List.foldl_cons, List.foldl_nil]
    unfold gsN
    by_cases h : x.t.op = 3
    · rw [if_pos h, if_pos h]
      refine ⟨by have := insA_len (x.t, x.A, x.cap) (appsOf l); simp only [List.length_append, List.length_cons, List.length_nil]; omega, insA_sorted _ _ i2, fun y hy => ?_, insA_map _ _⟩
      rcases insL_mem _ _ _ _ _ hy with rfl | hy
      · exact ⟨x.lies, x.fine, x, by simp, rfl⟩
      · obtain ⟨a, b, c, hc, e⟩ := i3 y hy
        exact ⟨a, b, c, by simp [hc], e⟩
    · rw [if_neg h, if_neg h]
      refine ⟨by simp; omega, i2, fun y hy => ?_, rfl⟩
      obtain ⟨a, b, c, hc, e⟩ := i3 y hy
      exact ⟨a, b, c, by simp [hc], e⟩

theorem cnt_mem (t : Nd) : ∀ y ∈ nodesOf t, cnt y ≤ cnt t := by
  induction t using Nd.ind with
  | h t ih =>
  intro y hy
  rw [nodesOf_eq] at hy
  rcases List.mem_cons.1 hy with rfl | hy
  · exact Nat.le_refl _
  · obtain ⟨k, hk, hy⟩ := List.mem_flatMap.1 hy
    obtain ⟨i, hi, rfl⟩ := List.getElem_of_mem hk
    have := ih i hi y hy
    have := cnt_kid hk
    omega
theorem len_cnt (t : Nd) : t.ks.length + 1 ≤ cnt t := by
  rw [cnt_eq]
  have : ∀ l : List Nd, l.length ≤ (l.map cnt).sum := by
    intro l
    induction l with
    | nil => simp
    | cons x xs ih =>
      have := cnt_eq x
      simp only [List.length_cons, List.map_cons, List.sum_cons]
      omega
  have := this t.ks
  omega
theorem short_cnt {t : Nd} (h : cnt t ≤ 1048576) : Short t := fun y hy => by
  have := cnt_mem t y hy
  have := len_cnt y
  omega

set_option maxRecDepth 100000 in
set_option maxHeartbeats 4000000 in
theorem apps_any (t : Nd) (A : Option Addr) (cap : Nat) (w : World) (hL : Lies w A cap t.ks) (hfine : Fine t) (hcnt : cnt t ≤ 1048576) :
    Calls Try.prog 29 #[nv t.op t.so t.nm t.nu (.slice A t.ks.length cap)] w (RetL w ((nodesOf t).foldl gsN [])) := by
  obtain ⟨xs, hxs, hst⟩ := walk_own t A cap w hL hfine
  have hgl : (nodesOf t).foldl gsN [] = (appsOf xs).map (·.1) := by
    rw [(appsOf_all xs).2.2.2]
    unfold nodesOf
    rw [← hxs, List.map_map]
    rfl
  have hlen : xs.length ≤ 1048576 := by rw [← pre_cnt, ← hxs, List.length_map] at hcnt; exact hcnt
  have hsh : ∀ x ∈ appsOf xs, Short x.1 := fun x hx => by
    obtain ⟨_, _, y, hy, e⟩ := (appsOf_all xs).2.2.1 x hx
    have hm : x.1 ∈ nodesOf t := by
      unfold nodesOf
      rw [← hxs, List.map_map, ← e]
      exact List.mem_map.2 ⟨y, hy, rfl⟩
    exact short_cnt (Nat.le_trans (cnt_mem t _ hm) hcnt)
  rw [hgl]
  have HSH := Lib.hid hsh
  clear hxs hgl hcnt hsh
  refine callsIn_wide (n := 9).1 ?_
  refine callsIn_of_wp_marks Try.func29 rfl trivial ?_ rfl
  simp only [Try.ntmps29, List.size_toArray, List.length_cons, List.length_nil, Nat.reduceAdd, Nat.reduceSub, Array.replicate_succ, Array.replicate_zero, List.push_toArray, List.append_toArray, List.nil_append, List.cons_append]
  have H := Lib.hid hst
  have HL := Lib.hid hL
  clear hst hL
  gi_wp2_with (refine ⟨trivial, ?_⟩; gi_at_call 53; refine (walkClo_any _ _ _ _ _ _ _).mono ?_; rintro e w' ⟨rfl, rfl⟩)
  have hB0 : Below w.heap.size w (((w.alloc (boxO t (.slice A t.ks.length cap))).alloc (.cells #[.slice none 0 0] 22)).alloc (boxO t (.slice A t.ks.length cap))) :=
    (((Below.refl _ w).alloc (Nat.le_refl _) _).alloc (by simp) _).alloc (by simp; omega) _
  have r0 := cell_new_l (w.alloc (boxO t (.slice A t.ks.length cap))) (.slice none 0 0) 22
  have c1 := five_new ((w.alloc (boxO t (.slice A t.ks.length cap))).alloc (.cells #[.slice none 0 0] 22)) t (.slice A t.ks.length cap) 24
  simp only [World.size_alloc] at c1 r0
  refine wpIn_rangeFunc_ownH rfl (by decide) (gf := 86) (lb := #[.pointer (some ⟨w.heap.size + 1 + 1, 0, none⟩)]) rfl trivial (enters_of Try.func86 (by kernel_rfl) rfl)
    (H.out _ _ _ (w.heap.size + 1) hB0 c1 (cell_alloc_l _ r0.1)) KpO.trans (kpO_b (by simp; omega) (by simp)) (Below.refl _ _) (fun _ => rfl)
    (fun (pre : List (El w)) W => RowAt (w.heap.size + 1) (w.heap.size + 1 + 1) 24 5 (appsOf pre).length (flatN (appsOf pre)) W ∧ Below w.heap.size w W)
    (fun _ _ _ => False)
    (OwnFrom.and (Own.from (fun s' X Y row hs hg hr => hs.kept hg hr) _) (ownFrom_below (Nat.le_refl _) (by simp; omega)))
    (fun _ _ _ _ _ hs _ _ => hs)
    ⟨⟨_, cell_alloc_l _ r0.1, frozen_alloc_l _ r0.1 r0.2, World.ownsRow_nil _ _ _ _⟩, hB0⟩
    (fun x a' W => BoxAt (fun Bx => { tmps := #[nv t.op t.so t.nm t.nu (.slice A t.ks.length cap), .pointer (some ⟨w.heap.size, 0, none⟩), .slice none 0 0, .pointer (some ⟨w.heap.size + 1, 0, none⟩), undef, .pointer (some ⟨Bx, 0, none⟩), nv t.op t.so t.nm t.nu (.slice A t.ks.length cap), .func (.func 86) #[] #[.pointer (some ⟨w.heap.size + 1 + 1, 0, none⟩)], .int .i64 x.lv, nv x.t.op x.t.so x.t.nm x.t.nu (.slice x.A x.t.ks.length x.cap), undef, undef, undef, undef, undef, undef, undef, undef], defers := [] }) x a' W)
    (fun x a' => boxAt_own _ _ x a') ?assign ?body ?done ?stop
  case assign =>
    rintro l pre x W K ⟨hp, hB⟩ hK
    have hp := Lib.hid hp
    have HK := Lib.hid hK
    clear H HL hB0 r0 c1 hK
    simp only [encE]
    gi_wp2
    have hsz := hB.size
    have hN : w.heap.size + 1 < W.heap.size := by
      obtain ⟨v, hr, _⟩ := hp.out
      exact World.block_lt_of_cell? _ _ hr
    exact HK.out _ _ (KeepsFrom.alloc _ _ _) ((KpO.refl _ _ _ W).alloc hB.size hN _) ⟨hp.out.kept (World.grownBy_alloc W _ none) (fun r e => by cases e), hB.alloc hB.size _⟩ ⟨W.heap.size, five_new _ _ _ _, rfl⟩
  case body =>
    rintro l pre x a' W hl hrec ⟨⟨v, hr, hrf, hv⟩, hB⟩ ⟨Bx, hx5, rfl⟩ hpl
    have HB := Lib.hid hB
    have HV := Lib.hid hv
    obtain ⟨a0, a1, a2, a3, a4⟩ := hx5
    have hall := Lib.hid (appsOf_all pre)
    have hdl := hall.out.1
    have hsn := Lib.hid (appsOf_snoc pre x)
    have hN := World.block_lt_of_cell? _ _ hr
    clear H HL hB0 r0 c1 hrec hB hv
    by_cases ho : x.t.op = 3
    case neg =>
      have ho' : (x.t.op == 3) = false := by simpa using ho
      have hsame := Lib.hid (show appsOf (pre ++ [x]) = appsOf pre from hsn.out.trans (if_neg ho))
      clear ho
      gi_wp2_with fail
      exact ⟨KeepsFrom.refl _ _, KpO.refl _ _ _ _, by rw [hsame.out]; exact ⟨v, hr, hrf, HV.out⟩, HB.out⟩
    have ho' : (x.t.op == 3) = true := by simpa using ho
    have hsame := Lib.hid (show appsOf (pre ++ [x]) = insA (x.t, x.A, x.cap) (appsOf pre) from hsn.out.trans (if_pos ho))
    clear ho
    gi_wp2_with fail
    refine ⟨trivial, ?_⟩
    refine (CallsIn.inRound l (callsIn_wide.2 (insertN_any (appsOf pre) (x.t, x.A, x.cap) v (w.heap.size + 1 + 1) W HV.out (fun y hy => ⟨(hall.out.2.2.1 y hy).1.later HB.out, (hall.out.2.2.1 y hy).2.1⟩) hN (by omega) hall.out.2.1 (x.lies.later HB.out)))).mono ?_
    rintro e w1 ⟨v', rfl, hown, hg, hor⟩
    have hvv : ∃ A7 cap7, v' = .slice A7 (insA (x.t, x.A, x.cap) (appsOf pre)).length cap7 := by
      rcases hown.2 with ⟨h1, h2⟩ | ⟨g, c, cur, h1, _⟩
      · exact ⟨none, 0, by rw [h1, h2]⟩
      · exact ⟨_, _, h1⟩
    obtain ⟨A7, cap7, rfl⟩ := hvv
    have HKE := Lib.hid (round_kept (N := w.heap.size + 1) (m₀ := w.heap.size + 1 + 1 + 1) HB.out (by omega) (by omega) (by omega) hr hrf HV.out hown hg hor)
    have hr1 : w1.cell? ⟨w.heap.size + 1, 0, none⟩ = some v := (World.cell?_of_block (w := W) (w' := w1) (a := ⟨w.heap.size + 1, 0, none⟩) (hg.block _ hN (fun e => by have h : w.heap.size + 1 + 1 ≤ w.heap.size + 1 := (ownsRow_own HV.out e.symm).1; omega))).trans hr
    have hrf1 : w1.frozen? ⟨w.heap.size + 1, 0, none⟩ = false := (World.frozen?_of_block (w := W) (w' := w1) (a := ⟨w.heap.size + 1, 0, none⟩) (hg.block _ hN (fun e => by have h : w.heap.size + 1 + 1 ≤ w.heap.size + 1 := (ownsRow_own HV.out e.symm).1; omega))).trans hrf
    clear hown hg hor hr hrf a0 a1 a2 a3 a4
    gi_wp2_with fail
    obtain ⟨k1, k2, k3, k4, k5, k6⟩ := HKE.out
    refine ⟨by simpa using k1, by simpa using k2, ?_, k6⟩
    rw [hsame.out]
    exact ⟨_, k3, k4, k5⟩
  case done =>
    rintro D ys W hD rfl ⟨⟨v, hr, hrf, hv⟩, hB⟩ hK
    have hall := appsOf_all ys
    have hl2 : (appsOf ys).length ≤ 1048576 := Nat.le_trans hall.1 hlen
    obtain ⟨A', cap', rfl, hlies⟩ := lies_of_row hv (fun y hy => ⟨(hall.2.2.1 y hy).1.later hB, (hall.2.2.1 y hy).2.1⟩) (by unfold maxLen; omega)
    have HC := Lib.hid (copies_any ((appsOf ys).map (·.1)) A' cap' W hlies (by rw [List.length_map]; omega) (fun i hi A3 C3 W3 hb hl3 => by
      rw [List.length_map] at hi
      simp only [List.getElem_map] at hl3 ⊢
      exact copyOf_any _ _ _ _ hl3 (hall.2.2.1 _ (List.getElem_mem hi)).2.1 (HSH.out _ (List.getElem_mem hi))))
    rw [List.length_map] at HC
    have HB := Lib.hid hB
    have hDw : D < W.heap.size := (Array.getElem?_eq_some_iff.1 hK).1
    have hWw := hB.size
    clear H HL hB0 r0 c1 hv hlies hall hB
    gi_wp2_with fail
    refine ⟨trivial, ?_⟩
    refine (callsIn_wide.2 HC.out).mono ?_
    rintro e w1 ⟨A2, c2, rfl, hrob, hb⟩
    have hK1 := (hb.block D hDw).trans hK
    have HR := Lib.hid hrob
    have HB2 := Lib.hid (HB.out.trans (hb.mono HB.out.size))
    clear hrob hb
    gi_wp2_with fail
    refine ⟨by simp, .inl ⟨_, _, rfl, run_takeDeferred hK1, ?_⟩⟩
    refine ⟨_, results_tmp rfl _ _ _, A2, c2, by first | rfl | (rw [List.length_map]; rfl), fun W' hW' => HR.out W' (fun k h1 h2 h3 => (hW' k (by omega) (by simpa using h2) h3).trans (World.putObj_heap_other (by omega))), HB2.out.trans (belowK_b (w := w) (Nat.le_refl _) w1 D _ _ (by simp at hD; omega) hK1 rfl rfl)⟩
  case stop =>
    rintro D c pre W _ _ h _
    exact h.elim
end Go.Proofs.Ytpjokapkoeclpaa
