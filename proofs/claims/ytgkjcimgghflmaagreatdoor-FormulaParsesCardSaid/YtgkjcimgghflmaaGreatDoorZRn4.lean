/-
  What the document's own Parse returns: the node of a whole text, or its first fault; conditions: none.
-/
import Derived.Test.YtgkjcimgghflmaaGreatDoorZPx0
import Derived.Test.YtgkjcimgghflmaaGreatDoorZRefCheck
import Derived.Test.YtgkjcimgghflmaaGreatDoorZRm6
namespace Go.Proofs.YtgkjcimgghflmaaGreatDoor
set_option maxRecDepth 100000
set_option maxHeartbeats 8000000
open Go.RowKit Go.Shelf
def Paid (s : ByteArray) (w a : Nat) : PR → Prop
 | .ok t b => b ≤ s.size ∧ cnt t + 2 * a ≤ w + 2 * b
 | _ => True
theorem Paid.bind {s : ByteArray} {w w' a a' : Nat} {r : PR} {k : Nd → Nat → PR} (h : Paid s w a r) (hk : ∀ t b, b ≤ s.size → cnt t + 2 * a ≤ w + 2 * b → Paid s w' a' (k t b)) : Paid s w' a' (r.bind k) := by
 cases r with
 | ok t b => exact hk t b h.1 h.2
 | err e w => trivial
 | out => trivial
theorem Paid.opn {s : ByteArray} {w a o : Nat} {r : PR} (h : Paid s w a r) : Paid s w a (opn o r) := by
 unfold Go.Proofs.YtgkjcimgghflmaaGreatDoor.opn
 split
 ·trivial
 ·exact h
theorem Paid.want {s : ByteArray} {w a a0 : Nat} {t : List UInt8} {k : Nat → PR} (ha : a0 ≤ s.size) (ht : t ≠ []) (h : ∀ a1, a0 + 1 ≤ a1 → a1 ≤ s.size → Paid s w a (k a1)) : Paid s w a (want s t a0 k) := by
 unfold Go.Proofs.YtgkjcimgghflmaaGreatDoor.want
 split
 ·rename_i e
  obtain ⟨n1, n2⟩ := nxt_lt ha e ht
  exact h _ (by omega) n2
 ·trivial
theorem Paid.number {s : ByteArray} {w a a0 : Nat} {k : Nat → Nat → PR} (ha : a0 ≤ s.size) (ht : isNum (T s a0) = true) (h : ∀ n a1, a0 + 1 ≤ a1 → a1 ≤ s.size → Paid s w a (k n a1)) : Paid s w a (number s a0 k) := by
 unfold Go.Proofs.YtgkjcimgghflmaaGreatDoor.number
 split
 ·trivial
 ·split
  ·trivial
  ·obtain ⟨n1, n2⟩ := nxt_lt ha rfl (isNum_ne ht)
   exact h _ _ (by omega) n2
theorem Paid.mono {s : ByteArray} {w w' a a' : Nat} {r : PR} (h : Paid s w a r) (hw : w + 2 * a' ≤ w' + 2 * a) : Paid s w' a' r := by
 cases r with
 | ok t b => exact ⟨h.1, by have := h.2; omega⟩
 | err e w => trivial
 | out => trivial
def sumC (ks : List Nd) : Nat := (ks.map cnt).sum
theorem sumC_snoc (ks : List Nd) (k : Nd) : sumC (ks ++ [k]) = sumC ks + cnt k := by simp [sumC]
def payN : NT → Nat
 | .orL l => cnt l
 | .andL l => cnt l
 | .sumL l => cnt l
 | .app _ ks => 1 + sumC ks
 | .word _ _ ks => 1 + sumC ks
 | _ => 0
theorem cnt_two (op : Int) (l r : Nd) : cnt (twoN op l r) = 1 + cnt l + cnt r := by rw [cnt_eq]; simp [twoN, Nd.ks]; omega
theorem cnt_one (op : Int) (k : Nd) : cnt (oneN op k) = 1 + cnt k := by rw [cnt_eq]; simp [oneN, Nd.ks]
theorem cnt_int (n : Int) : cnt (intN n) = 1 := by rw [cnt_eq]; rfl
theorem cnt_leaf (op : Int) : cnt (leafN op) = 1 := by rw [cnt_eq]; rfl
theorem cnt_mk (op so : Int) (nm : ByteArray) (nu : Int) (ks : List Nd) : cnt (.mk op so nm nu ks) = 1 + sumC ks := cnt_eq _
theorem cnt_cmp (t : List UInt8) (l r : Nd) : cnt (cmpN2 t l r) ≤ 2 + cnt l + cnt r := by
 unfold cmpN2
 repeat' split
 all_goals simp only [cnt_two, cnt_one]
 all_goals omega
theorem isCmp_ne {t : List UInt8} (h : isCmp t = true) : t ≠ [] := fun e => by rw [e] at h; exact absurd h (by decide)
theorem paid (s : ByteArray) : ∀ (f : Nat) (nt : NT) (o a : Nat), a ≤ s.size → Paid s (payN nt) a (PA s f nt o a) := by
 intro f
 induction f with
 | zero => intros; trivial
 | succ f ih =>
  intro nt o a ha
  cases nt with
  | form =>
   rw [PA]
   refine (ih .imp o a ha).bind fun t b hb h1 => ?_
   have h1 : cnt t + 2 * a ≤ 0 + 2 * b := h1
   split
   ·rename_i e
    obtain ⟨n1, n2⟩ := nxt_lt hb e (by decide)
    refine Paid.opn ((ih .form _ _ n2).bind fun u c hc h2 => ?_)
    have h2 : cnt u + 2 * nxt s b ≤ 0 + 2 * c := h2
    exact ⟨hc, by rw [cnt_two]; simp only [payN]; omega⟩
   ·exact ⟨hb, by simp only [payN]; omega⟩
  | imp =>
   rw [PA]
   refine (ih .or o a ha).bind fun t b hb h1 => ?_
   have h1 : cnt t + 2 * a ≤ 0 + 2 * b := h1
   split
   ·rename_i e
    obtain ⟨n1, n2⟩ := nxt_lt hb e (by decide)
    refine Paid.opn ((ih .imp _ _ n2).bind fun u c hc h2 => ?_)
    have h2 : cnt u + 2 * nxt s b ≤ 0 + 2 * c := h2
    exact ⟨hc, by rw [cnt_two]; simp only [payN]; omega⟩
   ·exact ⟨hb, by simp only [payN]; omega⟩
  | or =>
   rw [PA]
   refine (ih .and o a ha).bind fun t b hb h1 => ?_
   have h1 : cnt t + 2 * a ≤ 0 + 2 * b := h1
   exact (ih (.orL t) o b hb).mono (by simp only [payN]; omega)
  | orL l =>
   rw [PA]
   split
   ·rename_i e
    obtain ⟨n1, n2⟩ := nxt_lt ha e (by decide)
    refine (ih .and _ _ n2).bind fun u c hc h2 => ?_
    have h2 : cnt u + 2 * nxt s a ≤ 0 + 2 * c := h2
    exact (ih (.orL (twoN 34 l u)) o c hc).mono (by simp only [payN, cnt_two]; omega)
   ·exact ⟨ha, by simp only [payN]; omega⟩
  | and =>
   rw [PA]
   refine (ih .not o a ha).bind fun t b hb h1 => ?_
   have h1 : cnt t + 2 * a ≤ 0 + 2 * b := h1
   exact (ih (.andL t) o b hb).mono (by simp only [payN]; omega)
  | andL l =>
   rw [PA]
   split
   ·rename_i e
    obtain ⟨n1, n2⟩ := nxt_lt ha e (by decide)
    refine (ih .not _ _ n2).bind fun u c hc h2 => ?_
    have h2 : cnt u + 2 * nxt s a ≤ 0 + 2 * c := h2
    exact (ih (.andL (twoN 33 l u)) o c hc).mono (by simp only [payN, cnt_two]; omega)
   ·exact ⟨ha, by simp only [payN]; omega⟩
  | not =>
   rw [PA]
   split
   ·rename_i e
    obtain ⟨n1, n2⟩ := nxt_lt ha e (by decide)
    refine Paid.opn ((ih .not _ _ n2).bind fun u c hc h2 => ?_)
    have h2 : cnt u + 2 * nxt s a ≤ 0 + 2 * c := h2
    exact ⟨hc, by rw [cnt_one]; simp only [payN]; omega⟩
   ·exact ih .cmp o a ha
  | cmp =>
   rw [PA]
   refine (ih .sum o a ha).bind fun t b hb h1 => ?_
   have h1 : cnt t + 2 * a ≤ 0 + 2 * b := h1
   split
   ·rename_i e
    obtain ⟨n1, n2⟩ := nxt_lt hb rfl (isCmp_ne e)
    refine (ih .sum _ _ n2).bind fun u c hc h2 => ?_
    have h2 : cnt u + 2 * nxt s b ≤ 0 + 2 * c := h2
    have := cnt_cmp (T s b) t u
    exact ⟨hc, by simp only [payN]; omega⟩
   ·exact ⟨hb, by simp only [payN]; omega⟩
  | sum =>
   rw [PA]
   refine (ih .una o a ha).bind fun t b hb h1 => ?_
   have h1 : cnt t + 2 * a ≤ 0 + 2 * b := h1
   exact (ih (.sumL t) o b hb).mono (by simp only [payN]; omega)
  | sumL l =>
   rw [PA]
   split
   ·rename_i e
    obtain ⟨n1, n2⟩ := nxt_lt ha e (by decide)
    refine (ih .una _ _ n2).bind fun u c hc h2 => ?_
    have h2 : cnt u + 2 * nxt s a ≤ 0 + 2 * c := h2
    exact (ih (.sumL (twoN 5 l u)) o c hc).mono (by simp only [payN, cnt_two]; omega)
   ·split
    ·rename_i e
     obtain ⟨n1, n2⟩ := nxt_lt ha e (by decide)
     refine (ih .una _ _ n2).bind fun u c hc h2 => ?_
     have h2 : cnt u + 2 * nxt s a ≤ 0 + 2 * c := h2
     exact (ih (.sumL (twoN 4 l u)) o c hc).mono (by simp only [payN, cnt_two]; omega)
    ·exact ⟨ha, by simp only [payN]; omega⟩
  | una =>
   rw [PA]
   split
   ·rename_i e
    obtain ⟨n1, n2⟩ := nxt_lt ha e (by decide)
    split
    ·rename_i e2
     exact Paid.number n2 e2.1 fun n a1 h1 h2 => ⟨h2, by rw [cnt_int]; simp only [payN]; omega⟩
    ·refine Paid.opn ((ih .una _ _ n2).bind fun u c hc h2 => ?_)
     have h2 : cnt u + 2 * nxt s a ≤ 0 + 2 * c := h2
     exact ⟨hc, by rw [cnt_one]; simp only [payN]; omega⟩
   ·split
    ·rename_i e
     refine Paid.number ha e fun n b h1 hb => ?_
     split
     ·rename_i e2
      obtain ⟨m1, m2⟩ := nxt_lt hb e2 (by decide)
      refine Paid.opn ((ih .una _ _ m2).bind fun u c hc h2 => ?_)
      have h2 : cnt u + 2 * nxt s b ≤ 0 + 2 * c := h2
      exact ⟨hc, by rw [cnt_mk]; simp only [payN, sumC, List.map_cons, List.map_nil, List.sum_cons, List.sum_nil]; omega⟩
     ·exact ⟨hb, by rw [cnt_int]; simp only [payN]; omega⟩
    ·exact ih .prim o a ha
  | prim =>
   rw [PA]
   split
   ·rename_i e
    obtain ⟨n1, n2⟩ := nxt_lt ha e (by decide)
    refine Paid.opn ((ih .form _ _ n2).bind fun u c hc h2 => ?_)
    have h2 : cnt u + 2 * nxt s a ≤ 0 + 2 * c := h2
    exact Paid.want hc (by decide) fun a1 h3 h4 => ⟨h4, by simp only [payN]; omega⟩
   split
   ·rename_i e
    obtain ⟨n1, n2⟩ := nxt_lt ha e (by decide)
    exact ⟨n2, by rw [cnt_leaf]; simp only [payN]; omega⟩
   split
   ·rename_i e
    obtain ⟨n1, n2⟩ := nxt_lt ha e (by decide)
    exact ⟨n2, by rw [cnt_leaf]; simp only [payN]; omega⟩
   split
   ·rename_i e
    obtain ⟨n1, n2⟩ := nxt_lt ha e (by decide)
    exact ⟨n2, by rw [cnt_leaf]; simp only [payN]; omega⟩
   split
   ·rename_i op n e
    have n2 := nxt_le ha
    refine Paid.want n2.2 (by decide) fun a1 h3 h4 => Paid.opn ((ih (.word op n []) _ _ h4).mono ?_)
    simp only [payN, sumC, List.map_nil, List.sum_nil]; omega
   ·split
    ·rename_i hn
     have hT : T s a ≠ [] := fun e => by rw [e] at hn; exact absurd hn (by decide)
     obtain ⟨n1, n2⟩ := nxt_lt ha rfl hT
     split
     ·rename_i hop
      obtain ⟨m1, m2⟩ := nxt_lt n2 hop (by decide)
      refine Paid.opn ?_
      split
      ·rename_i hcl
       obtain ⟨q1, q2⟩ := nxt_lt m2 hcl (by decide)
       exact ⟨q2, by rw [cnt_mk]; simp only [payN, sumC, List.map_nil, List.sum_nil]; omega⟩
      ·exact (ih (.app (T s a) []) _ _ m2).mono (by simp only [payN, sumC, List.map_nil, List.sum_nil]; omega)
     ·exact ⟨n2, by rw [cnt_mk]; simp only [payN, sumC, List.map_nil, List.sum_nil]; omega⟩
    ·trivial
  | app nm ks =>
   rw [PA]
   split
   ·trivial
   ·refine (ih .form o a ha).bind fun u c hc h2 => ?_
    have h2 : cnt u + 2 * a ≤ 0 + 2 * c := h2
    split
    ·rename_i e
     obtain ⟨n1, n2⟩ := nxt_lt hc e (by decide)
     exact (ih (.app nm (ks ++ [u])) o _ n2).mono (by simp only [payN, sumC_snoc]; omega)
    ·exact Paid.want hc (by decide) fun a1 h3 h4 => ⟨h4, by rw [cnt_mk, sumC_snoc]; simp only [payN]; omega⟩
  | word op n ks =>
   rw [PA]
   split
   ·exact Paid.want ha (by decide) fun a1 h3 h4 => ⟨h4, by rw [cnt_mk]; simp only [payN]; omega⟩
   ·split
    ·refine (ih .form o a ha).bind fun u c hc h2 => ?_
     have h2 : cnt u + 2 * a ≤ 0 + 2 * c := h2
     exact (ih (.word op n (ks ++ [u])) o c hc).mono (by simp only [payN, sumC_snoc]; omega)
    ·refine Paid.want ha (by decide) fun a1 h3 h4 => (ih .form o a1 h4).bind fun u c hc h2 => ?_
     have h2 : cnt u + 2 * a1 ≤ 0 + 2 * c := h2
     exact (ih (.word op n (ks ++ [u])) o c hc).mono (by simp only [payN, sumC_snoc]; omega)
theorem paid_whole {s : ByteArray} {f : Nat} {t : Nd} {b : Nat} (h : PW s f = .ok t b) : cnt t ≤ 2 * s.size := by
 have hp := paid s f .form 0 (bl s 0) (bl_le (Nat.zero_le _)).2
 unfold PW at h
 cases hq : PA s f .form 0 (bl s 0) with
 | out => rw [hq] at h; cases h
 | err er wh => rw [hq] at h; cases h
 | ok t' b' =>
  rw [hq] at h hp
  have h : (if b' < s.size then PR.err 20 b' else .ok t' b') = .ok t b := h
  split at h
  ·cases h
  ·cases h
   obtain ⟨h1, h2⟩ := hp
   simp only [payN] at h2
   omega
end Go.Proofs.YtgkjcimgghflmaaGreatDoor
namespace Go.Proofs.YtgkjcimgghflmaaGreatDoor
set_option maxRecDepth 100000
set_option maxHeartbeats 8000000
open Go.RowKit Go.Shelf
attribute [local go_sem] Oper.semAt_some
theorem rp_long (s : ByteArray) (W : World) (h : 60000 < s.size) : Calls Tryz.prog 8 #[.string s] W (ParP W (.err 2 0)) := by
 have h1 : (60000 : Int) < (s.size : Int) := by omega
 have hB := (Below.refl W.heap.size W).alloc (Nat.le_refl _) (.cells zero5 27)
 clear h
 go_enter Tryz.func8, Tryz.ntmps8
 go_wp2_with fail
 exact bodyPost_ret (v := .tuple #[nv 0 0 noNm 0 (.slice none 0 0), .int .i64 0, .int .i64 2]) (by simp [results, Tryz.results8, go_sem]; rfl) rfl ⟨rfl, hB⟩
theorem rp_err (s : ByteArray) (W : World) (e : Int) (wd : Nat) (h : ¬ 60000 < s.size) (he : e ≠ 0)
  (c : ∀ p w, PSt w p s (bl s 0) 0 0 0 → Calls Tryz.prog 21 #[.pointer (some ⟨p, 0, none⟩)] w (Ret1 p s (fun _ _ _ er wh => er = e ∧ wh = wd) w)) :
  Calls Tryz.prog 8 #[.string s] W (ParP W (.err e wd)) := by
 have h1 : ¬ (60000 : Int) < (s.size : Int) := by omega
 have CB := Lib.hid (show ∀ w, Calls Tryz.prog 20 #[.string s, .int .i64 0] w fun e w' => e = .returned (.int .i64 (bl s 0)) ∧ w = w' from fun w => refBlank_any s 0 (Nat.zero_le _) (by omega) w)
 have HC := Lib.hid c
 have he0 : (e == 0) = false := by simpa using he
 have he1 : (e != 0) = true := by simpa using he
 have R1 := Lib.hid (show ResB W (.int .i64 0) (.int .i64 0) (.string ⟨#[]⟩) (.int .i64 0) (.slice none 0 0) (W.alloc (.cells zero5 27)) from ⟨(Below.refl W.heap.size W).alloc (Nat.le_refl _) _, World.alloc_heap_new W _⟩)
 clear h c he
 go_enter Tryz.func8, Tryz.ntmps8
 go_upto_region 3 with fail
 change Code.wp _ _ _ _ (W.alloc (.cells zero5 27))
 generalize W.alloc (.cells zero5 27) = w1 at *
 go_wp2_with fail
 refine (CB.out _).mono ?_
 rintro r w2 ⟨rfl, rfl⟩
 have hB := (Below.refl w1.heap.size w1).alloc (Nat.le_refl _) (.cells #[.string s, .int .i64 (bl s 0), .int .i64 0, .int .i64 0, .int .i64 0] 50)
 have P2 := Lib.hid (show PSt (w1.alloc (.cells #[.string s, .int .i64 (bl s 0), .int .i64 0, .int .i64 0, .int .i64 0] 50)) w1.heap.size s (bl s 0) 0 0 0 from World.alloc_heap_new _ _)
 have R2 := Lib.hid (R1.out.later hB)
 have hlt := (Array.getElem?_eq_some_iff.1 R1.out.n).1
 clear hB R1 CB
 go_upto_region 4 with fail
 generalize w1.alloc (.cells #[.string s, .int .i64 (bl s 0), .int .i64 0, .int .i64 0, .int .i64 0] 50) = w3 at *
 generalize w1.heap.size = p at *
 go_wp2_with fail
 refine (HC.out p _ P2.out).mono ?_
 rintro r w4 ⟨t, A, cap, a4, o4, er4, wh4, rfl, hr4, hf4, f4, p4, rfl, rfl⟩
 have R4 : ResB W (.int .i64 0) (.int .i64 0) (.string ⟨#[]⟩) (.int .i64 0) (.slice none 0 0) w4 := ⟨R2.out.below.trans (f4.below (by omega) R2.out.below.size), f4.at R2.out.n (by omega)⟩
 obtain ⟨y0, y1, y2, y3, y4, g0, g1, g2, g3, g4⟩ := box_facts R4.n
 have R5 := Lib.hid (R4.set (.int .i64 t.op) (.int .i64 t.so) (.string t.nm) (.int .i64 t.nu) (.slice A t.ks.length cap))
 have P5 := Lib.hid (p4.set5 (x := W.heap.size) (by omega) (.int .i64 t.op) (.int .i64 t.so) (.string t.nm) (.int .i64 t.nu) (.slice A t.ks.length cap))
 clear hr4 hf4 f4 p4 R4 R2 P2 HC
 go_upto_region 5 with fail
 change Code.wp _ _ _ _ (set5 w4 W.heap.size (.int .i64 t.op) (.int .i64 t.so) (.string t.nm) (.int .i64 t.nu) (.slice A t.ks.length cap))
 generalize set5 w4 W.heap.size (.int .i64 t.op) (.int .i64 t.so) (.string t.nm) (.int .i64 t.nu) (.slice A t.ks.length cap) = w5 at *
 clear y0 y1 y2 y3 y4 g0 g1 g2 g3 g4
 obtain ⟨q0, q1, q2, q3, q4, _, _, _, _⟩ := P5.out.cells
 obtain ⟨y0, y1, y2, y3, y4, g0, g1, g2, g3, g4⟩ := box_facts R5.out.n
 have R9 := Lib.hid (R5.out.set (.int .i64 0) (.int .i64 0) (.string ⟨#[]⟩) (.int .i64 0) (.slice none 0 0))
 clear R5 P5
 go_wp2_with fail
 go_region
 all_goals go_wp2_with fail
 all_goals
  change bodyPost _ _ _ _ _ (set5 w5 W.heap.size (.int .i64 0) (.int .i64 0) (.string ⟨#[]⟩) (.int .i64 0) (.slice none 0 0)).drew
  generalize set5 w5 W.heap.size (.int .i64 0) (.int .i64 0) (.string ⟨#[]⟩) (.int .i64 0) (.slice none 0 0) = w9 at *
  have hB := R9.out.below.drew
  obtain ⟨z0, z1, z2, z3, z4, _, _, _, _, _⟩ := box_facts (w := w9.drew) R9.out.n
  clear R9
  exact bodyPost_ret (v := .tuple #[nv 0 0 noNm 0 (.slice none 0 0), .int .i64 wh4, .int .i64 er4]) (by simp [results, Tryz.results8, go_sem, z0, z1, z2, z3, z4]; rfl) rfl ⟨rfl, hB⟩
theorem rp_more (s : ByteArray) (W : World) (b : Nat) (h : ¬ 60000 < s.size) (hb : b < s.size)
  (c : ∀ p w, PSt w p s (bl s 0) 0 0 0 → Calls Tryz.prog 21 #[.pointer (some ⟨p, 0, none⟩)] w (Ret1 p s (fun _ a _ er wh => a = b ∧ er = 0 ∧ wh = 0) w)) :
  Calls Tryz.prog 8 #[.string s] W (ParP W (.err 20 b)) := by
 have h1 : ¬ (60000 : Int) < (s.size : Int) := by omega
 have CB := Lib.hid (show ∀ w, Calls Tryz.prog 20 #[.string s, .int .i64 0] w fun e w' => e = .returned (.int .i64 (bl s 0)) ∧ w = w' from fun w => refBlank_any s 0 (Nat.zero_le _) (by omega) w)
 have HC := Lib.hid c
 have hbi : (b : Int) < (s.size : Int) := by omega
 have R1 := Lib.hid (show ResB W (.int .i64 0) (.int .i64 0) (.string ⟨#[]⟩) (.int .i64 0) (.slice none 0 0) (W.alloc (.cells zero5 27)) from ⟨(Below.refl W.heap.size W).alloc (Nat.le_refl _) _, World.alloc_heap_new W _⟩)
 clear h c hb
 go_enter Tryz.func8, Tryz.ntmps8
 go_upto_region 3 with fail
 change Code.wp _ _ _ _ (W.alloc (.cells zero5 27))
 generalize W.alloc (.cells zero5 27) = w1 at *
 go_wp2_with fail
 refine (CB.out _).mono ?_
 rintro r w2 ⟨rfl, rfl⟩
 have hB := (Below.refl w1.heap.size w1).alloc (Nat.le_refl _) (.cells #[.string s, .int .i64 (bl s 0), .int .i64 0, .int .i64 0, .int .i64 0] 50)
 have P2 := Lib.hid (show PSt (w1.alloc (.cells #[.string s, .int .i64 (bl s 0), .int .i64 0, .int .i64 0, .int .i64 0] 50)) w1.heap.size s (bl s 0) 0 0 0 from World.alloc_heap_new _ _)
 have R2 := Lib.hid (R1.out.later hB)
 have hlt := (Array.getElem?_eq_some_iff.1 R1.out.n).1
 clear hB R1 CB
 go_upto_region 4 with fail
 generalize w1.alloc (.cells #[.string s, .int .i64 (bl s 0), .int .i64 0, .int .i64 0, .int .i64 0] 50) = w3 at *
 generalize w1.heap.size = p at *
 go_wp2_with fail
 refine (HC.out p _ P2.out).mono ?_
 rintro r w4 ⟨t, A, cap, a4, o4, er4, wh4, rfl, hr4, hf4, f4, p4, rfl, rfl, rfl⟩
 have R4 : ResB W (.int .i64 0) (.int .i64 0) (.string ⟨#[]⟩) (.int .i64 0) (.slice none 0 0) w4 := ⟨R2.out.below.trans (f4.below (by omega) R2.out.below.size), f4.at R2.out.n (by omega)⟩
 obtain ⟨y0, y1, y2, y3, y4, g0, g1, g2, g3, g4⟩ := box_facts R4.n
 have R5 := Lib.hid (R4.set (.int .i64 t.op) (.int .i64 t.so) (.string t.nm) (.int .i64 t.nu) (.slice A t.ks.length cap))
 have P5 := Lib.hid (p4.set5 (x := W.heap.size) (by omega) (.int .i64 t.op) (.int .i64 t.so) (.string t.nm) (.int .i64 t.nu) (.slice A t.ks.length cap))
 clear hr4 hf4 f4 p4 R4 R2 P2 HC
 go_upto_region 5 with fail
 change Code.wp _ _ _ _ (set5 w4 W.heap.size (.int .i64 t.op) (.int .i64 t.so) (.string t.nm) (.int .i64 t.nu) (.slice A t.ks.length cap))
 generalize set5 w4 W.heap.size (.int .i64 t.op) (.int .i64 t.so) (.string t.nm) (.int .i64 t.nu) (.slice A t.ks.length cap) = w5 at *
 clear y0 y1 y2 y3 y4 g0 g1 g2 g3 g4
 obtain ⟨q0, q1, q2, q3, q4, _, _, _, _⟩ := P5.out.cells
 obtain ⟨y0, y1, y2, y3, y4, g0, g1, g2, g3, g4⟩ := box_facts R5.out.n
 have cf := fail_live p s a4 o4 0 w5 P5.out
 go_wp2_with fail
 refine cf.mono ?_
 rintro r w6 ⟨rfl, p6, f6⟩
 have R6 : ResB W (.int .i64 t.op) (.int .i64 t.so) (.string t.nm) (.int .i64 t.nu) (.slice A t.ks.length cap) w6 := ⟨R5.out.below.trans (f6.below (by omega) R5.out.below.size), f6.at R5.out.n (by omega)⟩
 clear y0 y1 y2 y3 y4 g0 g1 g2 g3 g4 q0 q1 q2 q3 q4
 obtain ⟨q0, q1, q2, q3, q4, _, _, _, _⟩ := p6.cells
 obtain ⟨y0, y1, y2, y3, y4, g0, g1, g2, g3, g4⟩ := box_facts R6.n
 have R9 := Lib.hid (R6.set (.int .i64 0) (.int .i64 0) (.string ⟨#[]⟩) (.int .i64 0) (.slice none 0 0))
 clear R5 P5 R6 p6 f6 cf
 go_wp2_with fail
 go_region
 all_goals go_wp2_with fail
 all_goals
  change bodyPost _ _ _ _ _ (set5 w6 W.heap.size (.int .i64 0) (.int .i64 0) (.string ⟨#[]⟩) (.int .i64 0) (.slice none 0 0)).drew
  generalize set5 w6 W.heap.size (.int .i64 0) (.int .i64 0) (.string ⟨#[]⟩) (.int .i64 0) (.slice none 0 0) = w9 at *
  have hB := R9.out.below.drew
  obtain ⟨z0, z1, z2, z3, z4, _, _, _, _, _⟩ := box_facts (w := w9.drew) R9.out.n
  clear R9
  exact bodyPost_ret (v := .tuple #[nv 0 0 noNm 0 (.slice none 0 0), .int .i64 a4, .int .i64 20]) (by simp [results, Tryz.results8, go_sem, z0, z1, z2, z3, z4]; rfl) rfl ⟨rfl, hB⟩
theorem rp_big1 (s : ByteArray) (W : World) (t : Nd) (b : Nat) (h : ¬ 60000 < s.size) (hb : ¬ b < s.size) (z : Int) (hz : sizeW t = z) (hzb : 4000 < z)
  (c : ∀ p w, PSt w p s (bl s 0) 0 0 0 → Calls Tryz.prog 21 #[.pointer (some ⟨p, 0, none⟩)] w (Ret1 p s (fun u a _ er wh => u = t ∧ a = b ∧ er = 0 ∧ wh = 0) w)) :
  Calls Tryz.prog 8 #[.string s] W (ParP W (.err 2 0)) := by
 have h1 : ¬ (60000 : Int) < (s.size : Int) := by omega
 have CB := Lib.hid (show ∀ w, Calls Tryz.prog 20 #[.string s, .int .i64 0] w fun e w' => e = .returned (.int .i64 (bl s 0)) ∧ w = w' from fun w => refBlank_any s 0 (Nat.zero_le _) (by omega) w)
 have HC := Lib.hid c
 have hbi : ¬ (b : Int) < (s.size : Int) := by omega
 have CZ := Lib.hid (fun (A : Option Addr) (cap : Nat) (w : World) (hL : Lies w A cap t.ks) => refSize_any t A cap w hL)
 have CV := Lib.hid (fun (A : Option Addr) (cap : Nat) (w : World) (hL : Lies w A cap t.ks) => refLevels_any t A cap w hL)
 rw [hz] at CZ
 have R1 := Lib.hid (show ResB W (.int .i64 0) (.int .i64 0) (.string ⟨#[]⟩) (.int .i64 0) (.slice none 0 0) (W.alloc (.cells zero5 27)) from ⟨(Below.refl W.heap.size W).alloc (Nat.le_refl _) _, World.alloc_heap_new W _⟩)
 clear h c hb hz
 go_enter Tryz.func8, Tryz.ntmps8
 go_upto_region 3 with fail
 change Code.wp _ _ _ _ (W.alloc (.cells zero5 27))
 generalize W.alloc (.cells zero5 27) = w1 at *
 go_wp2_with fail
 refine (CB.out _).mono ?_
 rintro r w2 ⟨rfl, rfl⟩
 have hB := (Below.refl w1.heap.size w1).alloc (Nat.le_refl _) (.cells #[.string s, .int .i64 (bl s 0), .int .i64 0, .int .i64 0, .int .i64 0] 50)
 have P2 := Lib.hid (show PSt (w1.alloc (.cells #[.string s, .int .i64 (bl s 0), .int .i64 0, .int .i64 0, .int .i64 0] 50)) w1.heap.size s (bl s 0) 0 0 0 from World.alloc_heap_new _ _)
 have R2 := Lib.hid (R1.out.later hB)
 have hlt := (Array.getElem?_eq_some_iff.1 R1.out.n).1
 clear hB R1 CB
 go_upto_region 4 with fail
 generalize w1.alloc (.cells #[.string s, .int .i64 (bl s 0), .int .i64 0, .int .i64 0, .int .i64 0] 50) = w3 at *
 generalize w1.heap.size = p at *
 go_wp2_with fail
 refine (HC.out p _ P2.out).mono ?_
 rintro r w4 ⟨t, A, cap, a4, o4, er4, wh4, rfl, hr4, hf4, f4, p4, rfl, rfl, rfl, rfl⟩
 have R4 : ResB W (.int .i64 0) (.int .i64 0) (.string ⟨#[]⟩) (.int .i64 0) (.slice none 0 0) w4 := ⟨R2.out.below.trans (f4.below (by omega) R2.out.below.size), f4.at R2.out.n (by omega)⟩
 have hlt3 : W.heap.size < w3.heap.size := Nat.lt_trans hlt P2.out.lt
 have RB5 := Lib.hid (hr4.set5 (n1 := W.heap.size + 1) (b := W.heap.size) hlt3 hlt3 (.int .i64 t.op) (.int .i64 t.so) (.string t.nm) (.int .i64 t.nu) (.slice A t.ks.length cap))
 have HF := Lib.hid hf4
 obtain ⟨y0, y1, y2, y3, y4, g0, g1, g2, g3, g4⟩ := box_facts R4.n
 have R5 := Lib.hid (R4.set (.int .i64 t.op) (.int .i64 t.so) (.string t.nm) (.int .i64 t.nu) (.slice A t.ks.length cap))
 have P5 := Lib.hid (p4.set5 (x := W.heap.size) (by omega) (.int .i64 t.op) (.int .i64 t.so) (.string t.nm) (.int .i64 t.nu) (.slice A t.ks.length cap))
 clear hr4 hf4 f4 p4 R4 R2 P2 HC
 go_upto_region 5 with fail
 change Code.wp _ _ _ _ (set5 w4 W.heap.size (.int .i64 t.op) (.int .i64 t.so) (.string t.nm) (.int .i64 t.nu) (.slice A t.ks.length cap))
 generalize set5 w4 W.heap.size (.int .i64 t.op) (.int .i64 t.so) (.string t.nm) (.int .i64 t.nu) (.slice A t.ks.length cap) = w5 at *
 clear y0 y1 y2 y3 y4 g0 g1 g2 g3 g4
 obtain ⟨q0, q1, q2, q3, q4, _, _, _, _⟩ := P5.out.cells
 obtain ⟨y0, y1, y2, y3, y4, g0, g1, g2, g3, g4⟩ := box_facts R5.out.n
 have cz := CZ.out A cap w5 RB5.out.lies
 go_wp2_with fail
 refine cz.mono ?_
 rintro r w6 ⟨rfl, b6⟩
 have R6 := Lib.hid (R5.out.later b6)
 have RB6 := Lib.hid (RB5.out.later b6)
 clear cz b6 y0 y1 y2 y3 y4 g0 g1 g2 g3 g4 q0 q1 q2 q3 q4 R5 P5 RB5
 obtain ⟨y0, y1, y2, y3, y4, g0, g1, g2, g3, g4⟩ := box_facts R6.out.n
 have R9 := Lib.hid (R6.out.set (.int .i64 0) (.int .i64 0) (.string ⟨#[]⟩) (.int .i64 0) (.slice none 0 0))
 clear R6
 go_wp2_with fail
 clear y0 y1 y2 y3 y4 g0 g1 g2 g3 g4
 change bodyPost _ _ _ _ _ (set5 w6 W.heap.size (.int .i64 0) (.int .i64 0) (.string ⟨#[]⟩) (.int .i64 0) (.slice none 0 0))
 generalize set5 w6 W.heap.size (.int .i64 0) (.int .i64 0) (.string ⟨#[]⟩) (.int .i64 0) (.slice none 0 0) = w9 at *
 obtain ⟨y0, y1, y2, y3, y4, g0, g1, g2, g3, g4⟩ := box_facts R9.out.n
 have hB := R9.out.below
 clear R9
 exact bodyPost_ret (v := .tuple #[nv 0 0 noNm 0 (.slice none 0 0), .int .i64 0, .int .i64 2]) (by simp [results, Tryz.results8, go_sem, y0, y1, y2, y3, y4]; rfl) rfl ⟨rfl, hB⟩
theorem rp_big2 (s : ByteArray) (W : World) (t : Nd) (b : Nat) (h : ¬ 60000 < s.size) (hb : ¬ b < s.size) (z v : Int) (hz : sizeW t = z) (hv : levW t = v) (hzb : ¬ 4000 < z) (hvb : 100 < v)
  (c : ∀ p w, PSt w p s (bl s 0) 0 0 0 → Calls Tryz.prog 21 #[.pointer (some ⟨p, 0, none⟩)] w (Ret1 p s (fun u a _ er wh => u = t ∧ a = b ∧ er = 0 ∧ wh = 0) w)) :
  Calls Tryz.prog 8 #[.string s] W (ParP W (.err 2 0)) := by
 have h1 : ¬ (60000 : Int) < (s.size : Int) := by omega
 have CB := Lib.hid (show ∀ w, Calls Tryz.prog 20 #[.string s, .int .i64 0] w fun e w' => e = .returned (.int .i64 (bl s 0)) ∧ w = w' from fun w => refBlank_any s 0 (Nat.zero_le _) (by omega) w)
 have HC := Lib.hid c
 have hbi : ¬ (b : Int) < (s.size : Int) := by omega
 have CZ := Lib.hid (fun (A : Option Addr) (cap : Nat) (w : World) (hL : Lies w A cap t.ks) => refSize_any t A cap w hL)
 have CV := Lib.hid (fun (A : Option Addr) (cap : Nat) (w : World) (hL : Lies w A cap t.ks) => refLevels_any t A cap w hL)
 rw [hz] at CZ
 rw [hv] at CV
 have R1 := Lib.hid (show ResB W (.int .i64 0) (.int .i64 0) (.string ⟨#[]⟩) (.int .i64 0) (.slice none 0 0) (W.alloc (.cells zero5 27)) from ⟨(Below.refl W.heap.size W).alloc (Nat.le_refl _) _, World.alloc_heap_new W _⟩)
 clear h c hb hz hv
 go_enter Tryz.func8, Tryz.ntmps8
 go_upto_region 3 with fail
 change Code.wp _ _ _ _ (W.alloc (.cells zero5 27))
 generalize W.alloc (.cells zero5 27) = w1 at *
 go_wp2_with fail
 refine (CB.out _).mono ?_
 rintro r w2 ⟨rfl, rfl⟩
 have hB := (Below.refl w1.heap.size w1).alloc (Nat.le_refl _) (.cells #[.string s, .int .i64 (bl s 0), .int .i64 0, .int .i64 0, .int .i64 0] 50)
 have P2 := Lib.hid (show PSt (w1.alloc (.cells #[.string s, .int .i64 (bl s 0), .int .i64 0, .int .i64 0, .int .i64 0] 50)) w1.heap.size s (bl s 0) 0 0 0 from World.alloc_heap_new _ _)
 have R2 := Lib.hid (R1.out.later hB)
 have hlt := (Array.getElem?_eq_some_iff.1 R1.out.n).1
 clear hB R1 CB
 go_upto_region 4 with fail
 generalize w1.alloc (.cells #[.string s, .int .i64 (bl s 0), .int .i64 0, .int .i64 0, .int .i64 0] 50) = w3 at *
 generalize w1.heap.size = p at *
 go_wp2_with fail
 refine (HC.out p _ P2.out).mono ?_
 rintro r w4 ⟨t, A, cap, a4, o4, er4, wh4, rfl, hr4, hf4, f4, p4, rfl, rfl, rfl, rfl⟩
 have R4 : ResB W (.int .i64 0) (.int .i64 0) (.string ⟨#[]⟩) (.int .i64 0) (.slice none 0 0) w4 := ⟨R2.out.below.trans (f4.below (by omega) R2.out.below.size), f4.at R2.out.n (by omega)⟩
 have hlt3 : W.heap.size < w3.heap.size := Nat.lt_trans hlt P2.out.lt
 have RB5 := Lib.hid (hr4.set5 (n1 := W.heap.size + 1) (b := W.heap.size) hlt3 hlt3 (.int .i64 t.op) (.int .i64 t.so) (.string t.nm) (.int .i64 t.nu) (.slice A t.ks.length cap))
 have HF := Lib.hid hf4
 obtain ⟨y0, y1, y2, y3, y4, g0, g1, g2, g3, g4⟩ := box_facts R4.n
 have R5 := Lib.hid (R4.set (.int .i64 t.op) (.int .i64 t.so) (.string t.nm) (.int .i64 t.nu) (.slice A t.ks.length cap))
 have P5 := Lib.hid (p4.set5 (x := W.heap.size) (by omega) (.int .i64 t.op) (.int .i64 t.so) (.string t.nm) (.int .i64 t.nu) (.slice A t.ks.length cap))
 clear hr4 hf4 f4 p4 R4 R2 P2 HC
 go_upto_region 5 with fail
 change Code.wp _ _ _ _ (set5 w4 W.heap.size (.int .i64 t.op) (.int .i64 t.so) (.string t.nm) (.int .i64 t.nu) (.slice A t.ks.length cap))
 generalize set5 w4 W.heap.size (.int .i64 t.op) (.int .i64 t.so) (.string t.nm) (.int .i64 t.nu) (.slice A t.ks.length cap) = w5 at *
 clear y0 y1 y2 y3 y4 g0 g1 g2 g3 g4
 obtain ⟨q0, q1, q2, q3, q4, _, _, _, _⟩ := P5.out.cells
 obtain ⟨y0, y1, y2, y3, y4, g0, g1, g2, g3, g4⟩ := box_facts R5.out.n
 have cz := CZ.out A cap w5 RB5.out.lies
 go_wp2_with fail
 refine cz.mono ?_
 rintro r w6 ⟨rfl, b6⟩
 have R6 := Lib.hid (R5.out.later b6)
 have RB6 := Lib.hid (RB5.out.later b6)
 clear cz b6 y0 y1 y2 y3 y4 g0 g1 g2 g3 g4 q0 q1 q2 q3 q4 R5 P5 RB5
 obtain ⟨y0, y1, y2, y3, y4, g0, g1, g2, g3, g4⟩ := box_facts R6.out.n
 have cv := CV.out A cap w6 RB6.out.lies
 go_wp2_with fail
 refine cv.mono ?_
 rintro r w7 ⟨rfl, b7⟩
 have R7 := Lib.hid (R6.out.later b7)
 have RB7 := Lib.hid (RB6.out.later b7)
 clear cv b7 y0 y1 y2 y3 y4 g0 g1 g2 g3 g4 R6 RB6
 obtain ⟨y0, y1, y2, y3, y4, g0, g1, g2, g3, g4⟩ := box_facts R7.out.n
 have R9 := Lib.hid (R7.out.set (.int .i64 0) (.int .i64 0) (.string ⟨#[]⟩) (.int .i64 0) (.slice none 0 0))
 clear R7
 go_wp2_with fail
 clear y0 y1 y2 y3 y4 g0 g1 g2 g3 g4
 change bodyPost _ _ _ _ _ (set5 w7 W.heap.size (.int .i64 0) (.int .i64 0) (.string ⟨#[]⟩) (.int .i64 0) (.slice none 0 0))
 generalize set5 w7 W.heap.size (.int .i64 0) (.int .i64 0) (.string ⟨#[]⟩) (.int .i64 0) (.slice none 0 0) = w9 at *
 obtain ⟨y0, y1, y2, y3, y4, g0, g1, g2, g3, g4⟩ := box_facts R9.out.n
 have hB := R9.out.below
 clear R9
 exact bodyPost_ret (v := .tuple #[nv 0 0 noNm 0 (.slice none 0 0), .int .i64 0, .int .i64 2]) (by simp [results, Tryz.results8, go_sem, y0, y1, y2, y3, y4]; rfl) rfl ⟨rfl, hB⟩
theorem rp_ok (s : ByteArray) (W : World) (t : Nd) (b : Nat) (h : ¬ 60000 < s.size) (hb : ¬ b < s.size) (z v : Int) (hz : sizeW t = z) (hv : levW t = v) (hzb : ¬ 4000 < z) (hvb : ¬ 100 < v)
  (c : ∀ p w, PSt w p s (bl s 0) 0 0 0 → Calls Tryz.prog 21 #[.pointer (some ⟨p, 0, none⟩)] w (Ret1 p s (fun u a _ er wh => u = t ∧ a = b ∧ er = 0 ∧ wh = 0) w)) :
  Calls Tryz.prog 8 #[.string s] W (ParP W (.ok t b)) := by
 have h1 : ¬ (60000 : Int) < (s.size : Int) := by omega
 have CB := Lib.hid (show ∀ w, Calls Tryz.prog 20 #[.string s, .int .i64 0] w fun e w' => e = .returned (.int .i64 (bl s 0)) ∧ w = w' from fun w => refBlank_any s 0 (Nat.zero_le _) (by omega) w)
 have HC := Lib.hid c
 have hbi : ¬ (b : Int) < (s.size : Int) := by omega
 have CZ := Lib.hid (fun (A : Option Addr) (cap : Nat) (w : World) (hL : Lies w A cap t.ks) => refSize_any t A cap w hL)
 have CV := Lib.hid (fun (A : Option Addr) (cap : Nat) (w : World) (hL : Lies w A cap t.ks) => refLevels_any t A cap w hL)
 rw [hz] at CZ
 rw [hv] at CV
 have R1 := Lib.hid (show ResB W (.int .i64 0) (.int .i64 0) (.string ⟨#[]⟩) (.int .i64 0) (.slice none 0 0) (W.alloc (.cells zero5 27)) from ⟨(Below.refl W.heap.size W).alloc (Nat.le_refl _) _, World.alloc_heap_new W _⟩)
 clear h c hb hz hv
 go_enter Tryz.func8, Tryz.ntmps8
 go_upto_region 3 with fail
 change Code.wp _ _ _ _ (W.alloc (.cells zero5 27))
 generalize W.alloc (.cells zero5 27) = w1 at *
 go_wp2_with fail
 refine (CB.out _).mono ?_
 rintro r w2 ⟨rfl, rfl⟩
 have hB := (Below.refl w1.heap.size w1).alloc (Nat.le_refl _) (.cells #[.string s, .int .i64 (bl s 0), .int .i64 0, .int .i64 0, .int .i64 0] 50)
 have P2 := Lib.hid (show PSt (w1.alloc (.cells #[.string s, .int .i64 (bl s 0), .int .i64 0, .int .i64 0, .int .i64 0] 50)) w1.heap.size s (bl s 0) 0 0 0 from World.alloc_heap_new _ _)
 have R2 := Lib.hid (R1.out.later hB)
 have hlt := (Array.getElem?_eq_some_iff.1 R1.out.n).1
 clear hB R1 CB
 go_upto_region 4 with fail
 generalize w1.alloc (.cells #[.string s, .int .i64 (bl s 0), .int .i64 0, .int .i64 0, .int .i64 0] 50) = w3 at *
 generalize w1.heap.size = p at *
 go_wp2_with fail
 refine (HC.out p _ P2.out).mono ?_
 rintro r w4 ⟨t, A, cap, a4, o4, er4, wh4, rfl, hr4, hf4, f4, p4, rfl, rfl, rfl, rfl⟩
 have R4 : ResB W (.int .i64 0) (.int .i64 0) (.string ⟨#[]⟩) (.int .i64 0) (.slice none 0 0) w4 := ⟨R2.out.below.trans (f4.below (by omega) R2.out.below.size), f4.at R2.out.n (by omega)⟩
 have hlt3 : W.heap.size < w3.heap.size := Nat.lt_trans hlt P2.out.lt
 have RB5 := Lib.hid (hr4.set5 (n1 := W.heap.size + 1) (b := W.heap.size) hlt3 hlt3 (.int .i64 t.op) (.int .i64 t.so) (.string t.nm) (.int .i64 t.nu) (.slice A t.ks.length cap))
 have HF := Lib.hid hf4
 obtain ⟨y0, y1, y2, y3, y4, g0, g1, g2, g3, g4⟩ := box_facts R4.n
 have R5 := Lib.hid (R4.set (.int .i64 t.op) (.int .i64 t.so) (.string t.nm) (.int .i64 t.nu) (.slice A t.ks.length cap))
 have P5 := Lib.hid (p4.set5 (x := W.heap.size) (by omega) (.int .i64 t.op) (.int .i64 t.so) (.string t.nm) (.int .i64 t.nu) (.slice A t.ks.length cap))
 clear hr4 hf4 f4 p4 R4 R2 P2 HC
 go_upto_region 5 with fail
 change Code.wp _ _ _ _ (set5 w4 W.heap.size (.int .i64 t.op) (.int .i64 t.so) (.string t.nm) (.int .i64 t.nu) (.slice A t.ks.length cap))
 generalize set5 w4 W.heap.size (.int .i64 t.op) (.int .i64 t.so) (.string t.nm) (.int .i64 t.nu) (.slice A t.ks.length cap) = w5 at *
 clear y0 y1 y2 y3 y4 g0 g1 g2 g3 g4
 obtain ⟨q0, q1, q2, q3, q4, _, _, _, _⟩ := P5.out.cells
 obtain ⟨y0, y1, y2, y3, y4, g0, g1, g2, g3, g4⟩ := box_facts R5.out.n
 have cz := CZ.out A cap w5 RB5.out.lies
 go_wp2_with fail
 refine cz.mono ?_
 rintro r w6 ⟨rfl, b6⟩
 have R6 := Lib.hid (R5.out.later b6)
 have RB6 := Lib.hid (RB5.out.later b6)
 clear cz b6 y0 y1 y2 y3 y4 g0 g1 g2 g3 g4 q0 q1 q2 q3 q4 R5 P5 RB5
 obtain ⟨y0, y1, y2, y3, y4, g0, g1, g2, g3, g4⟩ := box_facts R6.out.n
 have cv := CV.out A cap w6 RB6.out.lies
 go_wp2_with fail
 refine cv.mono ?_
 rintro r w7 ⟨rfl, b7⟩
 have R7 := Lib.hid (R6.out.later b7)
 have RB7 := Lib.hid (RB6.out.later b7)
 clear cv b7 y0 y1 y2 y3 y4 g0 g1 g2 g3 g4 R6 RB6
 obtain ⟨y0, y1, y2, y3, y4, g0, g1, g2, g3, g4⟩ := box_facts R7.out.n
 have R9 := Lib.hid (R7.out.set (.int .i64 t.op) (.int .i64 t.so) (.string t.nm) (.int .i64 t.nu) (.slice A t.ks.length cap))
 have RB9 := Lib.hid (RB7.out.set5 (n1 := W.heap.size) (b := W.heap.size) (by omega) (by omega) (.int .i64 t.op) (.int .i64 t.so) (.string t.nm) (.int .i64 t.nu) (.slice A t.ks.length cap))
 clear R7 RB7
 go_wp2_with fail
 clear y0 y1 y2 y3 y4 g0 g1 g2 g3 g4
 change bodyPost _ _ _ _ _ (set5 w7 W.heap.size (.int .i64 t.op) (.int .i64 t.so) (.string t.nm) (.int .i64 t.nu) (.slice A t.ks.length cap))
 generalize set5 w7 W.heap.size (.int .i64 t.op) (.int .i64 t.so) (.string t.nm) (.int .i64 t.nu) (.slice A t.ks.length cap) = w9 at *
 obtain ⟨y0, y1, y2, y3, y4, g0, g1, g2, g3, g4⟩ := box_facts R9.out.n
 have hB := R9.out.below
 have hR := RB9.out
 have hF := HF.out
 clear R9 RB9 HF
 exact bodyPost_ret (v := .tuple #[nv t.op t.so t.nm t.nu (.slice A t.ks.length cap), .int .i64 0, .int .i64 0]) (by simp [results, Tryz.results8, go_sem, y0, y1, y2, y3, y4]) rfl ⟨A, cap, rfl, hR, hF, hB⟩
theorem refParse_any (s : ByteArray) (W : World) : Calls Tryz.prog 8 #[.string s] W (ParP W (parR s)) := by
 unfold parR
 by_cases h : 60000 < s.size
 ·rw [if_pos h]; exact rp_long s W h
 rw [if_neg h]
 have hs : s.size ≤ 9223372036854775000 := by omega
 have ha : bl s 0 ≤ s.size := (bl_le (Nat.zero_le _)).2
 have hf : 32 * (s.size - bl s 0) + rank .form < 32 * s.size + 17 := by simp [rank]; omega
 have c : ∀ p w, PSt w p s (bl s 0) 0 0 0 → Calls Tryz.prog 21 #[.pointer (some ⟨p, 0, none⟩)] w (Ret1 p s (ZR s (bl s 0) 0 (PA s (32 * s.size + 17) .form 0 (bl s 0))) w) := fun p w hp => formulaD_any s hs _ p 0 _ w hp ha (by omega) hf
 have he := errs s (32 * s.size + 17) .form 0 (bl s 0)
 have hen := enough s (32 * s.size + 17) .form 0 (bl s 0) ha hf
 have hpw : PW s (32 * s.size + 17) = (PA s (32 * s.size + 17) .form 0 (bl s 0)).bind fun n a => if a < s.size then .err 20 a else .ok n a := rfl
 have hpd := fun t b (h : PW s (32 * s.size + 17) = .ok t b) => paid_whole h
 cases hq : PA s (32 * s.size + 17) .form 0 (bl s 0) with
 | out => rw [hq] at hen; exact hen.elim
 | err er wh =>
  rw [hq] at c he hpw
  rw [hpw]
  exact rp_err s W er wh h (by rcases he with rfl | rfl <;> decide) fun p w hp => (c p w hp).mono fun e W' ⟨t, A, cap, a, o, er', wh', h1, h2, h3, h4, h5, h6⟩ => ⟨t, A, cap, a, o, er', wh', h1, h2, h3, h4, h5, h6.2.2.1, h6.2.2.2.1⟩
 | ok t b =>
  rw [hq] at c hpw
  have c' : ∀ p w, PSt w p s (bl s 0) 0 0 0 → Calls Tryz.prog 21 #[.pointer (some ⟨p, 0, none⟩)] w (Ret1 p s (fun u a _ er wh => u = t ∧ a = b ∧ er = 0 ∧ wh = 0) w) := fun p w hp => (c p w hp).mono fun e W' ⟨t', A, cap, a, o, er', wh', h1, h2, h3, h4, h5, h6⟩ => ⟨t', A, cap, a, o, er', wh', h1, h2, h3, h4, h5, h6.2.2.1, h6.2.2.2.1, h6.2.2.2.2.2.1, h6.2.2.2.2.2.2⟩
  have hpw : PW s (32 * s.size + 17) = if b < s.size then .err 20 b else .ok t b := hpw
  by_cases hb : b < s.size
  ·rw [if_pos hb] at hpw
   rw [hpw]
   exact rp_more s W b h hb fun p w hp => (c' p w hp).mono fun e W' ⟨t', A, cap, a, o, er', wh', h1, h2, h3, h4, h5, h6⟩ => ⟨t', A, cap, a, o, er', wh', h1, h2, h3, h4, h5, h6.2.1, h6.2.2.1, h6.2.2.2⟩
  ·rw [if_neg hb] at hpw
   have hc := hpd t b hpw
   have hle := lim_eq t (by omega)
   rw [hpw]
   show Calls Tryz.prog 8 _ W (ParP W (if limB (preN 1 t) = true then _ else _))
   rw [hle]
   by_cases hz : 4000 < sizeW t
   ·rw [decide_eq_false (by simp [hz]), if_neg (by decide)]
    exact rp_big1 s W t b h hb _ rfl hz c'
   by_cases hv : 100 < levW t
   ·rw [decide_eq_false (by simp [hv]), if_neg (by decide)]
    exact rp_big2 s W t b h hb _ _ rfl rfl hz hv c'
   ·rw [decide_eq_true (by simp [hz, hv]), if_pos rfl]
    exact rp_ok s W t b h hb _ _ rfl rfl hz hv c'
end Go.Proofs.YtgkjcimgghflmaaGreatDoor
