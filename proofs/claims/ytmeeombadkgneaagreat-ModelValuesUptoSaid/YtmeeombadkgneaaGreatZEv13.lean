/-
  What the document's insert returns of an ascending list and a number; conditions: the list lies in memory.
  What the document's combine returns of two sets at an intersection and a difference; conditions: the lists lie in memory.
  What the document's combine returns of two ascending sets at a union; conditions: the lists lie in memory.
  What the document's number and scaled return; conditions: the factors are within their bounds.
  What the document's lookup returns of a name and arguments; conditions: the model and the arguments lie in memory.
  What find gives of a model's table is what lookup gives of the model; and a small product is the document's; conditions: none.
-/
import Derived.Test.YtmeeombadkgneaaGreatZEv12
import Derived.Test.YtmeeombadkgneaaGreatZEv4
import Derived.Test.YtmeeombadkgneaaGreatZEv9
namespace Go.Proofs.YtmeeombadkgneaaGreat
open Go.Proofs Go.RowKit Go.Shelf Go.Sort Go.Lib

attribute [local go_sem] Oper.semAt_some
theorem uniI_one_lt {n x : Int} (l : List Int) (h : n < x) : uniI [n] (x :: l) = n :: x :: l := by rw [uniI_lt _ _ h, uniI]
theorem uniI_one_gt {n x : Int} (l : List Int) (h : x < n) : uniI [n] (x :: l) = x :: uniI [n] l := uniI_gt _ _ h
theorem uniI_one_in : ∀ {l : List Int} {n : Int}, AscI l → n ∈ l → uniI [n] l = l
  | [], _, _, h => by simp at h
  | x :: l, n, ha, h => by
    have ha' := List.pairwise_cons.1 ha
    rcases List.mem_cons.1 h with rfl | h
    · rw [uniI_eq _ _ rfl, uniI]
    · rw [uniI_one_gt l (ha'.1 n h), uniI_one_in ha'.2 h]
set_option maxRecDepth 100000 in
set_option maxHeartbeats 4000000 in
theorem refInsert_any (l : List Int) (n : Int) (A : Option Addr) (cap : Nat) (w : World) (hS : Ints w A l) (hl : l.length ≤ 10000) (ha : AscI l) :
    Calls Tryz.prog 154 #[.slice A l.length cap, .int .i64 n] w (RetI w (uniI [n] l)) := by
  obtain ⟨i0, hi, hz0, hz1, hz2⟩ := info_parts info2
  have I0 := Lib.hid hi
  have Z0 := Lib.hid hz0
  have Z1 := Lib.hid hz1
  have Z2 := Lib.hid hz2
  clear hi hz0 hz1 hz2
  have HS := Lib.hid hS
  have HH := Lib.hid (refHas_any l n A cap w hS (by omega))
  have HI := Lib.hid (show decide (n ∈ l) = true → uniI [n] l = l from fun h => uniI_one_in ha (of_decide_eq_true h))
  have HNI := Lib.hid (show decide (n ∈ l) = false → ∀ x ∈ l, x ≠ n from fun h x hx e => by subst e; rw [decide_eq_true hx] at h; cases h)
  clear hS ha
  generalize decide (n ∈ l) = d0 at *
  go_enter Tryz.func154, Tryz.ntmps154
  go_wp2_with fail
  refine HH.out.mono ?_
  rintro e w1 ⟨rfl, rfl⟩
  go_wp2_with fail
  go_loopw [5, 6, 14] (fun o dn i wr => ∃ (k : Nat) (pre : List Int) (d : Bool), k ≤ l.length ∧ i = .int .i64 k ∧ dn = .bool d ∧ Hid (d = false → d0 = false) ∧ Hid (pre.length ≤ k + 1 ∧ (d = false → pre.length ≤ k)) ∧ Hid (uniI [n] l = pre ++ (if d = true then l.drop k else uniI [n] (l.drop k))) ∧ Hid (wr.ownsRow w.heap.size 2 1 o pre.length (intsV pre)) ∧ Hid (RowKit.Below w.heap.size w wr)) (fun _ _ i _ => l.length - (intOf i).toNat)
  case atStart =>
    refine ⟨0, [], d0, Nat.zero_le _, rfl, rfl, fun h => h, ⟨Nat.zero_le _, fun _ => Nat.zero_le _⟩, ?_, World.ownsRow_nil _ _ _ _, RowKit.Below.refl _ _⟩
    show uniI [n] l = [] ++ _
    cases d0 with
    | true => rw [HI.out rfl]; rfl
    | false => rfl
  case round =>
    obtain ⟨k, pre, d, hk, rfl, rfl, hd0, hpl, hu, hown, hB⟩ := hrel
    have hp := hpl.out.1
    have hp2 := Lib.hid hpl.out.2
    by_cases hlt : k < l.length
    · obtain ⟨b, o, hb, hc⟩ := HS.out.later hB.out
      have hb := hb (by omega)
      have c0 := hc k hlt
      have hdr := Lib.hid (show l.drop k = l[k] :: l.drop (k + 1) from List.drop_eq_getElem_cons hlt)
      have hne := Lib.hid (show d = false → l[k] ≠ n from fun h => HNI.out (hd0.out h) _ (List.getElem_mem hlt))
      have HU := Lib.hid hu.out
      have HO0 := Lib.hid hown.out
      have Hg := Lib.hid hown.out.lt
      have HSZ := Lib.hid hB.out.size
      have HO := Lib.hid (fun O => ownsI_below HO0.out (show RowKit.Below wr.heap.size wr (wr.alloc O) from (RowKit.Below.refl _ _).alloc (Nat.le_refl _) _))
      have HLB := Lib.hid (fun O => show w.heap.size ≤ (wr.alloc O).heap.size by have := HSZ.out; rw [one_size]; omega)
      have L3 := Lib.hid (show pre.length + 1 ≤ maxLen by unfold maxLen; omega)
      have L4 := Lib.hid (show (pre.length + 1) * 8 ≤ 140737488355328 by omega)
      generalize l[k] = x at *
      clear hc hown hpl hu
      rw [hb] at *
      cases d
      case true =>
        have HF := Lib.hid (show uniI [n] l = (pre ++ [x]) ++ l.drop (k + 1) by rw [HU.out, if_pos rfl, hdr.out]; simp)
        clear HU hdr hne
        go_wp2_with (at_builtin; refine wpList_append_own _ rfl _ _ 25 rfl w.heap.size 2 i0 (.int .i64 0) 1 8 Tryz.underlying25 I0.out Z0.out Z1.out Z2.out rfl (by decide) u5 (pre).length (intsV (pre)) rfl (HO.out _) ⟨wr.heap.size, 0, none⟩ 1 1 [.int .i64 x] rfl rfl (news1 _ _ _ rfl) (by simp [Value.oneCell']) L3.out L4.out (HLB.out _) ?_; intro v1 w4 hown1 hgrow1 _)
        have hBn : RowKit.Below w.heap.size w w4 := (hB.out.alloc HSZ.out _).grown hgrow1 (HLB.out _) (fun k e => (Hg.out k e).1)
        go_roundw
        case rel => exact ⟨k + 1, pre ++ [x], true, by omega, by go_num, rfl, hd0.out, (show (pre ++ [x]).length ≤ k + 1 + 1 ∧ (true = false → (pre ++ [x]).length ≤ k + 1) from ⟨by simp; omega, fun h => by cases h⟩), HF.out, (by rw [List.length_append]; exact (show w4.ownsRow w.heap.size 2 1 v1 (pre.length + [x].length) (intsV (pre ++ [x])) by simpa [intsV] using hown1)), hBn⟩
        case measure => simp [intOf]; omega
      case false =>
        by_cases hlx : n < x
        · have hd := Lib.hid (decide_eq_true hlx)
          have hdp : decide (n < x) = true := decide_eq_true hlx
          have HF := Lib.hid (show uniI [n] l = ((pre ++ [n]) ++ [x]) ++ l.drop (k + 1) by rw [HU.out, if_neg (by simp), hdr.out, uniI_one_lt _ hlx]; simp)
          clear HU hdr hne
          go_upto_region 9 with (at_builtin; refine wpList_append_own _ rfl _ _ 25 rfl w.heap.size 2 i0 (.int .i64 0) 1 8 Tryz.underlying25 I0.out Z0.out Z1.out Z2.out rfl (by decide) u5 (pre).length (intsV (pre)) rfl (HO.out _) ⟨wr.heap.size, 0, none⟩ 1 1 [.int .i64 n] rfl rfl (news1 _ _ _ rfl) (by simp [Value.oneCell']) L3.out L4.out (HLB.out _) ?_; intro v1 w4 hown1 hgrow1 _)
          have hBn : RowKit.Below w.heap.size w w4 := (hB.out.alloc HSZ.out _).grown hgrow1 (HLB.out _) (fun k e => (Hg.out k e).1)
          have hown2 : w4.ownsRow w.heap.size 2 1 v1 (pre ++ [n]).length (intsV (pre ++ [n])) := by rw [List.length_append]; exact (show w4.ownsRow w.heap.size 2 1 v1 (pre.length + [n].length) (intsV (pre ++ [n])) by simpa [intsV] using hown1)
          have HBn := Lib.hid hBn
          have Hg2 := Lib.hid hown2.lt
          have HO2 := Lib.hid (fun O => ownsI_below hown2 (show RowKit.Below w4.heap.size w4 (w4.alloc O) from (RowKit.Below.refl _ _).alloc (Nat.le_refl _) _))
          have HLB2 := Lib.hid (fun O => show w.heap.size ≤ (w4.alloc O).heap.size by have := HBn.out.size; rw [one_size]; omega)
          have L5 := Lib.hid (show (pre ++ [n]).length + 1 ≤ maxLen by unfold maxLen; simp; omega)
          have L6 := Lib.hid (show ((pre ++ [n]).length + 1) * 8 ≤ 140737488355328 by simp; omega)
          clear hown1 hgrow1 hBn hown2 HO HLB
          go_wp2_with (at_builtin; refine wpList_append_own _ rfl _ _ 25 rfl w.heap.size 2 i0 (.int .i64 0) 1 8 Tryz.underlying25 I0.out Z0.out Z1.out Z2.out rfl (by decide) v1 (pre ++ [n]).length (intsV (pre ++ [n])) rfl (HO2.out _) ⟨w4.heap.size, 0, none⟩ 1 1 [.int .i64 x] rfl rfl (news1 _ _ _ rfl) (by simp [Value.oneCell']) L5.out L6.out (HLB2.out _) ?_; intro v2 w6 hown3 hgrow2 _)
          have hBm : RowKit.Below w.heap.size w w6 := (HBn.out.alloc HBn.out.size _).grown hgrow2 (HLB2.out _) (fun k e => (Hg2.out k e).1)
          go_roundw
          case rel => exact ⟨k + 1, (pre ++ [n]) ++ [x], true, by omega, by go_num, rfl, fun h => (by cases h), (show ((pre ++ [n]) ++ [x]).length ≤ k + 1 + 1 ∧ (true = false → ((pre ++ [n]) ++ [x]).length ≤ k + 1) from ⟨by have := hp2.out rfl; simp; omega, fun h => by cases h⟩), HF.out, (by rw [List.length_append]; exact (show w6.ownsRow w.heap.size 2 1 v2 ((pre ++ [n]).length + [x].length) (intsV ((pre ++ [n]) ++ [x])) by simpa [intsV] using hown3)), hBm⟩
          case measure => simp [intOf]; omega
        · have hdp : decide (n < x) = false := decide_eq_false hlx
          have HF := Lib.hid (show uniI [n] l = (pre ++ [x]) ++ uniI [n] (l.drop (k + 1)) by rw [HU.out, if_neg (by simp), hdr.out, uniI_one_gt _ (by have := hne.out rfl; omega)]; simp)
          clear HU hdr hne
          go_wp2_with (at_builtin; refine wpList_append_own _ rfl _ _ 25 rfl w.heap.size 2 i0 (.int .i64 0) 1 8 Tryz.underlying25 I0.out Z0.out Z1.out Z2.out rfl (by decide) u5 (pre).length (intsV (pre)) rfl (HO.out _) ⟨wr.heap.size, 0, none⟩ 1 1 [.int .i64 x] rfl rfl (news1 _ _ _ rfl) (by simp [Value.oneCell']) L3.out L4.out (HLB.out _) ?_; intro v1 w4 hown1 hgrow1 _)
          have hBn : RowKit.Below w.heap.size w w4 := (hB.out.alloc HSZ.out _).grown hgrow1 (HLB.out _) (fun k e => (Hg.out k e).1)
          go_roundw
          case rel => exact ⟨k + 1, pre ++ [x], false, by omega, by go_num, rfl, hd0.out, (show (pre ++ [x]).length ≤ k + 1 + 1 ∧ (false = false → (pre ++ [x]).length ≤ k + 1) from ⟨by simp; omega, fun _ => by have := hp2.out rfl; simp; omega⟩), HF.out, (by rw [List.length_append]; exact (show w4.ownsRow w.heap.size 2 1 v1 (pre.length + [x].length) (intsV (pre ++ [x])) by simpa [intsV] using hown1)), hBn⟩
          case measure => simp [intOf]; omega
    · have hdk : l.drop k = [] := List.drop_of_length_le (by omega)
      have HSZ := Lib.hid hB.out.size
      have HO0 := Lib.hid hown.out
      have Hg := Lib.hid hown.out.lt
      have hu2 := hu.out
      rw [hdk] at hu2
      clear hdk hu
      cases d
      case true =>
        rw [if_pos rfl, List.append_nil] at hu2
        have HE := Lib.hid hu2
        obtain ⟨A', c', hv, hrob, hcap⟩ := owns_ints HO0.out
        subst hv
        have HRB := Lib.hid hrob
        have HC := Lib.hid hcap
        clear hrob hcap hown hu2
        go_wp2_with fail
        go_ret
        show RetI w (uniI [n] l) _ _
        rw [HE.out]
        exact ⟨A', c', rfl, HRB.out, HC.out, hB.out⟩
      case false =>
        have hu3 : uniI [n] l = pre ++ [n] := by rw [hu2, if_neg (by simp), uniI_nil_right]
        have HE := Lib.hid hu3
        have HO := Lib.hid (fun O => ownsI_below HO0.out (show RowKit.Below wr.heap.size wr (wr.alloc O) from (RowKit.Below.refl _ _).alloc (Nat.le_refl _) _))
        have HLB := Lib.hid (fun O => show w.heap.size ≤ (wr.alloc O).heap.size by have := HSZ.out; rw [one_size]; omega)
        have L3 := Lib.hid (show pre.length + 1 ≤ maxLen by unfold maxLen; omega)
        have L4 := Lib.hid (show (pre.length + 1) * 8 ≤ 140737488355328 by omega)
        clear hown hu2 hu3
        go_wp2_with (at_builtin; refine wpList_append_own _ rfl _ _ 25 rfl w.heap.size 2 i0 (.int .i64 0) 1 8 Tryz.underlying25 I0.out Z0.out Z1.out Z2.out rfl (by decide) u5 (pre).length (intsV (pre)) rfl (HO.out _) ⟨wr.heap.size, 0, none⟩ 1 1 [.int .i64 n] rfl rfl (news1 _ _ _ rfl) (by simp [Value.oneCell']) L3.out L4.out (HLB.out _) ?_; intro v1 w4 hown1 hgrow1 _; have hBn : RowKit.Below w.heap.size w w4 := (hB.out.alloc HSZ.out _).grown hgrow1 (HLB.out _) (fun k e => (Hg.out k e).1); have hown2 : w4.ownsRow w.heap.size 2 1 v1 (pre ++ [n]).length (intsV (pre ++ [n])) := (by rw [List.length_append]; exact (show w4.ownsRow w.heap.size 2 1 v1 (pre.length + [n].length) (intsV (pre ++ [n])) by simpa [intsV] using hown1)); obtain ⟨A', c', hv, hrob, hcap⟩ := owns_ints hown2; subst hv; have HRB := Lib.hid hrob; have HC := Lib.hid hcap; have HBn := Lib.hid hBn; clear hrob hcap hown1 hown2 hgrow1 hBn)
        go_ret
        show RetI w (uniI [n] l) _ _
        rw [HE.out]
        exact ⟨A', c', by rw [List.length_append]; rfl, HRB.out, HC.out, HBn.out⟩
end Go.Proofs.YtmeeombadkgneaaGreat
namespace Go.Proofs.YtmeeombadkgneaaGreat
open Go.Proofs Go.RowKit Go.Shelf Go.Sort Go.Lib

attribute [local go_sem] Oper.semAt_some
set_option maxRecDepth 100000 in
set_option maxHeartbeats 4000000 in
theorem refCap_any (la lb : List Int) (A B : Option Addr) (ca cb : Nat) (w : World) (hA : Ints w A la) (hB : Ints w B lb) (hla : la.length ≤ 10000) (hlb : lb.length ≤ 10000) :
    Calls Tryz.prog 132 #[.int .i64 12, .slice A la.length ca, .slice B lb.length cb] w (RetI w (la.filter fun n => decide (n ∈ lb))) := by
  obtain ⟨i0, hi, hz0, hz1, hz2⟩ := info_parts info2
  have I0 := Lib.hid hi
  have Z0 := Lib.hid hz0
  have Z1 := Lib.hid hz1
  have Z2 := Lib.hid hz2
  clear hi hz0 hz1 hz2
  have HA := Lib.hid hA
  have HBB := Lib.hid hB
  obtain ⟨p, hpd⟩ : ∃ p : Int → Bool, p = fun n => decide (n ∈ lb) := ⟨_, rfl⟩
  have HP := Lib.hid (show ∀ n, p n = decide (n ∈ lb) from fun n => by rw [hpd])
  rw [← hpd]
  clear hA hB hpd
  go_enter Tryz.func132, Tryz.ntmps132
  go_wp2_with fail
  go_loopw [7, 15] (fun o i wr => ∃ k : Nat, k ≤ la.length ∧ i = .int .i64 k ∧ Hid (wr.ownsRow w.heap.size 2 1 o ((la.take k).filter p).length (intsV ((la.take k).filter p))) ∧ Hid (RowKit.Below w.heap.size w wr)) (fun _ i _ => la.length - (intOf i).toNat)
  case atStart => exact ⟨0, Nat.zero_le _, rfl, World.ownsRow_nil _ _ _ _, RowKit.Below.refl _ _⟩
  case round =>
    obtain ⟨k, hk, rfl, hown, hB⟩ := hrel
    by_cases hlt : k < la.length
    · obtain ⟨b, o, ha, hc⟩ := HA.out.later hB.out
      have ha := ha (by omega)
      have c0 := hc k hlt
      have htk : (la.take (k + 1)).filter p = (la.take k).filter p ++ [la[k]].filter p := by rw [List.take_succ_eq_append_getElem hlt, List.filter_append]
      have hle : ((la.take k).filter p).length ≤ k := Nat.le_trans (List.length_filter_le _ _) (by rw [List.length_take]; omega)
      have HTK := Lib.hid htk
      have HPX := Lib.hid (HP.out la[k])
      have HH := Lib.hid (refHas_any lb la[k] B cb wr (HBB.out.later hB.out) (by omega))
      generalize la[k] = x0 at *
      generalize (la.take k).filter p = pre at *
      have HO0 := Lib.hid hown.out
      have Hg := Lib.hid hown.out.lt
      have HSZ := Lib.hid hB.out.size
      have L3 := Lib.hid (show pre.length + 1 ≤ maxLen by unfold maxLen; omega)
      have L4 := Lib.hid (show (pre.length + 1) * 8 ≤ 140737488355328 by omega)
      clear hc htk hown hle HP
      rw [ha] at *
      generalize decide (x0 ∈ lb) = q at *
      cases q
      case false =>
        have HF := Lib.hid (show (la.take (k + 1)).filter p = pre by rw [HTK.out, List.filter_cons_of_neg (by rw [HPX.out]; simp)]; simp)
        go_wp2_with (go_at_call 153; refine HH.out.mono ?_; rintro e w3 ⟨rfl, rfl⟩)
        go_roundw
        case rel => exact ⟨k + 1, by omega, by go_num, by rw [HF.out]; exact HO0.out, hB.out⟩
        case measure => simp [intOf]; omega
      case true =>
        have HF := Lib.hid (show (la.take (k + 1)).filter p = pre ++ [x0] by rw [HTK.out, List.filter_cons_of_pos (by simp [HPX.out])]; simp)
        have HO := Lib.hid (fun O => ownsI_below HO0.out (show RowKit.Below wr.heap.size wr (wr.alloc O) from (RowKit.Below.refl _ _).alloc (Nat.le_refl _) _))
        have HLB := Lib.hid (fun O => show w.heap.size ≤ (wr.alloc O).heap.size by have := HSZ.out; rw [one_size]; omega)
        go_wp2_with (first | (go_at_call 153; refine HH.out.mono ?_; rintro e w3 ⟨rfl, rfl⟩) | (at_builtin; refine wpList_append_own _ rfl _ _ 25 rfl w.heap.size 2 i0 (.int .i64 0) 1 8 Tryz.underlying25 I0.out Z0.out Z1.out Z2.out rfl (by decide) u7 pre.length (intsV pre) rfl (HO.out _) ⟨wr.heap.size, 0, none⟩ 1 1 [.int .i64 x0] rfl rfl (news1 _ _ _ rfl) (by simp [Value.oneCell']) L3.out L4.out (HLB.out _) ?_; intro v1 w4 hown1 hgrow1 _))
        have hBn : RowKit.Below w.heap.size w w4 := (hB.out.alloc HSZ.out _).grown hgrow1 (HLB.out _) (fun k e => (Hg.out k e).1)
        go_roundw
        case rel => exact ⟨k + 1, by omega, by go_num, by rw [HF.out, List.length_append]; exact (show w4.ownsRow w.heap.size 2 1 v1 (pre.length + [x0].length) (intsV (pre ++ [x0])) by simpa [intsV] using hown1), hBn⟩
        case measure => simp [intOf]; omega
    · have hown' := hown.out
      rw [List.take_of_length_le (by omega : la.length ≤ k)] at hown'
      obtain ⟨A', c', hv', hrob, hcap⟩ := owns_ints hown'
      subst hv'
      have HR := Lib.hid hrob
      have HC := Lib.hid hcap
      clear hown hown' hrob hcap
      go_wp2_with fail
      go_ret
      exact ⟨A', c', rfl, HR.out, HC.out, hB.out⟩
set_option maxRecDepth 100000 in
set_option maxHeartbeats 4000000 in
theorem refMinus_any (la lb : List Int) (A B : Option Addr) (ca cb : Nat) (w : World) (hA : Ints w A la) (hB : Ints w B lb) (hla : la.length ≤ 10000) (hlb : lb.length ≤ 10000) :
    Calls Tryz.prog 132 #[.int .i64 13, .slice A la.length ca, .slice B lb.length cb] w (RetI w (la.filter fun n => !decide (n ∈ lb))) := by
  obtain ⟨i0, hi, hz0, hz1, hz2⟩ := info_parts info2
  have I0 := Lib.hid hi
  have Z0 := Lib.hid hz0
  have Z1 := Lib.hid hz1
  have Z2 := Lib.hid hz2
  clear hi hz0 hz1 hz2
  have HA := Lib.hid hA
  have HBB := Lib.hid hB
  obtain ⟨p, hpd⟩ : ∃ p : Int → Bool, p = fun n => !decide (n ∈ lb) := ⟨_, rfl⟩
  have HP := Lib.hid (show ∀ n, p n = !decide (n ∈ lb) from fun n => by rw [hpd])
  rw [← hpd]
  clear hA hB hpd
  go_enter Tryz.func132, Tryz.ntmps132
  go_wp2_with fail
  go_loopw [7, 15] (fun o i wr => ∃ k : Nat, k ≤ la.length ∧ i = .int .i64 k ∧ Hid (wr.ownsRow w.heap.size 2 1 o ((la.take k).filter p).length (intsV ((la.take k).filter p))) ∧ Hid (RowKit.Below w.heap.size w wr)) (fun _ i _ => la.length - (intOf i).toNat)
  case atStart => exact ⟨0, Nat.zero_le _, rfl, World.ownsRow_nil _ _ _ _, RowKit.Below.refl _ _⟩
  case round =>
    obtain ⟨k, hk, rfl, hown, hB⟩ := hrel
    by_cases hlt : k < la.length
    · obtain ⟨b, o, ha, hc⟩ := HA.out.later hB.out
      have ha := ha (by omega)
      have c0 := hc k hlt
      have htk : (la.take (k + 1)).filter p = (la.take k).filter p ++ [la[k]].filter p := by rw [List.take_succ_eq_append_getElem hlt, List.filter_append]
      have hle : ((la.take k).filter p).length ≤ k := Nat.le_trans (List.length_filter_le _ _) (by rw [List.length_take]; omega)
      have HTK := Lib.hid htk
      have HPX := Lib.hid (HP.out la[k])
      have HH := Lib.hid (refHas_any lb la[k] B cb wr (HBB.out.later hB.out) (by omega))
      generalize la[k] = x0 at *
      generalize (la.take k).filter p = pre at *
      have HO0 := Lib.hid hown.out
      have Hg := Lib.hid hown.out.lt
      have HSZ := Lib.hid hB.out.size
      have L3 := Lib.hid (show pre.length + 1 ≤ maxLen by unfold maxLen; omega)
      have L4 := Lib.hid (show (pre.length + 1) * 8 ≤ 140737488355328 by omega)
      clear hc htk hown hle HP
      rw [ha] at *
      generalize decide (x0 ∈ lb) = q at *
      cases q
      case false =>
        have HF := Lib.hid (show (la.take (k + 1)).filter p = pre ++ [x0] by rw [HTK.out, List.filter_cons_of_pos (by simp [HPX.out])]; simp)
        have HO := Lib.hid (fun O => ownsI_below HO0.out (show RowKit.Below wr.heap.size wr (wr.alloc O) from (RowKit.Below.refl _ _).alloc (Nat.le_refl _) _))
        have HLB := Lib.hid (fun O => show w.heap.size ≤ (wr.alloc O).heap.size by have := HSZ.out; rw [one_size]; omega)
        go_wp2_with (first | (go_at_call 153; refine HH.out.mono ?_; rintro e w3 ⟨rfl, rfl⟩) | (at_builtin; refine wpList_append_own _ rfl _ _ 25 rfl w.heap.size 2 i0 (.int .i64 0) 1 8 Tryz.underlying25 I0.out Z0.out Z1.out Z2.out rfl (by decide) u7 pre.length (intsV pre) rfl (HO.out _) ⟨wr.heap.size, 0, none⟩ 1 1 [.int .i64 x0] rfl rfl (news1 _ _ _ rfl) (by simp [Value.oneCell']) L3.out L4.out (HLB.out _) ?_; intro v1 w4 hown1 hgrow1 _))
        have hBn : RowKit.Below w.heap.size w w4 := (hB.out.alloc HSZ.out _).grown hgrow1 (HLB.out _) (fun k e => (Hg.out k e).1)
        go_roundw
        case rel => exact ⟨k + 1, by omega, by go_num, by rw [HF.out, List.length_append]; exact (show w4.ownsRow w.heap.size 2 1 v1 (pre.length + [x0].length) (intsV (pre ++ [x0])) by simpa [intsV] using hown1), hBn⟩
        case measure => simp [intOf]; omega
      case true =>
        have HF := Lib.hid (show (la.take (k + 1)).filter p = pre by rw [HTK.out, List.filter_cons_of_neg (by rw [HPX.out]; simp)]; simp)
        go_wp2_with (go_at_call 153; refine HH.out.mono ?_; rintro e w3 ⟨rfl, rfl⟩)
        go_roundw
        case rel => exact ⟨k + 1, by omega, by go_num, by rw [HF.out]; exact HO0.out, hB.out⟩
        case measure => simp [intOf]; omega
    · have hown' := hown.out
      rw [List.take_of_length_le (by omega : la.length ≤ k)] at hown'
      obtain ⟨A', c', hv', hrob, hcap⟩ := owns_ints hown'
      subst hv'
      have HR := Lib.hid hrob
      have HC := Lib.hid hcap
      clear hown hown' hrob hcap
      go_wp2_with fail
      go_ret
      exact ⟨A', c', rfl, HR.out, HC.out, hB.out⟩
end Go.Proofs.YtmeeombadkgneaaGreat
namespace Go.Proofs.YtmeeombadkgneaaGreat
open Go.Proofs Go.RowKit Go.Shelf Go.Sort Go.Lib

attribute [local go_sem] Oper.semAt_some
theorem asc_one (n : Int) : AscI [n] := List.pairwise_singleton _ _
set_option maxRecDepth 100000 in
set_option maxHeartbeats 4000000 in
theorem refCup_any (la lb : List Int) (A B : Option Addr) (ca cb : Nat) (w : World) (hA : Ints w A la) (hB : Ints w B lb) (hab : la.length + lb.length ≤ 10000) (haa : AscI la) (hbb : AscI lb) :
    Calls Tryz.prog 132 #[.int .i64 11, .slice A la.length ca, .slice B lb.length cb] w (RetI w (uniI la lb)) := by
  obtain ⟨i0, hi, hz0, hz1, hz2⟩ := info_parts info2
  have I0 := Lib.hid hi
  have Z0 := Lib.hid hz0
  have Z1 := Lib.hid hz1
  have Z2 := Lib.hid hz2
  clear hi hz0 hz1 hz2
  have HA := Lib.hid hA
  have HBB := Lib.hid hB
  have HAA := Lib.hid haa
  have HEX := Lib.hid (fun cur (h1 : AscI cur) (h2 : ∀ z, z ∈ cur ↔ z ∈ la ∨ z ∈ lb) => (show cur = uniI la lb from asc_ext h1 (uniI_asc _ la lb (Nat.le_refl _) haa hbb) fun z => (h2 z).trans (uniI_mem _ la lb (Nat.le_refl _) z).symm))
  clear hA hB haa hbb
  go_enter Tryz.func132, Tryz.ntmps132
  go_wp2_with fail
  go_loopw [7, 15] (fun o i wr => ∃ k : Nat, k ≤ la.length ∧ i = .int .i64 k ∧ Hid (wr.ownsRow w.heap.size 2 1 o k (intsV (la.take k))) ∧ Hid (RowKit.Below w.heap.size w wr)) (fun _ i _ => la.length - (intOf i).toNat)
  case atStart => exact ⟨0, Nat.zero_le _, rfl, World.ownsRow_nil _ _ _ _, RowKit.Below.refl _ _⟩
  case round =>
    obtain ⟨k, hk, rfl, hown, hB⟩ := hrel
    by_cases hlt : k < la.length
    · obtain ⟨b, o, ha, hc⟩ := HA.out.later hB.out
      have ha := ha (by omega)
      have c0 := hc k hlt
      have HTK := Lib.hid (show la.take (k + 1) = la.take k ++ [la[k]] from List.take_succ_eq_append_getElem hlt)
      have HH := Lib.hid (refHas_any lb la[k] B cb wr (HBB.out.later hB.out) (by omega))
      generalize la[k] = x0 at *
      have HLN := Lib.hid (show (la.take k).length = k by rw [List.length_take]; omega)
      generalize la.take k = pre at *
      have HO0 := Lib.hid hown.out
      have Hg := Lib.hid hown.out.lt
      have HSZ := Lib.hid hB.out.size
      have L3 := Lib.hid (show k + 1 ≤ maxLen by unfold maxLen; omega)
      have L4 := Lib.hid (show (k + 1) * 8 ≤ 140737488355328 by omega)
      have HO := Lib.hid (fun O => ownsI_below HO0.out (show RowKit.Below wr.heap.size wr (wr.alloc O) from (RowKit.Below.refl _ _).alloc (Nat.le_refl _) _))
      have HLB := Lib.hid (fun O => show w.heap.size ≤ (wr.alloc O).heap.size by have := HSZ.out; rw [one_size]; omega)
      clear hc hown
      rw [ha] at *
      generalize decide (x0 ∈ lb) = q at *
      go_wp2_with (first | (go_at_call 153; refine HH.out.mono ?_; rintro e w3 ⟨rfl, rfl⟩) | (at_builtin; refine wpList_append_own _ rfl _ _ 25 rfl w.heap.size 2 i0 (.int .i64 0) 1 8 Tryz.underlying25 I0.out Z0.out Z1.out Z2.out rfl (by decide) u7 k (intsV pre) rfl (HO.out _) ⟨wr.heap.size, 0, none⟩ 1 1 [.int .i64 x0] rfl rfl (news1 _ _ _ rfl) (by simp [Value.oneCell']) L3.out L4.out (HLB.out _) ?_; intro v1 w4 hown1 hgrow1 _))
      have hBn : RowKit.Below w.heap.size w w4 := (hB.out.alloc HSZ.out _).grown hgrow1 (HLB.out _) (fun k e => (Hg.out k e).1)
      go_roundw
      case rel => exact ⟨k + 1, by omega, by go_num, by rw [HTK.out, intsV_append]; exact hown1, hBn⟩
      case measure => simp [intOf]; omega
    · have hown' := hown.out
      have hkk : k = la.length := by omega
      subst hkk
      rw [List.take_length] at hown'
      obtain ⟨A', c', hv', hrob, hcap⟩ := owns_ints hown'
      subst hv'
      have HR := Lib.hid hrob
      have HC := Lib.hid hcap
      have HB1 := Lib.hid hB.out
      generalize wr = wo at *
      clear hown hown' hrob hcap
      go_wp2_with fail
      go_loopw [7, 48] (fun o i wr => ∃ (k : Nat) (cur : List Int) (A2 : Option Addr) (c2 : Nat), k ≤ lb.length ∧ i = .int .i64 k ∧ o = .slice A2 cur.length c2 ∧ Hid (cur.length ≤ c2) ∧ Hid (cur.length ≤ la.length + k) ∧ Hid (AscI cur) ∧ Hid (∀ z, z ∈ cur ↔ z ∈ la ∨ z ∈ lb.take k) ∧ Hid (RobI w.heap.size wr A2 cur) ∧ Hid (RowKit.Below w.heap.size w wr)) (fun _ i _ => lb.length - (intOf i).toNat)
      case atStart => exact ⟨0, la, A', c', Nat.zero_le _, rfl, rfl, HC.out, Nat.le_refl _, HAA.out, (fun z => by simp), HR.out, HB1.out⟩
      case round =>
        obtain ⟨k, cur, A2, c2, hk, rfl, rfl, hc2, hlen, hasc, hmem, hrob, hB⟩ := hrel
        have hl := hlen.out
        by_cases hlt : k < lb.length
        · obtain ⟨b, o, ha, hc⟩ := HBB.out.later hB.out
          have ha := ha (by omega)
          have c0 := hc k hlt
          have HM := Lib.hid (show ∀ z, z ∈ uniI [lb[k]] cur ↔ z ∈ la ∨ z ∈ lb.take (k + 1) from fun z => by
            rw [uniI_mem _ [lb[k]] cur (Nat.le_refl _) z, hmem.out z, List.take_succ_eq_append_getElem hlt, List.mem_append, List.mem_singleton]
            constructor
            · rintro (h | h | h) <;> simp [h]
            · rintro (h | h | h) <;> simp [h])
          have HS2 := Lib.hid (uniI_asc _ [lb[k]] cur (Nat.le_refl _) (asc_one _) hasc.out)
          have HLN := Lib.hid (uniI_len _ [lb[k]] cur (Nat.le_refl _))
          have HI := Lib.hid (refInsert_any cur lb[k] A2 c2 wr hrob.out.here (by omega) hasc.out)
          generalize lb[k] = x0 at *
          clear hc hmem hasc hrob
          rw [ha] at *
          go_wp2_with fail
          refine HI.out.mono ?_
          rintro e w3 ⟨A3, c3, rfl, hr3, hc3, b3⟩
          have HR3 := Lib.hid (hr3.less hB.out.size)
          have HC3 := Lib.hid hc3
          have B3 := Lib.hid (hB.out.trans (b3.mono hB.out.size))
          clear hr3 hc3 b3 c0 HI
          go_wp2_with fail
          go_roundw
          case rel => exact ⟨k + 1, uniI [x0] cur, A3, c3, by omega, by go_num, rfl, HC3.out, (show (uniI [x0] cur).length ≤ la.length + (k + 1) by have := HLN.out; simp at this; omega), HS2.out, HM.out, HR3.out, B3.out⟩
          case measure => simp [intOf]; omega
        · have hcur := HEX.out cur hasc.out (fun z => by rw [hmem.out z, List.take_of_length_le (by omega)])
          have HE := Lib.hid hcur
          have HRB := Lib.hid hrob.out
          clear hcur hmem hasc hrob HEX
          go_wp2_with fail
          go_ret
          show RetI w (uniI la lb) _ _
          rw [← HE.out]
          exact ⟨A2, c2, rfl, HRB.out, hc2.out, hB.out⟩
end Go.Proofs.YtmeeombadkgneaaGreat
namespace Go.Proofs.YtmeeombadkgneaaGreat
open Go.Proofs Go.RowKit Go.Shelf Go.Sort Go.Lib

attribute [local go_sem] Oper.semAt_some
set_option maxRecDepth 100000 in
set_option maxHeartbeats 4000000 in
theorem refNumber_any (n : Int) (w : World) : Calls Tryz.prog 130 #[.int .i64 n] w fun e w' => e = .returned (.tuple #[pv 1 n, .bool (bndB n)]) ∧ Below w.heap.size w w' := by
  go_enter Tryz.func130, Tryz.ntmps130
  go_wp2_with fail
  refine (fits_any n _).mono ?_
  rintro e w1 ⟨rfl, rfl⟩
  go_wp2_with fail
  exact bodyPost_ret (v := .tuple #[pv 1 n, .bool (bndB n)]) (by simp [results, Tryz.results130, go_sem]) rfl ⟨rfl, (Below.refl _ _).alloc (Nat.le_refl _) _⟩
/-- A product, or that it is too great. -/
def sclI (c n : Int) : Int := if bndB (c * n) = true then c * n else 0
theorem scl_test {c n : Int} (hc : 0 < c) : (n ≤ (1152921504606846976 : Int).tdiv c ∧ -((1152921504606846976 : Int).tdiv c) ≤ n) ↔ bndB (c * n) = true := by
  have hd : (1152921504606846976 : Int).tdiv c = 1152921504606846976 / c := Int.tdiv_eq_ediv_of_nonneg (by omega)
  rw [hd]
  have h1 : n ≤ 1152921504606846976 / c ↔ n * c ≤ 1152921504606846976 := Int.le_ediv_iff_mul_le hc
  have h2 : -n ≤ 1152921504606846976 / c ↔ -n * c ≤ 1152921504606846976 := Int.le_ediv_iff_mul_le hc
  have e : n * c = c * n := Int.mul_comm _ _
  have e2 : -n * c = -(c * n) := by rw [Int.neg_mul, Int.mul_comm]
  rw [e] at h1
  rw [e2] at h2
  unfold bndB
  rw [decide_eq_true_iff]
  constructor
  · rintro ⟨a, b⟩
    exact ⟨by have := h2.1 (by omega); omega, h1.1 a⟩
  · rintro ⟨a, b⟩
    exact ⟨h1.2 b, by have := h2.2 (by omega); omega⟩
set_option maxRecDepth 100000 in
set_option maxHeartbeats 1000000 in
theorem scaledPos_any (c n : Int) (w : World) (h0 : 0 < c) (hc2 : c ≤ 1000000000000) (hn1 : -1152921504606846976 ≤ n) (hn2 : n ≤ 1152921504606846976) (h1 : n ≠ 0) :
    Calls Tryz.prog 131 #[.int .i64 (c), .int .i64 (n)] w fun e w' => e = .returned (.tuple #[pv 1 (sclI c n), .bool (bndB (c * n))]) ∧ Below w.heap.size w w' := by
  have e0 : (n != 0) = true := by simp; omega
  have e1 : (c != 0) = true := by simp; omega
  have e2 : (c == 0) = false := by simp; omega
  have e3 : (c = 0) = False := by simp; omega
  have e4 : (n = 0) = False := by simp [h1]
  have dneg : decide (c < 0) = false := decide_eq_false (by omega)
  have wc : wrap64 c = c := wrap64_in (by omega) (by omega)
  have wn : wrap64 n = n := wrap64_in (by omega) (by omega)
  have wc2 : IntKind.i64.wrap c = c := wrap_in (by omega) (by omega)
  have wn2 : IntKind.i64.wrap n = n := wrap_in (by omega) (by omega)
  have ht := scl_test (c := c) (n := n) h0
  have hq1 : (1152921504606846976 : Int).tdiv c = 1152921504606846976 / c := Int.tdiv_eq_ediv_of_nonneg (by omega)
  have hq2 : 1152921504606846976 / c ≤ 1152921504606846976 := Int.ediv_le_self _ (by omega)
  have hq3 : 0 ≤ 1152921504606846976 / c := Int.ediv_nonneg (by omega) (by omega)
  rw [hq1] at ht
  generalize hQ : (1152921504606846976 : Int) / c = Q at *
  have wq1 : wrap64 Q = Q := wrap64_in (by omega) (by omega)
  have wq2 : wrap64 (-Q) = -Q := wrap64_in (by omega) (by omega)
  cases hf : bndB (c * n)
  case false =>
    have HR := Lib.hid (show sclI c n = 0 from if_neg (by rw [hf]; simp))
    by_cases hgt : Q < n
    · have d1 : decide (Q < n) = true := decide_eq_true hgt
      clear ht hq1 hq2 hq3 hf hgt
      go_enter Tryz.func131, Tryz.ntmps131
      go_wp2_with fail
      all_goals
        rw [HR.out]
        exact bodyPost_ret (v := .tuple #[pv 1 0, .bool false]) (by simp [results, Tryz.results131, go_sem]) rfl ⟨rfl, (Below.refl _ _).alloc (Nat.le_refl _) _⟩
    · have d1 : decide (Q < n) = false := decide_eq_false hgt
      have d2 : decide (n < -Q) = true := decide_eq_true (by
        by_cases h : n < -Q
        · exact h
        · have := ht.1 ⟨by omega, by omega⟩
          rw [hf] at this; cases this)
      clear ht hq1 hq2 hq3 hf hgt
      go_enter Tryz.func131, Tryz.ntmps131
      go_wp2_with fail
      all_goals
        rw [HR.out]
        exact bodyPost_ret (v := .tuple #[pv 1 0, .bool false]) (by simp [results, Tryz.results131, go_sem]) rfl ⟨rfl, (Below.refl _ _).alloc (Nat.le_refl _) _⟩
  case true =>
    have hb2 := bnd_of hf
    have d1 : decide (Q < n) = false := decide_eq_false (by have := (ht.2 hf).1; omega)
    have d2 : decide (n < -Q) = false := decide_eq_false (by have := (ht.2 hf).2; omega)
    have wp : wrap64 (c * n) = c * n := wrap64_in (by omega) (by omega)
    have HR := Lib.hid (show sclI c n = c * n from if_pos hf)
    have HF := Lib.hid hf
    clear ht hq1 hq2 hq3 hf hb2
    go_enter Tryz.func131, Tryz.ntmps131
    go_wp2_with fail
    try rw [wp]
    refine (refNumber_any (c * n) _).mono ?_
    rintro e w1 ⟨rfl, b1⟩
    rw [HF.out]
    have hrow := (b1.block _ (Array.getElem?_eq_some_iff.1 (heap_alloc_new w (.cells #[.int .i64 0, .int .i64 0, .slice none 0 0, .slice none 0 0, .slice none 0 0] 27))).1).trans (heap_alloc_new w _)
    have HX := Lib.hid (setT_same (.int .i64 1) (.int .i64 (c * n)) (.slice none 0 0) (.slice none 0 0) (.slice none 0 0) hrow)
    have HBX := Lib.hid (Below.set5 (((Below.refl w.heap.size w).alloc (Nat.le_refl _) _).trans (b1.mono (by simp))) (b := w.heap.size) (Nat.le_refl _) (.int .i64 1) (.int .i64 (c * n)) (.slice none 0 0) (.slice none 0 0) (.slice none 0 0))
    obtain ⟨z0, z1, z2, z3, z4, f0, f1, f2, f3, f4⟩ := boxT_facts hrow
    clear hrow b1
    go_wp2_with fail
    clear z0 z1 z2 z3 z4 f0 f1 f2 f3 f4
    obtain ⟨y0, y1, y2, y3, y4, _, _, _, _, _⟩ := boxT_facts HX.out
    exact bodyPost_ret (v := .tuple #[pv 1 (c * n), .bool true]) (by simp [results, Tryz.results131, go_sem, y0, y1, y2, y3, y4]) rfl ⟨by rw [HR.out], HBX.out⟩
set_option maxRecDepth 100000 in
set_option maxHeartbeats 1000000 in
theorem scaledNeg_any (c n : Int) (w : World) (h0 : 0 < c) (hc2 : c ≤ 1000000000000) (hn1 : -1152921504606846976 ≤ n) (hn2 : n ≤ 1152921504606846976) (h1 : n ≠ 0) :
    Calls Tryz.prog 131 #[.int .i64 (-c), .int .i64 (-n)] w fun e w' => e = .returned (.tuple #[pv 1 (sclI c n), .bool (bndB (c * n))]) ∧ Below w.heap.size w w' := by
  have e0 : (-n != 0) = true := by simp; omega
  have e1 : (-c != 0) = true := by simp; omega
  have e2 : (c == 0) = false := by simp; omega
  have e3 : (c = 0) = False := by simp; omega
  have e4 : (n = 0) = False := by simp [h1]
  have dneg : decide (-c < 0) = true := decide_eq_true (by omega)
  have wc : wrap64 c = c := wrap64_in (by omega) (by omega)
  have wn : wrap64 n = n := wrap64_in (by omega) (by omega)
  have wc2 : IntKind.i64.wrap c = c := wrap_in (by omega) (by omega)
  have wn2 : IntKind.i64.wrap n = n := wrap_in (by omega) (by omega)
  have ht := scl_test (c := c) (n := n) h0
  have hq1 : (1152921504606846976 : Int).tdiv c = 1152921504606846976 / c := Int.tdiv_eq_ediv_of_nonneg (by omega)
  have hq2 : 1152921504606846976 / c ≤ 1152921504606846976 := Int.ediv_le_self _ (by omega)
  have hq3 : 0 ≤ 1152921504606846976 / c := Int.ediv_nonneg (by omega) (by omega)
  rw [hq1] at ht
  generalize hQ : (1152921504606846976 : Int) / c = Q at *
  have wq1 : wrap64 Q = Q := wrap64_in (by omega) (by omega)
  have wq2 : wrap64 (-Q) = -Q := wrap64_in (by omega) (by omega)
  cases hf : bndB (c * n)
  case false =>
    have HR := Lib.hid (show sclI c n = 0 from if_neg (by rw [hf]; simp))
    by_cases hgt : Q < n
    · have d1 : decide (Q < n) = true := decide_eq_true hgt
      clear ht hq1 hq2 hq3 hf hgt
      go_enter Tryz.func131, Tryz.ntmps131
      go_wp2_with fail
      all_goals
        rw [HR.out]
        exact bodyPost_ret (v := .tuple #[pv 1 0, .bool false]) (by simp [results, Tryz.results131, go_sem]) rfl ⟨rfl, (Below.refl _ _).alloc (Nat.le_refl _) _⟩
    · have d1 : decide (Q < n) = false := decide_eq_false hgt
      have d2 : decide (n < -Q) = true := decide_eq_true (by
        by_cases h : n < -Q
        · exact h
        · have := ht.1 ⟨by omega, by omega⟩
          rw [hf] at this; cases this)
      clear ht hq1 hq2 hq3 hf hgt
      go_enter Tryz.func131, Tryz.ntmps131
      go_wp2_with fail
      all_goals
        rw [HR.out]
        exact bodyPost_ret (v := .tuple #[pv 1 0, .bool false]) (by simp [results, Tryz.results131, go_sem]) rfl ⟨rfl, (Below.refl _ _).alloc (Nat.le_refl _) _⟩
  case true =>
    have hb2 := bnd_of hf
    have d1 : decide (Q < n) = false := decide_eq_false (by have := (ht.2 hf).1; omega)
    have d2 : decide (n < -Q) = false := decide_eq_false (by have := (ht.2 hf).2; omega)
    have wp : wrap64 (c * n) = c * n := wrap64_in (by omega) (by omega)
    have HR := Lib.hid (show sclI c n = c * n from if_pos hf)
    have HF := Lib.hid hf
    clear ht hq1 hq2 hq3 hf hb2
    go_enter Tryz.func131, Tryz.ntmps131
    go_wp2_with fail
    try rw [wp]
    refine (refNumber_any (c * n) _).mono ?_
    rintro e w1 ⟨rfl, b1⟩
    rw [HF.out]
    have hrow := (b1.block _ (Array.getElem?_eq_some_iff.1 (heap_alloc_new w (.cells #[.int .i64 0, .int .i64 0, .slice none 0 0, .slice none 0 0, .slice none 0 0] 27))).1).trans (heap_alloc_new w _)
    have HX := Lib.hid (setT_same (.int .i64 1) (.int .i64 (c * n)) (.slice none 0 0) (.slice none 0 0) (.slice none 0 0) hrow)
    have HBX := Lib.hid (Below.set5 (((Below.refl w.heap.size w).alloc (Nat.le_refl _) _).trans (b1.mono (by simp))) (b := w.heap.size) (Nat.le_refl _) (.int .i64 1) (.int .i64 (c * n)) (.slice none 0 0) (.slice none 0 0) (.slice none 0 0))
    obtain ⟨z0, z1, z2, z3, z4, f0, f1, f2, f3, f4⟩ := boxT_facts hrow
    clear hrow b1
    go_wp2_with fail
    clear z0 z1 z2 z3 z4 f0 f1 f2 f3 f4
    obtain ⟨y0, y1, y2, y3, y4, _, _, _, _, _⟩ := boxT_facts HX.out
    exact bodyPost_ret (v := .tuple #[pv 1 (c * n), .bool true]) (by simp [results, Tryz.results131, go_sem, y0, y1, y2, y3, y4]) rfl ⟨by rw [HR.out], HBX.out⟩
set_option maxRecDepth 100000 in
set_option maxHeartbeats 1000000 in
theorem scaledZero_any (c n : Int) (w : World) (h : c = 0 ∨ n = 0) :
    Calls Tryz.prog 131 #[.int .i64 c, .int .i64 n] w fun e w' => e = .returned (.tuple #[pv 1 (sclI c n), .bool (bndB (c * n))]) ∧ Below w.heap.size w w' := by
  have hz : c * n = 0 := by rcases h with rfl | rfl <;> simp
  have hs : sclI c n = 0 := by unfold sclI; rw [hz]; simp
  have hbz : bndB 0 = true := by decide
  have wz : wrap64 0 = 0 := by unfold wrap64; decide
  rw [hs, hz]
  have HN := Lib.hid (refNumber_any 0)
  rw [hbz] at HN
  have hrow := heap_alloc_new w (.cells #[.int .i64 0, .int .i64 0, .slice none 0 0, .slice none 0 0, .slice none 0 0] 27)
  have HROW := Lib.hid hrow
  rw [hbz]
  clear hrow hs
  have hcn : (n != 0) = false ∨ ((n != 0) = true ∧ (c != 0) = false) := by
    rcases h with rfl | rfl
    · cases e : (n != 0) <;> simp
    · simp
  clear h
  rcases hcn with h1 | ⟨h1, h2⟩
  all_goals
    go_enter Tryz.func131, Tryz.ntmps131
    go_wp2_with fail
    try rw [hz]
    try rw [wz]
    refine (HN.out _).mono ?_
    rintro e w1 ⟨rfl, b1⟩
    have hrow := (b1.block _ (Array.getElem?_eq_some_iff.1 HROW.out).1).trans HROW.out
    have HX := Lib.hid (setT_same (.int .i64 1) (.int .i64 0) (.slice none 0 0) (.slice none 0 0) (.slice none 0 0) hrow)
    have HBX := Lib.hid (Below.set5 (((Below.refl w.heap.size w).alloc (Nat.le_refl _) _).trans (b1.mono (by simp))) (b := w.heap.size) (Nat.le_refl _) (.int .i64 1) (.int .i64 0) (.slice none 0 0) (.slice none 0 0) (.slice none 0 0))
    obtain ⟨z0, z1, z2, z3, z4, f0, f1, f2, f3, f4⟩ := boxT_facts hrow
    clear hrow b1
    go_wp2_with fail
    clear z0 z1 z2 z3 z4 f0 f1 f2 f3 f4
    obtain ⟨y0, y1, y2, y3, y4, _, _, _, _, _⟩ := boxT_facts HX.out
    exact bodyPost_ret (v := .tuple #[pv 1 0, .bool true]) (by simp [results, Tryz.results131, go_sem, y0, y1, y2, y3, y4]) rfl ⟨rfl, HBX.out⟩
theorem refScaled_any (c n : Int) (w : World) (hc1 : -1000000000000 ≤ c) (hc2 : c ≤ 1000000000000) (hn1 : -1152921504606846976 ≤ n) (hn2 : n ≤ 1152921504606846976) :
    Calls Tryz.prog 131 #[.int .i64 c, .int .i64 n] w fun e w' => e = .returned (.tuple #[pv 1 (sclI c n), .bool (bndB (c * n))]) ∧ Below w.heap.size w w' := by
  by_cases h0 : c = 0
  · exact scaledZero_any c n w (.inl h0)
  by_cases h1 : n = 0
  · exact scaledZero_any c n w (.inr h1)
  by_cases hp : 0 < c
  · exact scaledPos_any c n w hp hc2 hn1 hn2 h1
  · have h := scaledNeg_any (-c) (-n) w (by omega) (by omega) (by omega) (by omega) (by omega)
    rw [Int.neg_neg, Int.neg_neg] at h
    have e1 : -c * -n = c * n := Int.neg_mul_neg c n
    have e2 : sclI (-c) (-n) = sclI c n := by unfold sclI; rw [e1]
    rw [e2, e1] at h
    exact h
end Go.Proofs.YtmeeombadkgneaaGreat
namespace Go.Proofs.YtmeeombadkgneaaGreat
open Go.Proofs Go.RowKit Go.Shelf Go.Sort Go.Lib

attribute [local go_sem] Oper.semAt_some
def LookR (l : List EA) (nm : ByteArray) (args : List VA) (so : Int) (v : VA) : Prop :=
  (∃ (k : Nat) (h : k < l.length), placeB l[k] (skA nm args none 0 so) = true ∧ v = l[k].val) ∨ ((∀ j (h : j < l.length), placeB l[j] (skA nm args none 0 so) = false) ∧ v = plV2 so)
set_option maxRecDepth 100000 in
set_option maxHeartbeats 2000000 in
theorem refLookup_any (l : List EA) (nm : ByteArray) (args : List VA) (so : Int) (A B : Option Addr) (cap cb : Nat) (w : World) (hL : LiesM w A l) (hB : LiesVs w B args) :
    Calls Tryz.prog 102 #[.slice A l.length cap, .string nm, .slice B args.length cb, .int .i64 so] w fun e w' => (∃ v : VA, e = .returned (vv v) ∧ LookR l nm args so v) ∧ RowKit.Below w.heap.size w w' := by
  obtain ⟨W, hW⟩ : ∃ W, w.alloc (.cells #[.int .i64 0, .int .i64 0, .slice none 0 0, .slice none 0 0, .slice none 0 0] 27) = W := ⟨_, rfl⟩
  have HBw := Lib.hid (show RowKit.Below w.heap.size w W by rw [← hW]; exact (RowKit.Below.refl _ _).alloc (Nat.le_refl _) _)
  have HP := Lib.hid (show W.heap[w.heap.size]? = some (.cells #[.int .i64 0, .int .i64 0, .slice none 0 0, .slice none 0 0, .slice none 0 0] 27 (0, 0)) by rw [← hW]; exact heap_alloc_new _ _)
  have hn := hL.len
  unfold maxLen at hn
  have HL := Lib.hid (hL.later HBw.out)
  have HV := Lib.hid (hB.later HBw.out)
  have HW := Lib.hid hW
  clear hW hL hB
  go_enter Tryz.func102, Tryz.ntmps102
  go_upto_region 1 with fail
  rw [HW.out]
  go_wp2_with fail
  go_loopw [13] (fun i wr => ∃ k : Nat, k ≤ l.length ∧ i = .int .i64 k ∧ Hid (∀ j (h : j < l.length), j < k → placeB l[j] (skA nm args none 0 so) = false) ∧ Hid (RowKit.Below W.heap.size W wr)) (fun i _ => l.length - (intOf i).toNat)
  case atStart => exact ⟨0, Nat.zero_le _, rfl, fun j hj hjk => absurd hjk (by omega), RowKit.Below.refl _ _⟩
  case round =>
    obtain ⟨k, hk, rfl, hj, hBr⟩ := hrel
    have hp := (hBr.out.block _ (Array.getElem?_eq_some_iff.1 HP.out).1).trans HP.out
    by_cases hlt : k < l.length
    · obtain ⟨b, o, ha, hc⟩ := (HL.out.later hBr.out).at_
      have ha := ha (by omega)
      obtain ⟨c0, c1, c2, c3, c4, c5, c6⟩ := hc k hlt
      have G1 := Lib.hid ((RowKit.Below.refl wr.heap.size wr).alloc (Nat.le_refl _) (boxE l[k] 29))
      have LX := Lib.hid (((HL.out.each k hlt).later hBr.out).later G1.out)
      have LV := Lib.hid ((HV.out.later hBr.out).later G1.out)
      have hbox := Lib.hid (heap_alloc_new wr (boxE l[k] 29))
      have hok := Lib.hid (fun (e' : placeB l[k] (skA nm args none 0 so) = false) => (show Hid (∀ j (h : j < l.length), j < k + 1 → placeB l[j] (skA nm args none 0 so) = false) from fun j h h2 => by
        by_cases e2 : j = k
        · subst e2; exact e'
        · exact hj.out j h (by omega)))
      have hyes := Lib.hid (fun (e' : placeB l[k] (skA nm args none 0 so) = true) => (show LookR l nm args so l[k].val from .inl ⟨k, hlt, e', rfl⟩))
      have hpe := Lib.hid (show placeB l[k] (skA nm args none 0 so) = ((l[k].nm.toList == nm.toList) && (decide (l[k].val.v.so = so) && vlsB l[k].args args)) from rfl)
      generalize l[k] = x at *
      clear hj hc
      rw [ha] at *
      cases h0 : x.nm.toList == nm.toList
      case false =>
        have Hn := hok.out (by rw [hpe.out, h0]; rfl)
        clear hok hyes hpe
        go_wp2_with fail
        go_roundw
        case rel => exact ⟨k + 1, by omega, by go_num, Hn, hBr.out.trans (G1.out.mono hBr.out.size)⟩
        case measure => simp [intOf]; omega
      case true =>
        by_cases h1 : x.val.v.so = so
        case neg =>
          have d1 : (x.val.v.so == so) = false := by simp [h1]
          have Hn := hok.out (by rw [hpe.out, h0, decide_eq_false h1]; rfl)
          clear hok hyes hpe h1
          go_wp2_with fail
          go_roundw
          case rel => exact ⟨k + 1, by omega, by go_num, Hn, hBr.out.trans (G1.out.mono hBr.out.size)⟩
          case measure => simp [intOf]; omega
        case pos =>
          have d1 : (x.val.v.so == so) = true := by simp [h1]
          have hpe2 := Lib.hid (show placeB x (skA nm args none 0 so) = vlsB x.args args by rw [hpe.out, h0, decide_eq_true h1]; rfl)
          clear hpe h1
          cases hv : vlsB x.args args
          case false =>
            have Hv := Lib.hid hv
            have Hn := hok.out (hpe2.out.trans hv)
            clear hok hyes hpe2 hv
            go_wp2_with fail
            refine (sameArgs_any x.args args x.A B x.c cb _ LX.out.args LV.out).mono ?_
            rintro e w3 ⟨rfl, b3⟩
            rw [Hv.out]
            have B3 := Lib.hid (hBr.out.trans ((G1.out.trans (b3.mono G1.out.size)).mono hBr.out.size))
            clear b3 c0 c1 c2 c3 c4 c5 c6
            go_wp2_with fail
            go_roundw
            case rel => exact ⟨k + 1, by omega, by go_num, Hn, B3.out⟩
            case measure => simp [intOf]; omega
          case true =>
            have Hv := Lib.hid hv
            have HY := Lib.hid (hyes.out (hpe2.out.trans hv))
            clear hok hyes hpe2 hv
            go_wp2_with fail
            refine (sameArgs_any x.args args x.A B x.c cb _ LX.out.args LV.out).mono ?_
            rintro e w3 ⟨rfl, b3⟩
            rw [Hv.out]
            have hb3 := hBr.out.trans ((G1.out.trans (b3.mono G1.out.size)).mono hBr.out.size)
            have hp3 := (hb3.block _ (Array.getElem?_eq_some_iff.1 HP.out).1).trans HP.out
            have hbx := (b3.block _ (Array.getElem?_eq_some_iff.1 hbox.out).1).trans hbox.out
            have HX := Lib.hid (setT_same (.int .i64 x.val.v.so) (.int .i64 x.val.v.nu) (.slice x.val.a1 x.val.v.st.length x.val.c1) (.slice x.val.a2 x.val.v.ix.length x.val.c2) (.slice x.val.a3 x.val.v.xs.length x.val.c3) hp3)
            have HBX := Lib.hid (Below.set5 (HBw.out.trans (hb3.mono HBw.out.size)) (b := w.heap.size) (Nat.le_refl _) (.int .i64 x.val.v.so) (.int .i64 x.val.v.nu) (.slice x.val.a1 x.val.v.st.length x.val.c1) (.slice x.val.a2 x.val.v.ix.length x.val.c2) (.slice x.val.a3 x.val.v.xs.length x.val.c3))
            clear c0 c1 c2 c3 c4 c5 c6
            obtain ⟨z0, z1, z2, z3, z4, f0, f1, f2, f3, f4⟩ := boxT_facts hp3
            obtain ⟨q0, q1, q2, q3, q4, q5, q6, _, _, _, _, _, _, _⟩ := boxE_facts hbx
            clear b3 hb3 hp3 hbx hp
            go_wp2_with fail
            clear z0 z1 z2 z3 z4 f0 f1 f2 f3 f4 q0 q1 q2 q3 q4 q5 q6
            obtain ⟨y0, y1, y2, y3, y4, _, _, _, _, _⟩ := boxT_facts HX.out
            exact bodyPost_ret (v := vv x.val) (by simp [results, Tryz.results102, go_sem, y0, y1, y2, y3, y4]) rfl ⟨⟨x.val, rfl, HY.out⟩, HBX.out⟩
    · have Hr := Lib.hid (show LookR l nm args so (plV2 so) from .inr ⟨fun j h => hj.out j h (by omega), rfl⟩)
      have HX := Lib.hid (setT_same (.int .i64 so) (.int .i64 0) (.slice none 0 0) (.slice none 0 0) (.slice none 0 0) hp)
      have HBX := Lib.hid (Below.set5 (HBw.out.trans (hBr.out.mono HBw.out.size)) (b := w.heap.size) (Nat.le_refl _) (.int .i64 so) (.int .i64 0) (.slice none 0 0) (.slice none 0 0) (.slice none 0 0))
      obtain ⟨z0, z1, z2, z3, z4, f0, f1, f2, f3, f4⟩ := boxT_facts hp
      clear hj HL HV hp
      go_wp2_with fail
      clear z0 z1 z2 z3 z4 f0 f1 f2 f3 f4
      obtain ⟨y0, y1, y2, y3, y4, _, _, _, _, _⟩ := boxT_facts HX.out
      exact bodyPost_ret (v := pv so 0) (by simp [results, Tryz.results102, go_sem, y0, y1, y2, y3, y4]) rfl ⟨⟨plV2 so, rfl, Hr.out⟩, HBX.out⟩
end Go.Proofs.YtmeeombadkgneaaGreat
namespace Go.Proofs.YtmeeombadkgneaaGreat
open Go.Proofs Go.RowKit Go.Shelf Go.Sort Go.Lib

theorem asc_same {t : List EA} (ha : Asc t) {x y : EA} (hx : x ∈ t) (hy : y ∈ t) (hz : cmpE x y = 0) : x = y := by
  obtain ⟨i, hi, rfl⟩ := List.getElem_of_mem hx
  obtain ⟨j, hj, rfl⟩ := List.getElem_of_mem hy
  by_cases e : i = j
  · subst e; rfl
  · by_cases h : i < j
    · have := List.pairwise_iff_getElem.1 ha i j hi hj h
      omega
    · have h1 := List.pairwise_iff_getElem.1 ha j i hj hi (by omega)
      have h2 := laws_E.neg t[i] t[j]
      omega
theorem place_iff (x y : EA) : placeB x y = true ↔ cmpE x y = 0 := by rw [← place_eq, beq_iff_eq]
theorem find_lookup {l t : List EA} (hp : t.Perm l) (ha : Asc t) {nm : ByteArray} {args : List VA} {so : Int} {u v : VA} (hu : FindR t nm args so u) (hv : LookR l nm args so v) : u = v := by
  rcases hu with ⟨j, hj, hz, rfl⟩ | ⟨hno, rfl⟩
  · rcases hv with ⟨k, hk, hpl, rfl⟩ | ⟨hno, rfl⟩
    · have e : t[j] = l[k] := asc_same ha (List.getElem_mem hj) (hp.mem_iff.2 (List.getElem_mem hk)) (same_place ((place_iff _ _).2 hz) hpl)
      rw [e]
    · obtain ⟨k, hk, e⟩ := List.getElem_of_mem (hp.mem_iff.1 (List.getElem_mem hj))
      have h := hno k hk
      rw [e, (place_iff _ _).2 hz] at h
      cases h
  · rcases hv with ⟨k, hk, hpl, rfl⟩ | ⟨_, rfl⟩
    · exact absurd ((place_iff _ _).1 hpl) (hno _ (hp.mem_iff.2 (List.getElem_mem hk)))
    · rfl
theorem mul_scl {c n : Int} (h : bndB (c * n) = true) : mulI c n = c * n ∧ sclI c n = c * n := by
  obtain ⟨h1, h2⟩ := bnd_of h
  exact ⟨if_pos ⟨by omega, by omega⟩, if_pos h⟩
theorem mul_great {c n : Int} (h : bndB (c * n) = false) : bndB (mulI c n) = false := by
  unfold mulI
  split
  · exact h
  · decide
end Go.Proofs.YtmeeombadkgneaaGreat
