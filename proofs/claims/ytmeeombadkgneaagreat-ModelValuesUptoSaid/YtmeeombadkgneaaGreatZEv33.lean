/-
  What the document's apply returns of each operator, against the mathematics; conditions: the kids' values lie in memory and are valid, the node is well sorted and no variable or application.
  The list of values that the document's eval gathers, and what lookup returns against the mathematics; conditions: none of its own.
  What the document's eval returns of a node, by induction on the node; conditions: the model lies in memory and is valid, the node is well sorted and has no Hole.
  What the document's own Holes returns, and what its valued, Value and Truth return; conditions: the node and the model lie in memory.
  What the law on values returns: true; conditions: its arguments lie in memory and the node has few nodes.
-/
import Derived.Maps.AppendAt
import Derived.Test.YtmeeombadkgneaaGreatZEv28
import Derived.Test.YtmeeombadkgneaaGreatZEv30
import Derived.Test.YtmeeombadkgneaaGreatZEv31
import Derived.Test.YtmeeombadkgneaaGreatZEv19
import Derived.Test.YtmeeombadkgneaaGreatZEv13
import Derived.Test.YtmeeombadkgneaaGreatZEvS
import Derived.Test.YtmeeombadkgneaaGreatZVa20
namespace Go.Proofs.YtmeeombadkgneaaGreat
open Go.Proofs Go.RowKit Go.Shelf Go.Sort Go.Lib

attribute [local go_sem] Oper.semAt_some
set_option maxRecDepth 100000 in
set_option maxHeartbeats 4000000 in
theorem raBool (op so nu : Int) (nm : ByteArray) (C K : Option Addr) (cn cc kn kc : Nat) (w : World) (o2 : (op == 2) = false) (o4 : (op == 4) = false) (o5 : (op == 5) = false) (o6 : (op == 6) = false) (o7 : (op == 7) = false) (o8 : (op == 8) = false) (o10 : (op == 10) = false) (o11 : (op == 11) = false) (o12 : (op == 12) = false) (o13 : (op == 13) = false) (o14 : (op == 14) = false) (o15 : (op == 15) = false) (o16 : (op == 16) = false) (o9 : (op == 9) = false) (b : Bool)
    (hin : ∀ W', RowKit.Below w.heap.size w W' → Calls Tryz.prog 135 #[.int .i64 op, .slice K kn kc] W' (DecP b W')) :
    Calls Tryz.prog 103 #[nv op so nm nu (.slice C cn cc), .slice K kn kc] w fun e w' => e = .returned (.tuple #[vv (tr b), .bool true]) ∧ RowKit.Below w.heap.size w w' := by
  obtain ⟨W, hW⟩ : ∃ W, (w.alloc (.cells #[.int .i64 op, .int .i64 so, .string nm, .int .i64 nu, .slice C cn cc] 44)).alloc (.cells #[.int .i64 0, .int .i64 0, .slice none 0 0, .slice none 0 0, .slice none 0 0] 27) = W := ⟨_, rfl⟩
  have HB := Lib.hid (show RowKit.Below w.heap.size w W by rw [← hW]; exact ((RowKit.Below.refl _ _).alloc (Nat.le_refl _) _).alloc (by rw [one_size]; omega) _)
  have HP := Lib.hid (show W.heap[w.heap.size]? = some (.cells #[.int .i64 op, .int .i64 so, .string nm, .int .i64 nu, .slice C cn cc] 44) by rw [← hW]; exact two_fst _ _ _)
  have HQ := Lib.hid (show W.heap[w.heap.size + 1]? = some (.cells #[.int .i64 0, .int .i64 0, .slice none 0 0, .slice none 0 0, .slice none 0 0] 27) by rw [← hW]; exact two_snd _ _ _)
  have HIN := Lib.hid (hin W HB.out)
  have HW := Lib.hid hW
  clear hW hin
  obtain ⟨z0, z1, z2, z3, z4, f0, f1, f2, f3, f4⟩ := boxT_facts HP.out
  go_enter Tryz.func103, Tryz.ntmps103
  go_upto_region 1 with fail
  rw [HW.out]
  go_wp2_with fail
  refine HIN.out.mono ?_
  rintro e w9 ⟨rfl, b9⟩
  obtain ⟨r, hr⟩ : ∃ r, tr b = r := ⟨_, rfl⟩
  rw [hr]
  have HR := Lib.hid hr
  have hQ9 := (b9.block _ (Array.getElem?_eq_some_iff.1 HQ.out).1).trans HQ.out
  have HX9 := Lib.hid (setT_same (.int .i64 r.v.so) (.int .i64 r.v.nu) (.slice r.a1 r.v.st.length r.c1) (.slice r.a2 r.v.ix.length r.c2) (.slice r.a3 r.v.xs.length r.c3) hQ9)
  have HBX9 := Lib.hid (Below.set5 (HB.out.trans (b9.mono HB.out.size)) (b := w.heap.size + 1) (by omega) (.int .i64 r.v.so) (.int .i64 r.v.nu) (.slice r.a1 r.v.st.length r.c1) (.slice r.a2 r.v.ix.length r.c2) (.slice r.a3 r.v.xs.length r.c3))
  clear hr b9 z0 z1 z2 z3 z4 f0 f1 f2 f3 f4
  obtain ⟨z0, z1, z2, z3, z4, f0, f1, f2, f3, f4⟩ := boxT_facts hQ9
  clear hQ9
  go_wp2_with fail
  clear z0 z1 z2 z3 z4 f0 f1 f2 f3 f4
  obtain ⟨y0, y1, y2, y3, y4, _, _, _, _, _⟩ := boxT_facts HX9.out
  exact bodyPost_ret (v := .tuple #[vv r, .bool true]) (by simp [results, Tryz.results103, go_sem, y0, y1, y2, y3, y4]) rfl ⟨by rw [HR.out], HBX9.out⟩
theorem boo_not {v : Vl} (h : OkV v) (hs : v.so = 2) : (v.nu == 0) = !(v.nu == 1) := by
  rcases (h.boo hs).1 with e | e <;> simp [e]
theorem boo_same {u v : Vl} (hu : OkV u) (hsu : u.so = 2) (hv : OkV v) (hsv : v.so = 2) : (u.nu == v.nu) = sameB u v := by
  obtain ⟨_, u1, u2, u3⟩ := hu.boo hsu
  obtain ⟨_, v1, v2, v3⟩ := hv.boo hsv
  unfold sameB
  rw [u1, u2, u3, v1, v2, v3, hsu, hsv]
  by_cases e : u.nu = v.nu <;> simp [numB, e]
set_option maxHeartbeats 4000000 in
theorem refApply_any (l : List EA) (op so nu s : Int) (nm : ByteArray) (xs : List VA) (C K : Option Addr) (cn cc kc : Nat) (w : World) (hK : LiesVs w K xs) (hok : ∀ x ∈ xs, OkV x.v) (n1 : op ≠ 1) (n3 : op ≠ 3) (hk : ApK so nu nm s op xs) :
    Calls Tryz.prog 103 #[nv op so nm nu (.slice C cn cc), .slice K xs.length kc] w (RapP xs (apO l op so nm nu (xs.map (·.v))) w) := by
  cases hk
  case var => exact absurd rfl n1
  case app => exact absurd rfl n3
  case ite x y z h1 h2 =>
    rw [show apO l 8 so nm nu (([x, y, z] : List VA).map (·.v)) = some (if (x.v.nu == 1) = true then y.v else z.v) by simp [apO, k0, k1, k2]]
    refine (raIte so nu nm C K cn cc kc x y z w hK).mono fun e w' h => ?_
    refine ⟨_, true, h.1, h.2, fun hn => (nomatch hn), fun u hu => ?_⟩
    cases hu
    have h3 := (hK.later h.2)
    split
    · exact ⟨rfl, rfl, h3.each 1 (by simp), fun P _ hx => (hx y (by simp)).later h.2⟩
    · exact ⟨rfl, rfl, h3.each 2 (by simp), fun P _ hx => (hx z (by simp)).later h.2⟩
  case eq x y h1 =>
    have eb : (sameB x.v y.v) = trB 37 [x.v, y.v] := by simp [trB, k0, k1]
    exact (raBool 37 so nu nm C K cn cc 2 kc w (by decide) (by decide) (by decide) (by decide) (by decide) (by decide) (by decide) (by decide) (by decide) (by decide) (by decide) (by decide) (by decide) (by decide) (sameB x.v y.v) (fun W' hb => dcEq K kc x y W' (hK.later hb))).mono fun e w' h => boolQ (by rw [eb]; simp [apO]) h
  case sto x y z h1 h2 h3 =>
    rw [show apO l 15 so nm nu (([x, y, z] : List VA).map (·.v)) = stoO x.v y.v.nu z.v.nu by simp [apO, k0, k1, k2]]
    have hx := hok x (by simp)
    refine (raSto so nu nm C K cn cc kc x y z w hK hx).mono fun e w' h => ?_
    obtain ⟨⟨r, he, hr, hrob⟩, hb⟩ := h
    have hv : stoV x.v y.v.nu z.v.nu = r.v := by rw [hr]; unfold stoV; rw [h1, (hx.arr h1).1]
    have hix : (stoI x.v.ix x.v.ix y.v.nu z.v.nu y.v.nu).length = r.v.ix.length := by rw [hr]
    refine ⟨r, _, he, hb, fun hn => ?_, fun v hvv => ?_⟩
    · unfold stoO at hn
      split at hn
      · cases hn
      · rename_i hh; exact decide_eq_false (by rw [← hix]; exact hh)
    · unfold stoO at hvv
      split at hvv
      · rename_i hh
        cases hvv
        exact ⟨decide_eq_true (by rw [← hix]; exact hh), hv.symm, hrob.here, fun P hP _ => RobP.new hrob hP⟩
      · cases hvv
  case num f1 f2 => exact (raNum so nu nm C K cn cc kc w).mono fun e w' h => numQ (by simp [apO]) h
  case empty => exact (raEmpty so nu nm C K cn cc kc w).mono fun e w' h => setQ (l := []) (by simp) (by simp [apO, setO]) ⟨⟨none, 0, h.1, fun W _ => ints_nil W⟩, h.2⟩
  case tru  =>
    have eb : true = trB 30 ([] : List Vl) := by simp [trB]
    exact (raBool 30 so nu nm C K cn cc 0 kc w (by decide) (by decide) (by decide) (by decide) (by decide) (by decide) (by decide) (by decide) (by decide) (by decide) (by decide) (by decide) (by decide) (by decide) true (fun W' hb => dcTrue K kc W')).mono fun e w' h => boolQ (by rw [eb]; simp [apO]) h
  case fls  =>
    have eb : false = trB 31 ([] : List Vl) := by simp [trB]
    exact (raBool 31 so nu nm C K cn cc 0 kc w (by decide) (by decide) (by decide) (by decide) (by decide) (by decide) (by decide) (by decide) (by decide) (by decide) (by decide) (by decide) (by decide) (by decide) false (fun W' hb => dcFalse K kc W')).mono fun e w' h => boolQ (by rw [eb]; simp [apO]) h
  case neg x h1 => exact (raNeg so nu nm C K cn cc kc x w hK (hok x (by simp)).nu).mono fun e w' h => numQ (by simp [apO, k0]) h
  case scale x f1 f2 h1 => exact (raScale so nu nm C K cn cc kc x w hK (hok x (by simp)).nu f1 f2).mono fun e w' h => sclQ (by simp [apO, k0]) h
  case sing x h1 => exact (raSing so nu nm C K cn cc kc x w hK).mono fun e w' h => setQ (l := [x.v.nu]) (by simp [maxLen]) (by simp [apO, k0, setO]) h
  case len x h1 => exact (raLen so nu nm C K cn cc kc x w hK).mono fun e w' h => numQ (by simp [apO, k0]) h
  case not x h1 =>
    have eb : (x.v.nu == 0) = trB 32 [x.v] := (boo_not (hok x (by simp)) h1).trans (by simp [trB, k0])
    exact (raBool 32 so nu nm C K cn cc 1 kc w (by decide) (by decide) (by decide) (by decide) (by decide) (by decide) (by decide) (by decide) (by decide) (by decide) (by decide) (by decide) (by decide) (by decide) (x.v.nu == 0) (fun W' hb => dcNot K kc x W' (hK.later hb))).mono fun e w' h => boolQ (by rw [eb]; simp [apO]) h
  case add x y h1 h2 => exact (raAdd so nu nm C K cn cc kc x y w hK (hok x (by simp)).nu (hok y (by simp)).nu).mono fun e w' h => numQ (by simp [apO, k0, k1]) h
  case sub x y h1 h2 => exact (raSub so nu nm C K cn cc kc x y w hK (hok x (by simp)).nu (hok y (by simp)).nu).mono fun e w' h => numQ (by simp [apO, k0, k1]) h
  case le x y h1 h2 =>
    have eb : (decide (x.v.nu ≤ y.v.nu)) = trB 38 [x.v, y.v] := by simp [trB, k0, k1]
    exact (raBool 38 so nu nm C K cn cc 2 kc w (by decide) (by decide) (by decide) (by decide) (by decide) (by decide) (by decide) (by decide) (by decide) (by decide) (by decide) (by decide) (by decide) (by decide) (decide (x.v.nu ≤ y.v.nu)) (fun W' hb => dcLe K kc x y W' (hK.later hb))).mono fun e w' h => boolQ (by rw [eb]; simp [apO]) h
  case lt x y h1 h2 =>
    have eb : (decide (x.v.nu < y.v.nu)) = trB 39 [x.v, y.v] := by simp [trB, k0, k1]
    exact (raBool 39 so nu nm C K cn cc 2 kc w (by decide) (by decide) (by decide) (by decide) (by decide) (by decide) (by decide) (by decide) (by decide) (by decide) (by decide) (by decide) (by decide) (by decide) (decide (x.v.nu < y.v.nu)) (fun W' hb => dcLt K kc x y W' (hK.later hb))).mono fun e w' h => boolQ (by rw [eb]; simp [apO]) h
  case cup x y h1 h2 => exact (raCup so nu nm C K cn cc kc x y w hK (uniI x.v.st y.v.st) (by have h5 := uniI_len _ x.v.st y.v.st (Nat.le_refl _); have h6 := (hok x (by simp)).l1; have h7 := (hok y (by simp)).l1; omega) (fun W' hb => refCup_any x.v.st y.v.st x.a1 y.a1 x.c1 y.c1 W' ((hK.later hb).each 0 (by simp)).st ((hK.later hb).each 1 (by simp)).st (by have h5 := (hok x (by simp)).l1; have h6 := (hok y (by simp)).l1; omega) (hok x (by simp)).s1 (hok y (by simp)).s1)).mono fun e w' h => setQ (by have h5 := uniI_len _ x.v.st y.v.st (Nat.le_refl _); have h6 := (hok x (by simp)).l1; have h7 := (hok y (by simp)).l1; unfold maxLen; omega) (by simp [apO, k0, k1]) h
  case cap x y h1 h2 => exact (raCap so nu nm C K cn cc kc x y w hK (x.v.st.filter fun n => decide (n ∈ y.v.st)) (by have h5 := List.length_filter_le (fun n => decide (n ∈ y.v.st)) x.v.st; have h6 := (hok x (by simp)).l1; omega) (fun W' hb => refCap_any x.v.st y.v.st x.a1 y.a1 x.c1 y.c1 W' ((hK.later hb).each 0 (by simp)).st ((hK.later hb).each 1 (by simp)).st (Nat.le_trans (hok x (by simp)).l1 (by omega)) (Nat.le_trans (hok y (by simp)).l1 (by omega)))).mono fun e w' h => setQ (by have h5 := List.length_filter_le (fun n => decide (n ∈ y.v.st)) x.v.st; have h6 := (hok x (by simp)).l1; unfold maxLen; omega) (by simp [apO, k0, k1]) h
  case minus x y h1 h2 => exact (raMinus so nu nm C K cn cc kc x y w hK (x.v.st.filter fun n => !decide (n ∈ y.v.st)) (by have h5 := List.length_filter_le (fun n => !decide (n ∈ y.v.st)) x.v.st; have h6 := (hok x (by simp)).l1; omega) (fun W' hb => refMinus_any x.v.st y.v.st x.a1 y.a1 x.c1 y.c1 W' ((hK.later hb).each 0 (by simp)).st ((hK.later hb).each 1 (by simp)).st (Nat.le_trans (hok x (by simp)).l1 (by omega)) (Nat.le_trans (hok y (by simp)).l1 (by omega)))).mono fun e w' h => setQ (by have h5 := List.length_filter_le (fun n => !decide (n ∈ y.v.st)) x.v.st; have h6 := (hok x (by simp)).l1; unfold maxLen; omega) (by simp [apO, k0, k1]) h
  case subset x y h1 h2 =>
    have eb : (decide (∀ n ∈ x.v.st, n ∈ y.v.st)) = trB 41 [x.v, y.v] := by simp [trB, k0, k1]
    exact (raBool 41 so nu nm C K cn cc 2 kc w (by decide) (by decide) (by decide) (by decide) (by decide) (by decide) (by decide) (by decide) (by decide) (by decide) (by decide) (by decide) (by decide) (by decide) (decide (∀ n ∈ x.v.st, n ∈ y.v.st)) (fun W' hb => dcSub K kc x y W' (hK.later hb) (Nat.le_trans (hok x (by simp)).l1 (by omega)) (Nat.le_trans (hok y (by simp)).l1 (by omega)))).mono fun e w' h => boolQ (by rw [eb]; simp [apO]) h
  case mem x y h1 h2 =>
    have eb : (decide (x.v.nu ∈ y.v.st)) = trB 40 [x.v, y.v] := by simp [trB, k0, k1]
    exact (raBool 40 so nu nm C K cn cc 2 kc w (by decide) (by decide) (by decide) (by decide) (by decide) (by decide) (by decide) (by decide) (by decide) (by decide) (by decide) (by decide) (by decide) (by decide) (decide (x.v.nu ∈ y.v.st)) (fun W' hb => dcMem K kc x y W' (hK.later hb) (Nat.le_trans (hok y (by simp)).l1 (by omega)))).mono fun e w' h => boolQ (by rw [eb]; simp [apO]) h
  case sel x y h1 h2 => exact (raSel so nu nm C K cn cc kc x y w hK (Nat.le_trans (hok x (by simp)).l2 (by omega)) (hok x (by simp)).s2 (hok x (by simp)).len).mono fun e w' h => numQ (by simp [apO, k0, k1]) h
  case and x y h1 h2 =>
    have eb : ((x.v.nu == 1) && (y.v.nu == 1)) = trB 33 [x.v, y.v] := by simp [trB, k0, k1]
    exact (raBool 33 so nu nm C K cn cc 2 kc w (by decide) (by decide) (by decide) (by decide) (by decide) (by decide) (by decide) (by decide) (by decide) (by decide) (by decide) (by decide) (by decide) (by decide) ((x.v.nu == 1) && (y.v.nu == 1)) (fun W' hb => dcAnd K kc x y W' (hK.later hb))).mono fun e w' h => boolQ (by rw [eb]; simp [apO]) h
  case or x y h1 h2 =>
    have eb : ((x.v.nu == 1) || (y.v.nu == 1)) = trB 34 [x.v, y.v] := by simp [trB, k0, k1]
    exact (raBool 34 so nu nm C K cn cc 2 kc w (by decide) (by decide) (by decide) (by decide) (by decide) (by decide) (by decide) (by decide) (by decide) (by decide) (by decide) (by decide) (by decide) (by decide) ((x.v.nu == 1) || (y.v.nu == 1)) (fun W' hb => dcOr K kc x y W' (hK.later hb))).mono fun e w' h => boolQ (by rw [eb]; simp [apO]) h
  case imp x y h1 h2 =>
    have eb : ((x.v.nu == 0) || (y.v.nu == 1)) = trB 35 [x.v, y.v] := by rw [boo_not (hok x (by simp)) h1]; simp [trB, k0, k1]
    exact (raBool 35 so nu nm C K cn cc 2 kc w (by decide) (by decide) (by decide) (by decide) (by decide) (by decide) (by decide) (by decide) (by decide) (by decide) (by decide) (by decide) (by decide) (by decide) ((x.v.nu == 0) || (y.v.nu == 1)) (fun W' hb => dcImp K kc x y W' (hK.later hb))).mono fun e w' h => boolQ (by rw [eb]; simp [apO]) h
  case iff x y h1 h2 =>
    have eb : (x.v.nu == y.v.nu) = trB 36 [x.v, y.v] := (boo_same (hok x (by simp)) h1 (hok y (by simp)) h2).trans (by simp [trB, k0, k1])
    exact (raBool 36 so nu nm C K cn cc 2 kc w (by decide) (by decide) (by decide) (by decide) (by decide) (by decide) (by decide) (by decide) (by decide) (by decide) (by decide) (by decide) (by decide) (by decide) (x.v.nu == y.v.nu) (fun W' hb => dcIff K kc x y W' (hK.later hb))).mono fun e w' h => boolQ (by rw [eb]; simp [apO]) h
end Go.Proofs.YtmeeombadkgneaaGreat
namespace Go.Proofs.YtmeeombadkgneaaGreat
open Go.Proofs Go.RowKit Go.Shelf Go.Sort Go.Lib

theorem look_valF {l : List EA} (hv : validM l = true) {nm : ByteArray} {args : List VA} {so : Int} {v : VA} (h : LookR l nm args so v) : v.v = valF l nm (vls args) so := by
  have hap := ((validM_iff l).1 hv).2.2
  unfold valF
  rcases h with ⟨k, hk, hp, rfl⟩ | ⟨hno, rfl⟩
  · have hz : cmpE l[k] (skA nm args none 0 so) = 0 := (place_iff _ _).1 hp
    cases hf : l.find? fun x => cmpE x (skA nm ((vls args).map mkV) none 0 so) == 0 with
    | none =>
      have := List.find?_eq_none.1 hf _ (List.getElem_mem hk)
      rw [cmp_key, hz] at this
      simp at this
    | some e =>
      have he := List.mem_of_find?_eq_some hf
      have hz2 : cmpE e (skA nm args none 0 so) = 0 := by
        have := List.find?_some hf
        rw [cmp_key] at this
        simpa using this
      obtain ⟨j, hj, rfl⟩ := List.getElem_of_mem he
      have hsame : cmpE l[j] l[k] = 0 := by
        have h1 := (place_iff _ _).2 hz
        have h2 := (place_iff _ _).2 hz2
        refine (place_iff _ _).1 ?_
        unfold placeB at h1 h2 ⊢
        simp only [Bool.and_eq_true, decide_eq_true_eq, vlsB_iff, beq_iff_eq] at h1 h2 ⊢
        exact ⟨h2.1.trans h1.1.symm, h2.2.1.trans h1.2.1.symm, h2.2.2.trans h1.2.2.symm⟩
      have hjk : j = k := by
        rcases Nat.lt_trichotomy j k with h | h | h
        · exact absurd hsame (List.pairwise_iff_getElem.1 hap j k hj hk h)
        · exact h
        · exact absurd hsame (apart_symm (List.pairwise_iff_getElem.1 hap k j hk hj h))
      subst hjk
      rfl
  · cases hf : l.find? fun x => cmpE x (skA nm ((vls args).map mkV) none 0 so) == 0 with
    | none => rfl
    | some e =>
      have he := List.mem_of_find?_eq_some hf
      have := List.find?_some hf
      rw [cmp_key] at this
      obtain ⟨j, hj, rfl⟩ := List.getElem_of_mem he
      have hz : cmpE l[j] (skA nm args none 0 so) = 0 := by simpa using this
      have := (place_iff _ _).2 hz
      rw [hno j hj] at this
      cases this
theorem look_rob {t : List EA} {nm : ByteArray} {args : List VA} {so : Int} {v : VA} (hv : LookR t nm args so v) {P : Nat → Prop} {w : World} (h : TabP P w t) : RobP P w v := by
  rcases hv with ⟨k, hk, _, rfl⟩ | ⟨_, rfl⟩
  · exact h _ (List.getElem_mem hk)
  · exact robP_plain _ _
/-- What the document's eval returns: a value and whether it is not too great; if so, it is the node's value, in memory. -/
def EvQ (m : List EA) (o : Option Vl) (w : World) (e : Ending) (w' : World) : Prop :=
  ∃ (y : VA) (ok : Bool), e = .returned (.tuple #[vv y, .bool ok]) ∧ RowKit.Below w.heap.size w w' ∧ (o = none → ok = false) ∧
    ∀ v, o = some v → ok = true ∧ y.v = v ∧ LiesV w' y ∧ ∀ P : Nat → Prop, (∀ k, w.heap.size ≤ k → ¬ P k) → TabP P w m → RobP P w' y
/-- The blocks of the call's own that are written: its boxes and its list's row. -/
def OwnP (w : World) (v : Value) : Nat → Prop := fun k => (w.heap.size ≤ k ∧ k < w.heap.size + 2) ∨ some k = v.ownBlock
/-- In the midst of eval's loop. -/
structure EI (m : List EA) (ks : List Nd) (w w0 : World) (k : Nat) (ok : Bool) (vl : Value) (wr : World) (xs : List VA) : Prop where
  len : xs.length = k
  own : wr.ownsRow w0.heap.size 27 5 vl k (flatV xs)
  yes : ok = true → evOs m (ks.take k) = some (xs.map (·.v)) ∧ ∀ x ∈ xs, ∀ P : Nat → Prop, (∀ k, w.heap.size ≤ k → ¬ P k) → TabP P w m → RobP (fun k => P k ∨ OwnP w vl k) wr x
  no : ok = false → evOs m ks = none
  bw : RowKit.Below w0.heap.size w0 wr
theorem EI.later {m : List EA} {ks : List Nd} {w w0 : World} {k : Nat} {ok : Bool} {vl : Value} {wr w' : World} {xs : List VA} (h : EI m ks w w0 k ok vl wr xs) (hb : RowKit.Below wr.heap.size wr w') : EI m ks w w0 k ok vl w' xs :=
  ⟨h.len, ownsV_below h.own hb, fun e => ⟨(h.yes e).1, fun x hx P h1 h2 => ((h.yes e).2 x hx P h1 h2).later hb⟩, h.no, h.bw.trans (hb.mono h.bw.size)⟩
/-- Behind an append. -/
theorem rob_append {P : Nat → Prop} {w wA w4 : World} {v v' : Value} {x : VA} {O : Obj} (h : RobP (fun k => P k ∨ OwnP w v k) wA x) (hg : (wA.alloc O).grownBy w4 v.ownBlock) (hat : v'.ownBlock = v.ownBlock ∨ v'.ownBlock = some (wA.alloc O).heap.size) : RobP (fun k => P k ∨ OwnP w v' k) w4 x := by
  intro W hW
  refine h W fun k hk hn => ?_
  have hk1 : k < (wA.alloc O).heap.size := by rw [one_size]; omega
  have hn1 : some k ≠ v.ownBlock := fun e => hn (.inr (.inr e))
  have hn2 : ¬ (P k ∨ OwnP w v' k) := by
    rintro (h1 | h1 | h1)
    · exact hn (.inl h1)
    · exact hn (.inr (.inl h1))
    · rcases hat with e | e
      · exact hn1 (by rw [← e]; exact h1)
      · rw [e] at h1
        have := Option.some.inj h1
        omega
  have h4 := hg.size
  exact (hW k (by omega) hn2).trans ((hg.block k hk1 hn1).trans (((RowKit.Below.refl wA.heap.size wA).alloc (Nat.le_refl _) O).block k hk))
theorem EI.step {m : List EA} {ks : List Nd} {w w0 : World} {k : Nat} {ok : Bool} {vl vl' : Value} {wr w4 : World} {xs : List VA} {O : Obj} {y : VA} {ok2 : Bool} (h : EI m ks w w0 k ok vl wr xs) (hlt : k < ks.length)
    (hn : evO m ks[k] = none → ok2 = false) (hy : ∀ v, evO m ks[k] = some v → ok2 = true ∧ y.v = v ∧ ∀ P : Nat → Prop, (∀ k, w.heap.size ≤ k → ¬ P k) → TabP P w m → RobP (fun k => P k ∨ OwnP w vl k) wr y)
    (hown : w4.ownsRow w0.heap.size 27 5 vl' (k + 1) (flatV xs ++ cells5V y)) (hg : (wr.alloc O).grownBy w4 vl.ownBlock) (hat : vl'.ownBlock = vl.ownBlock ∨ vl'.ownBlock = some (wr.alloc O).heap.size) :
    EI m ks w w0 (k + 1) (ok && ok2) vl' w4 (xs ++ [y]) := by
  have hal : RowKit.Below wr.heap.size wr (wr.alloc O) := (RowKit.Below.refl _ _).alloc (Nat.le_refl _) _
  refine ⟨by rw [List.length_append, h.len]; rfl, by rw [flatV_snoc]; exact hown, fun e => ?_, fun e => ?_, ?_⟩
  · rw [Bool.and_eq_true] at e
    obtain ⟨e1, e2⟩ := e
    cases hv : evO m ks[k] with
    | none => have := hn hv; rw [e2] at this; cases this
    | some v =>
      obtain ⟨_, hyv, hyr⟩ := hy v hv
      refine ⟨by rw [evOs_take hlt (h.yes e1).1 hv, List.map_append, List.map_singleton, hyv], fun x hx P h1 h2 => ?_⟩
      rcases List.mem_append.1 hx with hx | hx
      · exact rob_append ((h.yes e1).2 x hx P h1 h2) hg hat
      · simp at hx; subst hx; exact rob_append (hyr P h1 h2) hg hat
  · rw [Bool.and_eq_false_iff] at e
    rcases e with e | e
    · exact h.no e
    · cases hv : evO m ks[k] with
      | none => exact evOs_none hlt hv
      | some v => have := (hy v hv).1; rw [e] at this; cases this
  · exact (h.bw.trans (hal.mono h.bw.size)).grown hg (by rw [one_size]; have := h.bw.size; omega) (fun k e => (h.own.lt k e).1)
theorem EI.lies {m : List EA} {ks : List Nd} {w w0 : World} {k : Nat} {vl : Value} {wr : World} {xs : List VA} {A : Option Addr} (h : EI m ks w w0 k true vl wr xs) (hT : LiesM w A m) : ∀ x ∈ xs, LiesV wr x :=
  fun x hx => ((h.yes rfl).2 x hx noP (fun _ _ h => h) (TabP.none hT)).here
end Go.Proofs.YtmeeombadkgneaaGreat
namespace Go.Proofs.YtmeeombadkgneaaGreat
open Go.Proofs Go.RowKit Go.Shelf Go.Sort Go.Lib

attribute [local go_sem] Oper.semAt_some
theorem kid_facts {l : List EA} (hv : validM l = true) {n : Nd} (hall : allN n = true) (hno : ∀ p ∈ nodesOf n, p.op ≠ 42) {xs : List VA} (he : evOs l n.ks = some (xs.map (·.v))) : (∀ x ∈ xs, OkV x.v) ∧ ∃ s, ApK n.so n.nu n.nm s n.op xs := by
  rw [allN_eq, Bool.and_eq_true] at hall
  obtain ⟨ho, hks⟩ := hall
  unfold okN at ho
  rw [Bool.and_eq_true] at ho
  rw [nodesOf_eq] at hno
  obtain ⟨hlen, hi⟩ := evOs_len he
  have hlen' : xs.length = n.ks.length := by simpa using hlen
  have hkid : ∀ i (h : i < n.ks.length) (h2 : i < xs.length), OkV xs[i].v ∧ xs[i].v.so = sortN n.ks[i] := fun i h h2 =>
    evO_ok hv n.ks[i] (List.all_eq_true.1 hks _ (List.getElem_mem h)) (fun p hp => hno p (List.mem_cons_of_mem _ (List.mem_flatMap.2 ⟨_, List.getElem_mem h, hp⟩))) _ (by have := hi i h (by simpa using h2); simpa using this)
  have hso : xs.map (fun x => x.v.so) = n.ks.map sortN := by
    apply List.ext_getElem (by simp [hlen'])
    intro i h1 h2
    simp only [List.getElem_map]
    exact (hkid i (by simpa using h2) (by simpa using h1)).2
  refine ⟨fun x hx => ?_, _, apK_of (so := n.so) (nu := n.nu) (nm := n.nm) ho.1 ho.2 (hno n (by simp)) hso⟩
  obtain ⟨i, hi', rfl⟩ := List.getElem_of_mem hx
  exact (hkid i (by omega) hi').1
theorem few_kids {n : Nd} (hall : allN n = true) (hno : ∀ p ∈ nodesOf n, p.op ≠ 42) : n.ks.length ≤ 8 := by
  rw [allN_eq, Bool.and_eq_true] at hall
  have ho := hall.1
  unfold okN at ho
  rw [Bool.and_eq_true] at ho
  exact kids_few ho.2 (hno n (by rw [nodesOf_eq]; simp))
set_option maxRecDepth 100000 in
set_option maxHeartbeats 8000000 in
theorem refEval_any {m : List EA} (hv : validM m = true) (n : Nd) : allN n = true → (∀ p ∈ nodesOf n, p.op ≠ 42) → n.nm.size ≤ maxLen →
    ∀ (A C : Option Addr) (cap cc : Nat) (w : World), LiesM w A m → Lies w C cc n.ks →
    Calls Tryz.prog 77 #[nv n.op n.so n.nm n.nu (.slice C n.ks.length cc), .slice A m.length cap] w (EvQ m (evO m n) w) := by
  induction n using Nd.ind with
  | h n ih =>
  intro hall hno hnm A C cap cc w hT hC
  have HALL := hall
  have HNO := hno
  have hfew := few_kids hall hno
  rw [allN_eq, Bool.and_eq_true] at hall
  rw [nodesOf_eq] at hno
  have IH := Lib.hid (fun (i : Nat) (hi : i < n.ks.length) (A' : Option Addr) (C' : Nat) (W' : World) (h1 : LiesM W' A m) (h2 : Lies W' A' C' n.ks[i].ks) => ih i hi (List.all_eq_true.1 hall.2 _ (List.getElem_mem hi)) (fun p hp => hno p (List.mem_cons_of_mem _ (List.mem_flatMap.2 ⟨_, List.getElem_mem hi, hp⟩))) (hC.fine hi).nm A A' cap C' W' h1 h2)
  have HKF := Lib.hid (fun (xs : List VA) (he : evOs m n.ks = some (xs.map (·.v))) => kid_facts hv HALL HNO he)
  have HEV := Lib.hid (fun (vs : List Vl) (h : evOs m n.ks = some vs) => evO_some (t := n) h)
  have HNN := Lib.hid (fun (h : evOs m n.ks = none) => evO_none (t := n) h)
  have HLK := Lib.hid (fun (xs : List VA) (v : VA) (h : LookR m n.nm xs n.so v) => look_valF hv h)
  have HSO := Lib.hid (fun (W' : World) (h : RowKit.Below w.heap.size w W') => refSort_any n C cc W' (hC.later h))
  clear ih hno hall HALL HNO hv
  obtain ⟨i0, hi, hz0, hz1, hz2⟩ := info_parts info27
  have I0 := Lib.hid hi
  have Z0 := Lib.hid hz0
  have Z1 := Lib.hid hz1
  have Z2 := Lib.hid hz2
  clear hi hz0 hz1 hz2
  obtain ⟨W, hW⟩ : ∃ W, (w.alloc (.cells #[.int .i64 n.op, .int .i64 n.so, .string n.nm, .int .i64 n.nu, .slice C n.ks.length cc] 44)).alloc (.cells #[.int .i64 0, .int .i64 0, .slice none 0 0, .slice none 0 0, .slice none 0 0] 27) = W := ⟨_, rfl⟩
  have HB := Lib.hid (show RowKit.Below w.heap.size w W by rw [← hW]; exact ((RowKit.Below.refl _ _).alloc (Nat.le_refl _) _).alloc (by rw [one_size]; omega) _)
  have HP := Lib.hid (show W.heap[w.heap.size]? = some (.cells #[.int .i64 n.op, .int .i64 n.so, .string n.nm, .int .i64 n.nu, .slice C n.ks.length cc] 44) by rw [← hW]; exact two_fst _ _ _)
  have HQ := Lib.hid (show W.heap[w.heap.size + 1]? = some (.cells #[.int .i64 0, .int .i64 0, .slice none 0 0, .slice none 0 0, .slice none 0 0] 27) by rw [← hW]; exact two_snd _ _ _)
  have HSZ := Lib.hid (show W.heap.size = w.heap.size + 2 by rw [← hW]; exact two_size _ _ _)
  have HT := Lib.hid hT
  have HC := Lib.hid hC
  have HW := Lib.hid hW
  clear hW hT hC
  generalize hev : evO m n = o at *
  generalize hks : n.ks = ks at *
  generalize hop : n.op = op at *
  generalize hso : n.so = so at *
  generalize hnm' : n.nm = nm at *
  generalize hnu : n.nu = nu at *
  generalize sortN n = sn at *
  clear hev hks hop hso hnm' hnu
  obtain ⟨z0, z1, z2, z3, z4, f0, f1, f2, f3, f4⟩ := boxT_facts HP.out
  go_enter Tryz.func77, Tryz.ntmps77
  go_upto_region 1 with fail
  rw [HW.out]
  have M0 : Hid (∃ xs, EI m ks w W 0 true (.slice none 0 0) W xs) := ⟨[], rfl, World.ownsRow_nil _ _ _ _, fun _ => ⟨by simp [evOs], fun x hx => by simp at hx⟩, fun h => (nomatch h), RowKit.Below.refl _ _⟩
  go_wp2_with fail
  clear z0 z1 z2 z3 z4 f0 f1 f2 f3 f4
  go_loopw [6, 7, 15] (fun vl okv i wr => ∃ (k : Nat) (ok : Bool), k ≤ ks.length ∧ i = .int .i64 k ∧ okv = .bool ok ∧ Hid (∃ xs, EI m ks w W k ok vl wr xs)) (fun _ _ i _ => ks.length - (intOf i).toNat)
  case atStart => exact ⟨0, true, Nat.zero_le _, rfl, rfl, M0.out⟩
  case round =>
    obtain ⟨k, ok, hk, rfl, rfl, xs, hM⟩ := hrel
    have HM := Lib.hid hM
    have HWW := Lib.hid hM.bw
    have HBW := Lib.hid (HB.out.trans (hM.bw.mono HB.out.size))
    clear hM
    by_cases hlt : k < ks.length
    · obtain ⟨b, o, A', C', rfl, h5, hK⟩ := HC.out.kid hlt
      have h5' := h5.later HBW.out
      have hK' := Lib.hid (hK.later HBW.out)
      have c := Lib.hid (IH.out k hlt A' C')
      have HLT := Lib.hid hlt
      have HST := Lib.hid (fun (vl' : Value) (w3 w4 : World) (O : Obj) (y : VA) (ok2 : Bool) (h : EI m ks w W k ok u6 w3 xs) (hn : evO m ks[k] = none → ok2 = false) (hy : ∀ v, evO m ks[k] = some v → ok2 = true ∧ y.v = v ∧ ∀ P : Nat → Prop, (∀ k, w.heap.size ≤ k → ¬ P k) → TabP P w m → RobP (fun k => P k ∨ OwnP w u6 k) w3 y) => h.step (vl' := vl') (w4 := w4) (O := O) hlt hn hy)
      generalize ks[k] = q at *
      obtain ⟨a0, a1, a2, a3, a4⟩ := h5'
      clear h5 hK IH HKF HEV HNN HLK
      go_wp2_with fail
      have G1 := Lib.hid ((RowKit.Below.refl wr.heap.size wr).alloc (Nat.le_refl _) (.cells #[.int .i64 q.op, .int .i64 q.so, .string q.nm, .int .i64 q.nu, .slice A' q.ks.length C'] 44))
      refine (c.out _ (HT.out.later (HBW.out.trans (G1.out.mono HBW.out.size))) (hK'.out.later G1.out)).mono ?_
      rintro e w2 ⟨y, ok2, rfl, b2, hn, hy⟩
      have G2 := Lib.hid (G1.out.trans (b2.mono G1.out.size))
      have HN := Lib.hid hn
      have HOWN := Lib.hid HM.out.own.lt
      have HY := Lib.hid (fun v (h : evO m q = some v) => (show ok2 = true ∧ y.v = v ∧ ∀ P : Nat → Prop, (∀ k, w.heap.size ≤ k → ¬ P k) → TabP P w m → RobP (fun k => P k ∨ OwnP w u6 k) w2 y from by
        obtain ⟨h1, h2, _, h4⟩ := hy v h
        refine ⟨h1, h2, fun P p1 p2 => h4 _ (fun k hk => ?_) (p2.more (HBW.out.trans (G1.out.mono HBW.out.size)) (fun k h => ?_))⟩
        · have hs1 := G1.out.size
          have hs2 := HBW.out.size
          have hs3 := HWW.out.size
          have hs4 := HSZ.out
          rintro (h | h | h)
          · exact p1 k (by omega) h
          · omega
          · have := (HOWN.out k h.symm).2; omega
        · rcases h with h | h
          · exact h.1
          · have := (HOWN.out k h.symm).1; have := HB.out.size; omega))
      clear b2 hn hy a0 a1 a2 a3 a4 c
      obtain ⟨w3, hw3⟩ : ∃ w3, w2.alloc (boxV y 27) = w3 := ⟨_, rfl⟩
      have g3 : RowKit.Below w2.heap.size w2 w3 := by rw [← hw3]; exact (RowKit.Below.refl _ _).alloc (Nat.le_refl _) _
      have HR3 := Lib.hid (show w3.heap[w2.heap.size]? = some (boxV y 27) by rw [← hw3]; exact heap_alloc_new _ _)
      have HM3 := Lib.hid (HM.out.later (G2.out.trans (g3.mono G2.out.size)))
      have HST3 := Lib.hid (fun vl' w4 O => HST.out vl' w3 w4 O y ok2 HM3.out HN.out (fun v h => ⟨(HY.out v h).1, (HY.out v h).2.1, fun P p1 p2 => ((HY.out v h).2.2 P p1 p2).later g3⟩))
      have HO3 := Lib.hid (fun O => ownsV_below HM3.out.own (show RowKit.Below w3.heap.size w3 (w3.alloc O) from (RowKit.Below.refl _ _).alloc (Nat.le_refl _) _))
      have HLB := Lib.hid (fun O => show W.heap.size ≤ (w3.alloc O).heap.size by have := HM3.out.bw.size; rw [one_size]; omega)
      have L3 := Lib.hid (show k + 1 ≤ maxLen by have := HLT.out; unfold maxLen; omega)
      have L4 := Lib.hid (show (k + 1) * 88 ≤ 140737488355328 by have := HLT.out; omega)
      clear HY HN HST g3 HM
      cases ok
      all_goals
        go_upto_region 8 with fail
        try rw [hw3]
        obtain ⟨z0, z1, z2, z3, z4, _, _, _, _, _⟩ := boxT_facts HR3.out
        go_upto_region 9 with (at_builtin; refine wpList_append_own_at _ rfl _ _ 24 rfl W.heap.size 27 i0 (.agg #[.int .i64 0, .int .i64 0, .slice none 0 0, .slice none 0 0, .slice none 0 0]) 5 88 Tryz.underlying24 I0.out Z0.out Z1.out Z2.out rfl (by decide) u6 k (flatV xs) rfl (HO3.out _) ⟨w3.heap.size, 0, none⟩ 1 1 (cells5V y) rfl rfl (newsV5 _ _ _ _ rfl) (oneV5 y) L3.out L4.out (HLB.out _) ?_; intro v1 w4 hown hgrow _ hat)
        have HM4 := Lib.hid (HST3.out v1 w4 _ hown hgrow hat)
        clear hown hgrow hat z0 z1 z2 z3 z4
        go_wp2_with fail
        go_roundw
        case rel => exact ⟨k + 1, _, by have := HLT.out; omega, by go_num, by first | rfl | simp, _, HM4.out⟩
        case measure => simp [intOf]; have := HLT.out; omega
    · have hke : k = ks.length := by omega
      subst hke
      have HQ1 := Lib.hid ((HWW.out.block _ (Array.getElem?_eq_some_iff.1 HQ.out).1).trans HQ.out)
      obtain ⟨z0, z1, z2, z3, z4, _, _, _, _, _⟩ := boxT_facts ((HWW.out.block _ (Array.getElem?_eq_some_iff.1 HP.out).1).trans HP.out)
      clear IH
      cases ok with
      | false =>
        have HO := Lib.hid (HNN.out (HM.out.no rfl))
        clear HKF HEV HLK HNN
        go_wp2_with fail
        refine (HSO.out wr HBW.out).mono ?_
        rintro e w2 ⟨rfl, b2⟩
        have hQ2 := (b2.block _ (Array.getElem?_eq_some_iff.1 HQ1.out).1).trans HQ1.out
        have HX := Lib.hid (setT_same (.int .i64 sn) (.int .i64 0) (.slice none 0 0) (.slice none 0 0) (.slice none 0 0) hQ2)
        have HBF := Lib.hid (Below.set5 (HBW.out.trans (b2.mono HBW.out.size)) (b := w.heap.size + 1) (by omega) (.int .i64 sn) (.int .i64 0) (.slice none 0 0) (.slice none 0 0) (.slice none 0 0))
        clear z0 z1 z2 z3 z4 b2
        obtain ⟨z0, z1, z2, z3, z4, f0, f1, f2, f3, f4⟩ := boxT_facts hQ2
        clear hQ2
        go_wp2_with fail
        clear z0 z1 z2 z3 z4 f0 f1 f2 f3 f4
        obtain ⟨y0, y1, y2, y3, y4, _, _, _, _, _⟩ := boxT_facts HX.out
        exact bodyPost_ret (v := .tuple #[.agg #[.int .i64 sn, .int .i64 0, .slice none 0 0, .slice none 0 0, .slice none 0 0], .bool false]) (by simp [results, Tryz.results77, go_sem, y0, y1, y2, y3, y4]) rfl ⟨⟨⟨sn, 0, [], [], []⟩, none, 0, none, 0, none, 0⟩, false, rfl, HBF.out, fun _ => rfl, fun v h => by rw [HO.out] at h; cases h⟩
      | true =>
        obtain ⟨hyes1, hyes2⟩ := HM.out.yes rfl
        rw [List.take_of_length_le (Nat.le_refl _)] at hyes1
        have HO := Lib.hid (HEV.out _ hyes1)
        obtain ⟨hok, s, hk⟩ := HKF.out xs hyes1
        have hxl := HM.out.len
        obtain ⟨A2, c2, hvl, hlv⟩ := owns_vals (by rw [hxl]; exact HM.out.own) (HM.out.lies HT.out) (by rw [hxl]; unfold maxLen; omega)
        subst hvl
        have HLV := Lib.hid hlv
        have HROB := Lib.hid hyes2
        have HOWN := Lib.hid HM.out.own.lt
        clear hyes1 hyes2 hlv HKF HEV HNN HM hxl
        by_cases h1 : op = 1
        · subst h1
          have HOO := Lib.hid (show o = some (valF m nm (xs.map (·.v)) so) by rw [HO.out]; simp [apO])
          clear HO HSO hk
          go_wp2_with fail
          refine (refLookup_any m nm xs so A A2 cap c2 wr (HT.out.later HBW.out) HLV.out).mono ?_
          rintro e w2 ⟨⟨y, rfl, hy⟩, b2⟩
          have hb2 := HBW.out.trans (b2.mono HBW.out.size)
          have hQ2 := (b2.block _ (Array.getElem?_eq_some_iff.1 HQ1.out).1).trans HQ1.out
          have HX := Lib.hid (setT_same (.int .i64 y.v.so) (.int .i64 y.v.nu) (.slice y.a1 y.v.st.length y.c1) (.slice y.a2 y.v.ix.length y.c2) (.slice y.a3 y.v.xs.length y.c3) hQ2)
          have HBF := Lib.hid (Below.set5 hb2 (b := w.heap.size + 1) (by omega) (.int .i64 y.v.so) (.int .i64 y.v.nu) (.slice y.a1 y.v.st.length y.c1) (.slice y.a2 y.v.ix.length y.c2) (.slice y.a3 y.v.xs.length y.c3))
          have HVE := Lib.hid (HLK.out xs y hy)
          have HRR : Hid (∀ P : Nat → Prop, (∀ k, w.heap.size ≤ k → ¬ P k) → TabP P w m → RobP P (set5 w2 (w.heap.size + 1) (.int .i64 y.v.so) (.int .i64 y.v.nu) (.slice y.a1 y.v.st.length y.c1) (.slice y.a2 y.v.ix.length y.c2) (.slice y.a3 y.v.xs.length y.c3)) y) := fun P p1 p2 => ((look_rob hy (p2.more (N := fun k => w.heap.size ≤ k ∧ k < w.heap.size + 2) hb2 (fun k h => h.1))).same (set5_size _ _ _ _ _ _ _) (fun k hk => set5_other _ _ _ _ _ (fun e => hk (.inr (by omega))))).fewer (fun k h => .inl h)
          clear z0 z1 z2 z3 z4 b2 hb2 hy HLK
          obtain ⟨z0, z1, z2, z3, z4, f0, f1, f2, f3, f4⟩ := boxT_facts hQ2
          clear hQ2
          go_wp2_with fail
          clear z0 z1 z2 z3 z4 f0 f1 f2 f3 f4
          obtain ⟨y0, y1, y2, y3, y4, _, _, _, _, _⟩ := boxT_facts HX.out
          exact bodyPost_ret (v := .tuple #[vv y, .bool true]) (by simp [results, Tryz.results77, go_sem, y0, y1, y2, y3, y4]) rfl ⟨y, true, rfl, HBF.out, fun hn => (by rw [HOO.out] at hn; cases hn), fun v hv => ⟨rfl, (by rw [HOO.out] at hv; cases hv; exact HVE.out), (HRR.out noP (fun _ _ h => h) (TabP.none HT.out)).here, HRR.out⟩⟩
        by_cases h3 : op = 3
        · subst h3
          have HOO := Lib.hid (show o = some (valF m nm (xs.map (·.v)) so) by rw [HO.out]; simp [apO])
          clear HO HSO hk
          go_wp2_with fail
          refine (refLookup_any m nm xs so A A2 cap c2 wr (HT.out.later HBW.out) HLV.out).mono ?_
          rintro e w2 ⟨⟨y, rfl, hy⟩, b2⟩
          have hb2 := HBW.out.trans (b2.mono HBW.out.size)
          have hQ2 := (b2.block _ (Array.getElem?_eq_some_iff.1 HQ1.out).1).trans HQ1.out
          have HX := Lib.hid (setT_same (.int .i64 y.v.so) (.int .i64 y.v.nu) (.slice y.a1 y.v.st.length y.c1) (.slice y.a2 y.v.ix.length y.c2) (.slice y.a3 y.v.xs.length y.c3) hQ2)
          have HBF := Lib.hid (Below.set5 hb2 (b := w.heap.size + 1) (by omega) (.int .i64 y.v.so) (.int .i64 y.v.nu) (.slice y.a1 y.v.st.length y.c1) (.slice y.a2 y.v.ix.length y.c2) (.slice y.a3 y.v.xs.length y.c3))
          have HVE := Lib.hid (HLK.out xs y hy)
          have HRR : Hid (∀ P : Nat → Prop, (∀ k, w.heap.size ≤ k → ¬ P k) → TabP P w m → RobP P (set5 w2 (w.heap.size + 1) (.int .i64 y.v.so) (.int .i64 y.v.nu) (.slice y.a1 y.v.st.length y.c1) (.slice y.a2 y.v.ix.length y.c2) (.slice y.a3 y.v.xs.length y.c3)) y) := fun P p1 p2 => ((look_rob hy (p2.more (N := fun k => w.heap.size ≤ k ∧ k < w.heap.size + 2) hb2 (fun k h => h.1))).same (set5_size _ _ _ _ _ _ _) (fun k hk => set5_other _ _ _ _ _ (fun e => hk (.inr (by omega))))).fewer (fun k h => .inl h)
          clear z0 z1 z2 z3 z4 b2 hb2 hy HLK
          obtain ⟨z0, z1, z2, z3, z4, f0, f1, f2, f3, f4⟩ := boxT_facts hQ2
          clear hQ2
          go_wp2_with fail
          clear z0 z1 z2 z3 z4 f0 f1 f2 f3 f4
          obtain ⟨y0, y1, y2, y3, y4, _, _, _, _, _⟩ := boxT_facts HX.out
          exact bodyPost_ret (v := .tuple #[vv y, .bool true]) (by simp [results, Tryz.results77, go_sem, y0, y1, y2, y3, y4]) rfl ⟨y, true, rfl, HBF.out, fun hn => (by rw [HOO.out] at hn; cases hn), fun v hv => ⟨rfl, (by rw [HOO.out] at hv; cases hv; exact HVE.out), (HRR.out noP (fun _ _ h => h) (TabP.none HT.out)).here, HRR.out⟩⟩
        have d1 : (op == 1) = false := by simpa using h1
        have d3 : (op == 3) = false := by simpa using h3
        have HAP := Lib.hid (refApply_any m op so nu s nm xs C A2 ks.length cc c2 wr HLV.out hok h1 h3 hk)
        rw [show apO m op so nm nu (xs.map (·.v)) = o from HO.out.symm] at HAP
        clear HO HSO hk HLK h1 h3
        go_wp2_with fail
        refine HAP.out.mono ?_
        rintro e w2 ⟨y, ok, rfl, b2, hn, hy⟩
        have hb2 := HBW.out.trans (b2.mono HBW.out.size)
        have hQ2 := (b2.block _ (Array.getElem?_eq_some_iff.1 HQ1.out).1).trans HQ1.out
        have HX := Lib.hid (setT_same (.int .i64 y.v.so) (.int .i64 y.v.nu) (.slice y.a1 y.v.st.length y.c1) (.slice y.a2 y.v.ix.length y.c2) (.slice y.a3 y.v.xs.length y.c3) hQ2)
        have HBF := Lib.hid (Below.set5 hb2 (b := w.heap.size + 1) (by omega) (.int .i64 y.v.so) (.int .i64 y.v.nu) (.slice y.a1 y.v.st.length y.c1) (.slice y.a2 y.v.ix.length y.c2) (.slice y.a3 y.v.xs.length y.c3))
        have HN := Lib.hid hn
        have HY := Lib.hid hy
        have HRR : Hid (∀ v, o = some v → ∀ P : Nat → Prop, (∀ k, w.heap.size ≤ k → ¬ P k) → TabP P w m → RobP P (set5 w2 (w.heap.size + 1) (.int .i64 y.v.so) (.int .i64 y.v.nu) (.slice y.a1 y.v.st.length y.c1) (.slice y.a2 y.v.ix.length y.c2) (.slice y.a3 y.v.xs.length y.c3)) y) := fun v hv P p1 p2 => by
          have hs1 := HWW.out.size
          have hs2 := HSZ.out
          have h5 := (HY.out v hv).2.2.2 (fun k => P k ∨ OwnP w (.slice A2 xs.length c2) k) (fun k hk => by
            rintro (h | h | h)
            · exact p1 k (by omega) h
            · omega
            · have := (HOWN.out k h.symm).2; omega) (fun x hx => HROB.out x hx P p1 p2)
          exact (h5.same (set5_size _ _ _ _ _ _ _) (fun k hk => set5_other _ _ _ _ _ (fun e => hk (.inr (.inl (by omega)))))).fewer (fun k h => .inl h)
        clear z0 z1 z2 z3 z4 b2 hb2 hn hy HAP
        obtain ⟨z0, z1, z2, z3, z4, f0, f1, f2, f3, f4⟩ := boxT_facts hQ2
        clear hQ2
        go_wp2_with fail
        clear z0 z1 z2 z3 z4 f0 f1 f2 f3 f4
        obtain ⟨y0, y1, y2, y3, y4, _, _, _, _, _⟩ := boxT_facts HX.out
        exact bodyPost_ret (v := .tuple #[vv y, .bool ok]) (by simp [results, Tryz.results77, go_sem, y0, y1, y2, y3, y4]) rfl ⟨y, ok, rfl, HBF.out, HN.out, fun v hv => ⟨(HY.out v hv).1, (HY.out v hv).2.1, (HRR.out v hv noP (fun _ _ h => h) (TabP.none HT.out)).here, HRR.out v hv⟩⟩
end Go.Proofs.YtmeeombadkgneaaGreat
namespace Go.Proofs.YtmeeombadkgneaaGreat
open Go.Proofs Go.RowKit Go.Shelf Go.Sort Go.Lib

set_option linter.unusedVariables false
attribute [local go_sem] Oper.semAt_some
theorem holeB_eq (t : Nd) : holeB (preN 1 t) = (nodesOf t).any fun y => y.op == 42 := by
  unfold holeB nodesOf
  rw [List.any_map]
  rfl
def holR (t : Nd) : Bool := (nodesOf t).any fun y => y.op == 42
theorem holR_eq (t : Nd) : holR t = (t.op == 42 || t.ks.any holR) := by
  rw [holR, nodesOf_eq, List.any_cons, List.any_flatMap]; rfl

set_option maxRecDepth 100000 in
set_option maxHeartbeats 2000000 in
theorem refHoles_any (t : Nd) : ∀ (A : Option Addr) (cap : Nat) (w : World), Lies w A cap t.ks →
    Calls Tryz.prog 76 #[nv t.op t.so t.nm t.nu (.slice A t.ks.length cap)] w fun e w' => e = .returned (.bool (holR t)) ∧ Below w.heap.size w w' := by
  induction t using Nd.ind with
  | h t ih =>
  intro A cap w hL
  have HB1 : Below w.heap.size w (w.alloc (.cells #[.int .i64 t.op, .int .i64 t.so, .string t.nm, .int .i64 t.nu, .slice A t.ks.length cap] 44)) := (Below.refl _ _).alloc (Nat.le_refl _) _
  have hn := hL.len
  unfold maxLen at hn
  have HL := Lib.hid hL
  have IH := Lib.hid ih
  clear hL ih
  have HB1 := Lib.hid HB1
  have HB : ∀ O, Below w.heap.size w (w.alloc O) := fun O => (Below.refl _ _).alloc (Nat.le_refl _) _
  by_cases h0 : t.op = 42
  · have Hr := Lib.hid (show holR t = true by rw [holR_eq]; simp [h0])
    have h3' : (t.op == 42) = true := by simpa using h0
    clear h0
    go_enter Tryz.func76, Tryz.ntmps76
    go_wp2_with fail
    go_ret
    exact ⟨by rw [Hr.out]; rfl, HB1.out⟩
  have hz := Lib.hid (show holR t = t.ks.any holR by
    rw [holR_eq]
    have : (t.op == 42) = false := by simpa using h0
    rw [this, Bool.false_or])
  have h3' : (t.op == 42) = false := by simpa using h0
  clear h0
  go_enter Tryz.func76, Tryz.ntmps76
  go_wp2_with fail
  go_loopw [11] (fun i wr => ∃ k : Nat, k ≤ t.ks.length ∧ i = .int .i64 k ∧ Hid (∀ j (h : j < t.ks.length), j < k → holR t.ks[j] = false) ∧ Below w.heap.size w wr) (fun i _ => t.ks.length - (intOf i).toNat)
  case atStart => exact ⟨0, Nat.zero_le _, rfl, fun j hj hjk => absurd hjk (by omega), HB _⟩
  case round =>
    obtain ⟨k, hk, rfl, hj, hBr⟩ := hrel
    by_cases hlt : k < t.ks.length
    · obtain ⟨b, o, A', C', rfl, g5, hK⟩ := HL.out.kid hlt
      obtain ⟨a0, a1, a2, a3, a4⟩ := g5.later hBr
      have c := Lib.hid (IH.out k hlt A' C')
      have hK' := Lib.hid (hK.later hBr)
      have hsn := Lib.hid (fun (e : holR t.ks[k] = false) => (show Hid (∀ j (h : j < t.ks.length), j < k + 1 → holR t.ks[j] = false) from fun j hjs hjk => by
        by_cases e' : j = k
        · subst e'; exact e
        · exact hj.out j hjs (by omega)))
      have hyes := Lib.hid (fun (e : holR t.ks[k] = true) => hz.out.trans (List.any_eq_true.2 ⟨_, List.getElem_mem hlt, e⟩))
      have hszr := hBr.size
      have HBr := Lib.hid hBr
      generalize t.ks[k] = q at *
      clear g5 hK IH HL hj
      cases hq : holR q
      case false =>
        have Hq := Lib.hid hq
        have Hsn := hsn.out hq
        clear hq hyes
        go_wp2_with fail
        refine (c.out _ (hK'.out.later ((Below.refl _ _).alloc (Nat.le_refl _) _))).mono ?_
        rintro e w2 ⟨rfl, hb2⟩
        rw [Hq.out]
        have hB2 := Lib.hid (HBr.out.trans ((((Below.refl _ wr).alloc (Nat.le_refl _) _).trans (hb2.mono (by simp))).mono hszr))
        clear hb2
        go_wp2_with fail
        go_roundw
        case rel => exact ⟨k + 1, by omega, by go_num, Hsn, hB2.out⟩
        case measure => simp [intOf]; omega
      case true =>
        have Hq := Lib.hid hq
        have Hr := Lib.hid (hyes.out hq)
        clear hq hyes hsn
        go_wp2_with fail
        refine (c.out _ (hK'.out.later ((Below.refl _ _).alloc (Nat.le_refl _) _))).mono ?_
        rintro e w2 ⟨rfl, hb2⟩
        rw [Hq.out]
        have hB2 := Lib.hid (HBr.out.trans ((((Below.refl _ wr).alloc (Nat.le_refl _) _).trans (hb2.mono (by simp))).mono hszr))
        clear hb2
        go_wp2_with fail
        go_ret
        exact ⟨by rw [Hr.out]; rfl, hB2.out⟩
    · have Hr := Lib.hid (hz.out.trans (show t.ks.any holR = false from by
        rw [← Bool.not_eq_true, List.any_eq_true]
        rintro ⟨x, hx, hx2⟩
        obtain ⟨i, hi, rfl⟩ := List.getElem_of_mem hx
        have := hj.out i hi (by omega)
        rw [this] at hx2
        cases hx2))
      go_wp2_with fail
      go_ret
      exact ⟨by rw [Hr.out]; rfl, hBr⟩

theorem holR_B (t : Nd) : holR t = holeB (preN 1 t) := (holeB_eq t).symm
/-- What the document's Value and its like return. -/
def ValR (l : List EA) (t : Nd) (sort : Int) (w : World) (e : Ending) (w' : World) : Prop :=
  (∃ y : VA, e = .returned (.tuple #[vv y, .int .i64 (valE l t sort)]) ∧ y.v = valV l t sort ∧ ∀ P : Nat → Prop, (∀ k, w.heap.size ≤ k → ¬ P k) → TabP P w l → RobP P w' y) ∧ RowKit.Below w.heap.size w w'
theorem zval_postR {l : List EA} {t : Nd} {sort : Int} {w w' : World} {c : Int} (hc : valE l t sort = c) (h0 : c ≠ 0) (hb : RowKit.Below w.heap.size w w') : ValR l t sort w (.returned (.tuple #[.agg #[.int .i64 0, .int .i64 0, .slice none 0 0, .slice none 0 0, .slice none 0 0], .int .i64 c])) w' := by
  subst hc
  exact ⟨⟨⟨zV, none, 0, none, 0, none, 0⟩, rfl, (valV_err h0).symm, fun _ _ _ => robP_plain 0 0⟩, hb⟩
set_option maxRecDepth 100000 in
set_option maxHeartbeats 4000000 in
theorem valued1 (l : List EA) (n : Nd) (sort : Int) (A C : Option Addr) (cap cc : Nat) (w : World) (hL : LiesM w A l) (hC : Lies w C cc n.ks) (hF : Fine n) (hcnt : cnt n ≤ 1048576) (h : checkV n sort ≠ 0) :
    Calls Tryz.prog 47 #[nv n.op n.so n.nm n.nu (.slice C n.ks.length cc), .slice A l.length cap, .int .i64 sort] w (ValR l n sort w) := by
  have HE := Lib.hid (valE_check (l := l) h)
  have hc := h
  obtain ⟨W, hW⟩ : ∃ W, (w.alloc (.cells #[.int .i64 n.op, .int .i64 n.so, .string n.nm, .int .i64 n.nu, .slice C n.ks.length cc] 44)).alloc (.cells #[.int .i64 0, .int .i64 0, .slice none 0 0, .slice none 0 0, .slice none 0 0] 27) = W := ⟨_, rfl⟩
  have HB := Lib.hid (show RowKit.Below w.heap.size w W by rw [← hW]; exact ((RowKit.Below.refl _ _).alloc (Nat.le_refl _) _).alloc (by rw [one_size]; omega) _)
  have HP := Lib.hid (show W.heap[w.heap.size]? = some (.cells #[.int .i64 n.op, .int .i64 n.so, .string n.nm, .int .i64 n.nu, .slice C n.ks.length cc] 44) by rw [← hW]; exact two_fst _ _ _)
  have HQ := Lib.hid (show W.heap[w.heap.size + 1]? = some (.cells #[.int .i64 0, .int .i64 0, .slice none 0 0, .slice none 0 0, .slice none 0 0] 27) by rw [← hW]; exact two_snd _ _ _)
  have HL := Lib.hid (hL.later HB.out)
  have CK := Lib.hid (refCheck_any n sort C cc W (hC.later HB.out) hcnt)
  rw [← check_eq n sort hcnt] at CK
  have CH := Lib.hid (fun W' (h : RowKit.Below W.heap.size W W') => refHoles_any n C cc W' ((hC.later HB.out).later h))
  rw [holR_B] at CH
  have HW := Lib.hid hW
  clear hW hL hC
  generalize n.ks.length = len at *
  generalize n.op = op at *
  generalize n.so = so at *
  generalize n.nm = nm at *
  generalize n.nu = nu at *
  obtain ⟨z0, z1, z2, z3, z4, f0, f1, f2, f3, f4⟩ := boxT_facts HP.out
  go_enter Tryz.func47, Tryz.ntmps47
  go_upto_region 1 with fail
  rw [HW.out]
  go_wp2_with fail
  refine CK.out.mono ?_
  rintro e w1 ⟨rfl, b1⟩
  have B1 := Lib.hid b1
  clear b1 z0 z1 z2 z3 z4 f0 f1 f2 f3 f4
  generalize checkV n sort = c at *
  have hcc : (c != 0) = true := by simpa using hc
  have H0 := Lib.hid hc
  clear h hc
  have hQZ := (B1.out.block _ (Array.getElem?_eq_some_iff.1 HQ.out).1).trans HQ.out
  have HX := Lib.hid (setT_same (.int .i64 0) (.int .i64 0) (.slice none 0 0) (.slice none 0 0) (.slice none 0 0) hQZ)
  have HBX := Lib.hid (Below.set5 (HB.out.trans (B1.out.mono HB.out.size)) (b := w.heap.size + 1) (by omega) (.int .i64 0) (.int .i64 0) (.slice none 0 0) (.slice none 0 0) (.slice none 0 0))
  obtain ⟨y0, y1, y2, y3, y4, g0, g1, g2, g3, g4⟩ := boxT_facts hQZ
  clear hQZ
  go_wp2_with fail
  clear y0 y1 y2 y3 y4 g0 g1 g2 g3 g4
  obtain ⟨y0, y1, y2, y3, y4, _, _, _, _, _⟩ := boxT_facts HX.out
  exact bodyPost_ret (v := .tuple #[.agg #[.int .i64 0, .int .i64 0, .slice none 0 0, .slice none 0 0, .slice none 0 0], .int .i64 c]) (by simp [results, Tryz.results47, go_sem, y0, y1, y2, y3, y4]) rfl (zval_postR HE.out H0.out HBX.out)
set_option maxRecDepth 100000 in
set_option maxHeartbeats 4000000 in
theorem valued2 (l : List EA) (n : Nd) (sort : Int) (A C : Option Addr) (cap cc : Nat) (w : World) (hL : LiesM w A l) (hC : Lies w C cc n.ks) (hF : Fine n) (hcnt : cnt n ≤ 1048576) (h : checkV n sort = 0) (h2 : holeB (preN 1 n) = true) :
    Calls Tryz.prog 47 #[nv n.op n.so n.nm n.nu (.slice C n.ks.length cc), .slice A l.length cap, .int .i64 sort] w (ValR l n sort w) := by
  have HE := Lib.hid (valE_form (l := l) h (.inr h2))
  have HC0 := Lib.hid h
  have HH := Lib.hid h2
  obtain ⟨W, hW⟩ : ∃ W, (w.alloc (.cells #[.int .i64 n.op, .int .i64 n.so, .string n.nm, .int .i64 n.nu, .slice C n.ks.length cc] 44)).alloc (.cells #[.int .i64 0, .int .i64 0, .slice none 0 0, .slice none 0 0, .slice none 0 0] 27) = W := ⟨_, rfl⟩
  have HB := Lib.hid (show RowKit.Below w.heap.size w W by rw [← hW]; exact ((RowKit.Below.refl _ _).alloc (Nat.le_refl _) _).alloc (by rw [one_size]; omega) _)
  have HP := Lib.hid (show W.heap[w.heap.size]? = some (.cells #[.int .i64 n.op, .int .i64 n.so, .string n.nm, .int .i64 n.nu, .slice C n.ks.length cc] 44) by rw [← hW]; exact two_fst _ _ _)
  have HQ := Lib.hid (show W.heap[w.heap.size + 1]? = some (.cells #[.int .i64 0, .int .i64 0, .slice none 0 0, .slice none 0 0, .slice none 0 0] 27) by rw [← hW]; exact two_snd _ _ _)
  have HL := Lib.hid (hL.later HB.out)
  have CK := Lib.hid (refCheck_any n sort C cc W (hC.later HB.out) hcnt)
  rw [← check_eq n sort hcnt] at CK
  have CH := Lib.hid (fun W' (h : RowKit.Below W.heap.size W W') => refHoles_any n C cc W' ((hC.later HB.out).later h))
  rw [holR_B] at CH
  have HW := Lib.hid hW
  clear hW hL hC
  generalize n.ks.length = len at *
  generalize n.op = op at *
  generalize n.so = so at *
  generalize n.nm = nm at *
  generalize n.nu = nu at *
  obtain ⟨z0, z1, z2, z3, z4, f0, f1, f2, f3, f4⟩ := boxT_facts HP.out
  go_enter Tryz.func47, Tryz.ntmps47
  go_upto_region 1 with fail
  rw [HW.out]
  go_wp2_with fail
  refine CK.out.mono ?_
  rintro e w1 ⟨rfl, b1⟩
  have B1 := Lib.hid b1
  clear b1 z0 z1 z2 z3 z4 f0 f1 f2 f3 f4
  rw [show checkV n sort = 0 from HC0.out]
  obtain ⟨z0, z1, z2, z3, z4, f0, f1, f2, f3, f4⟩ := boxT_facts ((B1.out.block _ (Array.getElem?_eq_some_iff.1 HP.out).1).trans HP.out)
  go_wp2_with fail
  refine (CH.out _ B1.out).mono ?_
  rintro e w2 ⟨rfl, b2⟩
  rw [HH.out]
  have B2 := Lib.hid (B1.out.trans (b2.mono B1.out.size))
  clear b2 z0 z1 z2 z3 z4 f0 f1 f2 f3 f4
  have H0 := Lib.hid (show (3 : Int) ≠ 0 by decide)
  clear h h2
  have hQZ := (B2.out.block _ (Array.getElem?_eq_some_iff.1 HQ.out).1).trans HQ.out
  have HX := Lib.hid (setT_same (.int .i64 0) (.int .i64 0) (.slice none 0 0) (.slice none 0 0) (.slice none 0 0) hQZ)
  have HBX := Lib.hid (Below.set5 (HB.out.trans (B2.out.mono HB.out.size)) (b := w.heap.size + 1) (by omega) (.int .i64 0) (.int .i64 0) (.slice none 0 0) (.slice none 0 0) (.slice none 0 0))
  obtain ⟨y0, y1, y2, y3, y4, g0, g1, g2, g3, g4⟩ := boxT_facts hQZ
  clear hQZ
  go_wp2_with fail
  clear y0 y1 y2 y3 y4 g0 g1 g2 g3 g4
  obtain ⟨y0, y1, y2, y3, y4, _, _, _, _, _⟩ := boxT_facts HX.out
  exact bodyPost_ret (v := .tuple #[.agg #[.int .i64 0, .int .i64 0, .slice none 0 0, .slice none 0 0, .slice none 0 0], .int .i64 3]) (by simp [results, Tryz.results47, go_sem, y0, y1, y2, y3, y4]) rfl (zval_postR HE.out H0.out HBX.out)
set_option maxRecDepth 100000 in
set_option maxHeartbeats 4000000 in
theorem valued3 (l : List EA) (n : Nd) (sort : Int) (A C : Option Addr) (cap cc : Nat) (w : World) (hL : LiesM w A l) (hC : Lies w C cc n.ks) (hF : Fine n) (hcnt : cnt n ≤ 1048576) (h : checkV n sort = 0) (h2 : holeB (preN 1 n) = false) (h3 : validM l = false) :
    Calls Tryz.prog 47 #[nv n.op n.so n.nm n.nu (.slice C n.ks.length cc), .slice A l.length cap, .int .i64 sort] w (ValR l n sort w) := by
  have HE := Lib.hid (valE_form (l := l) h (.inl h3))
  have HC0 := Lib.hid h
  have HH := Lib.hid h2
  have HV := Lib.hid h3
  obtain ⟨W, hW⟩ : ∃ W, (w.alloc (.cells #[.int .i64 n.op, .int .i64 n.so, .string n.nm, .int .i64 n.nu, .slice C n.ks.length cc] 44)).alloc (.cells #[.int .i64 0, .int .i64 0, .slice none 0 0, .slice none 0 0, .slice none 0 0] 27) = W := ⟨_, rfl⟩
  have HB := Lib.hid (show RowKit.Below w.heap.size w W by rw [← hW]; exact ((RowKit.Below.refl _ _).alloc (Nat.le_refl _) _).alloc (by rw [one_size]; omega) _)
  have HP := Lib.hid (show W.heap[w.heap.size]? = some (.cells #[.int .i64 n.op, .int .i64 n.so, .string n.nm, .int .i64 n.nu, .slice C n.ks.length cc] 44) by rw [← hW]; exact two_fst _ _ _)
  have HQ := Lib.hid (show W.heap[w.heap.size + 1]? = some (.cells #[.int .i64 0, .int .i64 0, .slice none 0 0, .slice none 0 0, .slice none 0 0] 27) by rw [← hW]; exact two_snd _ _ _)
  have HL := Lib.hid (hL.later HB.out)
  have CK := Lib.hid (refCheck_any n sort C cc W (hC.later HB.out) hcnt)
  rw [← check_eq n sort hcnt] at CK
  have CH := Lib.hid (fun W' (h : RowKit.Below W.heap.size W W') => refHoles_any n C cc W' ((hC.later HB.out).later h))
  rw [holR_B] at CH
  have HW := Lib.hid hW
  clear hW hL hC
  generalize n.ks.length = len at *
  generalize n.op = op at *
  generalize n.so = so at *
  generalize n.nm = nm at *
  generalize n.nu = nu at *
  obtain ⟨z0, z1, z2, z3, z4, f0, f1, f2, f3, f4⟩ := boxT_facts HP.out
  go_enter Tryz.func47, Tryz.ntmps47
  go_upto_region 1 with fail
  rw [HW.out]
  go_wp2_with fail
  refine CK.out.mono ?_
  rintro e w1 ⟨rfl, b1⟩
  have B1 := Lib.hid b1
  clear b1 z0 z1 z2 z3 z4 f0 f1 f2 f3 f4
  rw [show checkV n sort = 0 from HC0.out]
  obtain ⟨z0, z1, z2, z3, z4, f0, f1, f2, f3, f4⟩ := boxT_facts ((B1.out.block _ (Array.getElem?_eq_some_iff.1 HP.out).1).trans HP.out)
  go_wp2_with fail
  refine (CH.out _ B1.out).mono ?_
  rintro e w2 ⟨rfl, b2⟩
  rw [HH.out]
  have B2 := Lib.hid (B1.out.trans (b2.mono B1.out.size))
  clear b2 z0 z1 z2 z3 z4 f0 f1 f2 f3 f4
  go_wp2_with fail
  refine (refValidM_any l A cap _ (HL.out.later B2.out)).mono ?_
  rintro e w3 ⟨rfl, b3⟩
  rw [HV.out]
  have B3 := Lib.hid (B2.out.trans (b3.mono B2.out.size))
  clear b3
  have H0 := Lib.hid (show (3 : Int) ≠ 0 by decide)
  clear h h2 h3
  have hQZ := (B3.out.block _ (Array.getElem?_eq_some_iff.1 HQ.out).1).trans HQ.out
  have HX := Lib.hid (setT_same (.int .i64 0) (.int .i64 0) (.slice none 0 0) (.slice none 0 0) (.slice none 0 0) hQZ)
  have HBX := Lib.hid (Below.set5 (HB.out.trans (B3.out.mono HB.out.size)) (b := w.heap.size + 1) (by omega) (.int .i64 0) (.int .i64 0) (.slice none 0 0) (.slice none 0 0) (.slice none 0 0))
  obtain ⟨y0, y1, y2, y3, y4, g0, g1, g2, g3, g4⟩ := boxT_facts hQZ
  clear hQZ
  go_wp2_with fail
  clear y0 y1 y2 y3 y4 g0 g1 g2 g3 g4
  obtain ⟨y0, y1, y2, y3, y4, _, _, _, _, _⟩ := boxT_facts HX.out
  exact bodyPost_ret (v := .tuple #[.agg #[.int .i64 0, .int .i64 0, .slice none 0 0, .slice none 0 0, .slice none 0 0], .int .i64 3]) (by simp [results, Tryz.results47, go_sem, y0, y1, y2, y3, y4]) rfl (zval_postR HE.out H0.out HBX.out)
set_option maxRecDepth 100000 in
set_option maxHeartbeats 4000000 in
theorem valued4 (l : List EA) (n : Nd) (sort : Int) (A C : Option Addr) (cap cc : Nat) (w : World) (hL : LiesM w A l) (hC : Lies w C cc n.ks) (hF : Fine n) (hcnt : cnt n ≤ 1048576) (h : checkV n sort = 0) (h2 : holeB (preN 1 n) = false) (h3 : validM l = true) (h4 : evO l n = none) :
    Calls Tryz.prog 47 #[nv n.op n.so n.nm n.nu (.slice C n.ks.length cc), .slice A l.length cap, .int .i64 sort] w (ValR l n sort w) := by
  have HE := Lib.hid (valE_great (l := l) h h3 h2 h4)
  have HC0 := Lib.hid h
  have HH := Lib.hid h2
  have HV := Lib.hid h3
  have HN := Lib.hid h4
  obtain ⟨W, hW⟩ : ∃ W, (w.alloc (.cells #[.int .i64 n.op, .int .i64 n.so, .string n.nm, .int .i64 n.nu, .slice C n.ks.length cc] 44)).alloc (.cells #[.int .i64 0, .int .i64 0, .slice none 0 0, .slice none 0 0, .slice none 0 0] 27) = W := ⟨_, rfl⟩
  have HB := Lib.hid (show RowKit.Below w.heap.size w W by rw [← hW]; exact ((RowKit.Below.refl _ _).alloc (Nat.le_refl _) _).alloc (by rw [one_size]; omega) _)
  have HP := Lib.hid (show W.heap[w.heap.size]? = some (.cells #[.int .i64 n.op, .int .i64 n.so, .string n.nm, .int .i64 n.nu, .slice C n.ks.length cc] 44) by rw [← hW]; exact two_fst _ _ _)
  have HQ := Lib.hid (show W.heap[w.heap.size + 1]? = some (.cells #[.int .i64 0, .int .i64 0, .slice none 0 0, .slice none 0 0, .slice none 0 0] 27) by rw [← hW]; exact two_snd _ _ _)
  have HL := Lib.hid (hL.later HB.out)
  have CK := Lib.hid (refCheck_any n sort C cc W (hC.later HB.out) hcnt)
  rw [← check_eq n sort hcnt] at CK
  have CH := Lib.hid (fun W' (h : RowKit.Below W.heap.size W W') => refHoles_any n C cc W' ((hC.later HB.out).later h))
  rw [holR_B] at CH
  have HW := Lib.hid hW
  have HWS := Lib.hid (show W.heap.size = w.heap.size + 2 by rw [← hW]; exact two_size _ _ _)
  have HEV := Lib.hid (fun (W' : World) (hb : RowKit.Below W.heap.size W W') => refEval_any h3 n (check_allN h) (hole_no h2) hF.nm A C cap cc W' ((hL.later HB.out).later hb) ((hC.later HB.out).later hb))
  clear hW hL hC
  generalize n.ks.length = len at *
  generalize n.op = op at *
  generalize n.so = so at *
  generalize n.nm = nm at *
  generalize n.nu = nu at *
  obtain ⟨z0, z1, z2, z3, z4, f0, f1, f2, f3, f4⟩ := boxT_facts HP.out
  go_enter Tryz.func47, Tryz.ntmps47
  go_upto_region 1 with fail
  rw [HW.out]
  go_wp2_with fail
  refine CK.out.mono ?_
  rintro e w1 ⟨rfl, b1⟩
  have B1 := Lib.hid b1
  clear b1 z0 z1 z2 z3 z4 f0 f1 f2 f3 f4
  rw [show checkV n sort = 0 from HC0.out]
  obtain ⟨z0, z1, z2, z3, z4, f0, f1, f2, f3, f4⟩ := boxT_facts ((B1.out.block _ (Array.getElem?_eq_some_iff.1 HP.out).1).trans HP.out)
  go_wp2_with fail
  refine (CH.out _ B1.out).mono ?_
  rintro e w2 ⟨rfl, b2⟩
  rw [HH.out]
  have B2 := Lib.hid (B1.out.trans (b2.mono B1.out.size))
  clear b2 z0 z1 z2 z3 z4 f0 f1 f2 f3 f4
  go_wp2_with fail
  refine (refValidM_any l A cap _ (HL.out.later B2.out)).mono ?_
  rintro e w3 ⟨rfl, b3⟩
  rw [HV.out]
  have B3 := Lib.hid (B2.out.trans (b3.mono B2.out.size))
  clear b3
  obtain ⟨z0, z1, z2, z3, z4, f0, f1, f2, f3, f4⟩ := boxT_facts ((B3.out.block _ (Array.getElem?_eq_some_iff.1 HP.out).1).trans HP.out)
  have hev := HEV.out w3 B3.out
  clear HEV HL CK CH
  go_wp2_with fail
  refine hev.mono ?_
  rintro e w4 ⟨y, ok, rfl, b4, hn, hy⟩
  obtain rfl := hn HN.out
  have B4 := Lib.hid (B3.out.trans ((b4.trans ((RowKit.Below.refl w4.heap.size w4).alloc (Nat.le_refl _) (boxV y 27) |>.mono b4.size)).mono B3.out.size))
  have H0 := Lib.hid (show (2 : Int) ≠ 0 by decide)
  clear h h2 h3 h4 hev z0 z1 z2 z3 z4 f0 f1 f2 f3 f4 hn hy b4
  have hQZ := (B4.out.block _ (Array.getElem?_eq_some_iff.1 HQ.out).1).trans HQ.out
  have HX := Lib.hid (setT_same (.int .i64 0) (.int .i64 0) (.slice none 0 0) (.slice none 0 0) (.slice none 0 0) hQZ)
  have HBX := Lib.hid (Below.set5 (HB.out.trans (B4.out.mono HB.out.size)) (b := w.heap.size + 1) (by omega) (.int .i64 0) (.int .i64 0) (.slice none 0 0) (.slice none 0 0) (.slice none 0 0))
  obtain ⟨y0, y1, y2, y3, y4, g0, g1, g2, g3, g4⟩ := boxT_facts hQZ
  clear hQZ
  go_wp2_with fail
  clear y0 y1 y2 y3 y4 g0 g1 g2 g3 g4
  obtain ⟨y0, y1, y2, y3, y4, _, _, _, _, _⟩ := boxT_facts HX.out
  exact bodyPost_ret (v := .tuple #[.agg #[.int .i64 0, .int .i64 0, .slice none 0 0, .slice none 0 0, .slice none 0 0], .int .i64 2]) (by simp [results, Tryz.results47, go_sem, y0, y1, y2, y3, y4]) rfl (zval_postR HE.out H0.out HBX.out)
set_option maxRecDepth 100000 in
set_option maxHeartbeats 4000000 in
theorem valued5 (l : List EA) (n : Nd) (sort : Int) (A C : Option Addr) (cap cc : Nat) (w : World) (hL : LiesM w A l) (hC : Lies w C cc n.ks) (hF : Fine n) (hcnt : cnt n ≤ 1048576) (v : Vl) (h : checkV n sort = 0) (h2 : holeB (preN 1 n) = false) (h3 : validM l = true) (h4 : evO l n = some v) :
    Calls Tryz.prog 47 #[nv n.op n.so n.nm n.nu (.slice C n.ks.length cc), .slice A l.length cap, .int .i64 sort] w (ValR l n sort w) := by
  have HE := Lib.hid (valE_ok (l := l) h h3 h2 h4)
  have HVV := Lib.hid (valV_ok (valE_ok (l := l) h h3 h2 h4) h4)
  have HC0 := Lib.hid h
  have HH := Lib.hid h2
  have HV := Lib.hid h3
  have HN := Lib.hid h4
  obtain ⟨W, hW⟩ : ∃ W, (w.alloc (.cells #[.int .i64 n.op, .int .i64 n.so, .string n.nm, .int .i64 n.nu, .slice C n.ks.length cc] 44)).alloc (.cells #[.int .i64 0, .int .i64 0, .slice none 0 0, .slice none 0 0, .slice none 0 0] 27) = W := ⟨_, rfl⟩
  have HB := Lib.hid (show RowKit.Below w.heap.size w W by rw [← hW]; exact ((RowKit.Below.refl _ _).alloc (Nat.le_refl _) _).alloc (by rw [one_size]; omega) _)
  have HP := Lib.hid (show W.heap[w.heap.size]? = some (.cells #[.int .i64 n.op, .int .i64 n.so, .string n.nm, .int .i64 n.nu, .slice C n.ks.length cc] 44) by rw [← hW]; exact two_fst _ _ _)
  have HQ := Lib.hid (show W.heap[w.heap.size + 1]? = some (.cells #[.int .i64 0, .int .i64 0, .slice none 0 0, .slice none 0 0, .slice none 0 0] 27) by rw [← hW]; exact two_snd _ _ _)
  have HL := Lib.hid (hL.later HB.out)
  have CK := Lib.hid (refCheck_any n sort C cc W (hC.later HB.out) hcnt)
  rw [← check_eq n sort hcnt] at CK
  have CH := Lib.hid (fun W' (h : RowKit.Below W.heap.size W W') => refHoles_any n C cc W' ((hC.later HB.out).later h))
  rw [holR_B] at CH
  have HW := Lib.hid hW
  have HWS := Lib.hid (show W.heap.size = w.heap.size + 2 by rw [← hW]; exact two_size _ _ _)
  have HEV := Lib.hid (fun (W' : World) (hb : RowKit.Below W.heap.size W W') => refEval_any h3 n (check_allN h) (hole_no h2) hF.nm A C cap cc W' ((hL.later HB.out).later hb) ((hC.later HB.out).later hb))
  clear hW hL hC
  generalize n.ks.length = len at *
  generalize n.op = op at *
  generalize n.so = so at *
  generalize n.nm = nm at *
  generalize n.nu = nu at *
  obtain ⟨z0, z1, z2, z3, z4, f0, f1, f2, f3, f4⟩ := boxT_facts HP.out
  go_enter Tryz.func47, Tryz.ntmps47
  go_upto_region 1 with fail
  rw [HW.out]
  go_wp2_with fail
  refine CK.out.mono ?_
  rintro e w1 ⟨rfl, b1⟩
  have B1 := Lib.hid b1
  clear b1 z0 z1 z2 z3 z4 f0 f1 f2 f3 f4
  rw [show checkV n sort = 0 from HC0.out]
  obtain ⟨z0, z1, z2, z3, z4, f0, f1, f2, f3, f4⟩ := boxT_facts ((B1.out.block _ (Array.getElem?_eq_some_iff.1 HP.out).1).trans HP.out)
  go_wp2_with fail
  refine (CH.out _ B1.out).mono ?_
  rintro e w2 ⟨rfl, b2⟩
  rw [HH.out]
  have B2 := Lib.hid (B1.out.trans (b2.mono B1.out.size))
  clear b2 z0 z1 z2 z3 z4 f0 f1 f2 f3 f4
  go_wp2_with fail
  refine (refValidM_any l A cap _ (HL.out.later B2.out)).mono ?_
  rintro e w3 ⟨rfl, b3⟩
  rw [HV.out]
  have B3 := Lib.hid (B2.out.trans (b3.mono B2.out.size))
  clear b3
  obtain ⟨z0, z1, z2, z3, z4, f0, f1, f2, f3, f4⟩ := boxT_facts ((B3.out.block _ (Array.getElem?_eq_some_iff.1 HP.out).1).trans HP.out)
  have hev := HEV.out w3 B3.out
  clear HEV HL CK CH
  go_wp2_with fail
  refine hev.mono ?_
  rintro e w4 ⟨y, ok, rfl, b4, hn, hy⟩
  obtain ⟨rfl, hyv, _, hyr⟩ := hy v HN.out
  have hsz := HB.out.size
  have hszq := (Array.getElem?_eq_some_iff.1 HQ.out).1
  have G1 := Lib.hid ((RowKit.Below.refl w4.heap.size w4).alloc (Nat.le_refl _) (boxV y 27))
  have B4 := Lib.hid (B3.out.trans ((b4.trans (G1.out.mono b4.size)).mono B3.out.size))
  have HYV := Lib.hid hyv
  have hQ5 := (B4.out.block _ (Array.getElem?_eq_some_iff.1 HQ.out).1).trans HQ.out
  have HX := Lib.hid (setT_same (.int .i64 y.v.so) (.int .i64 y.v.nu) (.slice y.a1 y.v.st.length y.c1) (.slice y.a2 y.v.ix.length y.c2) (.slice y.a3 y.v.xs.length y.c3) hQ5)
  have HBX := Lib.hid (Below.set5 (HB.out.trans (B4.out.mono HB.out.size)) (b := w.heap.size + 1) (by omega) (.int .i64 y.v.so) (.int .i64 y.v.nu) (.slice y.a1 y.v.st.length y.c1) (.slice y.a2 y.v.ix.length y.c2) (.slice y.a3 y.v.xs.length y.c3))
  have HLX := Lib.hid (show ∀ P : Nat → Prop, (∀ k, w.heap.size ≤ k → ¬ P k) → TabP P w l → RobP P (set5 (w4.alloc (boxV y 27)) (w.heap.size + 1) (.int .i64 y.v.so) (.int .i64 y.v.nu) (.slice y.a1 y.v.st.length y.c1) (.slice y.a2 y.v.ix.length y.c2) (.slice y.a3 y.v.xs.length y.c3)) y from fun P p1 p2 =>
    (((hyr (fun k => P k ∨ (w.heap.size ≤ k ∧ k < w.heap.size + 2)) (fun k hk => by
      have h1 := HWS.out
      have h2 := B3.out.size
      rintro (h | h)
      · exact p1 k (by omega) h
      · omega) (p2.more (N := fun k => w.heap.size ≤ k ∧ k < w.heap.size + 2) (HB.out.trans (B3.out.mono HB.out.size)) (fun k h => h.1))).later G1.out).same (set5_size _ _ _ _ _ _ _) (fun k hk => set5_other _ _ _ _ _ (fun e => hk (.inr (by omega))))).fewer (fun k h => .inl h))
  clear h h2 h3 h4 hev z0 z1 z2 z3 z4 f0 f1 f2 f3 f4 hn hy b4 hyr hyv hsz hszq
  obtain ⟨y0, y1, y2, y3, y4, g0, g1, g2, g3, g4⟩ := boxT_facts hQ5
  clear hQ5
  go_wp2_with fail
  clear y0 y1 y2 y3 y4 g0 g1 g2 g3 g4
  obtain ⟨y0, y1, y2, y3, y4, _, _, _, _, _⟩ := boxT_facts HX.out
  exact bodyPost_ret (v := .tuple #[vv y, .int .i64 0]) (by simp [results, Tryz.results47, go_sem, y0, y1, y2, y3, y4]) rfl ⟨⟨y, by rw [HE.out], HYV.out.trans HVV.out.symm, HLX.out⟩, HBX.out⟩
theorem valued_any (l : List EA) (n : Nd) (sort : Int) (A C : Option Addr) (cap cc : Nat) (w : World) (hL : LiesM w A l) (hC : Lies w C cc n.ks) (hF : Fine n) (hcnt : cnt n ≤ 1048576) :
    Calls Tryz.prog 47 #[nv n.op n.so n.nm n.nu (.slice C n.ks.length cc), .slice A l.length cap, .int .i64 sort] w (ValR l n sort w) := by
  by_cases h : checkV n sort = 0
  · cases h2 : holeB (preN 1 n) with
    | true => exact valued2 l n sort A C cap cc w hL hC hF hcnt h h2
    | false =>
      cases h3 : validM l with
      | false => exact valued3 l n sort A C cap cc w hL hC hF hcnt h h2 h3
      | true =>
        cases h4 : evO l n with
        | none => exact valued4 l n sort A C cap cc w hL hC hF hcnt h h2 h3 h4
        | some v => exact valued5 l n sort A C cap cc w hL hC hF hcnt v h h2 h3 h4
  · exact valued1 l n sort A C cap cc w hL hC hF hcnt h
set_option maxRecDepth 100000 in
set_option maxHeartbeats 4000000 in
theorem refValue_any (l : List EA) (n : Nd) (A C : Option Addr) (cap cc : Nat) (w : World) (hL : LiesM w A l) (hC : Lies w C cc n.ks) (hF : Fine n) (hcnt : cnt n ≤ 1048576) :
    Calls Tryz.prog 22 #[nv n.op n.so n.nm n.nu (.slice C n.ks.length cc), .slice A l.length cap] w (ValR l n 0 w) := by
  obtain ⟨W, hW⟩ : ∃ W, (w.alloc (.cells #[.int .i64 n.op, .int .i64 n.so, .string n.nm, .int .i64 n.nu, .slice C n.ks.length cc] 44)).alloc (.cells #[.int .i64 0, .int .i64 0, .slice none 0 0, .slice none 0 0, .slice none 0 0] 27) = W := ⟨_, rfl⟩
  have HB := Lib.hid (show RowKit.Below w.heap.size w W by rw [← hW]; exact ((RowKit.Below.refl _ _).alloc (Nat.le_refl _) _).alloc (by rw [one_size]; omega) _)
  have HP := Lib.hid (show W.heap[w.heap.size]? = some (.cells #[.int .i64 n.op, .int .i64 n.so, .string n.nm, .int .i64 n.nu, .slice C n.ks.length cc] 44) by rw [← hW]; exact two_fst _ _ _)
  have HQ := Lib.hid (show W.heap[w.heap.size + 1]? = some (.cells #[.int .i64 0, .int .i64 0, .slice none 0 0, .slice none 0 0, .slice none 0 0] 27) by rw [← hW]; exact two_snd _ _ _)
  have HS := Lib.hid (show W.heap.size = w.heap.size + 2 by rw [← hW]; exact two_size _ _ _)
  have HV := Lib.hid (valued_any l n 0 A C cap cc W (hL.later HB.out) (hC.later HB.out) hF hcnt)
  have HW := Lib.hid hW
  clear hW hL hC
  generalize n.ks.length = len at *
  generalize n.op = op at *
  generalize n.so = so at *
  generalize n.nm = nm at *
  generalize n.nu = nu at *
  obtain ⟨z0, z1, z2, z3, z4, f0, f1, f2, f3, f4⟩ := boxT_facts HP.out
  go_enter Tryz.func22, Tryz.ntmps22
  go_upto_region 1 with fail
  rw [HW.out]
  go_wp2_with fail
  refine HV.out.mono ?_
  rintro e w1 ⟨⟨y, rfl, hy, hr⟩, b1⟩
  have hs0 := HS.out
  have hQ5 := (b1.block _ (Array.getElem?_eq_some_iff.1 HQ.out).1).trans HQ.out
  have HX := Lib.hid (setT_same (.int .i64 y.v.so) (.int .i64 y.v.nu) (.slice y.a1 y.v.st.length y.c1) (.slice y.a2 y.v.ix.length y.c2) (.slice y.a3 y.v.xs.length y.c3) hQ5)
  have HBX := Lib.hid (Below.set5 (HB.out.trans (b1.mono HB.out.size)) (b := w.heap.size + 1) (by omega) (.int .i64 y.v.so) (.int .i64 y.v.nu) (.slice y.a1 y.v.st.length y.c1) (.slice y.a2 y.v.ix.length y.c2) (.slice y.a3 y.v.xs.length y.c3))
  have HR := Lib.hid (show ∀ P : Nat → Prop, (∀ k, w.heap.size ≤ k → ¬ P k) → TabP P w l → RobP P (set5 w1 (w.heap.size + 1) (.int .i64 y.v.so) (.int .i64 y.v.nu) (.slice y.a1 y.v.st.length y.c1) (.slice y.a2 y.v.ix.length y.c2) (.slice y.a3 y.v.xs.length y.c3)) y from fun P p1 p2 =>
    ((hr (fun k => P k ∨ (w.heap.size ≤ k ∧ k < w.heap.size + 2)) (fun k hk => by
      rintro (h | h)
      · exact p1 k (by omega) h
      · omega) (p2.more (N := fun k => w.heap.size ≤ k ∧ k < w.heap.size + 2) HB.out (fun k h => h.1))).same (set5_size _ _ _ _ _ _ _) (fun k hk => set5_other _ _ _ _ _ (fun e => hk (.inr (by omega))))).fewer (fun k h => .inl h))
  have HY := Lib.hid hy
  obtain ⟨ec, hec⟩ : ∃ ec, valE l n 0 = ec := ⟨_, rfl⟩
  have HE := Lib.hid (show Ending.returned (.tuple #[vv y, .int .i64 ec]) = Ending.returned (.tuple #[vv y, .int .i64 (valE l n 0)]) by rw [hec])
  rw [hec]
  clear hec
  clear z0 z1 z2 z3 z4 f0 f1 f2 f3 f4
  obtain ⟨z0, z1, z2, z3, z4, f0, f1, f2, f3, f4⟩ := boxT_facts hQ5
  clear hQ5 b1 hy hr hs0
  go_wp2_with fail
  clear z0 z1 z2 z3 z4 f0 f1 f2 f3 f4
  obtain ⟨y0, y1, y2, y3, y4, _, _, _, _, _⟩ := boxT_facts HX.out
  exact bodyPost_ret (v := .tuple #[vv y, .int .i64 ec]) (by simp [results, Tryz.results22, go_sem, y0, y1, y2, y3, y4]) rfl ⟨⟨y, HE.out, HY.out, HR.out⟩, HBX.out⟩
set_option maxRecDepth 100000 in
set_option maxHeartbeats 4000000 in
theorem refTruM_any (l : List EA) (n : Nd) (A C : Option Addr) (cap cc : Nat) (w : World) (hL : LiesM w A l) (hC : Lies w C cc n.ks) (hF : Fine n) (hcnt : cnt n ≤ 1048576) :
    Calls Tryz.prog 24 #[nv n.op n.so n.nm n.nu (.slice C n.ks.length cc), .slice A l.length cap] w (TruP l n w) := by
  have HB := Lib.hid (show RowKit.Below w.heap.size w (w.alloc (.cells #[.int .i64 n.op, .int .i64 n.so, .string n.nm, .int .i64 n.nu, .slice C n.ks.length cc] 44)) from (RowKit.Below.refl _ _).alloc (Nat.le_refl _) _)
  have HV := Lib.hid (valued_any l n 2 A C cap cc _ (hL.later HB.out) (hC.later HB.out) hF hcnt)
  clear hL hC
  generalize n.ks.length = len at *
  generalize n.op = op at *
  generalize n.so = so at *
  generalize n.nm = nm at *
  generalize n.nu = nu at *
  go_enter Tryz.func24, Tryz.ntmps24
  go_wp2_with fail
  refine HV.out.mono ?_
  rintro e w1 ⟨⟨y, rfl, hy, hr⟩, b1⟩
  have G1 := Lib.hid ((HB.out.trans (b1.mono HB.out.size)).alloc (HB.out.trans (b1.mono HB.out.size)).size (boxV y 27))
  have HY := Lib.hid hy
  clear hy hr b1
  by_cases h0 : valE l n 2 = 0
  · have HE := Lib.hid h0
    rw [h0]
    clear h0
    go_wp2_with fail
    exact bodyPost_ret (v := .tuple #[.bool (y.v.nu == 1), .int .i64 0]) (by simp [results, Tryz.results24, go_sem]) rfl ⟨by rw [HE.out, ← HY.out], G1.out⟩
  · obtain ⟨ec, hec⟩ : ∃ ec, valE l n 2 = ec := ⟨_, rfl⟩
    have HZ := Lib.hid (show ((valV l n 2).nu == 1) = false by rw [valV_err h0]; rfl)
    have HE := Lib.hid hec
    rw [hec] at h0
    rw [hec]
    have h1 : (ec == 0) = false := by simpa using h0
    clear h0 hec
    go_wp2_with fail
    exact bodyPost_ret (v := .tuple #[.bool false, .int .i64 ec]) (by simp [results, Tryz.results24, go_sem]) rfl ⟨by rw [HE.out, HZ.out], G1.out⟩
end Go.Proofs.YtmeeombadkgneaaGreat
namespace Go.Proofs.YtmeeombadkgneaaGreat
open Go.Proofs Go.RowKit Go.Shelf Go.Sort Go.Lib

attribute [local go_sem] Oper.semAt_some
set_option maxRecDepth 100000 in
set_option maxHeartbeats 8000000 in
theorem valuesLaw_any (n : Nd) (l : List EA) (A C : Option Addr) (cap cc : Nat) (w : World) (hL : LiesM w A l) (hcap : ∀ x ∈ l, CapV x.val) (hC : Lies w C cc n.ks) (hF : Fine n) (hcnt : cnt n ≤ 1048576) :
    Calls Tryz.prog 4 #[nv n.op n.so n.nm n.nu (.slice C n.ks.length cc), .slice A l.length cap] w fun e w' => e = .returned (.bool true) ∧ RowKit.Below w.heap.size w w' := by
  obtain ⟨W, hW⟩ : ∃ W, w.alloc (.cells #[.int .i64 n.op, .int .i64 n.so, .string n.nm, .int .i64 n.nu, .slice C n.ks.length cc] 44) = W := ⟨_, rfl⟩
  have hB : RowKit.Below w.heap.size w W := by rw [← hW]; exact (RowKit.Below.refl _ _).alloc (Nat.le_refl _) _
  have hA : W.heap[w.heap.size]? = some (.cells #[.int .i64 n.op, .int .i64 n.so, .string n.nm, .int .i64 n.nu, .slice C n.ks.length cc] 44) := by rw [← hW]; exact heap_alloc_new _ _
  have HB := Lib.hid hB
  have RA := Lib.hid (fun W' (h : RowKit.Below W.heap.size W W') => (h.block _ (Array.getElem?_eq_some_iff.1 hA).1).trans hA)
  have LM := Lib.hid (fun W' (h : RowKit.Below W.heap.size W W') => (hL.later hB).later h)
  have KS := Lib.hid (fun W' (h : RowKit.Below W.heap.size W W') => refSize_any n C cc W' ((hC.later hB).later h))
  have KV := Lib.hid (fun W' (h : RowKit.Below W.heap.size W W') => value_any l n A C cap cc W' ((hL.later hB).later h) hcap ((hC.later hB).later h) hF)
  have KRV := Lib.hid (fun W' (h : RowKit.Below W.heap.size W W') => refValue_any l n A C cap cc W' ((hL.later hB).later h) ((hC.later hB).later h) hF hcnt)
  have KT := Lib.hid (fun W' (h : RowKit.Below W.heap.size W W') => truth_any l n A C cap cc W' ((hL.later hB).later h) hcap ((hC.later hB).later h) hF)
  have KRT := Lib.hid (fun W' (h : RowKit.Below W.heap.size W W') => refTruM_any l n A C cap cc W' ((hL.later hB).later h) ((hC.later hB).later h) hF hcnt)
  have HW := Lib.hid hW
  clear hW hA hB hL hcap hC hF hcnt
  generalize n.ks.length = len at *
  generalize hop : n.op = op at *
  generalize hso : n.so = so at *
  generalize hnm : n.nm = nm at *
  generalize hnu : n.nu = nu at *
  clear hop hso hnm hnu
  go_enter Tryz.func4, Tryz.ntmps4
  go_upto_region 1 with fail
  rw [HW.out]
  go_wp2_with fail
  refine (awake_any _).mono ?_
  rintro e w1 ⟨rfl, b1⟩
  have B1 := Lib.hid b1
  clear b1
  obtain ⟨z0, z1, z2, z3, z4, _, _, _, _, _⟩ := boxT_facts (RA.out _ B1.out)
  go_wp2_with fail
  refine (KS.out _ B1.out).mono ?_
  rintro e w2 ⟨rfl, b2⟩
  have B2 := Lib.hid (B1.out.trans (b2.mono B1.out.size))
  clear b2
  clear z0 z1 z2 z3 z4
  by_cases hbig : (600 : Int) < sizeW n
  · have hd : decide ((600 : Int) < sizeW n) = true := by simpa using hbig
    have HO := Lib.hid (HB.out.trans (B2.out.mono HB.out.size))
    go_wp2_with fail
    go_ret
    exact ⟨rfl, HO.out⟩
  have hd : decide ((600 : Int) < sizeW n) = false := by simpa using hbig
  clear hbig
  generalize sizeW n = sz at *
  go_wp2_with fail
  refine (short_any l A cap _ (LM.out _ B2.out)).mono ?_
  rintro e w3 ⟨rfl, b3⟩
  have B3 := Lib.hid (B2.out.trans (b3.mono B2.out.size))
  clear b3
  cases hsm : shortM l
  case false =>
    have HO := Lib.hid (HB.out.trans (B3.out.mono HB.out.size))
    go_wp2_with fail
    go_ret
    exact ⟨rfl, HO.out⟩
  clear hsm hd
  obtain ⟨z0, z1, z2, z3, z4, _, _, _, _, _⟩ := boxT_facts (RA.out _ B3.out)
  have hkv := KV.out _ B3.out
  go_wp2_with fail
  refine hkv.mono ?_
  rintro e w4 ⟨⟨x, rfl, hx, hxr⟩, b4⟩
  have HXV := Lib.hid hx
  have HXL := Lib.hid hxr.here
  have G4 := Lib.hid ((B3.out.trans (b4.mono B3.out.size)).trans (((RowKit.Below.refl w4.heap.size w4).alloc (Nat.le_refl _) (boxV x 27)).mono (B3.out.trans (b4.mono B3.out.size)).size))
  have HX4 := Lib.hid ((RowKit.Below.refl w4.heap.size w4).alloc (Nat.le_refl _) (boxV x 27))
  obtain ⟨W4, hW4⟩ : ∃ W4, w4.alloc (boxV x 27) = W4 := ⟨_, rfl⟩
  have RX := Lib.hid (fun W' (h : RowKit.Below W4.heap.size W4 W') => (show W'.heap[w4.heap.size]? = some (boxV x 27) from (h.block w4.heap.size (by rw [← hW4, one_size]; omega)).trans (by rw [← hW4]; exact heap_alloc_new _ _)))
  rw [hW4] at G4 HX4
  have HW4 := Lib.hid hW4
  generalize hec : valE l n 0 = ec at *
  have HEC := Lib.hid hec
  clear hkv hx hxr b4 hW4 hec
  clear z0 z1 z2 z3 z4
  obtain ⟨z0, z1, z2, z3, z4, _, _, _, _, _⟩ := boxT_facts (RA.out _ G4.out)
  have hkr := KRV.out _ G4.out
  go_upto_region 6 with fail
  rw [HW4.out]
  go_wp2_with fail
  refine hkr.mono ?_
  rintro e w5 ⟨⟨y, rfl, hy, hyr⟩, b5⟩
  rw [HEC.out]
  have HYV := Lib.hid hy
  have hyl := (hyr noP (fun _ _ h => h) (TabP.none (LM.out _ G4.out))).here
  have G5 := Lib.hid ((G4.out.trans (b5.mono G4.out.size)).trans (((RowKit.Below.refl w5.heap.size w5).alloc (Nat.le_refl _) (boxV y 27)).mono (G4.out.trans (b5.mono G4.out.size)).size))
  have g5 := (RowKit.Below.refl w5.heap.size w5).alloc (Nat.le_refl _) (boxV y 27)
  have h5 := b5.trans (g5.mono b5.size)
  have RX5 := Lib.hid (RX.out _ h5)
  have LX5 := Lib.hid ((HXL.out.later HX4.out).later h5)
  have LY5 := Lib.hid (hyl.later g5)
  have RY5 := Lib.hid (heap_alloc_new w5 (boxV y 27))
  have HSM := Lib.hid (show sameB x.v y.v = true from (sameB_iff _ _).2 (HXV.out.trans HYV.out.symm))
  have hne : (ec != ec) = false := by simp
  clear hkr hy hyr hyl b5 g5 h5 z0 z1 z2 z3 z4
  obtain ⟨x0, x1, x2, x3, x4, _, _, _, _, _⟩ := boxT_facts RX5.out
  obtain ⟨y0, y1, y2, y3, y4, _, _, _, _, _⟩ := boxT_facts RY5.out
  go_wp2_with fail
  refine (refSame_any x y _ LX5.out LY5.out).mono ?_
  rintro e w6 ⟨rfl, b6⟩
  rw [HSM.out]
  have G6 := Lib.hid (G5.out.trans (b6.mono G5.out.size))
  clear b6 x0 x1 x2 x3 x4 y0 y1 y2 y3 y4 hne
  obtain ⟨z0, z1, z2, z3, z4, _, _, _, _, _⟩ := boxT_facts (RA.out _ G6.out)
  have hkt := KT.out _ G6.out
  go_wp2_with fail
  refine hkt.mono ?_
  rintro e w7 ⟨rfl, b7⟩
  have G7 := Lib.hid (G6.out.trans (b7.mono G6.out.size))
  have hkr := KRT.out _ G7.out
  clear hkt b7 z0 z1 z2 z3 z4
  obtain ⟨z0, z1, z2, z3, z4, _, _, _, _, _⟩ := boxT_facts (RA.out _ G7.out)
  unfold TruP at hkr
  generalize ((valV l n 2).nu == 1) = bt at *
  generalize valE l n 2 = et at *
  go_wp2_with fail
  refine hkr.mono ?_
  rintro e w8 ⟨rfl, b8⟩
  have HO := Lib.hid (HB.out.trans ((G7.out.trans (b8.mono G7.out.size)).mono HB.out.size))
  have q1 : (bt == bt) = true := by simp
  have q2 : (et == et) = true := by simp
  clear hkr b8 z0 z1 z2 z3 z4
  go_wp2_with fail
  go_ret
  exact ⟨rfl, HO.out⟩
end Go.Proofs.YtmeeombadkgneaaGreat
