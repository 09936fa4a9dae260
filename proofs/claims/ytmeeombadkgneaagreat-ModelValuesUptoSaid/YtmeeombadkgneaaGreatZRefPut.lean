/-
  What the document's own Vars returns; conditions: the tree lies in memory and has few variables.
  What the document's own Vars returns; conditions: the tree lies in memory and has few nodes.
  What the document's own Uniform returns; conditions: the tree lies in memory and has few nodes.
  The document's own Check, and that package logic's returns the same; conditions: the tree lies in memory and has few nodes.
-/
import Derived.Lib.SmallJoins
import Derived.Test.YtmeeombadkgneaaGreatZRefSorted
import Derived.Test.YtmeeombadkgneaaGreatZVarsOne
import Derived.Test.YtmeeombadkgneaaGreatZOrder
import Derived.Test.YtmeeombadkgneaaGreatZUni
import Derived.Test.YtmeeombadkgneaaGreatZCheck
namespace Go.Proofs.YtmeeombadkgneaaGreat
open Go.RowKit Go.Shelf

attribute [local go_sem] Oper.semAt_some
/-- Whether a declaration stands ahead of another one. -/
def ahB (d e : ByteArray × Int) : Bool := Op.bytesLess d.1.toList e.1.toList || ((d.1.toList == e.1.toList) && decide (d.2 < e.2))
set_option maxHeartbeats 1000000 in
theorem ahead_any (d e : ByteArray × Int) (w : World) : Calls Tryz.prog 104 #[dv d.1 d.2, dv e.1 e.2] w fun r w' => r = .returned (.bool (ahB d e)) ∧ Below w.heap.size w w' := by
  obtain ⟨a, x⟩ := d
  obtain ⟨b, y⟩ := e
  show Calls Tryz.prog 104 #[dv a x, dv b y] w fun r w' => r = .returned (.bool (Op.bytesLess a.toList b.toList || ((a.toList == b.toList) && decide (x < y)))) ∧ Below w.heap.size w w'
  have HB : ∀ O O', Below w.heap.size w ((w.alloc O).alloc O') := fun O O' => ((Below.refl _ _).alloc (Nat.le_refl _) _).alloc (by simp) _
  cases h1 : Op.bytesLess a.toList b.toList
  case true =>
    go_enter Tryz.func104, Tryz.ntmps104
    go_wp2_with fail
    go_ret
    exact ⟨rfl, HB _ _⟩
  cases h2 : a.toList == b.toList
  case false =>
    go_enter Tryz.func104, Tryz.ntmps104
    go_wp2_with fail
    go_ret
    exact ⟨rfl, HB _ _⟩
  go_enter Tryz.func104, Tryz.ntmps104
  go_wp2_with fail
  go_ret
  exact ⟨rfl, HB _ _⟩

def flatD (l : List (ByteArray × Int)) : List Value := l.flatMap fun d => [.string d.1, .int .i64 d.2]
/-- A slice A of a list's length holds declarations. -/
def DeclsAt (w : World) (A : Option Addr) (dl : List (ByteArray × Int)) : Prop :=
  ∃ b, (0 < dl.length → A = some ⟨b, 0, none⟩) ∧ ∀ i (hi : i < dl.length), w.cell? ⟨b, i * 2, none⟩ = some (.string dl[i].1) ∧ w.cell? ⟨b, i * 2 + 1, none⟩ = some (.int .i64 dl[i].2)
theorem DeclsAt.later {w w' : World} {A : Option Addr} {dl : List (ByteArray × Int)} (h : DeclsAt w A dl) (hb : Below w.heap.size w w') : DeclsAt w' A dl := by
  obtain ⟨b, h1, h2⟩ := h
  exact ⟨b, h1, fun i hi => ⟨cellB hb (Nat.le_refl _) (h2 i hi).1, cellB hb (Nat.le_refl _) (h2 i hi).2⟩⟩


def eqD (x d : ByteArray × Int) : Bool := (x.1.toList == d.1.toList) && (x.2 == d.2)
/-- A round of the document's insertion. -/
def stD (d : ByteArray × Int) : List (ByteArray × Int) × Bool → ByteArray × Int → List (ByteArray × Int) × Bool
  | (o, true), x => (o ++ [x], true)
  | (o, false), x => if eqD x d = true then (o ++ [x], true) else if ahB d x = true then (o ++ [d] ++ [x], true) else (o ++ [x], false)
def foldD (d : ByteArray × Int) (l : List (ByteArray × Int)) : List (ByteArray × Int) × Bool := l.foldl (stD d) ([], false)
theorem foldD_snoc (d : ByteArray × Int) (l : List (ByteArray × Int)) {k : Nat} (h : k < l.length) : foldD d (l.take (k + 1)) = stD d (foldD d (l.take k)) l[k] := by
  rw [foldD, foldD, List.take_succ_eq_append_getElem h, List.foldl_append]
  rfl
def putD (l : List (ByteArray × Int)) (d : ByteArray × Int) : List (ByteArray × Int) := if (foldD d l).2 = true then (foldD d l).1 else (foldD d l).1 ++ [d]

theorem flatD_len (l : List (ByteArray × Int)) : (flatD l).length = l.length * 2 := by
  induction l with
  | nil => rfl
  | cons x xs ih => rw [flatD, List.flatMap_cons, List.length_append, ← flatD, ih]; simp; omega
theorem flatD_snoc (l : List (ByteArray × Int)) (d : ByteArray × Int) : flatD (l ++ [d]) = flatD l ++ [.string d.1, .int .i64 d.2] := by
  rw [flatD, List.flatMap_append]; rfl
theorem flatD_at (l : List (ByteArray × Int)) : ∀ i (h : i < l.length), (flatD l)[i * 2]? = some (.string l[i].1) ∧ (flatD l)[i * 2 + 1]? = some (.int .i64 l[i].2) := by
  induction l with
  | nil => intro i h; simp at h
  | cons x xs ih =>
    intro i h
    have e : flatD (x :: xs) = [.string x.1, .int .i64 x.2] ++ flatD xs := rfl
    match i, h with
    | 0, _ => exact ⟨rfl, rfl⟩
    | i + 1, h =>
      have h' : i < xs.length := by simpa using h
      obtain ⟨h1, h2⟩ := ih i h'
      rw [e]
      refine ⟨?_, ?_⟩
      · rw [List.getElem?_append_right (by simp; omega)]
        simpa [show (i + 1) * 2 - 2 = i * 2 by omega] using h1
      · rw [List.getElem?_append_right (by simp; omega)]
        simpa [show (i + 1) * 2 + 1 - 2 = i * 2 + 1 by omega] using h2

theorem ownsRow_below {w w' : World} {base : Nat} {e : TypeId} {size : Nat} {v : Value} {n : Nat} {xs : List Value} (h : w.ownsRow base e size v n xs) (hb : Below w.heap.size w w') : w'.ownsRow base e size v n xs := by
  refine ⟨h.1, ?_⟩
  rcases h.2 with h | ⟨g, cap, cur, hv, h1, h2, h3⟩
  · exact .inl h
  · exact .inr ⟨g, cap, cur, hv, h1, (hb.block g (Array.getElem?_eq_some_iff.1 h2).1).trans h2, h3⟩
theorem ownsRow_block {w : World} {base : Nat} {e : TypeId} {size : Nat} {v : Value} {n : Nat} {xs : List Value} (h : w.ownsRow base e size v n xs) : ∀ k, v.ownBlock = some k → base ≤ k := by
  intro k hk
  rcases h.2 with ⟨h, _⟩ | ⟨g, cap, cur, hv, h1, _⟩
  · subst h; cases hk
  · subst hv
    cases hk
    exact h1
theorem ownsRow_decls {w : World} {base : Nat} {v : Value} {l : List (ByteArray × Int)} (h : w.ownsRow base 54 2 v l.length (flatD l)) : ∃ A cap, v = .slice A l.length cap ∧ DeclsAt w A l := by
  rcases h.2 with ⟨hv, hn⟩ | ⟨g, cap, cur, hv, h1, h2, h3, h4, h5, h6⟩
  · refine ⟨none, 0, by rw [hv, hn], 0, fun h => by omega, fun i hi => by omega⟩
  · refine ⟨_, cap, hv, g, fun _ => rfl, fun i hi => ?_⟩
    obtain ⟨f1, f2⟩ := flatD_at l i hi
    rw [← h6, List.getElem?_take_of_lt (by omega)] at f1 f2
    refine ⟨?_, ?_⟩
    · simpa [World.cell?, h2] using f1
    · simpa [World.cell?, h2] using f2

theorem news2 {W : World} {bk : Nat} {a : ByteArray} {x : Int} (h0 : W.cell? ⟨bk, 0, none⟩ = some (.string a)) (h1 : W.cell? ⟨bk, 1, none⟩ = some (.int .i64 x)) :
    ∀ (j : Nat) (u : Value), ([.string a, .int .i64 x] : List Value)[j]? = some u → W.cell? ((⟨bk, 0, none⟩ : Addr).add j) = some u := by
  intro j u hj
  match j, hj with
  | 0, hj => simp at hj; subst hj; exact h0
  | 1, hj => simp at hj; subst hj; exact h1
theorem news_new (W : World) (a : ByteArray) (x : Int) (bk : Nat) (hb : bk = W.heap.size) :
    ∀ (j : Nat) (u : Value), ([.string a, .int .i64 x] : List Value)[j]? = some u → (W.alloc (.cells #[.string a, .int .i64 x] 54)).cell? ((⟨bk, 0, none⟩ : Addr).add j) = some u := by
  subst hb
  exact news2 (by simp [go_sem]) (by simp [go_sem])
theorem ownsRow_alloc {w : World} {base : Nat} {e : TypeId} {size : Nat} {v : Value} {n : Nat} {xs : List Value} (h : w.ownsRow base e size v n xs) (O : Obj) : (w.alloc O).ownsRow base e size v n xs :=
  ownsRow_below h ((Below.refl _ _).alloc (Nat.le_refl _) _)

theorem stD_t (d : ByteArray × Int) (o : List (ByteArray × Int)) (x : ByteArray × Int) : stD d (o, true) x = (o ++ [x], true) := rfl
theorem stD_e {d : ByteArray × Int} (o : List (ByteArray × Int)) {x : ByteArray × Int} (h : eqD x d = true) : stD d (o, false) x = (o ++ [x], true) := by rw [stD, if_pos h]
theorem stD_a {d : ByteArray × Int} (o : List (ByteArray × Int)) {x : ByteArray × Int} (h : eqD x d = false) (h' : ahB d x = true) : stD d (o, false) x = (o ++ [d] ++ [x], true) := by rw [stD, if_neg (by simp [h]), if_pos h']
theorem stD_n {d : ByteArray × Int} (o : List (ByteArray × Int)) {x : ByteArray × Int} (h : eqD x d = false) (h' : ahB d x = false) : stD d (o, false) x = (o ++ [x], false) := by rw [stD, if_neg (by simp [h]), if_neg (by simp [h'])]

/-- What a function that returns a list of declarations returns. -/
def RetD (w : World) (l : List (ByteArray × Int)) (e : Ending) (w' : World) : Prop := ∃ A cap, e = .returned (.slice A l.length cap) ∧ DeclsAt w' A l ∧ Below w.heap.size w w'
theorem retD_of {w W : World} {B : Nat} {v : Value} {l : List (ByteArray × Int)} (h : W.ownsRow B 54 2 v l.length (flatD l)) (hb : Below w.heap.size w W) : RetD w l (.returned v) W := by
  obtain ⟨A, cap, rfl, hD⟩ := ownsRow_decls h
  exact ⟨A, cap, rfl, hD, hb⟩

set_option maxRecDepth 100000 in
set_option maxHeartbeats 4000000 in
theorem putDecl_any (dl : List (ByteArray × Int)) (d : ByteArray × Int) (A : Option Addr) (cap : Nat) (w : World) (hD : DeclsAt w A dl) (hlen : dl.length ≤ 1048576) :
    Calls Tryz.prog 79 #[.slice A dl.length cap, dv d.1 d.2] w (RetD w (putD dl d)) := by
  have HB : ∀ O, Below w.heap.size w (w.alloc O) := fun O => (Below.refl _ _).alloc (Nat.le_refl _) _
  obtain ⟨i0, hi, hz0, hz1, hz2⟩ := info_parts Tryz.info54
  have I0 := Lib.hid hi
  have Z0 := Lib.hid hz0
  have Z1 := Lib.hid hz1
  have Z2 := Lib.hid hz2
  clear hi hz0 hz1 hz2
  have hD := Lib.hid hD
  have hx0 : (w.alloc (.cells #[.string d.1, .int .i64 d.2] 54)).cell? ⟨w.heap.size, 0, none⟩ = some (.string d.1) := by simp [go_sem]
  have hx1 : (w.alloc (.cells #[.string d.1, .int .i64 d.2] 54)).cell? ⟨w.heap.size, 1, none⟩ = some (.int .i64 d.2) := by simp [go_sem]
  go_enter Tryz.func79, Tryz.ntmps79
  go_wp2_with fail
  have hwz : (w.alloc (.cells #[.string d.1, .int .i64 d.2] 54)).heap.size = w.heap.size + 1 := by simp
  have HBx := HB (.cells #[.string d.1, .int .i64 d.2] 54)
  generalize w.alloc (.cells #[.string d.1, .int .i64 d.2] 54) = W0 at *
  go_loopw [5, 6, 11] (fun o dn i wr => ∃ k : Nat, k ≤ dl.length ∧ i = .int .i64 k ∧ Hid ((foldD d (dl.take k)).1.length ≤ k + 1 ∧ ((foldD d (dl.take k)).2 = false → (foldD d (dl.take k)).1.length ≤ k)) ∧ dn = .bool (foldD d (dl.take k)).2 ∧ wr.ownsRow (w.heap.size + 1) 54 2 o (foldD d (dl.take k)).1.length (flatD (foldD d (dl.take k)).1) ∧ Below (w.heap.size + 1) W0 wr) (fun _ _ i _ => dl.length - (intOf i).toNat)
  case atStart => exact ⟨0, Nat.zero_le _, rfl, ⟨Nat.zero_le _, fun _ => Nat.le_refl _⟩, rfl, World.ownsRow_nil _ _ _ _, Below.refl _ _⟩
  case round =>
    obtain ⟨k, hk, rfl, hkl, rfl, hown, hB⟩ := hrel
    have hBw := HBx.trans (hB.mono (by omega))
    have hd0 : wr.cell? ⟨w.heap.size, 0, none⟩ = some (.string d.1) := (hB.cell (by simp)).trans hx0
    have hd1 : wr.cell? ⟨w.heap.size, 1, none⟩ = some (.int .i64 d.2) := (hB.cell (by simp)).trans hx1
    have hsz : w.heap.size + 1 ≤ wr.heap.size := by have := hB.size; omega
    have hsz' : w.heap.size < wr.heap.size := by omega
    by_cases hlt : k < dl.length
    · have hs := Lib.hid (foldD_snoc d dl hlt)
      obtain ⟨b, hA, hDc⟩ := hD.out.later hBw
      obtain rfl := hA (by omega)
      obtain ⟨a0, a1⟩ := hDc k hlt
      generalize hx : dl[k] = x at *
      generalize hf : foldD d (dl.take k) = s at *
      obtain ⟨o, dn⟩ := s
      obtain ⟨hk1, hk2⟩ := hkl
      simp only at hk1 hk2 hown
      have hk2 := Lib.hid hk2
      clear hDc hA hx hf hx0 hx1
      have Hown := Lib.hid hown
      have Hg := Lib.hid hown.lt
      have HBr := Lib.hid hB
      have L1 := Lib.hid (show o.length + 1 ≤ maxLen by unfold maxLen; omega)
      have L2 := Lib.hid (show (o.length + 1) * 24 ≤ 140737488355328 by omega)
      clear hown hB
      cases dn
      case true =>
        cases he : eqD x d
        case true =>
          obtain ⟨e1, e2⟩ : (x.1.toList == d.1.toList) = true ∧ (x.2 == d.2) = true := by simpa [eqD] using he
          clear he
          go_wp2_with (at_builtin; refine wpList_append_own _ rfl _ _ 51 rfl (w.heap.size + 1) 54 i0 _ 2 24 Tryz.underlying51 I0.out Z0.out Z1.out Z2.out rfl (by decide) _ _ _ rfl (ownsRow_alloc (ownsRow_alloc Hown.out _) _) ⟨wr.heap.size + 1, 0, none⟩ 1 1 [.string x.1, .int .i64 x.2] rfl rfl (news_new _ _ _ _ (by simp)) (by simp [Value.oneCell']) L1.out L2.out (by simp; omega) ?_; intro v1 w1 hown1 hgrow1 _)
          have hBn : Below (w.heap.size + 1) W0 w1 := ((HBr.out.alloc hsz _).alloc (by simp; omega) _).grown hgrow1 (by simp; omega) (fun k e => (Hg.out k e).1)
          go_roundw
          case rel =>
            refine ⟨k + 1, by omega, by go_num, ?_⟩
            rw [hs.out, stD_t]
            exact ⟨⟨by simp; omega, fun h => by cases h⟩, rfl, by rw [flatD_snoc, List.length_append]; exact hown1, hBn⟩
          case measure => simp [intOf]; omega
        case false =>
          clear he
          cases e1 : x.1.toList == d.1.toList
          case false =>
            go_wp2_with (at_builtin; refine wpList_append_own _ rfl _ _ 51 rfl (w.heap.size + 1) 54 i0 _ 2 24 Tryz.underlying51 I0.out Z0.out Z1.out Z2.out rfl (by decide) _ _ _ rfl (ownsRow_alloc (ownsRow_alloc Hown.out _) _) ⟨wr.heap.size + 1, 0, none⟩ 1 1 [.string x.1, .int .i64 x.2] rfl rfl (news_new _ _ _ _ (by simp)) (by simp [Value.oneCell']) L1.out L2.out (by simp; omega) ?_; intro v1 w1 hown1 hgrow1 _)
            have hBn : Below (w.heap.size + 1) W0 w1 := ((HBr.out.alloc hsz _).alloc (by simp; omega) _).grown hgrow1 (by simp; omega) (fun k e => (Hg.out k e).1)
            go_roundw
            case rel =>
              refine ⟨k + 1, by omega, by go_num, ?_⟩
              rw [hs.out, stD_t]
              exact ⟨⟨by simp; omega, fun h => by cases h⟩, rfl, by rw [flatD_snoc, List.length_append]; exact hown1, hBn⟩
            case measure => simp [intOf]; omega
          case true =>
            cases e2 : x.2 == d.2
            case false =>
              go_wp2_with (at_builtin; refine wpList_append_own _ rfl _ _ 51 rfl (w.heap.size + 1) 54 i0 _ 2 24 Tryz.underlying51 I0.out Z0.out Z1.out Z2.out rfl (by decide) _ _ _ rfl (ownsRow_alloc (ownsRow_alloc Hown.out _) _) ⟨wr.heap.size + 1, 0, none⟩ 1 1 [.string x.1, .int .i64 x.2] rfl rfl (news_new _ _ _ _ (by simp)) (by simp [Value.oneCell']) L1.out L2.out (by simp; omega) ?_; intro v1 w1 hown1 hgrow1 _)
              have hBn : Below (w.heap.size + 1) W0 w1 := ((HBr.out.alloc hsz _).alloc (by simp; omega) _).grown hgrow1 (by simp; omega) (fun k e => (Hg.out k e).1)
              go_roundw
              case rel =>
                refine ⟨k + 1, by omega, by go_num, ?_⟩
                rw [hs.out, stD_t]
                exact ⟨⟨by simp; omega, fun h => by cases h⟩, rfl, by rw [flatD_snoc, List.length_append]; exact hown1, hBn⟩
              case measure => simp [intOf]; omega
            case true =>
              go_wp2_with (at_builtin; refine wpList_append_own _ rfl _ _ 51 rfl (w.heap.size + 1) 54 i0 _ 2 24 Tryz.underlying51 I0.out Z0.out Z1.out Z2.out rfl (by decide) _ _ _ rfl (ownsRow_alloc (ownsRow_alloc Hown.out _) _) ⟨wr.heap.size + 1, 0, none⟩ 1 1 [.string x.1, .int .i64 x.2] rfl rfl (news_new _ _ _ _ (by simp)) (by simp [Value.oneCell']) L1.out L2.out (by simp; omega) ?_; intro v1 w1 hown1 hgrow1 _)
              have hBn : Below (w.heap.size + 1) W0 w1 := ((HBr.out.alloc hsz _).alloc (by simp; omega) _).grown hgrow1 (by simp; omega) (fun k e => (Hg.out k e).1)
              go_roundw
              case rel =>
                refine ⟨k + 1, by omega, by go_num, ?_⟩
                rw [hs.out, stD_t]
                exact ⟨⟨by simp; omega, fun h => by cases h⟩, rfl, by rw [flatD_snoc, List.length_append]; exact hown1, hBn⟩
              case measure => simp [intOf]; omega
      case false =>
        have hk3 := hk2.out rfl
        cases he : eqD x d
        case true =>
          obtain ⟨e1, e2⟩ : (x.1.toList == d.1.toList) = true ∧ (x.2 == d.2) = true := by simpa [eqD] using he
          have He := Lib.hid he
          clear he
          go_wp2_with (at_builtin; refine wpList_append_own _ rfl _ _ 51 rfl (w.heap.size + 1) 54 i0 _ 2 24 Tryz.underlying51 I0.out Z0.out Z1.out Z2.out rfl (by decide) _ _ _ rfl (ownsRow_alloc (ownsRow_alloc Hown.out _) _) ⟨wr.heap.size + 1, 0, none⟩ 1 1 [.string x.1, .int .i64 x.2] rfl rfl (news_new _ _ _ _ (by simp)) (by simp [Value.oneCell']) L1.out L2.out (by simp; omega) ?_; intro v1 w1 hown1 hgrow1 _)
          have hBn : Below (w.heap.size + 1) W0 w1 := ((HBr.out.alloc hsz _).alloc (by simp; omega) _).grown hgrow1 (by simp; omega) (fun k e => (Hg.out k e).1)
          go_roundw
          case rel =>
            refine ⟨k + 1, by omega, by go_num, ?_⟩
            rw [hs.out, stD_e _ He.out]
            exact ⟨⟨by simp; omega, fun h => by cases h⟩, rfl, by rw [flatD_snoc, List.length_append]; exact hown1, hBn⟩
          case measure => simp [intOf]; omega
        case false =>
          have He := Lib.hid he
          have L3 := Lib.hid (show o.length + 1 + 1 ≤ maxLen by unfold maxLen; omega)
          have L4 := Lib.hid (show (o.length + 1 + 1) * 24 ≤ 140737488355328 by omega)
          have NE : ∀ _ : Unit, some wr.heap.size ≠ u5.ownBlock := fun _ e => by have := (Hg.out _ e.symm).2; omega
          have hcomb : (x.1.toList == d.1.toList) = false ∨ ((x.1.toList == d.1.toList) = true ∧ (x.2 == d.2) = false) := by
            unfold eqD at he
            cases e1 : x.1.toList == d.1.toList
            · exact .inl rfl
            · rw [e1] at he; exact .inr ⟨rfl, by simpa using he⟩
          clear he
          cases ha : ahB d x
          case false =>
            have Ha := Lib.hid ha
            clear ha
            rcases hcomb with e1 | ⟨e1, e2⟩
            all_goals
              go_wp2_with fail
              refine (ahead_any d x _).mono ?_
              rintro e w2 ⟨rfl, hbA⟩
              rw [Ha.out]
              have hszA := hbA.size
              simp only [World.size_alloc] at hszA
              have hwA : wr.heap.size < w2.heap.size := by omega
              have hA0 : w2.cell? ⟨w.heap.size, 0, none⟩ = some (.string d.1) := (hbA.cell (by simp; omega)).trans ((World.cell?_alloc_past _ _ _ hsz').trans hd0)
              have hA1 : w2.cell? ⟨w.heap.size, 1, none⟩ = some (.int .i64 d.2) := (hbA.cell (by simp; omega)).trans ((World.cell?_alloc_past _ _ _ hsz').trans hd1)
              have hX0 : w2.cell? ⟨wr.heap.size, 0, none⟩ = some (.string x.1) := (hbA.cell (by simp)).trans (by simp [go_sem])
              have hX1 : w2.cell? ⟨wr.heap.size, 1, none⟩ = some (.int .i64 x.2) := (hbA.cell (by simp)).trans (by simp [go_sem])
              have HO2 := Lib.hid (ownsRow_below (ownsRow_alloc Hown.out _) hbA)
              have HB2 := Lib.hid ((HBr.out.alloc hsz _).trans (hbA.mono (by simp; omega)))
              clear hbA hd0 hd1 a0 a1
              have HO3 := Lib.hid (fun O => ownsRow_alloc HO2.out O)
              have NX := Lib.hid (news_new w2 x.1 x.2 w2.heap.size rfl)
              have SZ := Lib.hid (show ∀ O, w.heap.size + 1 ≤ (w2.alloc O).heap.size from fun O => by rw [World.size_alloc]; omega)
              go_wp2_with (at_builtin; refine wpList_append_own _ rfl _ _ 51 rfl (w.heap.size + 1) 54 i0 _ 2 24 Tryz.underlying51 I0.out Z0.out Z1.out Z2.out rfl (by decide) u5 o.length (flatD o) rfl (HO3.out _) ⟨w2.heap.size, 0, none⟩ 1 1 [.string x.1, .int .i64 x.2] rfl rfl NX.out (by simp [Value.oneCell']) L1.out L2.out (SZ.out _) ?_; intro v1 w1 hown1 hgrow1 _)
              have hBn : Below (w.heap.size + 1) W0 w1 := (HB2.out.alloc (by omega) _).grown hgrow1 (by simp; omega) (fun k e => (Hg.out k e).1)
              go_roundw
              case rel =>
                refine ⟨k + 1, by omega, by go_num, ?_⟩
                rw [hs.out, stD_n _ He.out Ha.out]
                exact ⟨⟨by simp; omega, fun _ => by simp; omega⟩, rfl, by rw [flatD_snoc, List.length_append]; exact hown1, hBn⟩
              case measure => simp [intOf]; omega
          case true =>
            have Ha := Lib.hid ha
            clear ha
            rcases hcomb with e1 | ⟨e1, e2⟩
            all_goals
              go_wp2_with fail
              refine (ahead_any d x _).mono ?_
              rintro e w2 ⟨rfl, hbA⟩
              rw [Ha.out]
              have hszA := hbA.size
              simp only [World.size_alloc] at hszA
              have hwA : wr.heap.size < w2.heap.size := by omega
              have hA0 : w2.cell? ⟨w.heap.size, 0, none⟩ = some (.string d.1) := (hbA.cell (by simp; omega)).trans ((World.cell?_alloc_past _ _ _ hsz').trans hd0)
              have hA1 : w2.cell? ⟨w.heap.size, 1, none⟩ = some (.int .i64 d.2) := (hbA.cell (by simp; omega)).trans ((World.cell?_alloc_past _ _ _ hsz').trans hd1)
              have hX0 : w2.cell? ⟨wr.heap.size, 0, none⟩ = some (.string x.1) := (hbA.cell (by simp)).trans (by simp [go_sem])
              have hX1 : w2.cell? ⟨wr.heap.size, 1, none⟩ = some (.int .i64 x.2) := (hbA.cell (by simp)).trans (by simp [go_sem])
              have HO2 := Lib.hid (ownsRow_below (ownsRow_alloc Hown.out _) hbA)
              have HB2 := Lib.hid ((HBr.out.alloc hsz _).trans (hbA.mono (by simp; omega)))
              clear hbA hd0 hd1 a0 a1
              have HO3 := Lib.hid (fun O => ownsRow_alloc HO2.out O)
              have ND := Lib.hid (news_new w2 d.1 d.2 w2.heap.size rfl)
              have SZ := Lib.hid (show ∀ O, w.heap.size + 1 ≤ (w2.alloc O).heap.size from fun O => by rw [World.size_alloc]; omega)
              have LB := Lib.hid (show (o ++ [d]).length = o.length + 1 by simp)
              go_wp2_with (first | (at_builtin; refine wpList_append_own _ rfl _ _ 51 rfl (w.heap.size + 1) 54 i0 _ 2 24 Tryz.underlying51 I0.out Z0.out Z1.out Z2.out rfl (by decide) u5 o.length (flatD o) rfl (HO3.out _) ⟨w2.heap.size, 0, none⟩ 1 1 [.string d.1, .int .i64 d.2] rfl rfl ND.out (by simp [Value.oneCell']) L1.out L2.out (SZ.out _) ?_; intro v1 w1 hown1 hgrow1 _; have hY0 := hgrow1.cell ((World.cell?_alloc_past _ _ _ hwA).trans hX0) (NE ()); have hY1 := hgrow1.cell ((World.cell?_alloc_past _ _ _ hwA).trans hX1) (NE ()); have Hg1 := Lib.hid hown1.lt; have hsz1 := hgrow1.size; rw [World.size_alloc] at hsz1; have hsz2 : wr.heap.size < w1.heap.size := (by omega); have Hgrow1 := Lib.hid hgrow1; have Hown1 := Lib.hid (fun O => ownsRow_alloc hown1 O); have NX := Lib.hid (news_new w1 x.1 x.2 w1.heap.size rfl); have SZ1 := Lib.hid (show ∀ O, w.heap.size + 1 ≤ (w1.alloc O).heap.size from fun O => by rw [World.size_alloc]; omega); clear hgrow1 hown1 hX0 hX1 hA0 hA1) | (at_builtin; refine wpList_append_own _ rfl _ _ 51 rfl (w.heap.size + 1) 54 i0 _ 2 24 Tryz.underlying51 I0.out Z0.out Z1.out Z2.out rfl (by decide) v1 (o.length + 1) _ rfl (Hown1.out _) ⟨w1.heap.size, 0, none⟩ 1 1 [.string x.1, .int .i64 x.2] rfl rfl NX.out (by simp [Value.oneCell']) L3.out L4.out (SZ1.out _) ?_; intro v3 w3 hown3 hgrow3 _))
              have hBn : Below (w.heap.size + 1) W0 w3 := ((((HB2.out.alloc (by omega) _).grown Hgrow1.out (by simp; omega) (fun k e => (Hg.out k e).1)).alloc (by omega) _).grown hgrow3 (by rw [World.size_alloc]; omega) (fun k e => (Hg1.out k e).1))
              go_roundw
              case rel =>
                refine ⟨k + 1, by omega, by go_num, ?_⟩
                rw [hs.out, stD_a _ He.out Ha.out]
                exact ⟨⟨by simp; omega, fun h => by cases h⟩, rfl, by rw [flatD_snoc, flatD_snoc, List.length_append, List.length_append]; exact hown3, hBn⟩
              case measure => simp [intOf]; omega
    · rw [List.take_of_length_le (by omega)] at hkl hown
      have hput : putD dl d = if (foldD d dl).2 = true then (foldD d dl).1 else (foldD d dl).1 ++ [d] := rfl
      generalize hf : foldD d dl = s at *
      have hfd : foldD d (dl.take k) = s := by rw [List.take_of_length_le (by omega)]; exact hf
      rw [hfd]
      obtain ⟨o, dn⟩ := s
      obtain ⟨hk1, hk2⟩ := hkl
      simp only at hk1 hk2 hown hput
      have Hput := Lib.hid hput
      clear hf hfd hx0 hx1 hput
      have Hown := Lib.hid hown
      have Hg := Lib.hid hown.lt
      have HBr := Lib.hid hBw
      have L1 := Lib.hid (show o.length + 1 ≤ maxLen by unfold maxLen; omega)
      have L2 := Lib.hid (show (o.length + 1) * 24 ≤ 140737488355328 by omega)
      clear hown hB hBw hk2
      cases dn
      case true =>
        have hput := Lib.hid (show putD dl d = o from Hput.out)
        clear Hput
        go_wp2_with fail
        go_ret
        rw [hput.out]
        exact retD_of Hown.out HBr.out
      case false =>
        have hput := Lib.hid (show putD dl d = o ++ [d] from Hput.out)
        clear Hput
        have NX := Lib.hid (news_new wr d.1 d.2 wr.heap.size rfl)
        have HO3 := Lib.hid (fun O => ownsRow_alloc Hown.out O)
        have SZ := Lib.hid (show ∀ O, w.heap.size + 1 ≤ (wr.alloc O).heap.size from fun O => by rw [World.size_alloc]; omega)
        go_wp2_with (at_builtin; refine wpList_append_own _ rfl _ _ 51 rfl (w.heap.size + 1) 54 i0 _ 2 24 Tryz.underlying51 I0.out Z0.out Z1.out Z2.out rfl (by decide) u5 o.length (flatD o) rfl (HO3.out _) ⟨wr.heap.size, 0, none⟩ 1 1 [.string d.1, .int .i64 d.2] rfl rfl NX.out (by simp [Value.oneCell']) L1.out L2.out (SZ.out _) ?_; intro v1 w1 hown1 hgrow1 _)
        have hBn : Below w.heap.size w w1 := (HBr.out.alloc (by omega) _).grown hgrow1 (by rw [World.size_alloc]; omega) (fun k e => by have := (Hg.out k e).1; omega)
        go_ret
        rw [hput.out]
        exact retD_of (by rw [flatD_snoc, List.length_append]; exact hown1) hBn
end Go.Proofs.YtmeeombadkgneaaGreat
namespace Go.Proofs.YtmeeombadkgneaaGreat
open Go.RowKit Go.Shelf

attribute [local go_sem] Oper.semAt_some
/-- A declaration put into a list in its place, once. -/
def insD (d : ByteArray × Int) : List (ByteArray × Int) → List (ByteArray × Int)
  | [] => [d]
  | x :: xs => if eqD x d = true then x :: xs else if ahB d x = true then d :: x :: xs else x :: insD d xs

theorem foldD_true (d : ByteArray × Int) (l : List (ByteArray × Int)) : ∀ o, l.foldl (stD d) (o, true) = (o ++ l, true) := by
  induction l with
  | nil => intro o; simp
  | cons x xs ih => intro o; rw [List.foldl_cons, stD_t, ih]; simp
theorem foldD_false (d : ByteArray × Int) (l : List (ByteArray × Int)) : ∀ o, (if (l.foldl (stD d) (o, false)).2 = true then (l.foldl (stD d) (o, false)).1 else (l.foldl (stD d) (o, false)).1 ++ [d]) = o ++ insD d l := by
  induction l with
  | nil => intro o; rfl
  | cons x xs ih =>
    intro o
    rw [List.foldl_cons, insD]
    by_cases h1 : eqD x d = true
    · rw [stD_e _ h1, foldD_true, if_pos h1]; simp
    · have h1' : eqD x d = false := by simpa using h1
      rw [if_neg h1]
      by_cases h2 : ahB d x = true
      · rw [stD_a _ h1' h2, foldD_true, if_pos h2]; simp
      · have h2' : ahB d x = false := by simpa using h2
        rw [stD_n _ h1' h2', ih, if_neg h2]; simp
theorem putD_ins (l : List (ByteArray × Int)) (d : ByteArray × Int) : putD l d = insD d l := by
  have := foldD_false d l []
  rw [List.nil_append] at this
  rw [← this, putD, foldD]

theorem toList_inj {a b : ByteArray} (h : a.toList = b.toList) : a = b := by
  rw [ByteArray.toList_eq, ByteArray.toList_eq] at h
  cases a; cases b
  simp only [ByteArray.mk.injEq]
  exact Array.toList_inj.1 h
theorem eqD_iff {x d : ByteArray × Int} : eqD x d = true ↔ x = d := by
  unfold eqD
  rw [Bool.and_eq_true, beq_iff_eq, beq_iff_eq]
  constructor
  · rintro ⟨h1, h2⟩; exact Prod.ext (toList_inj h1) h2
  · rintro rfl; exact ⟨rfl, rfl⟩

/-- The order of declarations. -/
def ltD (d e : ByteArray × Int) : Prop := cmpB d.1.toList e.1.toList < 0 ∨ (d.1 = e.1 ∧ d.2 < e.2)
theorem ahB_iff {d e : ByteArray × Int} : ahB d e = true ↔ ltD d e := by
  unfold ahB ltD
  rw [Bool.or_eq_true, Bool.and_eq_true, less_cmpB, decide_eq_true_iff, beq_iff_eq, decide_eq_true_iff]
  constructor
  · rintro (h | ⟨h1, h2⟩)
    · exact .inl h
    · exact .inr ⟨toList_inj h1, h2⟩
  · rintro (h | ⟨h1, h2⟩)
    · exact .inl h
    · exact .inr ⟨by rw [h1], h2⟩
theorem ltD_trans {a b c : ByteArray × Int} (h : ltD a b) (h' : ltD b c) : ltD a c := by
  unfold ltD at *
  have t := cmpB_tri a.1.toList b.1.toList c.1.toList
  unfold Tri at t
  rcases h with h | ⟨h1, h2⟩
  · rcases h' with h' | ⟨h1', h2'⟩
    · have := t (by omega) (by omega); exact .inl (by omega)
    · rw [h1'] at h; exact .inl h
  · rcases h' with h' | ⟨h1', h2'⟩
    · rw [h1]; exact .inl h'
    · exact .inr ⟨h1.trans h1', by omega⟩
theorem ltD_tri (a b : ByteArray × Int) (h : ¬ a = b) (h' : ¬ ltD a b) : ltD b a := by
  unfold ltD at *
  have n := cmpB_neg a.1.toList b.1.toList
  by_cases e : a.1 = b.1
  · have : a.2 ≠ b.2 := fun e2 => h (Prod.ext e e2)
    exact .inr ⟨e.symm, by have : ¬ a.2 < b.2 := fun q => h' (.inr ⟨e, q⟩); omega⟩
  · have h0 : cmpB a.1.toList b.1.toList ≠ 0 := fun q => e (toList_inj (cmpB_zero q))
    have h1 : ¬ cmpB a.1.toList b.1.toList < 0 := fun q => h' (.inl q)
    exact .inl (by omega)

theorem mem_insD {d y : ByteArray × Int} {l : List (ByteArray × Int)} : y ∈ insD d l ↔ y = d ∨ y ∈ l := by
  induction l with
  | nil => simp [insD]
  | cons x xs ih =>
    rw [insD]
    by_cases h1 : eqD x d = true
    · rw [if_pos h1]
      have := eqD_iff.1 h1
      subst this
      simp
    · rw [if_neg h1]
      by_cases h2 : ahB d x = true
      · rw [if_pos h2]; simp
      · rw [if_neg h2, List.mem_cons, ih, List.mem_cons]
        constructor
        · rintro (h | h | h)
          · exact .inr (.inl h)
          · exact .inl h
          · exact .inr (.inr h)
        · rintro (h | h | h)
          · exact .inr (.inl h)
          · exact .inl h
          · exact .inr (.inr h)
theorem len_insD (d : ByteArray × Int) (l : List (ByteArray × Int)) : (insD d l).length ≤ l.length + 1 := by
  induction l with
  | nil => simp [insD]
  | cons x xs ih =>
    rw [insD]
    by_cases h1 : eqD x d = true
    · rw [if_pos h1]; simp
    · rw [if_neg h1]
      by_cases h2 : ahB d x = true
      · rw [if_pos h2]; simp
      · rw [if_neg h2, List.length_cons, List.length_cons]; omega
theorem sorted_insD {d : ByteArray × Int} {l : List (ByteArray × Int)} (h : l.Pairwise ltD) : (insD d l).Pairwise ltD := by
  induction l with
  | nil => simp [insD]
  | cons x xs ih =>
    rw [insD]
    have h' := List.pairwise_cons.1 h
    by_cases h1 : eqD x d = true
    · rw [if_pos h1]; exact h
    · rw [if_neg h1]
      by_cases h2 : ahB d x = true
      · rw [if_pos h2]
        have h2 := ahB_iff.1 h2
        refine List.pairwise_cons.2 ⟨fun y hy => ?_, h⟩
        rcases List.mem_cons.1 hy with rfl | hy
        · exact h2
        · exact ltD_trans h2 (h'.1 y hy)
      · rw [if_neg h2]
        refine List.pairwise_cons.2 ⟨fun y hy => ?_, ih h'.2⟩
        rcases mem_insD.1 hy with rfl | hy
        · exact ltD_tri _ _ (fun e => h1 (eqD_iff.2 e.symm)) (fun e => h2 (ahB_iff.2 e))
        · exact h'.1 y hy

def gsD (l : List (ByteArray × Int)) (y : Nd) : List (ByteArray × Int) := if y.op = 1 then putD l (y.nm, y.so) else l
def gathL (l : List (ByteArray × Int)) (t : Nd) : List (ByteArray × Int) := (nodesOf t).foldl gsD l
theorem gathL_eq (l : List (ByteArray × Int)) (t : Nd) : gathL l t = t.ks.foldl gathL (gsD l t) := by
  rw [gathL, nodesOf_eq, List.foldl_cons, List.foldl_flatMap]
  rfl
theorem gsD_len (l : List (ByteArray × Int)) (y : Nd) : (gsD l y).length ≤ l.length + 1 := by
  unfold gsD
  split
  · rw [putD_ins]; exact len_insD _ _
  · omega
theorem fold_gsD_len (ys : List Nd) : ∀ l, (ys.foldl gsD l).length ≤ l.length + ys.length := by
  induction ys with
  | nil => intro l; simp
  | cons y ys ih => intro l; rw [List.foldl_cons, List.length_cons]; have := ih (gsD l y); have := gsD_len l y; omega
theorem gathL_len (l : List (ByteArray × Int)) (t : Nd) : (gathL l t).length ≤ l.length + (nodesOf t).length := fold_gsD_len _ _
theorem fold_gsD_mem (ys : List Nd) : ∀ l d, d ∈ ys.foldl gsD l ↔ d ∈ l ∨ ∃ y ∈ ys, y.op = 1 ∧ d = (y.nm, y.so) := by
  induction ys with
  | nil => intro l d; simp
  | cons y ys ih =>
    intro l d
    rw [List.foldl_cons, ih]
    have : d ∈ gsD l y ↔ d ∈ l ∨ (y.op = 1 ∧ d = (y.nm, y.so)) := by
      unfold gsD
      split
      · rename_i h; rw [putD_ins, mem_insD]; simp [h, or_comm]
      · rename_i h; simp [h]
    rw [this]
    simp [or_assoc]
theorem fold_gsD_sorted (ys : List Nd) : ∀ l, l.Pairwise ltD → (ys.foldl gsD l).Pairwise ltD := by
  induction ys with
  | nil => intro l h; exact h
  | cons y ys ih =>
    intro l h
    rw [List.foldl_cons]
    refine ih _ ?_
    unfold gsD
    split
    · rw [putD_ins]; exact sorted_insD h
    · exact h

/-- The nodes of the first kids are no more than those of the tree. -/
theorem kids_cnt (ks : List Nd) (k : Nat) (hk : k < ks.length) : ((ks.take k).flatMap nodesOf).length + (nodesOf ks[k]).length ≤ (ks.flatMap nodesOf).length := by
  have : ks = ks.take k ++ ks[k] :: ks.drop (k + 1) := by
    rw [← List.drop_eq_getElem_cons hk, List.take_append_drop]
  conv => rhs; rw [this]
  rw [List.flatMap_append, List.flatMap_cons, List.length_append, List.length_append]
  omega
theorem fold_gathL (ks : List Nd) (l : List (ByteArray × Int)) : ks.foldl gathL l = (ks.flatMap nodesOf).foldl gsD l := by
  rw [List.foldl_flatMap]; rfl
theorem fold_gathL_len (ks : List Nd) (l : List (ByteArray × Int)) : (ks.foldl gathL l).length ≤ l.length + (ks.flatMap nodesOf).length := by
  rw [fold_gathL]; exact fold_gsD_len _ _
theorem fold_gathL_snoc (ks : List Nd) (l : List (ByteArray × Int)) (k : Nat) (hk : k < ks.length) : (ks.take (k + 1)).foldl gathL l = gathL ((ks.take k).foldl gathL l) ks[k] := by
  rw [List.take_succ_eq_append_getElem hk, List.foldl_append]; rfl
set_option maxRecDepth 100000 in
set_option maxHeartbeats 2000000 in
theorem gather_any (t : Nd) : ∀ (l : List (ByteArray × Int)) (LA : Option Addr) (lcap : Nat) (A : Option Addr) (cap : Nat) (w : World), Lies w A cap t.ks → DeclsAt w LA l → l.length + (nodesOf t).length ≤ 1048576 →
    Calls Tryz.prog 52 #[.slice LA l.length lcap, nv t.op t.so t.nm t.nu (.slice A t.ks.length cap)] w (RetD w (gathL l t)) := by
  induction t using Nd.ind with
  | h t ih =>
  intro l LA lcap A cap w hL hD hcnt
  have HB1 : Below w.heap.size w (w.alloc (.cells #[.int .i64 t.op, .int .i64 t.so, .string t.nm, .int .i64 t.nu, .slice A t.ks.length cap] 44)) := (Below.refl _ _).alloc (Nat.le_refl _) _
  have H5 := Lib.hid (five_new w t (.slice A t.ks.length cap) 44)
  have hn := hL.len
  unfold maxLen at hn
  have hq := Lib.hid (gathL_eq l t)
  have hlen := gsD_len l t
  rw [nodesOf_eq, List.length_cons] at hcnt
  have HL := Lib.hid hL
  have HD := Lib.hid hD
  have IH := Lib.hid ih
  clear hL hD ih
  have HB1 := Lib.hid HB1
  by_cases h1 : t.op = 1
  case neg =>
    have hg := Lib.hid (show gsD l t = l from if_neg h1)
    have h1' : (t.op == 1) = false := by simpa using h1
    clear h1
    go_enter Tryz.func52, Tryz.ntmps52
    go_wp2_with fail
    go_loopw [0, 20] (fun lv i wr => ∃ k : Nat, k ≤ t.ks.length ∧ i = .int .i64 k ∧ (∃ LA' lc, lv = .slice LA' ((t.ks.take k).foldl gathL (gsD l t)).length lc ∧ DeclsAt wr LA' ((t.ks.take k).foldl gathL (gsD l t))) ∧ Below w.heap.size w wr) (fun _ i _ => t.ks.length - (intOf i).toNat)
    case atStart => exact ⟨0, Nat.zero_le _, rfl, ⟨_, _, by rw [List.take_zero, List.foldl_nil, hg.out], by rw [List.take_zero, List.foldl_nil, hg.out]; exact HD.out.later HB1.out⟩, HB1.out⟩
    case round =>
      obtain ⟨k, hk, rfl, ⟨LA', lc, rfl, hDr⟩, hBr⟩ := hrel
      by_cases hlt : k < t.ks.length
      · obtain ⟨b, o, A', C', rfl, g5, hK⟩ := HL.out.kid hlt
        obtain ⟨a0, a1, a2, a3, a4⟩ := g5.later hBr
        have hK' := Lib.hid (hK.later hBr)
        have hDr := Lib.hid hDr
        have hsn := Lib.hid (fold_gathL_snoc t.ks (gsD l t) k hlt)
        have hle : ((t.ks.take k).foldl gathL (gsD l t)).length + (nodesOf t.ks[k]).length ≤ 1048576 := by
          have h1 := fold_gathL_len (t.ks.take k) (gsD l t)
          have h2 := kids_cnt t.ks k hlt
          omega
        have c := Lib.hid (fun LA lcap A cap w hL hD => IH.out k hlt ((t.ks.take k).foldl gathL (gsD l t)) LA lcap A cap w hL hD hle)
        have hszr := hBr.size
        have HBr := Lib.hid hBr
        generalize t.ks[k] = q at *
        generalize ((t.ks.take k).foldl gathL (gsD l t)) = c0 at *
        clear g5 hK IH HL hle hcnt hlen
        go_wp2_with fail
        refine (c.out _ _ _ _ _ (hK'.out.later ((Below.refl _ _).alloc (Nat.le_refl _) _)) (hDr.out.later ((Below.refl _ _).alloc (Nat.le_refl _) _))).mono ?_
        rintro e w2 ⟨LA2, lc2, rfl, hD2, hb2⟩
        have hB2 := Lib.hid (HBr.out.trans ((((Below.refl _ wr).alloc (Nat.le_refl _) _).trans (hb2.mono (by simp))).mono hszr))
        clear hb2
        go_wp2_with fail
        go_roundw
        case rel => exact ⟨k + 1, by omega, by go_num, by rw [hsn.out]; exact ⟨_, _, rfl, hD2⟩, hB2.out⟩
        case measure => simp [intOf]; omega
      · go_wp2_with fail
        go_ret
        rw [hq.out]
        rw [List.take_of_length_le (by omega)] at hDr ⊢
        exact ⟨_, _, rfl, hDr, hBr⟩
  case pos =>
    have hg := Lib.hid (show gsD l t = putD l (t.nm, t.so) from if_pos h1)
    have h1' : (t.op == 1) = true := by simpa using h1
    clear h1
    go_enter Tryz.func52, Tryz.ntmps52
    go_wp2_with fail
    refine (putDecl_any l (t.nm, t.so) _ _ _ (HD.out.later (by assumption)) (by omega)).mono ?_
    rintro e w1 ⟨LA1, lcap1, rfl, hD1, hb1⟩
    have d4 := (H5.out.later hb1).c4
    have HB2 := Lib.hid (HB1.out.trans (hb1.mono (by simp)))
    have HD1 := Lib.hid hD1
    clear hb1 hD1
    go_wp2_with fail
    go_loopw [0, 20] (fun lv i wr => ∃ k : Nat, k ≤ t.ks.length ∧ i = .int .i64 k ∧ (∃ LA' lc, lv = .slice LA' ((t.ks.take k).foldl gathL (gsD l t)).length lc ∧ DeclsAt wr LA' ((t.ks.take k).foldl gathL (gsD l t))) ∧ Below w.heap.size w wr) (fun _ i _ => t.ks.length - (intOf i).toNat)
    case atStart => exact ⟨0, Nat.zero_le _, rfl, ⟨_, _, by rw [List.take_zero, List.foldl_nil, hg.out], by rw [List.take_zero, List.foldl_nil, hg.out]; exact HD1.out⟩, HB2.out⟩
    case round =>
      obtain ⟨k, hk, rfl, ⟨LA', lc, rfl, hDr⟩, hBr⟩ := hrel
      by_cases hlt : k < t.ks.length
      · obtain ⟨b, o, A', C', rfl, g5, hK⟩ := HL.out.kid hlt
        obtain ⟨a0, a1, a2, a3, a4⟩ := g5.later hBr
        have hK' := Lib.hid (hK.later hBr)
        have hDr := Lib.hid hDr
        have hsn := Lib.hid (fold_gathL_snoc t.ks (gsD l t) k hlt)
        have hle : ((t.ks.take k).foldl gathL (gsD l t)).length + (nodesOf t.ks[k]).length ≤ 1048576 := by
          have h1 := fold_gathL_len (t.ks.take k) (gsD l t)
          have h2 := kids_cnt t.ks k hlt
          omega
        have c := Lib.hid (fun LA lcap A cap w hL hD => IH.out k hlt ((t.ks.take k).foldl gathL (gsD l t)) LA lcap A cap w hL hD hle)
        have hszr := hBr.size
        have HBr := Lib.hid hBr
        generalize t.ks[k] = q at *
        generalize ((t.ks.take k).foldl gathL (gsD l t)) = c0 at *
        clear g5 hK IH HL hle hcnt hlen
        go_wp2_with fail
        refine (c.out _ _ _ _ _ (hK'.out.later ((Below.refl _ _).alloc (Nat.le_refl _) _)) (hDr.out.later ((Below.refl _ _).alloc (Nat.le_refl _) _))).mono ?_
        rintro e w2 ⟨LA2, lc2, rfl, hD2, hb2⟩
        have hB2 := Lib.hid (HBr.out.trans ((((Below.refl _ wr).alloc (Nat.le_refl _) _).trans (hb2.mono (by simp))).mono hszr))
        clear hb2
        go_wp2_with fail
        go_roundw
        case rel => exact ⟨k + 1, by omega, by go_num, by rw [hsn.out]; exact ⟨_, _, rfl, hD2⟩, hB2.out⟩
        case measure => simp [intOf]; omega
      · go_wp2_with fail
        go_ret
        rw [hq.out]
        rw [List.take_of_length_le (by omega)] at hDr ⊢
        exact ⟨_, _, rfl, hDr, hBr⟩

theorem refVars_any (t : Nd) (A : Option Addr) (cap : Nat) (w : World) (hL : Lies w A cap t.ks) (hcnt : (nodesOf t).length ≤ 1048576) :
    Calls Tryz.prog 26 #[nv t.op t.so t.nm t.nu (.slice A t.ks.length cap)] w (RetD w (gathL [] t)) := by
  have c := gather_any t [] none 0 A cap
  have HL := Lib.hid hL
  clear hL
  have HB1 := Lib.hid (show Below w.heap.size w (w.alloc (.cells #[.int .i64 t.op, .int .i64 t.so, .string t.nm, .int .i64 t.nu, .slice A t.ks.length cap] 44)) from (Below.refl _ _).alloc (Nat.le_refl _) _)
  have C := Lib.hid c
  clear c
  go_enter Tryz.func26, Tryz.ntmps26
  go_wp2_with fail
  refine (C.out _ (HL.out.later HB1.out) ⟨0, fun h => by simp at h, fun i hi => by simp at hi⟩ (by simpa using hcnt)).mono ?_
  rintro e w1 ⟨LA, lc, rfl, hD, hb⟩
  have HB2 := Lib.hid (HB1.out.trans (hb.mono (by simp)))
  have HD := Lib.hid hD
  clear hb hD
  go_wp2_with fail
  go_ret
  exact ⟨_, _, rfl, HD.out, HB2.out⟩
end Go.Proofs.YtmeeombadkgneaaGreat
namespace Go.Proofs.YtmeeombadkgneaaGreat
open Go.RowKit Go.Shelf

attribute [local go_sem] Oper.semAt_some
/-- Whether no two neighbours of a list of declarations have one name. -/
def apartL (dl : List (ByteArray × Int)) : Prop := ∀ i (h : i + 1 < dl.length), dl[i].1.toList ≠ dl[i + 1].1.toList
/-- What the document's Uniform returns. -/
noncomputable def refUniB (t : Nd) : Bool := @decide (apartL (gathL [] t) ∧ ∀ d ∈ gathL [] t, conB d.1 t = false) (Classical.propDecidable _)
theorem refUniB_false {t : Nd} (h : ¬ (apartL (gathL [] t) ∧ ∀ d ∈ gathL [] t, conB d.1 t = false)) : refUniB t = false := @decide_eq_false _ (Classical.propDecidable _) h
theorem refUniB_true {t : Nd} (h : apartL (gathL [] t) ∧ ∀ d ∈ gathL [] t, conB d.1 t = false) : refUniB t = true := @decide_eq_true _ (Classical.propDecidable _) h

set_option maxRecDepth 100000 in
set_option maxHeartbeats 2000000 in
theorem refUniform_any (t : Nd) (A : Option Addr) (cap : Nat) (w : World) (hL : Lies w A cap t.ks) (hcnt : (nodesOf t).length ≤ 1048576) :
    Calls Tryz.prog 101 #[nv t.op t.so t.nm t.nu (.slice A t.ks.length cap)] w fun e w' => e = .returned (.bool (refUniB t)) ∧ Below w.heap.size w w' := by
  have HB1 := Lib.hid (show Below w.heap.size w (w.alloc (.cells #[.int .i64 t.op, .int .i64 t.so, .string t.nm, .int .i64 t.nu, .slice A t.ks.length cap] 44)) from (Below.refl _ _).alloc (Nat.le_refl _) _)
  have H5 := Lib.hid (five_new w t (.slice A t.ks.length cap) 44)
  have hF := Lib.hid (fun h => refUniB_false (t := t) h)
  have hT := Lib.hid (fun h => refUniB_true (t := t) h)
  have hlen : (gathL [] t).length ≤ 1048576 := Nat.le_trans (gathL_len _ _) (by simpa using hcnt)
  have HL := Lib.hid hL
  have HV := Lib.hid (fun w hL => refVars_any t A cap w hL hcnt)
  clear hL
  generalize refUniB t = R at *
  generalize gathL [] t = dl at *
  go_enter Tryz.func101, Tryz.ntmps101
  go_wp2_with fail
  refine (HV.out _ (HL.out.later HB1.out)).mono ?_
  rintro e w1 ⟨LA, lc, rfl, hD, hb⟩
  have HB2 := Lib.hid (HB1.out.trans (hb.mono (by simp)))
  have H5' := Lib.hid (H5.out.later hb)
  have HD := Lib.hid hD
  clear hb hD HB1 H5
  go_wp2_with fail
  go_loopw [4] (fun i wr => ∃ j : Nat, i = .int .i64 ((j : Int) + 1) ∧ (j ≤ dl.length) ∧ Hid (∀ m (h : m + 1 < dl.length), m < j → dl[m].1.toList ≠ dl[m + 1].1.toList) ∧ Below w.heap.size w wr ∧ Hid (Below w1.heap.size w1 wr)) (fun i _ => dl.length + 1 - (intOf i).toNat)
  case atStart => exact ⟨0, rfl, Nat.zero_le _, fun m _ hm => absurd hm (by omega), HB2.out, Lib.hid (Below.refl _ _)⟩
  case round =>
    obtain ⟨j, rfl, hj, hap, hBr, hbx⟩ := hrel
    by_cases hlt : j + 1 < dl.length
    · obtain ⟨b, hA, hDc⟩ := HD.out.later hbx.out
      obtain rfl := hA (by omega)
      obtain ⟨p0, _⟩ := hDc j (by omega)
      obtain ⟨q0, _⟩ := hDc (j + 1) hlt
      have hno := Lib.hid (fun (e : dl[j].1.toList = dl[j + 1].1.toList) => hF.out (fun h => h.1 j hlt e))
      have hsn := Lib.hid (fun (e : dl[j].1.toList ≠ dl[j + 1].1.toList) => (show Hid (∀ m (h : m + 1 < dl.length), m < j + 1 → dl[m].1.toList ≠ dl[m + 1].1.toList) from fun m hm hmj => by
        by_cases e' : m = j
        · subst e'; exact e
        · exact hap.out m hm (by omega)))
      generalize dl[j].1 = na at *
      generalize dl[j + 1].1 = nb at *
      clear hDc hap
      cases he : na.toList == nb.toList
      case true =>
        have Hr := Lib.hid (hno.out (by simpa using he))
        go_wp2_with fail
        go_quiet (fail)
        go_wp2_with fail
        go_ret
        exact ⟨by rw [Hr.out]; rfl, below_drewN hBr _⟩
      case false =>
        have Hsn := hsn.out (by simpa using he)
        have HBx := Lib.hid hbx.out
        clear hsn hno hbx
        go_wp2_with fail
        go_quiet (fail)
        go_wp2_with fail
        go_roundw
        case rel => exact ⟨j + 1, by go_num, by omega, Hsn, below_drewN hBr _, Lib.hid (below_drewN HBx.out _)⟩
        case measure => simp [intOf]; omega
    · have Hap := Lib.hid (show apartL dl from fun m hm => hap.out m hm (by omega))
      clear hap
      go_wp2_with fail
      go_loopw [29] (fun i wy => ∃ k : Nat, k ≤ dl.length ∧ i = .int .i64 k ∧ Hid (∀ m (h : m < dl.length), m < k → conB dl[m].1 t = false) ∧ Below w.heap.size w wy ∧ Hid (Below w1.heap.size w1 wy)) (fun i _ => dl.length - (intOf i).toNat)
      case atStart => exact ⟨0, Nat.zero_le _, rfl, fun m _ hm => absurd hm (by omega), hBr, hbx⟩
      case round =>
        clear hbx hBr hj
        obtain ⟨k, hk, rfl, hcc, hBr, hbx⟩ := hrel
        by_cases hlt2 : k < dl.length
        · obtain ⟨b, hA, hDc⟩ := HD.out.later hbx.out
          obtain rfl := hA (by omega)
          obtain ⟨p0, p1⟩ := hDc k hlt2
          obtain ⟨a0, a1, a2, a3, a4⟩ := H5'.out.later hbx.out
          have hsz := hBr.size
          have hszw : w.heap.size < wr.heap.size := by have := World.block_lt_of_cell? _ _ a0; exact this
          have hno := Lib.hid (fun (e : conB dl[k].1 t = true) => hF.out (fun h => by have := h.2 _ (List.getElem_mem hlt2); rw [e] at this; cases this))
          have hsn := Lib.hid (fun (e : conB dl[k].1 t = false) => (show Hid (∀ m (h : m < dl.length), m < k + 1 → conB dl[m].1 t = false) from fun m hm hmj => by
            by_cases e' : m = k
            · subst e'; exact e
            · exact hcc.out m hm (by omega)))
          have hLy := Lib.hid (HL.out.later hBr)
          have HBr := Lib.hid hBr
          generalize dl[k] = x at *
          clear hDc hcc hA hlt
          cases hq : conB x.1 t
          case true =>
            have Hq := Lib.hid hq
            have Hr := Lib.hid (hno.out hq)
            clear hq hno hsn
            go_wp2_with fail
            refine (constant_any x.1 t _ _ _ (hLy.out.later ((Below.refl _ _).alloc (Nat.le_refl _) _))).mono ?_
            rintro e w2 ⟨rfl, hb2⟩
            rw [Hq.out]
            have hB2 := Lib.hid (HBr.out.trans ((((Below.refl _ wr).alloc (Nat.le_refl _) _).trans (hb2.mono (by simp))).mono hsz))
            clear hb2
            go_wp2_with fail
            go_ret
            exact ⟨by rw [Hr.out]; rfl, hB2.out⟩
          case false =>
            have Hq := Lib.hid hq
            have Hsn := hsn.out hq
            clear hq hno
            go_wp2_with fail
            refine (constant_any x.1 t _ _ _ (hLy.out.later ((Below.refl _ _).alloc (Nat.le_refl _) _))).mono ?_
            rintro e w2 ⟨rfl, hb2⟩
            rw [Hq.out]
            have hb3 : Below wr.heap.size wr w2 := ((Below.refl _ _).alloc (Nat.le_refl _) _).trans (hb2.mono (by simp))
            have hB2 := Lib.hid (HBr.out.trans (hb3.mono hsz))
            have hB3 := Lib.hid (hbx.out.trans (hb3.mono hbx.out.size))
            clear hb2 hb3
            go_wp2_with fail
            go_roundw
            case rel => exact ⟨k + 1, by omega, by go_num, Hsn, hB2.out, hB3⟩
            case measure => simp [intOf]; omega
        · have Hr := Lib.hid (hT.out ⟨Hap.out, fun d hd => by
            obtain ⟨m, hm, rfl⟩ := List.getElem_of_mem hd
            exact hcc.out m hm (by omega)⟩)
          go_wp2_with fail
          go_ret
          exact ⟨by rw [Hr.out]; rfl, hBr⟩
end Go.Proofs.YtmeeombadkgneaaGreat
namespace Go.Proofs.YtmeeombadkgneaaGreat
open Go.RowKit Go.Shelf

attribute [local go_sem] Oper.semAt_some
theorem kOf_inj {a b : ByteArray} : kOf a = kOf b ↔ a.toList = b.toList := by
  unfold kOf
  rw [ByteArray.toList_eq, ByteArray.toList_eq]
  constructor
  · intro h; injection h
  · intro h; rw [h]
theorem ltD_irrefl (d : ByteArray × Int) : ¬ ltD d d := by
  unfold ltD
  have := cmpB_self d.1.toList
  omega
theorem conB_iff {nm : ByteArray} {t : Nd} : conB nm t = true ↔ ∃ z ∈ nodesOf t, isCon z ∧ z.nm.toList = nm.toList := by
  unfold conB isCon
  rw [List.any_eq_true]
  constructor
  · rintro ⟨z, hz, h⟩
    rw [Bool.and_eq_true, Bool.and_eq_true, beq_iff_eq, beq_iff_eq, decide_eq_true_iff] at h
    exact ⟨z, hz, ⟨h.1, h.2.2⟩, h.2.1⟩
  · rintro ⟨z, hz, ⟨h1, h2⟩, h3⟩
    refine ⟨z, hz, ?_⟩
    rw [Bool.and_eq_true, Bool.and_eq_true, beq_iff_eq, beq_iff_eq, decide_eq_true_iff]
    exact ⟨h1, h3, h2⟩
theorem mem_gath {t : Nd} {d : ByteArray × Int} : d ∈ gathL [] t ↔ ∃ y ∈ nodesOf t, y.op = 1 ∧ d = (y.nm, y.so) := by
  unfold gathL
  rw [fold_gsD_mem]
  simp
theorem gath_sorted (t : Nd) : (gathL [] t).Pairwise ltD := fold_gsD_sorted _ _ List.Pairwise.nil
theorem near {dl : List (ByteArray × Int)} (hs : dl.Pairwise ltD) {i j : Nat} (hi : i < dl.length) (hj : j < dl.length) (h : i < j) (he : dl[i].1.toList = dl[j].1.toList) : ¬ apartL dl := by
  intro ha
  have hi1 : i + 1 < dl.length := by omega
  refine ha i hi1 ?_
  by_cases e : i + 1 = j
  · subst e; exact he
  · have h1 : ltD dl[i] dl[i + 1] := List.pairwise_iff_getElem.1 hs i (i + 1) hi hi1 (by omega)
    have h2 : ltD dl[i + 1] dl[j] := List.pairwise_iff_getElem.1 hs (i + 1) j hi1 hj (by omega)
    unfold ltD at h1 h2
    rw [← he] at h2
    have hn := cmpB_neg dl[i].1.toList dl[i + 1].1.toList
    rcases h1 with h1 | ⟨h1, _⟩
    · rcases h2 with h2 | ⟨h2, _⟩
      · omega
      · rw [he, h2]
    · rw [h1]
theorem uni_eq (t : Nd) : refUniB t = uniB (nodesOf t) := by
  by_cases h : UOk (nodesOf t)
  · rw [uniB_true h]
    refine refUniB_true ⟨fun i hi he => ?_, fun d hd => ?_⟩
    · obtain ⟨y, hy, hyv, ey⟩ := mem_gath.1 (List.getElem_mem (show i < (gathL [] t).length by omega))
      obtain ⟨z, hz, hzv, ez⟩ := mem_gath.1 (List.getElem_mem hi)
      have hl := List.pairwise_iff_getElem.1 (gath_sorted t) i (i + 1) (by omega) hi (by omega)
      rw [ey, ez] at he hl
      refine h y hy z hz ⟨kOf_inj.2 he, hyv, .inl ⟨hzv, fun hs => ?_⟩⟩
      have : (y.nm, y.so) = (z.nm, z.so) := Prod.ext (toList_inj he) hs
      rw [this] at hl
      exact ltD_irrefl _ hl
    · obtain ⟨y, hy, hyv, rfl⟩ := mem_gath.1 hd
      rw [← Bool.not_eq_true, conB_iff]
      rintro ⟨z, hz, hc, hn⟩
      exact h y hy z hz ⟨kOf_inj.2 hn.symm, hyv, .inr hc⟩
  · rw [uniB_false h]
    refine refUniB_false fun ⟨ha, hc⟩ => h fun y hy z hz hcf => ?_
    obtain ⟨hk, hyv, hzz⟩ := hcf
    have hk := kOf_inj.1 hk
    rcases hzz with ⟨hzv, hs⟩ | hzc
    · obtain ⟨i, hi, ei⟩ := List.getElem_of_mem (mem_gath.2 ⟨y, hy, hyv, rfl⟩)
      obtain ⟨j, hj, ej⟩ := List.getElem_of_mem (mem_gath.2 ⟨z, hz, hzv, rfl⟩)
      by_cases hlt : i < j
      · exact near (gath_sorted t) hi hj hlt (by rw [ei, ej]; exact hk) ha
      · by_cases hgt : j < i
        · exact near (gath_sorted t) hj hi hgt (by rw [ei, ej]; exact hk.symm) ha
        · have : i = j := by omega
          subst this
          rw [ei] at ej
          exact hs (Prod.mk.inj ej).2
    · have := hc (y.nm, y.so) (mem_gath.2 ⟨y, hy, hyv, rfl⟩)
      rw [(conB_iff (nm := y.nm) (t := t)).2 ⟨z, hz, hzc, hk.symm⟩] at this
      cases this

/-- The number of nodes. -/
def cnt (t : Nd) : Nat := (nodesOf t).length
theorem flat_cnt (ks : List Nd) : (ks.flatMap nodesOf).length = (ks.map cnt).sum := by
  rw [List.length_flatMap]; rfl
theorem cnt_eq (t : Nd) : cnt t = 1 + (t.ks.map cnt).sum := by
  rw [cnt, nodesOf_eq, List.length_cons, flat_cnt]; omega
theorem le_sum_mem {l : List Nat} {n : Nat} (h : n ∈ l) : n ≤ l.sum := by
  induction l with
  | nil => cases h
  | cons x xs ih =>
    rw [List.sum_cons]
    rcases List.mem_cons.1 h with rfl | h
    · omega
    · have := ih h; omega
theorem cnt_kid {t : Nd} {k : Nd} (h : k ∈ t.ks) : cnt k + 1 ≤ cnt t := by
  rw [cnt_eq t]
  have : cnt k ≤ (t.ks.map cnt).sum := le_sum_mem (List.mem_map.2 ⟨k, h, rfl⟩)
  omega
theorem pre_cnt (t : Nd) : (preN 1 t).length = cnt t := by rw [cnt, nodesOf, List.length_map]

theorem wrap_small {x : Int} (h0 : -9223372036854775808 ≤ x) (h1 : x ≤ 9223372036854775807) : wrap64 x = x := by unfold wrap64; omega

theorem sizeW_cnt (t : Nd) (h : cnt t ≤ 1048576) : sizeW t = cnt t := by
  induction t using Nd.ind with
  | h t ih =>
  rw [sizeW_eq, cnt_eq]
  rw [cnt_eq] at h
  have key : ∀ (l : List Nd), (∀ i (hi : i < l.length), cnt l[i] ≤ 1048576 → sizeW l[i] = cnt l[i]) → ∀ s : Nat, s + (l.map cnt).sum ≤ 1048577 → (l.map cnt).sum ≤ 1048576 → sizeL s l = (s : Int) + ((l.map cnt).sum : Nat) := by
    intro l
    induction l with
    | nil => intro _ s _ _; simp [sizeL]
    | cons x xs ihx =>
      intro hl s hs hs2
      rw [List.map_cons, List.sum_cons] at hs hs2 ⊢
      have hx : sizeW x = cnt x := hl 0 (by simp) (by show cnt x ≤ _; omega)
      have := ihx (fun i hi => hl (i + 1) (by simp; omega)) (s + cnt x) (by omega) (by omega)
      rw [sizeL, List.foldl_cons, hx, wrap_small (by omega) (by omega), show ((s : Int) + (cnt x : Int)) = ((s + cnt x : Nat) : Int) by omega]
      rw [sizeL] at this
      rw [this]
      omega
  have := key t.ks (fun i hi => ih i hi) 1 (by omega) (by omega)
  rw [show ((1 : Nat) : Int) = 1 from rfl] at this
  rw [this]
  omega

/-- The number of levels. -/
def dep : Nd → Nat
  | .mk _ _ _ _ ks => ks.attach.foldl (fun s k => max s (dep k.1)) 0 + 1
termination_by t => SizeOf.sizeOf t
decreasing_by
  have := List.sizeOf_lt_of_mem k.2
  simp only [Nd.mk.sizeOf_spec]
  omega
def depL (s : Nat) (ks : List Nd) : Nat := ks.foldl (fun s k => max s (dep k)) s
theorem dep_eq (t : Nd) : dep t = depL 0 t.ks + 1 := by
  cases t
  rw [dep, depL]
  simp only [Nd.ks]
  rw [List.foldl_attach (f := fun s k => max s (dep k))]
theorem depL_le {ks : List Nd} {n : Nat} : ∀ s, depL s ks ≤ n ↔ s ≤ n ∧ ∀ k ∈ ks, dep k ≤ n := by
  induction ks with
  | nil => intro s; simp [depL]
  | cons x xs ih =>
    intro s
    have e : depL s (x :: xs) = depL (max s (dep x)) xs := rfl
    rw [e, ih]
    simp only [List.mem_cons, forall_eq_or_imp, Nat.max_le]
    constructor
    · rintro ⟨⟨h1, h2⟩, h3⟩; exact ⟨h1, h2, h3⟩
    · rintro ⟨h1, h2, h3⟩; exact ⟨⟨h1, h2⟩, h3⟩
theorem dep_cnt (t : Nd) : dep t ≤ cnt t := by
  induction t using Nd.ind with
  | h t ih =>
  rw [dep_eq]
  have : depL 0 t.ks ≤ cnt t - 1 := (depL_le 0).2 ⟨Nat.zero_le _, fun k hk => by
    obtain ⟨i, hi, rfl⟩ := List.getElem_of_mem hk
    have h1 := ih i hi
    have h2 := cnt_kid hk
    omega⟩
  have h3 := cnt_eq t
  omega
theorem levW_dep (t : Nd) (h : cnt t ≤ 1048576) : levW t = dep t := by
  induction t using Nd.ind with
  | h t ih =>
  have hd := dep_cnt t
  rw [levW_eq, dep_eq] at *
  have key : ∀ (l : List Nd), (∀ k ∈ l, levW k = dep k) → ∀ s : Nat, levL s l = (depL s l : Nat) := by
    intro l
    induction l with
    | nil => intro _ s; rfl
    | cons x xs ihx =>
      intro hl s
      have e1 : levL s (x :: xs) = levL (max (s : Int) (levW x)) xs := rfl
      have e2 : depL s (x :: xs) = depL (max s (dep x)) xs := rfl
      rw [e1, e2, hl x (by simp), ← ihx (fun k hk => hl k (by simp [hk])) (max s (dep x))]
      congr 1
      omega
  have := key t.ks (fun k hk => by
    have h2 := cnt_kid hk
    obtain ⟨i, hi, rfl⟩ := List.getElem_of_mem hk
    exact ih i hi (by omega)) 0
  rw [show ((0 : Nat) : Int) = 0 from rfl] at this
  rw [this, wrap_small (by omega) (by omega)]
  omega
theorem pre_levels (t : Nd) : ∀ lv : Int, 0 ≤ lv → lv + cnt t ≤ 4000000 → ((∀ p ∈ preN lv t, p.1 ≤ 100) ↔ lv + dep t ≤ 101) := by
  induction t using Nd.ind with
  | h t ih =>
  intro lv h0 hb
  have hw : wrap64 (lv + 1) = lv + 1 := wrap_small (by omega) (by omega)
  have hns : ∀ (l : List Nd), (∀ k ∈ l, ((∀ p ∈ preN (lv + 1) k, p.1 ≤ 100) ↔ lv + 1 + dep k ≤ 101)) → ((∀ p ∈ preNs (lv + 1) l, p.1 ≤ 100) ↔ ∀ k ∈ l, lv + 1 + dep k ≤ 101) := by
    intro l
    induction l with
    | nil => intro _; simp [preNs]
    | cons x xs ihx =>
      intro hl
      rw [preNs]
      simp only [List.mem_append, List.mem_cons, forall_eq_or_imp]
      rw [← hl x (by simp), ← ihx (fun k hk => hl k (by simp [hk]))]
      constructor
      · intro h; exact ⟨fun p hp => h p (.inl hp), fun p hp => h p (.inr hp)⟩
      · rintro ⟨h1, h2⟩ p (hp | hp)
        · exact h1 p hp
        · exact h2 p hp
  have hk := hns t.ks (fun k hk => by
    have h2 := cnt_kid hk
    obtain ⟨i, hi, rfl⟩ := List.getElem_of_mem hk
    exact ih i hi (lv + 1) (by omega) (by omega))
  rw [preN_eq, hw]
  simp only [List.mem_cons, forall_eq_or_imp]
  rw [hk, dep_eq]
  constructor
  · rintro ⟨h1, h2⟩
    have : depL 0 t.ks ≤ (100 - lv).toNat := (depL_le 0).2 ⟨Nat.zero_le _, fun k hk => by have := h2 k hk; omega⟩
    omega
  · intro h
    refine ⟨by omega, fun k hk => ?_⟩
    have := ((depL_le (ks := t.ks) (n := depL 0 t.ks) 0).1 (Nat.le_refl _)).2 k hk
    omega
theorem lim_eq (t : Nd) (h : cnt t ≤ 1048576) : limB (preN 1 t) = decide (¬ (4000 < sizeW t ∨ 100 < levW t)) := by
  unfold limB
  rw [sizeW_cnt t h, levW_dep t h, pre_cnt]
  congr 1
  rw [pre_levels t 1 (by omega) (by omega)]
  apply propext
  omega
/-- What the document's Check returns. -/
noncomputable def refCheckV (t : Nd) (sort : Int) : Int :=
  if sort < 0 ∨ 5 < sort then 1
  else if 4000 < sizeW t ∨ 100 < levW t then 2
  else if allN t = false ∨ refUniB t = false then 3
  else if sort ≠ 0 ∧ sortN t ≠ sort then 10
  else 0
theorem check_eq (t : Nd) (sort : Int) (h : cnt t ≤ 1048576) : checkV t sort = refCheckV t sort := by
  unfold checkV refCheckV
  rw [lim_eq t h, uni_eq, allN_pre]
  simp only [decide_eq_false_iff_not, Classical.not_not]
  rfl

set_option maxRecDepth 100000 in
set_option maxHeartbeats 4000000 in
theorem refCheck_any (t : Nd) (sort : Int) (A : Option Addr) (cap : Nat) (w : World) (hL : Lies w A cap t.ks) (hcnt : cnt t ≤ 1048576) :
    Calls Tryz.prog 75 #[nv t.op t.so t.nm t.nu (.slice A t.ks.length cap), .int .i64 sort] w fun e w' => e = .returned (.int .i64 (refCheckV t sort)) ∧ Below w.heap.size w w' := by
  have HB1 : Below w.heap.size w (w.alloc (.cells #[.int .i64 t.op, .int .i64 t.so, .string t.nm, .int .i64 t.nu, .slice A t.ks.length cap] 44)) := (Below.refl _ _).alloc (Nat.le_refl _) _
  have HL := Lib.hid hL
  have F0 := Lib.hid (five_new w t (.slice A t.ks.length cap) 44)
  clear hL
  by_cases h0 : sort < 0
  · rw [show refCheckV t sort = 1 from if_pos (.inl h0)]
    go_enter Tryz.func75, Tryz.ntmps75
    go_wp2_with fail
    go_ret
    exact ⟨rfl, HB1⟩
  by_cases h5 : 5 < sort
  · rw [show refCheckV t sort = 1 from if_pos (.inr h5)]
    go_enter Tryz.func75, Tryz.ntmps75
    go_wp2_with fail
    go_ret
    exact ⟨rfl, HB1⟩
  have hc1 : refCheckV t sort = if 4000 < sizeW t ∨ 100 < levW t then 2
      else if allN t = false ∨ refUniB t = false then 3
      else if sort ≠ 0 ∧ sortN t ≠ sort then 10 else 0 := if_neg (by omega)
  rw [hc1]
  clear hc1
  by_cases hs : 4000 < sizeW t
  · rw [if_pos (.inl hs)]
    go_enter Tryz.func75, Tryz.ntmps75
    go_wp2_with fail
    refine (refSize_any t _ _ _ (HL.out.later HB1)).mono ?_
    rintro e w1 ⟨rfl, hb1⟩
    have hB : Below w.heap.size w w1 := HB1.trans (hb1.mono (by simp))
    clear hb1
    go_wp2_with fail
    go_ret
    exact ⟨rfl, hB⟩
  by_cases hl : 100 < levW t
  · rw [if_pos (.inr hl)]
    go_enter Tryz.func75, Tryz.ntmps75
    go_wp2_with fail
    refine (refSize_any t _ _ _ (HL.out.later HB1)).mono ?_
    rintro e w1 ⟨rfl, hb1⟩
    have hB : Below w.heap.size w w1 := HB1.trans (hb1.mono (by simp))
    obtain ⟨a0, a1, a2, a3, a4⟩ := F0.out.later hb1
    clear hb1
    go_wp2_with fail
    refine (refLevels_any t _ _ _ (HL.out.later hB)).mono ?_
    rintro e w2 ⟨rfl, hb2⟩
    have hB2 : Below w.heap.size w w2 := hB.trans (hb2.mono hB.size)
    clear hb2 a0 a1 a2 a3 a4
    go_wp2_with fail
    go_ret
    exact ⟨rfl, hB2⟩
  rw [if_neg (by omega)]
  cases hw : allN t
  case false =>
    rw [if_pos (.inl rfl)]
    have Hw := Lib.hid hw
    clear hw
    go_enter Tryz.func75, Tryz.ntmps75
    go_wp2_with fail
    refine (refSize_any t _ _ _ (HL.out.later HB1)).mono ?_
    rintro e w1 ⟨rfl, hb1⟩
    have hB : Below w.heap.size w w1 := HB1.trans (hb1.mono (by simp))
    have F1 := Lib.hid (F0.out.later hb1)
    obtain ⟨a0, a1, a2, a3, a4⟩ := F1.out
    clear hb1
    go_wp2_with fail
    refine (refLevels_any t _ _ _ (HL.out.later hB)).mono ?_
    rintro e w2 ⟨rfl, hb2⟩
    have hB2 : Below w.heap.size w w2 := hB.trans (hb2.mono hB.size)
    have F2 := Lib.hid (F1.out.later hb2)
    clear hb2 a0 a1 a2 a3 a4
    obtain ⟨a0, a1, a2, a3, a4⟩ := F2.out
    go_wp2_with fail
    refine (refSorted_any t _ _ _ (HL.out.later hB2)).mono ?_
    rintro e w3 ⟨rfl, hb3⟩
    rw [Hw.out]
    have hB3 : Below w.heap.size w w3 := hB2.trans (hb3.mono hB2.size)
    clear hb3 a0 a1 a2 a3 a4
    go_wp2_with fail
    go_ret
    exact ⟨rfl, hB3⟩
  have Hw := Lib.hid hw
  clear hw
  cases hu : refUniB t
  case false =>
    rw [if_pos (.inr rfl)]
    have Hu := Lib.hid hu
    clear hu
    go_enter Tryz.func75, Tryz.ntmps75
    go_wp2_with fail
    refine (refSize_any t _ _ _ (HL.out.later HB1)).mono ?_
    rintro e w1 ⟨rfl, hb1⟩
    have hB : Below w.heap.size w w1 := HB1.trans (hb1.mono (by simp))
    have F1 := Lib.hid (F0.out.later hb1)
    obtain ⟨a0, a1, a2, a3, a4⟩ := F1.out
    clear hb1
    go_wp2_with fail
    refine (refLevels_any t _ _ _ (HL.out.later hB)).mono ?_
    rintro e w2 ⟨rfl, hb2⟩
    have hB2 : Below w.heap.size w w2 := hB.trans (hb2.mono hB.size)
    have F2 := Lib.hid (F1.out.later hb2)
    clear hb2 a0 a1 a2 a3 a4
    obtain ⟨a0, a1, a2, a3, a4⟩ := F2.out
    go_wp2_with fail
    refine (refSorted_any t _ _ _ (HL.out.later hB2)).mono ?_
    rintro e w3 ⟨rfl, hb3⟩
    rw [Hw.out]
    have hB3 : Below w.heap.size w w3 := hB2.trans (hb3.mono hB2.size)
    have F3 := Lib.hid (F2.out.later hb3)
    clear hb3 a0 a1 a2 a3 a4
    obtain ⟨a0, a1, a2, a3, a4⟩ := F3.out
    go_wp2_with fail
    refine (refUniform_any t _ _ _ (HL.out.later hB3) hcnt).mono ?_
    rintro e w4 ⟨rfl, hb4⟩
    rw [Hu.out]
    have hB4 : Below w.heap.size w w4 := hB3.trans (hb4.mono hB3.size)
    clear hb4 a0 a1 a2 a3 a4
    go_wp2_with fail
    go_ret
    exact ⟨rfl, hB4⟩
  rw [if_neg (by simp)]
  have Hu := Lib.hid hu
  clear hu
  by_cases hz : sort = 0
  · subst hz
    rw [if_neg (by simp)]
    go_enter Tryz.func75, Tryz.ntmps75
    go_wp2_with fail
    refine (refSize_any t _ _ _ (HL.out.later HB1)).mono ?_
    rintro e w1 ⟨rfl, hb1⟩
    have hB : Below w.heap.size w w1 := HB1.trans (hb1.mono (by simp))
    have F1 := Lib.hid (F0.out.later hb1)
    obtain ⟨a0, a1, a2, a3, a4⟩ := F1.out
    clear hb1
    go_wp2_with fail
    refine (refLevels_any t _ _ _ (HL.out.later hB)).mono ?_
    rintro e w2 ⟨rfl, hb2⟩
    have hB2 : Below w.heap.size w w2 := hB.trans (hb2.mono hB.size)
    have F2 := Lib.hid (F1.out.later hb2)
    clear hb2 a0 a1 a2 a3 a4
    obtain ⟨a0, a1, a2, a3, a4⟩ := F2.out
    go_wp2_with fail
    refine (refSorted_any t _ _ _ (HL.out.later hB2)).mono ?_
    rintro e w3 ⟨rfl, hb3⟩
    rw [Hw.out]
    have hB3 : Below w.heap.size w w3 := hB2.trans (hb3.mono hB2.size)
    have F3 := Lib.hid (F2.out.later hb3)
    clear hb3 a0 a1 a2 a3 a4
    obtain ⟨a0, a1, a2, a3, a4⟩ := F3.out
    go_wp2_with fail
    refine (refUniform_any t _ _ _ (HL.out.later hB3) hcnt).mono ?_
    rintro e w4 ⟨rfl, hb4⟩
    rw [Hu.out]
    have hB4 : Below w.heap.size w w4 := hB3.trans (hb4.mono hB3.size)
    clear hb4 a0 a1 a2 a3 a4
    go_wp2_with fail
    go_ret
    exact ⟨rfl, hB4⟩
  have hz1 : (sort == 0) = false := by simpa using hz
  have hz2 : (sort != 0) = true := by simpa using hz
  have hrest : ∀ v, (if sort ≠ 0 ∧ sortN t ≠ sort then (10 : Int) else 0) = v → (sortN t = sort → v = 0) ∧ (sortN t ≠ sort → v = 10) := fun v hv =>
    ⟨fun e => by rw [← hv, if_neg (by simp [e])], fun e => by rw [← hv, if_pos ⟨hz, e⟩]⟩
  generalize hv : (if sort ≠ 0 ∧ sortN t ≠ sort then (10 : Int) else 0) = v
  have hr := Lib.hid (hrest v hv)
  clear hrest hv hz
  go_enter Tryz.func75, Tryz.ntmps75
  go_wp2_with fail
  refine (refSize_any t _ _ _ (HL.out.later HB1)).mono ?_
  rintro e w1 ⟨rfl, hb1⟩
  have hB : Below w.heap.size w w1 := HB1.trans (hb1.mono (by simp))
  have F1 := Lib.hid (F0.out.later hb1)
  obtain ⟨a0, a1, a2, a3, a4⟩ := F1.out
  clear hb1
  go_wp2_with fail
  refine (refLevels_any t _ _ _ (HL.out.later hB)).mono ?_
  rintro e w2 ⟨rfl, hb2⟩
  have hB2 : Below w.heap.size w w2 := hB.trans (hb2.mono hB.size)
  have F2 := Lib.hid (F1.out.later hb2)
  clear hb2 a0 a1 a2 a3 a4
  obtain ⟨a0, a1, a2, a3, a4⟩ := F2.out
  go_wp2_with fail
  refine (refSorted_any t _ _ _ (HL.out.later hB2)).mono ?_
  rintro e w3 ⟨rfl, hb3⟩
  rw [Hw.out]
  have hB3 : Below w.heap.size w w3 := hB2.trans (hb3.mono hB2.size)
  have F3 := Lib.hid (F2.out.later hb3)
  clear hb3 a0 a1 a2 a3 a4
  obtain ⟨a0, a1, a2, a3, a4⟩ := F3.out
  go_wp2_with fail
  refine (refUniform_any t _ _ _ (HL.out.later hB3) hcnt).mono ?_
  rintro e w4 ⟨rfl, hb4⟩
  rw [Hu.out]
  have hB4 : Below w.heap.size w w4 := hB3.trans (hb4.mono hB3.size)
  have F4 := Lib.hid (F3.out.later hb4)
  clear hb4 a0 a1 a2 a3 a4
  obtain ⟨a0, a1, a2, a3, a4⟩ := F4.out
  go_wp2_with fail
  refine (refSort_any t _ _ _ (HL.out.later hB4)).mono ?_
  rintro e w5 ⟨rfl, hb5⟩
  have hB5 : Below w.heap.size w w5 := hB4.trans (hb5.mono hB4.size)
  clear hb5 a0 a1 a2 a3 a4
  by_cases hs : sortN t = sort
  · have hs1 : (sortN t == sort) = true := by simpa using hs
    have hs2 : (sortN t != sort) = false := by simpa using hs
    obtain rfl := hr.out.1 hs
    clear hs hr
    go_wp2_with fail
    go_ret
    exact ⟨rfl, hB5⟩
  · have hs1 : (sortN t == sort) = false := by simpa using hs
    have hs2 : (sortN t != sort) = true := by simpa using hs
    obtain rfl := hr.out.2 hs
    clear hs hr
    go_wp2_with fail
    go_ret
    exact ⟨rfl, hB5⟩
end Go.Proofs.YtmeeombadkgneaaGreat
