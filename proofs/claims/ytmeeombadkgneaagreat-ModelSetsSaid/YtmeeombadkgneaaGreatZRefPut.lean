/-
  What the document's own Vars returns; conditions: the tree lies in memory and has few variables.
-/
import Derived.Lib.SmallJoins
import Derived.Test.YtmeeombadkgneaaGreatZRefSorted
import Derived.Test.YtmeeombadkgneaaGreatZVarsOne
namespace Go.Proofs.YtmeeombadkgneaaGreat
open Go.RowKit Go.Shelf

attribute [local go_sem] Oper.semAt_some
/-- Whether a declaration stands ahead of another one. -/
def ahB (d e : ByteArray × Int) : Bool := Op.bytesLess d.1.toList e.1.toList || ((d.1.toList == e.1.toList) && decide (d.2 < e.2))
set_option maxHeartbeats 1000000 in
theorem ahead_any (d e : ByteArray × Int) (w : World) : Calls Tryz.prog 104 #[dv d.1 d.2, dv e.1 e.2] w fun r w' => r = .returned (.bool (ahB d e)) ∧ Below w.heap.size w w' := by
  obtain ⟨a, x⟩ := d
  obtain ⟨b, y⟩ := e
  show Calls Tryz.prog 104 #[dv a x, dv b y] w fun r w' => r = .returned (.bool (Op.bytesLess a.toList b.toList || ((a.toList == b.toList) && decide (x < y)))) ∧ Below w.heap.size w w'
  have HB : ∀ O O', Below w.heap.size w ((w.alloc O).alloc O') := fun O O' => ((Below.refl _ _).alloc (Nat.le_refl _) _).alloc (by simp) _
  cases h1 : Op.bytesLess a.toList b.toList
  case true =>
    go_enter Tryz.func104, Tryz.ntmps104
    go_wp2_with fail
    go_ret
    exact ⟨rfl, HB _ _⟩
  cases h2 : a.toList == b.toList
  case false =>
    go_enter Tryz.func104, Tryz.ntmps104
    go_wp2_with fail
    go_ret
    exact ⟨rfl, HB _ _⟩
  go_enter Tryz.func104, Tryz.ntmps104
  go_wp2_with fail
  go_ret
  exact ⟨rfl, HB _ _⟩

def flatD (l : List (ByteArray × Int)) : List Value := l.flatMap fun d => [.string d.1, .int .i64 d.2]
/-- A slice A of a list's length holds declarations. -/
def DeclsAt (w : World) (A : Option Addr) (dl : List (ByteArray × Int)) : Prop :=
  ∃ b, (0 < dl.length → A = some ⟨b, 0, none⟩) ∧ ∀ i (hi : i < dl.length), w.cell? ⟨b, i * 2, none⟩ = some (.string dl[i].1) ∧ w.cell? ⟨b, i * 2 + 1, none⟩ = some (.int .i64 dl[i].2)
theorem DeclsAt.later {w w' : World} {A : Option Addr} {dl : List (ByteArray × Int)} (h : DeclsAt w A dl) (hb : Below w.heap.size w w') : DeclsAt w' A dl := by
  obtain ⟨b, h1, h2⟩ := h
  exact ⟨b, h1, fun i hi => ⟨cellB hb (Nat.le_refl _) (h2 i hi).1, cellB hb (Nat.le_refl _) (h2 i hi).2⟩⟩


def eqD (x d : ByteArray × Int) : Bool := (x.1.toList == d.1.toList) && (x.2 == d.2)
/-- A round of the document's insertion. -/
def stD (d : ByteArray × Int) : List (ByteArray × Int) × Bool → ByteArray × Int → List (ByteArray × Int) × Bool
  | (o, true), x => (o ++ [x], true)
  | (o, false), x => if eqD x d = true then (o ++ [x], true) else if ahB d x = true then (o ++ [d] ++ [x], true) else (o ++ [x], false)
def foldD (d : ByteArray × Int) (l : List (ByteArray × Int)) : List (ByteArray × Int) × Bool := l.foldl (stD d) ([], false)
theorem foldD_snoc (d : ByteArray × Int) (l : List (ByteArray × Int)) {k : Nat} (h : k < l.length) : foldD d (l.take (k + 1)) = stD d (foldD d (l.take k)) l[k] := by
  rw [foldD, foldD, List.take_succ_eq_append_getElem h, List.foldl_append]
  rfl
def putD (l : List (ByteArray × Int)) (d : ByteArray × Int) : List (ByteArray × Int) := if (foldD d l).2 = true then (foldD d l).1 else (foldD d l).1 ++ [d]

theorem flatD_len (l : List (ByteArray × Int)) : (flatD l).length = l.length * 2 := by
  induction l with
  | nil => rfl
  | cons x xs ih => rw [flatD, List.flatMap_cons, List.length_append, ← flatD, ih]; simp; omega
theorem flatD_snoc (l : List (ByteArray × Int)) (d : ByteArray × Int) : flatD (l ++ [d]) = flatD l ++ [.string d.1, .int .i64 d.2] := by
  rw [flatD, List.flatMap_append]; rfl
theorem flatD_at (l : List (ByteArray × Int)) : ∀ i (h : i < l.length), (flatD l)[i * 2]? = some (.string l[i].1) ∧ (flatD l)[i * 2 + 1]? = some (.int .i64 l[i].2) := by
  induction l with
  | nil => intro i h; simp at h
  | cons x xs ih =>
    intro i h
    have e : flatD (x :: xs) = [.string x.1, .int .i64 x.2] ++ flatD xs := rfl
    match i, h with
    | 0, _ => exact ⟨rfl, rfl⟩
    | i + 1, h =>
      have h' : i < xs.length := by simpa using h
      obtain ⟨h1, h2⟩ := ih i h'
      rw [e]
      refine ⟨?_, ?_⟩
      · rw [List.getElem?_append_right (by simp; omega)]
        simpa [show (i + 1) * 2 - 2 = i * 2 by omega] using h1
      · rw [List.getElem?_append_right (by simp; omega)]
        simpa [show (i + 1) * 2 + 1 - 2 = i * 2 + 1 by omega] using h2

theorem ownsRow_below {w w' : World} {base : Nat} {e : TypeId} {size : Nat} {v : Value} {n : Nat} {xs : List Value} (h : w.ownsRow base e size v n xs) (hb : Below w.heap.size w w') : w'.ownsRow base e size v n xs := by
  refine ⟨h.1, ?_⟩
  rcases h.2 with h | ⟨g, cap, cur, hv, h1, h2, h3⟩
  · exact .inl h
  · exact .inr ⟨g, cap, cur, hv, h1, (hb.block g (Array.getElem?_eq_some_iff.1 h2).1).trans h2, h3⟩
theorem ownsRow_block {w : World} {base : Nat} {e : TypeId} {size : Nat} {v : Value} {n : Nat} {xs : List Value} (h : w.ownsRow base e size v n xs) : ∀ k, v.ownBlock = some k → base ≤ k := by
  intro k hk
  rcases h.2 with ⟨h, _⟩ | ⟨g, cap, cur, hv, h1, _⟩
  · subst h; cases hk
  · subst hv
    cases hk
    exact h1
theorem ownsRow_decls {w : World} {base : Nat} {v : Value} {l : List (ByteArray × Int)} (h : w.ownsRow base 54 2 v l.length (flatD l)) : ∃ A cap, v = .slice A l.length cap ∧ DeclsAt w A l := by
  rcases h.2 with ⟨hv, hn⟩ | ⟨g, cap, cur, hv, h1, h2, h3, h4, h5, h6⟩
  · refine ⟨none, 0, by rw [hv, hn], 0, fun h => by omega, fun i hi => by omega⟩
  · refine ⟨_, cap, hv, g, fun _ => rfl, fun i hi => ?_⟩
    obtain ⟨f1, f2⟩ := flatD_at l i hi
    rw [← h6, List.getElem?_take_of_lt (by omega)] at f1 f2
    refine ⟨?_, ?_⟩
    · simpa [World.cell?, h2] using f1
    · simpa [World.cell?, h2] using f2

theorem news2 {W : World} {bk : Nat} {a : ByteArray} {x : Int} (h0 : W.cell? ⟨bk, 0, none⟩ = some (.string a)) (h1 : W.cell? ⟨bk, 1, none⟩ = some (.int .i64 x)) :
    ∀ (j : Nat) (u : Value), ([.string a, .int .i64 x] : List Value)[j]? = some u → W.cell? ((⟨bk, 0, none⟩ : Addr).add j) = some u := by
  intro j u hj
  match j, hj with
  | 0, hj => simp at hj; subst hj; exact h0
  | 1, hj => simp at hj; subst hj; exact h1
theorem news_new (W : World) (a : ByteArray) (x : Int) (bk : Nat) (hb : bk = W.heap.size) :
    ∀ (j : Nat) (u : Value), ([.string a, .int .i64 x] : List Value)[j]? = some u → (W.alloc (.cells #[.string a, .int .i64 x] 54)).cell? ((⟨bk, 0, none⟩ : Addr).add j) = some u := by
  subst hb
  exact news2 (by simp [go_sem]) (by simp [go_sem])
theorem ownsRow_alloc {w : World} {base : Nat} {e : TypeId} {size : Nat} {v : Value} {n : Nat} {xs : List Value} (h : w.ownsRow base e size v n xs) (O : Obj) : (w.alloc O).ownsRow base e size v n xs :=
  ownsRow_below h ((Below.refl _ _).alloc (Nat.le_refl _) _)

theorem stD_t (d : ByteArray × Int) (o : List (ByteArray × Int)) (x : ByteArray × Int) : stD d (o, true) x = (o ++ [x], true) := rfl
theorem stD_e {d : ByteArray × Int} (o : List (ByteArray × Int)) {x : ByteArray × Int} (h : eqD x d = true) : stD d (o, false) x = (o ++ [x], true) := by rw [stD, if_pos h]
theorem stD_a {d : ByteArray × Int} (o : List (ByteArray × Int)) {x : ByteArray × Int} (h : eqD x d = false) (h' : ahB d x = true) : stD d (o, false) x = (o ++ [d] ++ [x], true) := by rw [stD, if_neg (by simp [h]), if_pos h']
theorem stD_n {d : ByteArray × Int} (o : List (ByteArray × Int)) {x : ByteArray × Int} (h : eqD x d = false) (h' : ahB d x = false) : stD d (o, false) x = (o ++ [x], false) := by rw [stD, if_neg (by simp [h]), if_neg (by simp [h'])]

/-- What a function that returns a list of declarations returns. -/
def RetD (w : World) (l : List (ByteArray × Int)) (e : Ending) (w' : World) : Prop := ∃ A cap, e = .returned (.slice A l.length cap) ∧ DeclsAt w' A l ∧ Below w.heap.size w w'
theorem retD_of {w W : World} {B : Nat} {v : Value} {l : List (ByteArray × Int)} (h : W.ownsRow B 54 2 v l.length (flatD l)) (hb : Below w.heap.size w W) : RetD w l (.returned v) W := by
  obtain ⟨A, cap, rfl, hD⟩ := ownsRow_decls h
  exact ⟨A, cap, rfl, hD, hb⟩

set_option maxRecDepth 100000 in
set_option maxHeartbeats 4000000 in
theorem putDecl_any (dl : List (ByteArray × Int)) (d : ByteArray × Int) (A : Option Addr) (cap : Nat) (w : World) (hD : DeclsAt w A dl) (hlen : dl.length ≤ 1048576) :
    Calls Tryz.prog 79 #[.slice A dl.length cap, dv d.1 d.2] w (RetD w (putD dl d)) := by
  have HB : ∀ O, Below w.heap.size w (w.alloc O) := fun O => (Below.refl _ _).alloc (Nat.le_refl _) _
  obtain ⟨i0, hi, hz0, hz1, hz2⟩ := info_parts Tryz.info54
  have I0 := Lib.hid hi
  have Z0 := Lib.hid hz0
  have Z1 := Lib.hid hz1
  have Z2 := Lib.hid hz2
  clear hi hz0 hz1 hz2
  have hD := Lib.hid hD
  have hx0 : (w.alloc (.cells #[.string d.1, .int .i64 d.2] 54)).cell? ⟨w.heap.size, 0, none⟩ = some (.string d.1) := by simp [go_sem]
  have hx1 : (w.alloc (.cells #[.string d.1, .int .i64 d.2] 54)).cell? ⟨w.heap.size, 1, none⟩ = some (.int .i64 d.2) := by simp [go_sem]
  go_enter Tryz.func79, Tryz.ntmps79
  go_wp2_with fail
  have hwz : (w.alloc (.cells #[.string d.1, .int .i64 d.2] 54)).heap.size = w.heap.size + 1 := by simp
  have HBx := HB (.cells #[.string d.1, .int .i64 d.2] 54)
  generalize w.alloc (.cells #[.string d.1, .int .i64 d.2] 54) = W0 at *
  go_loopw [5, 6, 11] (fun o dn i wr => ∃ k : Nat, k ≤ dl.length ∧ i = .int .i64 k ∧ Hid ((foldD d (dl.take k)).1.length ≤ k + 1 ∧ ((foldD d (dl.take k)).2 = false → (foldD d (dl.take k)).1.length ≤ k)) ∧ dn = .bool (foldD d (dl.take k)).2 ∧ wr.ownsRow (w.heap.size + 1) 54 2 o (foldD d (dl.take k)).1.length (flatD (foldD d (dl.take k)).1) ∧ Below (w.heap.size + 1) W0 wr) (fun _ _ i _ => dl.length - (intOf i).toNat)
  case atStart => exact ⟨0, Nat.zero_le _, rfl, ⟨Nat.zero_le _, fun _ => Nat.le_refl _⟩, rfl, World.ownsRow_nil _ _ _ _, Below.refl _ _⟩
  case round =>
    obtain ⟨k, hk, rfl, hkl, rfl, hown, hB⟩ := hrel
    have hBw := HBx.trans (hB.mono (by omega))
    have hd0 : wr.cell? ⟨w.heap.size, 0, none⟩ = some (.string d.1) := (hB.cell (by simp)).trans hx0
    have hd1 : wr.cell? ⟨w.heap.size, 1, none⟩ = some (.int .i64 d.2) := (hB.cell (by simp)).trans hx1
    have hsz : w.heap.size + 1 ≤ wr.heap.size := by have := hB.size; omega
    have hsz' : w.heap.size < wr.heap.size := by omega
    by_cases hlt : k < dl.length
    · have hs := Lib.hid (foldD_snoc d dl hlt)
      obtain ⟨b, hA, hDc⟩ := hD.out.later hBw
      obtain rfl := hA (by omega)
      obtain ⟨a0, a1⟩ := hDc k hlt
      generalize hx : dl[k] = x at *
      generalize hf : foldD d (dl.take k) = s at *
      obtain ⟨o, dn⟩ := s
      obtain ⟨hk1, hk2⟩ := hkl
      simp only at hk1 hk2 hown
      have hk2 := Lib.hid hk2
      clear hDc hA hx hf hx0 hx1
      have Hown := Lib.hid hown
      have Hg := Lib.hid hown.lt
      have HBr := Lib.hid hB
      have L1 := Lib.hid (show o.length + 1 ≤ maxLen by unfold maxLen; omega)
      have L2 := Lib.hid (show (o.length + 1) * 24 ≤ 140737488355328 by omega)
      clear hown hB
      cases dn
      case true =>
        cases he : eqD x d
        case true =>
          obtain ⟨e1, e2⟩ : (x.1.toList == d.1.toList) = true ∧ (x.2 == d.2) = true := by simpa [eqD] using he
          clear he
          go_wp2_with (at_builtin; refine wpList_append_own _ rfl _ _ 51 rfl (w.heap.size + 1) 54 i0 _ 2 24 Tryz.underlying51 I0.out Z0.out Z1.out Z2.out rfl (by decide) _ _ _ rfl (ownsRow_alloc (ownsRow_alloc Hown.out _) _) ⟨wr.heap.size + 1, 0, none⟩ 1 1 [.string x.1, .int .i64 x.2] rfl rfl (news_new _ _ _ _ (by simp)) (by simp [Value.oneCell']) L1.out L2.out (by simp; omega) ?_; intro v1 w1 hown1 hgrow1 _)
          have hBn : Below (w.heap.size + 1) W0 w1 := ((HBr.out.alloc hsz _).alloc (by simp; omega) _).grown hgrow1 (by simp; omega) (fun k e => (Hg.out k e).1)
          go_roundw
          case rel =>
            refine ⟨k + 1, by omega, by go_num, ?_⟩
            rw [hs.out, stD_t]
            exact ⟨⟨by simp; omega, fun h => by cases h⟩, rfl, by rw [flatD_snoc, List.length_append]; exact hown1, hBn⟩
          case measure => simp [intOf]; omega
        case false =>
          clear he
          cases e1 : x.1.toList == d.1.toList
          case false =>
            go_wp2_with (at_builtin; refine wpList_append_own _ rfl _ _ 51 rfl (w.heap.size + 1) 54 i0 _ 2 24 Tryz.underlying51 I0.out Z0.out Z1.out Z2.out rfl (by decide) _ _ _ rfl (ownsRow_alloc (ownsRow_alloc Hown.out _) _) ⟨wr.heap.size + 1, 0, none⟩ 1 1 [.string x.1, .int .i64 x.2] rfl rfl (news_new _ _ _ _ (by simp)) (by simp [Value.oneCell']) L1.out L2.out (by simp; omega) ?_; intro v1 w1 hown1 hgrow1 _)
            have hBn : Below (w.heap.size + 1) W0 w1 := ((HBr.out.alloc hsz _).alloc (by simp; omega) _).grown hgrow1 (by simp; omega) (fun k e => (Hg.out k e).1)
            go_roundw
            case rel =>
              refine ⟨k + 1, by omega, by go_num, ?_⟩
              rw [hs.out, stD_t]
              exact ⟨⟨by simp; omega, fun h => by cases h⟩, rfl, by rw [flatD_snoc, List.length_append]; exact hown1, hBn⟩
            case measure => simp [intOf]; omega
          case true =>
            cases e2 : x.2 == d.2
            case false =>
              go_wp2_with (at_builtin; refine wpList_append_own _ rfl _ _ 51 rfl (w.heap.size + 1) 54 i0 _ 2 24 Tryz.underlying51 I0.out Z0.out Z1.out Z2.out rfl (by decide) _ _ _ rfl (ownsRow_alloc (ownsRow_alloc Hown.out _) _) ⟨wr.heap.size + 1, 0, none⟩ 1 1 [.string x.1, .int .i64 x.2] rfl rfl (news_new _ _ _ _ (by simp)) (by simp [Value.oneCell']) L1.out L2.out (by simp; omega) ?_; intro v1 w1 hown1 hgrow1 _)
              have hBn : Below (w.heap.size + 1) W0 w1 := ((HBr.out.alloc hsz _).alloc (by simp; omega) _).grown hgrow1 (by simp; omega) (fun k e => (Hg.out k e).1)
              go_roundw
              case rel =>
                refine ⟨k + 1, by omega, by go_num, ?_⟩
                rw [hs.out, stD_t]
                exact ⟨⟨by simp; omega, fun h => by cases h⟩, rfl, by rw [flatD_snoc, List.length_append]; exact hown1, hBn⟩
              case measure => simp [intOf]; omega
            case true =>
              go_wp2_with (at_builtin; refine wpList_append_own _ rfl _ _ 51 rfl (w.heap.size + 1) 54 i0 _ 2 24 Tryz.underlying51 I0.out Z0.out Z1.out Z2.out rfl (by decide) _ _ _ rfl (ownsRow_alloc (ownsRow_alloc Hown.out _) _) ⟨wr.heap.size + 1, 0, none⟩ 1 1 [.string x.1, .int .i64 x.2] rfl rfl (news_new _ _ _ _ (by simp)) (by simp [Value.oneCell']) L1.out L2.out (by simp; omega) ?_; intro v1 w1 hown1 hgrow1 _)
              have hBn : Below (w.heap.size + 1) W0 w1 := ((HBr.out.alloc hsz _).alloc (by simp; omega) _).grown hgrow1 (by simp; omega) (fun k e => (Hg.out k e).1)
              go_roundw
              case rel =>
                refine ⟨k + 1, by omega, by go_num, ?_⟩
                rw [hs.out, stD_t]
                exact ⟨⟨by simp; omega, fun h => by cases h⟩, rfl, by rw [flatD_snoc, List.length_append]; exact hown1, hBn⟩
              case measure => simp [intOf]; omega
      case false =>
        have hk3 := hk2.out rfl
        cases he : eqD x d
        case true =>
          obtain ⟨e1, e2⟩ : (x.1.toList == d.1.toList) = true ∧ (x.2 == d.2) = true := by simpa [eqD] using he
          have He := Lib.hid he
          clear he
          go_wp2_with (at_builtin; refine wpList_append_own _ rfl _ _ 51 rfl (w.heap.size + 1) 54 i0 _ 2 24 Tryz.underlying51 I0.out Z0.out Z1.out Z2.out rfl (by decide) _ _ _ rfl (ownsRow_alloc (ownsRow_alloc Hown.out _) _) ⟨wr.heap.size + 1, 0, none⟩ 1 1 [.string x.1, .int .i64 x.2] rfl rfl (news_new _ _ _ _ (by simp)) (by simp [Value.oneCell']) L1.out L2.out (by simp; omega) ?_; intro v1 w1 hown1 hgrow1 _)
          have hBn : Below (w.heap.size + 1) W0 w1 := ((HBr.out.alloc hsz _).alloc (by simp; omega) _).grown hgrow1 (by simp; omega) (fun k e => (Hg.out k e).1)
          go_roundw
          case rel =>
            refine ⟨k + 1, by omega, by go_num, ?_⟩
            rw [hs.out, stD_e _ He.out]
            exact ⟨⟨by simp; omega, fun h => by cases h⟩, rfl, by rw [flatD_snoc, List.length_append]; exact hown1, hBn⟩
          case measure => simp [intOf]; omega
        case false =>
          have He := Lib.hid he
          have L3 := Lib.hid (show o.length + 1 + 1 ≤ maxLen by unfold maxLen; omega)
          have L4 := Lib.hid (show (o.length + 1 + 1) * 24 ≤ 140737488355328 by omega)
          have NE : ∀ _ : Unit, some wr.heap.size ≠ u5.ownBlock := fun _ e => by have := (Hg.out _ e.symm).2; omega
          have hcomb : (x.1.toList == d.1.toList) = false ∨ ((x.1.toList == d.1.toList) = true ∧ (x.2 == d.2) = false) := by
            unfold eqD at he
            cases e1 : x.1.toList == d.1.toList
            · exact .inl rfl
            · rw [e1] at he; exact .inr ⟨rfl, by simpa using he⟩
          clear he
          cases ha : ahB d x
          case false =>
            have Ha := Lib.hid ha
            clear ha
            rcases hcomb with e1 | ⟨e1, e2⟩
            all_goals
              go_wp2_with fail
              refine (ahead_any d x _).mono ?_
              rintro e w2 ⟨rfl, hbA⟩
              rw [Ha.out]
              have hszA := hbA.size
              simp only [World.size_alloc] at hszA
              have hwA : wr.heap.size < w2.heap.size := by omega
              have hA0 : w2.cell? ⟨w.heap.size, 0, none⟩ = some (.string d.1) := (hbA.cell (by simp; omega)).trans ((World.cell?_alloc_past _ _ _ hsz').trans hd0)
              have hA1 : w2.cell? ⟨w.heap.size, 1, none⟩ = some (.int .i64 d.2) := (hbA.cell (by simp; omega)).trans ((World.cell?_alloc_past _ _ _ hsz').trans hd1)
              have hX0 : w2.cell? ⟨wr.heap.size, 0, none⟩ = some (.string x.1) := (hbA.cell (by simp)).trans (by simp [go_sem])
              have hX1 : w2.cell? ⟨wr.heap.size, 1, none⟩ = some (.int .i64 x.2) := (hbA.cell (by simp)).trans (by simp [go_sem])
              have HO2 := Lib.hid (ownsRow_below (ownsRow_alloc Hown.out _) hbA)
              have HB2 := Lib.hid ((HBr.out.alloc hsz _).trans (hbA.mono (by simp; omega)))
              clear hbA hd0 hd1 a0 a1
              have HO3 := Lib.hid (fun O => ownsRow_alloc HO2.out O)
              have NX := Lib.hid (news_new w2 x.1 x.2 w2.heap.size rfl)
              have SZ := Lib.hid (show ∀ O, w.heap.size + 1 ≤ (w2.alloc O).heap.size from fun O => by rw [World.size_alloc]; omega)
              go_wp2_with (at_builtin; refine wpList_append_own _ rfl _ _ 51 rfl (w.heap.size + 1) 54 i0 _ 2 24 Tryz.underlying51 I0.out Z0.out Z1.out Z2.out rfl (by decide) u5 o.length (flatD o) rfl (HO3.out _) ⟨w2.heap.size, 0, none⟩ 1 1 [.string x.1, .int .i64 x.2] rfl rfl NX.out (by simp [Value.oneCell']) L1.out L2.out (SZ.out _) ?_; intro v1 w1 hown1 hgrow1 _)
              have hBn : Below (w.heap.size + 1) W0 w1 := (HB2.out.alloc (by omega) _).grown hgrow1 (by simp; omega) (fun k e => (Hg.out k e).1)
              go_roundw
              case rel =>
                refine ⟨k + 1, by omega, by go_num, ?_⟩
                rw [hs.out, stD_n _ He.out Ha.out]
                exact ⟨⟨by simp; omega, fun _ => by simp; omega⟩, rfl, by rw [flatD_snoc, List.length_append]; exact hown1, hBn⟩
              case measure => simp [intOf]; omega
          case true =>
            have Ha := Lib.hid ha
            clear ha
            rcases hcomb with e1 | ⟨e1, e2⟩
            all_goals
              go_wp2_with fail
              refine (ahead_any d x _).mono ?_
              rintro e w2 ⟨rfl, hbA⟩
              rw [Ha.out]
              have hszA := hbA.size
              simp only [World.size_alloc] at hszA
              have hwA : wr.heap.size < w2.heap.size := by omega
              have hA0 : w2.cell? ⟨w.heap.size, 0, none⟩ = some (.string d.1) := (hbA.cell (by simp; omega)).trans ((World.cell?_alloc_past _ _ _ hsz').trans hd0)
              have hA1 : w2.cell? ⟨w.heap.size, 1, none⟩ = some (.int .i64 d.2) := (hbA.cell (by simp; omega)).trans ((World.cell?_alloc_past _ _ _ hsz').trans hd1)
              have hX0 : w2.cell? ⟨wr.heap.size, 0, none⟩ = some (.string x.1) := (hbA.cell (by simp)).trans (by simp [go_sem])
              have hX1 : w2.cell? ⟨wr.heap.size, 1, none⟩ = some (.int .i64 x.2) := (hbA.cell (by simp)).trans (by simp [go_sem])
              have HO2 := Lib.hid (ownsRow_below (ownsRow_alloc Hown.out _) hbA)
              have HB2 := Lib.hid ((HBr.out.alloc hsz _).trans (hbA.mono (by simp; omega)))
              clear hbA hd0 hd1 a0 a1
              have HO3 := Lib.hid (fun O => ownsRow_alloc HO2.out O)
              have ND := Lib.hid (news_new w2 d.1 d.2 w2.heap.size rfl)
              have SZ := Lib.hid (show ∀ O, w.heap.size + 1 ≤ (w2.alloc O).heap.size from fun O => by rw [World.size_alloc]; omega)
              have LB := Lib.hid (show (o ++ [d]).length = o.length + 1 by simp)
              go_wp2_with (first | (at_builtin; refine wpList_append_own _ rfl _ _ 51 rfl (w.heap.size + 1) 54 i0 _ 2 24 Tryz.underlying51 I0.out Z0.out Z1.out Z2.out rfl (by decide) u5 o.length (flatD o) rfl (HO3.out _) ⟨w2.heap.size, 0, none⟩ 1 1 [.string d.1, .int .i64 d.2] rfl rfl ND.out (by simp [Value.oneCell']) L1.out L2.out (SZ.out _) ?_; intro v1 w1 hown1 hgrow1 _; have hY0 := hgrow1.cell ((World.cell?_alloc_past _ _ _ hwA).trans hX0) (NE ()); have hY1 := hgrow1.cell ((World.cell?_alloc_past _ _ _ hwA).trans hX1) (NE ()); have Hg1 := Lib.hid hown1.lt; have hsz1 := hgrow1.size; rw [World.size_alloc] at hsz1; have hsz2 : wr.heap.size < w1.heap.size := (by omega); have Hgrow1 := Lib.hid hgrow1; have Hown1 := Lib.hid (fun O => ownsRow_alloc hown1 O); have NX := Lib.hid (news_new w1 x.1 x.2 w1.heap.size rfl); have SZ1 := Lib.hid (show ∀ O, w.heap.size + 1 ≤ (w1.alloc O).heap.size from fun O => by rw [World.size_alloc]; omega); clear hgrow1 hown1 hX0 hX1 hA0 hA1) | (at_builtin; refine wpList_append_own _ rfl _ _ 51 rfl (w.heap.size + 1) 54 i0 _ 2 24 Tryz.underlying51 I0.out Z0.out Z1.out Z2.out rfl (by decide) v1 (o.length + 1) _ rfl (Hown1.out _) ⟨w1.heap.size, 0, none⟩ 1 1 [.string x.1, .int .i64 x.2] rfl rfl NX.out (by simp [Value.oneCell']) L3.out L4.out (SZ1.out _) ?_; intro v3 w3 hown3 hgrow3 _))
              have hBn : Below (w.heap.size + 1) W0 w3 := ((((HB2.out.alloc (by omega) _).grown Hgrow1.out (by simp; omega) (fun k e => (Hg.out k e).1)).alloc (by omega) _).grown hgrow3 (by rw [World.size_alloc]; omega) (fun k e => (Hg1.out k e).1))
              go_roundw
              case rel =>
                refine ⟨k + 1, by omega, by go_num, ?_⟩
                rw [hs.out, stD_a _ He.out Ha.out]
                exact ⟨⟨by simp; omega, fun h => by cases h⟩, rfl, by rw [flatD_snoc, flatD_snoc, List.length_append, List.length_append]; exact hown3, hBn⟩
              case measure => simp [intOf]; omega
    · rw [List.take_of_length_le (by omega)] at hkl hown
      have hput : putD dl d = if (foldD d dl).2 = true then (foldD d dl).1 else (foldD d dl).1 ++ [d] := rfl
      generalize hf : foldD d dl = s at *
      have hfd : foldD d (dl.take k) = s := by rw [List.take_of_length_le (by omega)]; exact hf
      rw [hfd]
      obtain ⟨o, dn⟩ := s
      obtain ⟨hk1, hk2⟩ := hkl
      simp only at hk1 hk2 hown hput
      have Hput := Lib.hid hput
      clear hf hfd hx0 hx1 hput
      have Hown := Lib.hid hown
      have Hg := Lib.hid hown.lt
      have HBr := Lib.hid hBw
      have L1 := Lib.hid (show o.length + 1 ≤ maxLen by unfold maxLen; omega)
      have L2 := Lib.hid (show (o.length + 1) * 24 ≤ 140737488355328 by omega)
      clear hown hB hBw hk2
      cases dn
      case true =>
        have hput := Lib.hid (show putD dl d = o from Hput.out)
        clear Hput
        go_wp2_with fail
        go_ret
        rw [hput.out]
        exact retD_of Hown.out HBr.out
      case false =>
        have hput := Lib.hid (show putD dl d = o ++ [d] from Hput.out)
        clear Hput
        have NX := Lib.hid (news_new wr d.1 d.2 wr.heap.size rfl)
        have HO3 := Lib.hid (fun O => ownsRow_alloc Hown.out O)
        have SZ := Lib.hid (show ∀ O, w.heap.size + 1 ≤ (wr.alloc O).heap.size from fun O => by rw [World.size_alloc]; omega)
        go_wp2_with (at_builtin; refine wpList_append_own _ rfl _ _ 51 rfl (w.heap.size + 1) 54 i0 _ 2 24 Tryz.underlying51 I0.out Z0.out Z1.out Z2.out rfl (by decide) u5 o.length (flatD o) rfl (HO3.out _) ⟨wr.heap.size, 0, none⟩ 1 1 [.string d.1, .int .i64 d.2] rfl rfl NX.out (by simp [Value.oneCell']) L1.out L2.out (SZ.out _) ?_; intro v1 w1 hown1 hgrow1 _)
        have hBn : Below w.heap.size w w1 := (HBr.out.alloc (by omega) _).grown hgrow1 (by rw [World.size_alloc]; omega) (fun k e => by have := (Hg.out k e).1; omega)
        go_ret
        rw [hput.out]
        exact retD_of (by rw [flatD_snoc, List.length_append]; exact hown1) hBn
end Go.Proofs.YtmeeombadkgneaaGreat
