/-
  What awake, the law's check of a small formula, returns: true; conditions: none.
-/
import Derived.Test.YtmeeombadkgneaaGreatZCheck
namespace Go.Proofs.YtmeeombadkgneaaGreat
open Go.RowKit Go.Shelf

attribute [local go_sem] Oper.semAt_some

def orV (x y : Int) : Int := if x ≠ 0 then x else y

set_option maxRecDepth 100000 in
set_option maxHeartbeats 1000000 in
theorem or_any (x y : Int) (b cap : Nat) (w : World) (h0 : w.cell? ⟨b, 0, none⟩ = some (.int .i64 x)) (h1 : w.cell? ⟨b, 1, none⟩ = some (.int .i64 y)) :
    Calls Tryz.prog 56 #[.slice (some ⟨b, 0, none⟩) 2 cap] w fun e w' => e = .returned (.int .i64 (orV x y)) ∧ w = w' := by
  go_enter Tryz.func56, Tryz.ntmps56
  go_wp2_with fail
  go_loop [8] (fun i => ∃ k : Nat, k ≤ 2 ∧ i = .int .i64 k ∧ (1 ≤ k → Hid (x = 0)) ∧ (2 ≤ k → Hid (y = 0))) (fun i => 2 - (intOf i).toNat)
  case atStart => exact ⟨0, by omega, rfl, fun h => by omega, fun h => by omega⟩
  case round =>
    obtain ⟨k, hk, rfl, hx, hy⟩ := hrel
    obtain rfl | rfl | rfl : k = 0 ∨ k = 1 ∨ k = 2 := by omega
    · clear hx hy
      by_cases hz : x = 0
      · have hz1 : (x == 0) = true := by simpa using hz
        have hz2 : (x != 0) = false := by simpa using hz
        have Hz := Lib.hid hz
        clear hz
        go_wp2_with fail
        go_round
        case rel => exact ⟨1, by omega, by go_num, fun _ => Hz.out, fun h => by omega⟩
        case measure => simp [intOf]
      · have hz1 : (x == 0) = false := by simpa using hz
        have hz2 : (x != 0) = true := by simpa using hz
        have Hz := Lib.hid (show orV x y = x from if_pos hz)
        clear hz
        go_wp2_with fail
        go_ret
        exact ⟨by rw [Hz.out]; rfl, rfl⟩
    · have Hx := Lib.hid (hx (by omega)).out
      clear hx hy
      by_cases hz : y = 0
      · have hz1 : (y == 0) = true := by simpa using hz
        have hz2 : (y != 0) = false := by simpa using hz
        have Hz := Lib.hid hz
        clear hz
        go_wp2_with fail
        go_round
        case rel => exact ⟨2, by omega, by go_num, fun _ => Hx.out, fun _ => Hz.out⟩
        case measure => simp [intOf]
      · have hz1 : (y == 0) = false := by simpa using hz
        have hz2 : (y != 0) = true := by simpa using hz
        have Hz := Lib.hid (show orV x y = y from if_neg (by simp [Hx.out]))
        clear hz
        go_wp2_with fail
        go_ret
        exact ⟨by rw [Hz.out]; rfl, rfl⟩
    · have Hz := Lib.hid (show orV x y = 0 from (if_neg (by simp [(hx (by omega)).out])).trans (hy (by omega)).out)
      clear hx hy
      go_wp2_with fail
      go_ret
      exact ⟨by rw [Hz.out]; rfl, rfl⟩

/-- The value of a declaration. -/
@[reducible] def dv (nm : ByteArray) (so : Int) : Value := .agg #[.string nm, .int .i64 so]
def cmpD (a : ByteArray) (x : Int) (b : ByteArray) (y : Int) : Int := orV (cmpS a b) (cmpI x y)

theorem cmpS_self (a : ByteArray) : cmpS a a = 0 := by unfold cmpS; rw [less_self]; simp
theorem cmpD_self (a : ByteArray) (x : Int) : cmpD a x a x = 0 := by unfold cmpD orV; rw [cmpS_self, cmpI_self]; simp

theorem Tryz.info54 : (Tryz.prog.info? 54).map (fun i => (i.zero, i.size, i.bytes)) = some (some (.agg #[.string ⟨#[]⟩, .int .i64 0]), 2, 24) := by kernel_rfl

/-- A list of one declaration has been handed back. -/
def OneDecl (a : ByteArray) (x : Int) (w : World) (e : Ending) (w' : World) : Prop :=
  ∃ g cap, w.heap.size ≤ g ∧ e = .returned (.slice (some ⟨g, 0, none⟩) 1 cap) ∧ w'.cell? ⟨g, 0, none⟩ = some (.string a) ∧ w'.cell? ⟨g, 1, none⟩ = some (.int .i64 x) ∧ Below w.heap.size w w'

theorem row_cells {W : World} {base g cap : Nat} {a : ByteArray} {x : Int} (h : W.ownsRow base 54 2 (.slice (some ⟨g, 0, none⟩) 1 cap) 1 [.string a, .int .i64 x]) :
    base ≤ g ∧ W.cell? ⟨g, 0, none⟩ = some (.string a) ∧ W.cell? ⟨g, 1, none⟩ = some (.int .i64 x) := by
  rcases h.2 with ⟨h0, _⟩ | ⟨g', cap', cur, e, hb, hh, _, _, _, ht⟩
  · cases h0
  · cases e
    have h0 : cur.toList[0]? = some (.string a) := by
      have := congrArg (fun l => l[0]?) ht
      simpa [List.getElem?_take] using this
    have h1 : cur.toList[1]? = some (.int .i64 x) := by
      have := congrArg (fun l => l[1]?) ht
      simpa [List.getElem?_take] using this
    exact ⟨hb, by simpa [World.cell?, hh] using h0, by simpa [World.cell?, hh] using h1⟩

/-- What comes to a loop over walk, of a tree whose nodes all meet P. -/
theorem walk_stopsP (t : Nd) (A : Option Addr) (cap : Nat) (w0 : World) (hL : Lies w0 A cap t.ks) (hr : Fine t) (P : Nd → Prop) (hP : ∀ p ∈ preN 1 t, P p.2) : ∃ xs : List (El w0), xs.map El.key = preN 1 t ∧
    ∀ (n : Nat) (w : World) (Bn : Nat), Below w0.heap.size w0 w → Five w Bn 0 t (.slice A t.ks.length cap) →
      SeqStopsK Fence.wide n Tryz.prog 119 #[.pointer (some ⟨Bn, 0, none⟩)] (fun x : { x : El w0 // P x.t } => encE x.1) (KpC w0.heap.size w.heap.size) (fun ys => ys.map (·.1) = xs) (fun pre => pre.map (·.1) <+: xs) xs.length w := by
  obtain ⟨xs, hxs, hv⟩ := visit_in t 1 A cap w0 hL hr
  refine ⟨xs, hxs, ?_⟩
  intro n w Bn hw h5 l J Jx W hW hJ hJx hY h0
  have hall : ∀ x ∈ xs, P x.t := fun x hx => hP x.key (by rw [← hxs]; exact List.mem_map.2 ⟨x, hx, rfl⟩)
  have hc := Lib.hid (hv l w.heap.size xs.length (fun pre W => ∃ ys : List { x : El w0 // P x.t }, ys.map (·.1) = pre ∧ J ys W) (fun pre W => ∃ ys : List { x : El w0 // P x.t }, ys.map (·.1) = pre ∧ Jx ys W) (fun x => P x.t) hall hw.size
    (fun s W o ⟨ys, e, h⟩ => ⟨ys, e, hJ ys W _ none h (World.grownBy_alloc W o none) (fun r e => by cases e)⟩)
    (fun m pre x W hp ⟨ys, e, hj⟩ hl => YieldAt.wideDepth m (YieldAt.mono (hY ys ⟨x, hp⟩ W hj (by rw [← e, List.length_map] at hl; exact hl)) (fun e' W' h => h.elim
      (fun h => .inl ⟨h.1, ⟨ys ++ [⟨x, hp⟩], by rw [List.map_append, e]; rfl, h.2.1⟩, h.2.2⟩) (fun h => .inr ⟨h.1, ys ++ [⟨x, hp⟩], by rw [List.map_append, e]; rfl, h.2⟩))))
    (n - 1) [] W (hw.trans (hW.mono hw.size)) hW.size ⟨[], rfl, h0⟩ (by simp))
  obtain ⟨a0, a1, a2, a3, a4⟩ := h5.later hW
  clear hv hY hJ h0
  refine callsIn_of_wp Tryz.func119 rfl trivial ?_ rfl
  simp only [Tryz.ntmps119, List.size_toArray, List.length_cons, List.length_nil, Nat.reduceAdd, Nat.reduceSub, Array.replicate_succ, Array.replicate_zero, List.push_toArray, List.append_toArray, List.nil_append, List.cons_append]
  gi_wp2_with fail
  refine ⟨trivial, fun h => (by cases h), ?_⟩
  refine hc.out.mono ?_
  clear hc
  rintro e W3 (⟨rfl, ⟨ys, he, hJ3⟩, hk3⟩ | ⟨rfl, q, hq, ys, he, hx3⟩)
  · have He := Lib.hid he
    clear he
    gi_wp2_with fail
    go_end0
    exact ⟨⟨_, rfl⟩, .inl ⟨ys, by simpa using He.out, hJ3⟩⟩
  · have He := Lib.hid he
    clear he
    gi_wp2_with fail
    go_end0
    exact ⟨⟨_, rfl⟩, .inr ⟨ys, by rw [He.out]; exact hq, hx3⟩⟩

/-- The list that Vars has gathered, where all variables are one. -/
def VarsI (a : ByteArray) (s : Int) (N : Nat) (b : Bool) (W : World) : Prop :=
  if b = true then ∃ g cap, N < g ∧ W.cell? ⟨N, 0, none⟩ = some (.slice (some ⟨g, 0, none⟩) 1 cap) ∧ W.cell? ⟨g, 0, none⟩ = some (.string a) ∧ W.cell? ⟨g, 1, none⟩ = some (.int .i64 s)
  else W.cell? ⟨N, 0, none⟩ = some (.slice none 0 0)
theorem varsI_own {β : Type} (a : ByteArray) (s : Int) (N : Nat) (f : β → Bool) : Own (fun x W => VarsI a s N (f x) W) := by
  intro x X Y row hs hg hr
  unfold VarsI at hs ⊢
  split
  · rename_i h
    rw [if_pos h] at hs
    obtain ⟨g, cap, h0, h1, h2, h3⟩ := hs
    exact ⟨g, cap, h0, cell_kept h1 hg hr, cell_kept h2 hg hr, cell_kept h3 hg hr⟩
  · rename_i h
    rw [if_neg h] at hs
    exact cell_kept hs hg hr
/-- A variable is this one. -/
def PV (a : ByteArray) (s : Int) (u : Nd) : Prop := u.op = 1 → u.nm = a ∧ u.so = s
def anyVar (l : List Nd) : Bool := l.any fun t => t.op == 1
/-- The nodes of what has come. -/
def ndsOf {w0 : World} {P : Nd → Prop} (l : List { x : El w0 // P x.t }) : List Nd := l.map (·.1.t)
theorem ndsOf_snoc {w0 : World} {P : Nd → Prop} (l : List { x : El w0 // P x.t }) (x : { x : El w0 // P x.t }) : ndsOf (l ++ [x]) = ndsOf l ++ [x.1.t] := by simp [ndsOf]
def SomeCell (N : Nat) (W : World) : Prop := ∃ v, W.cell? ⟨N, 0, none⟩ = some v ∧ W.frozen? ⟨N, 0, none⟩ = false
/-- A list of one declaration, or none, has been handed back. -/
def VarsPost (b : Bool) (w : World) (e : Ending) (w' : World) : Prop := (∃ A' cap', e = .returned (.slice A' (if b = true then 1 else 0) cap')) ∧ Below w.heap.size w w'

end Go.Proofs.YtmeeombadkgneaaGreat
