/-
  What awake, the law's check of a small formula, returns: true; conditions: none.
-/
import Derived.Test.YtpjokapkoeclpaaCheck
namespace Go.Proofs.Ytpjokapkoeclpaa
open Go.RowKit Go.Shelf

attribute [local go_sem] Oper.semAt_some

def orV (x y : Int) : Int := if x ≠ 0 then x else y

set_option maxRecDepth 100000 in
set_option maxHeartbeats 1000000 in
theorem or_any (x y : Int) (b cap : Nat) (w : World) (h0 : w.cell? ⟨b, 0, none⟩ = some (.int .i64 x)) (h1 : w.cell? ⟨b, 1, none⟩ = some (.int .i64 y)) :
    Calls Try.prog 92 #[.slice (some ⟨b, 0, none⟩) 2 cap] w fun e w' => e = .returned (.int .i64 (orV x y)) ∧ w = w' := by
  go_enter Try.func92, Try.ntmps92
  go_wp2_with fail
  go_loop [8] (fun i => ∃ k : Nat, k ≤ 2 ∧ i = .int .i64 k ∧ (1 ≤ k → Hid (x = 0)) ∧ (2 ≤ k → Hid (y = 0))) (fun i => 2 - (intOf i).toNat)
  case atStart => exact ⟨0, by omega, rfl, fun h => by omega, fun h => by omega⟩
  case round =>
    obtain ⟨k, hk, rfl, hx, hy⟩ := hrel
    obtain rfl | rfl | rfl : k = 0 ∨ k = 1 ∨ k = 2 := by omega
    · clear hx hy
      by_cases hz : x = 0
      · have hz1 : (x == 0) = true := by simpa using hz
        have hz2 : (x != 0) = false := by simpa using hz
        have Hz := Lib.hid hz
        clear hz
        go_wp2_with fail
        go_round
        case rel => exact ⟨1, by omega, by go_num, fun _ => Hz.out, fun h => by omega⟩
        case measure => simp [intOf]
      · have hz1 : (x == 0) = false := by simpa using hz
        have hz2 : (x != 0) = true := by simpa using hz
        have Hz := Lib.hid (show orV x y = x from if_pos hz)
        clear hz
        go_wp2_with fail
        go_ret
        exact ⟨by rw [Hz.out]; rfl, rfl⟩
    · have Hx := Lib.hid (hx (by omega)).out
      clear hx hy
      by_cases hz : y = 0
      · have hz1 : (y == 0) = true := by simpa using hz
        have hz2 : (y != 0) = false := by simpa using hz
        have Hz := Lib.hid hz
        clear hz
        go_wp2_with fail
        go_round
        case rel => exact ⟨2, by omega, by go_num, fun _ => Hx.out, fun _ => Hz.out⟩
        case measure => simp [intOf]
      · have hz1 : (y == 0) = false := by simpa using hz
        have hz2 : (y != 0) = true := by simpa using hz
        have Hz := Lib.hid (show orV x y = y from if_neg (by simp [Hx.out]))
        clear hz
        go_wp2_with fail
        go_ret
        exact ⟨by rw [Hz.out]; rfl, rfl⟩
    · have Hz := Lib.hid (show orV x y = 0 from (if_neg (by simp [(hx (by omega)).out])).trans (hy (by omega)).out)
      clear hx hy
      go_wp2_with fail
      go_ret
      exact ⟨by rw [Hz.out]; rfl, rfl⟩

/-- The value of a declaration. -/
@[reducible] def dv (nm : ByteArray) (so : Int) : Value := .agg #[.string nm, .int .i64 so]
def cmpD (a : ByteArray) (x : Int) (b : ByteArray) (y : Int) : Int := orV (cmpS a b) (cmpI x y)

set_option maxRecDepth 100000 in
set_option maxHeartbeats 1000000 in
theorem cmpDecls_any (a b : ByteArray) (x y : Int) (w : World) :
    Calls Try.prog 58 #[dv a x, dv b y] w fun e w' => e = .returned (.int .i64 (cmpD a x b y)) ∧ Below w.heap.size w w' := by
  unfold cmpD
  have HB : ∀ O O', Below w.heap.size w ((w.alloc O).alloc O') := fun O O' => ((Below.refl _ _).alloc (Nat.le_refl _) _).alloc (by simp) _
  have e0 : ((w.alloc (.cells #[.string a, .int .i64 x] 58)).alloc (.cells #[.string b, .int .i64 y] 58)).cell? ⟨w.heap.size, 0, none⟩ = some (.string a) := by simp [go_sem]
  have e1 : ((w.alloc (.cells #[.string a, .int .i64 x] 58)).alloc (.cells #[.string b, .int .i64 y] 58)).cell? ⟨w.heap.size, 1, none⟩ = some (.int .i64 x) := by simp [go_sem]
  have e2 : ((w.alloc (.cells #[.string a, .int .i64 x] 58)).alloc (.cells #[.string b, .int .i64 y] 58)).cell? ⟨w.heap.size + 1, 0, none⟩ = some (.string b) := by simp [go_sem]
  have e3 : ((w.alloc (.cells #[.string a, .int .i64 x] 58)).alloc (.cells #[.string b, .int .i64 y] 58)).cell? ⟨w.heap.size + 1, 1, none⟩ = some (.int .i64 y) := by simp [go_sem]
  have HBB := HB (.cells #[.string a, .int .i64 x] 58) (.cells #[.string b, .int .i64 y] 58)
  clear HB
  go_enter Try.func58, Try.ntmps58
  go_wp2_with fail
  generalize (w.alloc (.cells #[.string a, .int .i64 x] 58)).alloc (.cells #[.string b, .int .i64 y] 58) = W at *
  go_still_tail 10, (by kernel_rfl)
  still_call ((cmpStr_any _ _ _).mono fun _ _ h => ⟨h.1, h.2.symm⟩)
  repeat still_step
  still_call ((cmpInt_any _ _ _).mono fun _ _ h => ⟨h.1, h.2.symm⟩)
  refine wpStill_nil ?_
  change wpList _ _ _ _ _ W.drew
  clear e0 e1 e2 e3
  have HBd := Lib.hid (HBB.drew)
  clear HBB
  generalize W.drew = W2 at *
  go_wp2_with fail
  refine (or_any (cmpS a b) (cmpI x y) _ _ _ (by simp [go_sem]) (by simp [go_sem])).mono ?_
  rintro e w1 ⟨rfl, rfl⟩
  go_wp2_with fail
  go_ret
  exact ⟨rfl, HBd.out.alloc HBd.out.size _⟩

theorem cmpS_self (a : ByteArray) : cmpS a a = 0 := by unfold cmpS; rw [less_self]; simp
theorem cmpD_self (a : ByteArray) (x : Int) : cmpD a x a x = 0 := by unfold cmpD orV; rw [cmpS_self, cmpI_self]; simp

set_option maxRecDepth 100000 in
set_option maxHeartbeats 1000000 in
theorem search_nil (a : ByteArray) (x : Int) (w : World) :
    Calls Try.prog 90 #[.slice none 0 0, dv a x, .func (.func 58) #[] #[]] w fun e w' => e = .returned (.tuple #[.int .i64 0, .bool false]) ∧ Below w.heap.size w w' := by
  have HB : ∀ O, Below w.heap.size w (w.alloc O) := fun O => (Below.refl _ _).alloc (Nat.le_refl _) _
  go_enter Try.func90, Try.ntmps90
  go_wp2_with fail
  go_loopw [9, 10] (fun i j wr => i = .int .i64 0 ∧ j = .int .i64 0 ∧ Below w.heap.size w wr) (fun _ _ _ => 0)
  case atStart => exact ⟨rfl, rfl, HB _⟩
  case round =>
    obtain ⟨rfl, rfl, hB⟩ := hrel
    go_wp2_with fail
    go_quiet (fail)
    go_wp2_with fail
    go_ret2
    exact ⟨rfl, below_drewN hB _⟩

set_option maxRecDepth 100000 in
set_option maxHeartbeats 1000000 in
theorem search_one (a : ByteArray) (x : Int) (g cap : Nat) (w : World) (h0 : w.cell? ⟨g, 0, none⟩ = some (.string a)) (h1 : w.cell? ⟨g, 1, none⟩ = some (.int .i64 x)) :
    Calls Try.prog 90 #[.slice (some ⟨g, 0, none⟩) 1 cap, dv a x, .func (.func 58) #[] #[]] w fun e w' => e = .returned (.tuple #[.int .i64 0, .bool true]) ∧ Below w.heap.size w w' := by
  have HB : ∀ O, Below w.heap.size w (w.alloc O) := fun O => (Below.refl _ _).alloc (Nat.le_refl _) _
  have c : ∀ w, Calls Try.prog 58 #[dv a x, dv a x] w fun e w' => e = .returned (.int .i64 0) ∧ Below w.heap.size w w' := fun w => by
    have := cmpDecls_any a a x x w
    rwa [cmpD_self] at this
  have C := Lib.hid c
  clear c
  have q0 := (cellB (HB (.cells #[.string a, .int .i64 x] 58)) (Nat.le_refl _) h0)
  have q1 := (cellB (HB (.cells #[.string a, .int .i64 x] 58)) (Nat.le_refl _) h1)
  have p0 : (w.alloc (.cells #[.string a, .int .i64 x] 58)).cell? ⟨w.heap.size, 0, none⟩ = some (.string a) := by simp [go_sem]
  have p1 : (w.alloc (.cells #[.string a, .int .i64 x] 58)).cell? ⟨w.heap.size, 1, none⟩ = some (.int .i64 x) := by simp [go_sem]
  have HBx := Lib.hid (HB (.cells #[.string a, .int .i64 x] 58))
  clear h0 h1 HB
  go_enter Try.func90, Try.ntmps90
  go_wp2_with fail
  generalize w.alloc (.cells #[.string a, .int .i64 x] 58) = W at *
  go_loopw [9, 10] (fun i j wr => i = .int .i64 0 ∧ (j = .int .i64 1 ∨ j = .int .i64 0) ∧ Below W.heap.size W wr) (fun _ j _ => (intOf j).toNat)
  case atStart => exact ⟨rfl, .inl rfl, Below.refl _ _⟩
  case round =>
    obtain ⟨rfl, hj, hB⟩ := hrel
    have k0 := cell_regrown (cellB hB (Nat.le_refl _) q0)
    have k1 := cell_regrown (cellB hB (Nat.le_refl _) q1)
    have l0 := cell_regrown (cellB hB (Nat.le_refl _) p0)
    have l1 := cell_regrown (cellB hB (Nat.le_refl _) p1)
    clear q0 q1 p0 p1
    have cc := fun d os => Calls.regrown_of (d := d) (os := os) (w := wr) (C.out _)
    have CC := Lib.hid cc
    clear cc C
    rcases hj with rfl | rfl
    · go_wp2_with fail
      refine wp_region_quiet_below (by kernel_rfl) (by kernel_rfl) ?_
      repeat (go_big_quiet_step (exact CC.out _ _))
      refine wpQuiet_nil ?_
      intro _ hw'
      obtain ⟨⟨dq, osq⟩, hw''⟩ := hw'
      subst hw''
      have hB1 := Lib.hid (hB.trans ((below_regrown wr dq osq).mono hB.size))
      clear k0 k1 l0 l1 hB
      go_wp2_with fail
      go_roundw
      case rel => exact ⟨rfl, .inr rfl, hB1.out⟩
      case measure => simp [intOf]
    · go_wp2_with fail
      refine wp_region_quiet_below (by kernel_rfl) (by kernel_rfl) ?_
      repeat (go_big_quiet_step (exact CC.out _ _))
      refine wpQuiet_nil ?_
      intro _ hw'
      obtain ⟨⟨dq, osq⟩, hw''⟩ := hw'
      subst hw''
      have hB1 := Lib.hid (HBx.out.trans ((hB.trans ((below_regrown wr dq osq).mono hB.size)).mono HBx.out.size))
      clear k0 k1 l0 l1 hB
      go_wp2_with fail
      go_ret2
      exact ⟨rfl, hB1.out⟩

theorem Try.info58 : (Try.prog.info? 58).map (fun i => (i.zero, i.size, i.bytes)) = some (some (.agg #[.string ⟨#[]⟩, .int .i64 0]), 2, 24) := by kernel_rfl

/-- A list of one declaration has been handed back. -/
def OneDecl (a : ByteArray) (x : Int) (w : World) (e : Ending) (w' : World) : Prop :=
  ∃ g cap, w.heap.size ≤ g ∧ e = .returned (.slice (some ⟨g, 0, none⟩) 1 cap) ∧ w'.cell? ⟨g, 0, none⟩ = some (.string a) ∧ w'.cell? ⟨g, 1, none⟩ = some (.int .i64 x) ∧ Below w.heap.size w w'

theorem row_cells {W : World} {base g cap : Nat} {a : ByteArray} {x : Int} (h : W.ownsRow base 58 2 (.slice (some ⟨g, 0, none⟩) 1 cap) 1 [.string a, .int .i64 x]) :
    base ≤ g ∧ W.cell? ⟨g, 0, none⟩ = some (.string a) ∧ W.cell? ⟨g, 1, none⟩ = some (.int .i64 x) := by
  rcases h.2 with ⟨h0, _⟩ | ⟨g', cap', cur, e, hb, hh, _, _, _, ht⟩
  · cases h0
  · cases e
    have h0 : cur.toList[0]? = some (.string a) := by
      have := congrArg (fun l => l[0]?) ht
      simpa [List.getElem?_take] using this
    have h1 : cur.toList[1]? = some (.int .i64 x) := by
      have := congrArg (fun l => l[1]?) ht
      simpa [List.getElem?_take] using this
    exact ⟨hb, by simpa [World.cell?, hh] using h0, by simpa [World.cell?, hh] using h1⟩

set_option maxRecDepth 100000 in
set_option maxHeartbeats 1000000 in
theorem insertSl_nil (a : ByteArray) (x : Int) (b cap : Nat) (w : World) (h0 : w.cell? ⟨b, 0, none⟩ = some (.string a)) (h1 : w.cell? ⟨b, 1, none⟩ = some (.int .i64 x)) :
    Calls Try.prog 91 #[.slice none 0 0, .int .i64 0, .slice (some ⟨b, 0, none⟩) 1 cap] w (OneDecl a x w) := by
  obtain ⟨i0, hi, hz0, hz1, hz2⟩ := info_parts Try.info58
  have hnews : Hid (∀ (j : Nat) (u : Value), ([.string a, .int .i64 x] : List Value)[j]? = some u → w.cell? ((⟨b, 0, none⟩ : Addr).add j) = some u) := by
    intro j u hj
    match j, hj with
    | 0, hj => simp at hj; subst hj; exact h0
    | 1, hj => simp at hj; subst hj; exact h1
  clear h0 h1
  have I0 := Lib.hid hi
  have Z0 := Lib.hid hz0
  have Z1 := Lib.hid hz1
  have Z2 := Lib.hid hz2
  clear hi hz0 hz1 hz2
  go_enter Try.func91, Try.ntmps91
  go_wp2_with (at_builtin; refine wpList_append_own _ rfl _ _ 35 rfl w.heap.size 58 i0 _ 2 24 Try.underlying35 I0.out Z0.out Z1.out Z2.out rfl (by decide) _ 0 [] rfl (World.ownsRow_nil _ _ _ _) ⟨b, 0, none⟩ 1 cap [.string a, .int .i64 x] rfl rfl hnews.out (by simp [Value.oneCell']) (by unfold maxLen; omega) (by decide) (Nat.le_refl _) ?_; intro v' w1 hown hgrow _)
  obtain ⟨g, cap', rfl⟩ := ownsRow_succ hown
  obtain ⟨c0, c1, c2⟩ := row_cells (by simpa using hown)
  have hB : Below w.heap.size w w1 := (Below.refl _ _).grown hgrow (Nat.le_refl _) (fun k e => by cases e)
  go_ret
  exact ⟨g, cap', c0, rfl, c1, c2, hB⟩

set_option maxRecDepth 100000 in
set_option maxHeartbeats 1000000 in
theorem insert_nil (a : ByteArray) (x : Int) (w : World) :
    Calls Try.prog 57 #[.slice none 0 0, dv a x, .func (.func 58) #[] #[]] w (OneDecl a x w) := by
  have HB : ∀ O, Below w.heap.size w (w.alloc O) := fun O => (Below.refl _ _).alloc (Nat.le_refl _) _
  go_enter Try.func57, Try.ntmps57
  go_wp2_with fail
  refine (search_nil _ _ _).mono ?_
  rintro e w1 ⟨rfl, hb1⟩
  have hB1 := Lib.hid ((HB (.cells #[.string a, .int .i64 x] 58)).trans (hb1.mono (by simp)))
  have c0 : w1.cell? ⟨w.heap.size, 0, none⟩ = some (.string a) := (hb1.cell (by simp)).trans (by simp [go_sem])
  have c1 : w1.cell? ⟨w.heap.size, 1, none⟩ = some (.int .i64 x) := (hb1.cell (by simp)).trans (by simp [go_sem])
  clear hb1
  go_wp2_with fail
  refine (insertSl_nil a x _ _ _ (by simp [go_sem]) (by simp [go_sem])).mono ?_
  rintro e w2 ⟨g, cap, hg, rfl, d0, d1, hb2⟩
  have hg2 := Lib.hid (show w.heap.size ≤ g by have := hB1.out.size; simp at hg; omega)
  clear hg
  have hB2 := Lib.hid (hB1.out.trans (((Below.refl _ _).alloc (Nat.le_refl _) _ |>.trans (hb2.mono (by simp))).mono hB1.out.size))
  clear hb2 c0 c1
  go_wp2_with fail
  go_ret
  exact ⟨g, cap, hg2.out, rfl, d0, d1, hB2.out⟩

set_option maxRecDepth 100000 in
set_option maxHeartbeats 1000000 in
theorem insert_one (a : ByteArray) (x : Int) (g cap : Nat) (w : World) (h0 : w.cell? ⟨g, 0, none⟩ = some (.string a)) (h1 : w.cell? ⟨g, 1, none⟩ = some (.int .i64 x)) :
    Calls Try.prog 57 #[.slice (some ⟨g, 0, none⟩) 1 cap, dv a x, .func (.func 58) #[] #[]] w fun e w' => e = .returned (.slice (some ⟨g, 0, none⟩) 1 cap) ∧ Below w.heap.size w w' := by
  have HB : ∀ O, Below w.heap.size w (w.alloc O) := fun O => (Below.refl _ _).alloc (Nat.le_refl _) _
  have q0 := Lib.hid (cellB (HB (.cells #[.string a, .int .i64 x] 58)) (Nat.le_refl _) h0)
  have q1 := Lib.hid (cellB (HB (.cells #[.string a, .int .i64 x] 58)) (Nat.le_refl _) h1)
  clear h0 h1
  go_enter Try.func57, Try.ntmps57
  go_wp2_with fail
  refine (search_one a x g cap _ q0.out q1.out).mono ?_
  rintro e w1 ⟨rfl, hb1⟩
  have hB1 := Lib.hid ((HB (.cells #[.string a, .int .i64 x] 58)).trans (hb1.mono (by simp)))
  clear hb1 HB
  go_wp2_with fail
  go_ret
  exact ⟨rfl, hB1.out⟩

/-- What comes to a loop over walk, of a tree whose nodes all meet P. -/
theorem walk_stopsP (t : Nd) (A : Option Addr) (cap : Nat) (w0 : World) (hL : Lies w0 A cap t.ks) (hr : Fine t) (P : Nd → Prop) (hP : ∀ p ∈ preN 1 t, P p.2) : ∃ xs : List (El w0), xs.map El.key = preN 1 t ∧
    ∀ (n : Nat) (w : World) (Bn : Nat), Below w0.heap.size w0 w → Five w Bn 0 t (.slice A t.ks.length cap) →
      SeqStopsK Fence.wide n Try.prog 86 #[.pointer (some ⟨Bn, 0, none⟩)] (fun x : { x : El w0 // P x.t } => encE x.1) (KpC w0.heap.size w.heap.size) (fun ys => ys.map (·.1) = xs) (fun pre => pre.map (·.1) <+: xs) xs.length w := by
  obtain ⟨xs, hxs, hv⟩ := visit_in t 1 A cap w0 hL hr
  refine ⟨xs, hxs, ?_⟩
  intro n w Bn hw h5 l J Jx W hW hJ hJx hY h0
  have hall : ∀ x ∈ xs, P x.t := fun x hx => hP x.key (by rw [← hxs]; exact List.mem_map.2 ⟨x, hx, rfl⟩)
  have hc := Lib.hid (hv l w.heap.size xs.length (fun pre W => ∃ ys : List { x : El w0 // P x.t }, ys.map (·.1) = pre ∧ J ys W) (fun pre W => ∃ ys : List { x : El w0 // P x.t }, ys.map (·.1) = pre ∧ Jx ys W) (fun x => P x.t) hall hw.size
    (fun s W o ⟨ys, e, h⟩ => ⟨ys, e, hJ ys W _ none h (World.grownBy_alloc W o none) (fun r e => by cases e)⟩)
    (fun m pre x W hp ⟨ys, e, hj⟩ hl => YieldAt.wideDepth m (YieldAt.mono (hY ys ⟨x, hp⟩ W hj (by rw [← e, List.length_map] at hl; exact hl)) (fun e' W' h => h.elim
      (fun h => .inl ⟨h.1, ⟨ys ++ [⟨x, hp⟩], by rw [List.map_append, e]; rfl, h.2.1⟩, h.2.2⟩) (fun h => .inr ⟨h.1, ys ++ [⟨x, hp⟩], by rw [List.map_append, e]; rfl, h.2⟩))))
    (n - 1) [] W (hw.trans (hW.mono hw.size)) hW.size ⟨[], rfl, h0⟩ (by simp))
  obtain ⟨a0, a1, a2, a3, a4⟩ := h5.later hW
  clear hv hY hJ h0
  refine callsIn_of_wp Try.func86 rfl trivial ?_ rfl
  simp only [Try.ntmps86, List.size_toArray, List.length_cons, List.length_nil, Nat.reduceAdd, Nat.reduceSub, Array.replicate_succ, Array.replicate_zero, List.push_toArray, List.append_toArray, List.nil_append, List.cons_append]
  gi_wp2_with fail
  refine ⟨trivial, fun h => (by cases h), ?_⟩
  refine hc.out.mono ?_
  clear hc
  rintro e W3 (⟨rfl, ⟨ys, he, hJ3⟩, hk3⟩ | ⟨rfl, q, hq, ys, he, hx3⟩)
  · have He := Lib.hid he
    clear he
    gi_wp2_with fail
    go_end0
    exact ⟨⟨_, rfl⟩, .inl ⟨ys, by simpa using He.out, hJ3⟩⟩
  · have He := Lib.hid he
    clear he
    gi_wp2_with fail
    go_end0
    exact ⟨⟨_, rfl⟩, .inr ⟨ys, by rw [He.out]; exact hq, hx3⟩⟩

/-- The list that Vars has gathered, where all variables are one. -/
def VarsI (a : ByteArray) (s : Int) (N : Nat) (b : Bool) (W : World) : Prop :=
  if b = true then ∃ g cap, N < g ∧ W.cell? ⟨N, 0, none⟩ = some (.slice (some ⟨g, 0, none⟩) 1 cap) ∧ W.cell? ⟨g, 0, none⟩ = some (.string a) ∧ W.cell? ⟨g, 1, none⟩ = some (.int .i64 s)
  else W.cell? ⟨N, 0, none⟩ = some (.slice none 0 0)
theorem varsI_own {β : Type} (a : ByteArray) (s : Int) (N : Nat) (f : β → Bool) : Own (fun x W => VarsI a s N (f x) W) := by
  intro x X Y row hs hg hr
  unfold VarsI at hs ⊢
  split
  · rename_i h
    rw [if_pos h] at hs
    obtain ⟨g, cap, h0, h1, h2, h3⟩ := hs
    exact ⟨g, cap, h0, cell_kept h1 hg hr, cell_kept h2 hg hr, cell_kept h3 hg hr⟩
  · rename_i h
    rw [if_neg h] at hs
    exact cell_kept hs hg hr
/-- A variable is this one. -/
def PV (a : ByteArray) (s : Int) (u : Nd) : Prop := u.op = 1 → u.nm = a ∧ u.so = s
def anyVar (l : List Nd) : Bool := l.any fun t => t.op == 1
/-- The nodes of what has come. -/
def ndsOf {w0 : World} {P : Nd → Prop} (l : List { x : El w0 // P x.t }) : List Nd := l.map (·.1.t)
theorem ndsOf_snoc {w0 : World} {P : Nd → Prop} (l : List { x : El w0 // P x.t }) (x : { x : El w0 // P x.t }) : ndsOf (l ++ [x]) = ndsOf l ++ [x.1.t] := by simp [ndsOf]
def SomeCell (N : Nat) (W : World) : Prop := ∃ v, W.cell? ⟨N, 0, none⟩ = some v ∧ W.frozen? ⟨N, 0, none⟩ = false
/-- A list of one declaration, or none, has been handed back. -/
def VarsPost (b : Bool) (w : World) (e : Ending) (w' : World) : Prop := (∃ A' cap', e = .returned (.slice A' (if b = true then 1 else 0) cap')) ∧ Below w.heap.size w w'

set_option maxRecDepth 100000 in
set_option maxHeartbeats 2000000 in
theorem vars_one (t : Nd) (a : ByteArray) (s : Int) (A : Option Addr) (cap : Nat) (w : World) (hL : Lies w A cap t.ks) (hfine : Fine t) (hP : ∀ p ∈ preN 1 t, PV a s p.2) :
    Calls Try.prog 26 #[nv t.op t.so t.nm t.nu (.slice A t.ks.length cap)] w (VarsPost (anyVar ((preN 1 t).map Prod.snd)) w) := by
  obtain ⟨xs, hxs, hst⟩ := walk_stopsP t A cap w hL hfine (PV a s) hP
  rw [← hxs]
  clear hxs hP
  refine callsIn_wide (n := 9).1 ?_
  refine callsIn_of_wp_marks Try.func26 rfl trivial ?_ rfl
  simp only [Try.ntmps26, List.size_toArray, List.length_cons, List.length_nil, Nat.reduceAdd, Nat.reduceSub, Array.replicate_succ, Array.replicate_zero, List.push_toArray, List.append_toArray, List.nil_append, List.cons_append]
  have H := Lib.hid hst
  have HL := Lib.hid hL
  clear hst hL
  gi_wp2_with (refine ⟨trivial, ?_⟩; gi_at_call 53; refine (walkClo_any _ _ _ _ _ _ _).mono ?_; rintro e w' ⟨rfl, rfl⟩)
  have hB0 : Below w.heap.size w (((w.alloc (boxO t (.slice A t.ks.length cap))).alloc (.cells #[.slice none 0 0] 35)).alloc (boxO t (.slice A t.ks.length cap))) :=
    (((Below.refl _ w).alloc (Nat.le_refl _) _).alloc (by simp) _).alloc (by simp; omega) _
  have r0 := cell_new_l (w.alloc (boxO t (.slice A t.ks.length cap))) (.slice none 0 0) 35
  have c1 := five_new ((w.alloc (boxO t (.slice A t.ks.length cap))).alloc (.cells #[.slice none 0 0] 35)) t (.slice A t.ks.length cap) 24
  simp only [World.size_alloc] at c1 r0
  refine wpIn_rangeFunc_ownH rfl (by decide) (gf := 86) (lb := #[.pointer (some ⟨w.heap.size + 1 + 1, 0, none⟩)]) rfl trivial (enters_of Try.func86 (by kernel_rfl) rfl)
    (H.out _ _ _ hB0 c1) KpC.trans (kpC_b (by simp; omega)) (Below.refl _ _) (fun _ => rfl)
    (fun (pre : List { x : El w // PV a s x.t }) W => (VarsI a s (w.heap.size + 1) (anyVar (ndsOf pre)) W ∧ SomeCell (w.heap.size + 1) W) ∧ Below w.heap.size w W)
    (fun _ _ _ => False)
    (OwnFrom.and (Own.from (fun s' X Y row hs hg hr => ⟨(varsI_own a s (w.heap.size + 1) (fun (l : List { x : El w // PV a s x.t }) => anyVar (ndsOf l))) s' X Y row hs.1 hg hr, by
      obtain ⟨v, h1, h2⟩ := hs.2
      exact ⟨v, cell_kept h1 hg hr, (frozen_kept h1 hg hr).trans h2⟩⟩) _) (ownFrom_below (Nat.le_refl _) (by simp; omega)))
    (fun _ _ _ _ _ hs _ _ => hs)
    ⟨⟨cell_alloc_l _ r0.1, _, cell_alloc_l _ r0.1, frozen_alloc_l _ r0.1 r0.2⟩, hB0⟩
    (fun x a' W => BoxAt (fun Bx => { tmps := #[nv t.op t.so t.nm t.nu (.slice A t.ks.length cap), .pointer (some ⟨w.heap.size, 0, none⟩), .slice none 0 0, .pointer (some ⟨w.heap.size + 1, 0, none⟩), undef, .pointer (some ⟨Bx, 0, none⟩), nv t.op t.so t.nm t.nu (.slice A t.ks.length cap), .func (.func 86) #[] #[.pointer (some ⟨w.heap.size + 1 + 1, 0, none⟩)], .int .i64 x.1.lv, nv x.1.t.op x.1.t.so x.1.t.nm x.1.t.nu (.slice x.1.A x.1.t.ks.length x.1.cap), undef, undef, undef, undef, undef, undef, undef, undef, undef, undef, undef], defers := [] }) x.1 a' W)
    (fun x a' => boxAt_own _ _ x.1 a') ?assign ?body ?done ?stop
  case assign =>
    rintro l pre x W K ⟨⟨hp, v, hr, hrf⟩, hB⟩ hK
    have hp := Lib.hid hp
    have HK := Lib.hid hK
    clear H HL hB0 r0 c1 hK
    simp only [encE]
    gi_wp2
    exact HK.out _ _ (KeepsFrom.alloc _ _ _) ((KpC.refl _ _ W).alloc hB.size _) ⟨⟨(varsI_own a s (w.heap.size + 1) (fun (l : List { x : El w // PV a s x.t }) => anyVar (ndsOf l))) pre W _ none hp.out (World.grownBy_alloc W _ none) (fun r e => by cases e), v, cell_alloc_l _ hr, frozen_alloc_l _ hr hrf⟩, hB.alloc hB.size _⟩ ⟨W.heap.size, five_new _ _ _ _, rfl⟩
  case body =>
    rintro l pre x a' W hl hrec ⟨⟨hp, v, hr, hrf⟩, hB⟩ ⟨Bx, hx5, rfl⟩ _
    have hp := Lib.hid hp
    have HB := Lib.hid hB
    obtain ⟨a0, a1, a2, a3, a4⟩ := hx5
    clear H HL hB0 r0 c1 hrec hB
    by_cases ho : x.1.t.op = 1
    case neg =>
      have ho' : (x.1.t.op == 1) = false := by simpa using ho
      have hsame : Hid (anyVar (ndsOf (pre ++ [x])) = anyVar (ndsOf pre)) := by
        show _ = _
        unfold anyVar
        rw [ndsOf_snoc, List.any_append]
        simp [ho]
      clear ho
      gi_wp2_with fail
      exact ⟨KeepsFrom.refl _ _, KpC.refl _ _ _, ⟨by rw [hsame.out]; exact hp.out, v, hr, hrf⟩, HB.out⟩
    obtain ⟨hn, hs⟩ := x.2 ho
    rw [hn] at a2
    rw [hs] at a1
    have ho' : (x.1.t.op == 1) = true := by simpa using ho
    have hany : Hid (anyVar (ndsOf (pre ++ [x])) = true) := by
      show _ = _
      unfold anyVar
      rw [ndsOf_snoc, List.any_append]
      simp [ho]
    clear ho hn hs
    cases hb : anyVar (ndsOf pre)
    case false =>
      have h0 : W.cell? ⟨w.heap.size + 1, 0, none⟩ = some (.slice none 0 0) := by
        have := hp.out
        rw [hb] at this
        exact this
      clear hr hp hb
      gi_wp2_with fail
      refine ⟨trivial, ?_⟩
      refine (CallsIn.inRound l (callsIn_wide.2 (insert_nil a s _))).mono ?_
      rintro e w1 ⟨g, cap', hg, rfl, d0, d1, hb1⟩
      have hr1 := cellB hb1 (Nat.le_refl _) h0
      have hrf1 := (hb1.frozen (p := ⟨w.heap.size + 1, 0, none⟩) (World.block_lt_of_cell? _ _ h0)).trans hrf
      have hlt := World.block_lt_of_cell? _ _ h0
      have HB1 := Lib.hid hb1
      clear hb1 h0 hrf a0 a1 a2 a3 a4
      have D0 := Lib.hid d0
      have D1 := Lib.hid d1
      clear d0 d1
      gi_wp2_with fail
      have e3 := World.cell?_setCell_same' w1 ⟨w.heap.size + 1, 0, none⟩ (.slice (some ⟨g, 0, none⟩) 1 cap') (by rw [hr1]; rfl)
      have hne : w.heap.size + 1 < g := Nat.lt_of_lt_of_le hlt hg
      refine ⟨(KeepsFrom.of_below HB1.out).trans (KeepsFrom.setCell _ _ _ _), (KpC.of_below HB1.out HB.out.size).setCell (p := ⟨w.heap.size + 1, 0, none⟩) (by simp) (by simp) _, ⟨?_, _, e3, by rw [World.frozen?_setCell]; exact hrf1⟩, (HB.out.trans (HB1.out.mono HB.out.size)).setCell (p := ⟨w.heap.size + 1, 0, none⟩) (by simp) _⟩
      rw [hany.out]
      exact ⟨g, cap', hne, e3, (World.cell?_setCell_other w1 _ _ _ (fun e => by have := (Addr.mk.inj e).1; omega)).trans D0.out, (World.cell?_setCell_other w1 _ _ _ (fun e => by have := (Addr.mk.inj e).1; omega)).trans D1.out⟩
    case true =>
      have hx := hp.out
      rw [hb] at hx
      obtain ⟨g, cap', hg, h0, hd0, hd1⟩ := (show ∃ g cap, w.heap.size + 1 < g ∧ W.cell? ⟨w.heap.size + 1, 0, none⟩ = some (.slice (some ⟨g, 0, none⟩) 1 cap) ∧ W.cell? ⟨g, 0, none⟩ = some (.string a) ∧ W.cell? ⟨g, 1, none⟩ = some (.int .i64 s) from hx)
      have E0 := Lib.hid hd0
      have E1 := Lib.hid hd1
      clear hr hp hb hx hd0 hd1
      gi_wp2_with fail
      refine ⟨trivial, ?_⟩
      refine (CallsIn.inRound l (callsIn_wide.2 (insert_one a s g cap' _ E0.out E1.out))).mono ?_
      rintro e w1 ⟨rfl, hb1⟩
      have hr1 := cellB hb1 (Nat.le_refl _) h0
      have hrf1 := (hb1.frozen (p := ⟨w.heap.size + 1, 0, none⟩) (World.block_lt_of_cell? _ _ h0)).trans hrf
      have D0 := Lib.hid (cellB hb1 (Nat.le_refl _) E0.out)
      have D1 := Lib.hid (cellB hb1 (Nat.le_refl _) E1.out)
      have HB1 := Lib.hid hb1
      clear hb1 h0 hrf a0 a1 a2 a3 a4 E0 E1
      gi_wp2_with fail
      have e3 := World.cell?_setCell_same' w1 ⟨w.heap.size + 1, 0, none⟩ (.slice (some ⟨g, 0, none⟩) 1 cap') (by rw [hr1]; rfl)
      refine ⟨(KeepsFrom.of_below HB1.out).trans (KeepsFrom.setCell _ _ _ _), (KpC.of_below HB1.out HB.out.size).setCell (p := ⟨w.heap.size + 1, 0, none⟩) (by simp) (by simp) _, ⟨?_, _, e3, by rw [World.frozen?_setCell]; exact hrf1⟩, (HB.out.trans (HB1.out.mono HB.out.size)).setCell (p := ⟨w.heap.size + 1, 0, none⟩) (by simp) _⟩
      rw [hany.out]
      exact ⟨g, cap', hg, e3, (World.cell?_setCell_other w1 _ _ _ (fun e => by have := (Addr.mk.inj e).1; omega)).trans D0.out, (World.cell?_setCell_other w1 _ _ _ (fun e => by have := (Addr.mk.inj e).1; omega)).trans D1.out⟩
  case done =>
    rintro D ys W hD hys ⟨⟨hp, v, hr, hrf⟩, hB⟩ hK
    have hxy : (xs.map El.key).map Prod.snd = ndsOf ys := by rw [← hys, List.map_map, List.map_map]; rfl
    have hv : Hid (∃ A' cap', v = .slice A' (if anyVar ((xs.map El.key).map Prod.snd) = true then 1 else 0) cap') := by
      show ∃ _, _
      rw [hxy]
      unfold VarsI at hp
      split at hp
      · rename_i h
        obtain ⟨g, cap', _, h0, _⟩ := hp
        rw [hr] at h0
        cases h0
        exact ⟨_, _, by rw [if_pos h]⟩
      · rename_i h
        rw [hr] at hp
        cases hp
        exact ⟨none, 0, by rw [if_neg h]⟩
    clear hp hxy H HL hB0 r0 c1 hys
    gi_wp2
    refine ⟨by simp, .inl ⟨_, _, rfl, run_takeDeferred hK, ?_⟩⟩
    obtain ⟨A', cap', rfl⟩ := hv.out
    exact ⟨_, results_tmp rfl _ _ _, ⟨A', cap', rfl⟩, hB.trans (belowK_b (w := w) (Nat.le_refl _) W D _ _ (by simp at hD; omega) hK rfl rfl)⟩
  case stop =>
    rintro D c pre W _ _ h _
    exact h.elim
end Go.Proofs.Ytpjokapkoeclpaa
