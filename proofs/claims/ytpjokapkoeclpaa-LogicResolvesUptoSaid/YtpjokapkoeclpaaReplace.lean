/-
  What package logic's replace returns; conditions: the trees lie in memory and none of their lists is too long to be made.
-/
import Derived.Test.YtpjokapkoeclpaaRepl
namespace Go.Proofs.Ytpjokapkoeclpaa
open Go.RowKit Go.Shelf Go.WideMaps

attribute [local go_sem] Oper.semAt_some
set_option maxRecDepth 100000 in
set_option maxHeartbeats 4000000 in
theorem replace_any (w0 : World) (m I : Nat) (nl : List ByteArray) (ws : List Nd) (hsw : ∀ u ∈ ws, Short u) (hm : m < w0.heap.size) (t : Nd) : ∀ (A : Option Addr) (cap : Nat) (w : World), Lies w A cap t.ks → Fine t → Short t → Below w0.heap.size w0 w → StandAt w0 m nl ws I w →
    Calls Try.prog 70 #[nv t.op t.so t.nm t.nu (.slice A t.ks.length cap), .map (some m)] w (RetN w (subN (lookF (nl.take I) (ws.take I)) t)) := by
  induction t using Nd.ind with
  | h t ih =>
  intro A cap w hL hfine hsh hb0 hst
  have hsz0 := hb0.size
  obtain ⟨W3, hW3⟩ : ∃ W3, (((w.alloc (.cells #[.int .i64 t.op, .int .i64 t.so, .string t.nm, .int .i64 t.nu, .slice A t.ks.length cap] 24)).alloc (.cells #[.map (some m)] 74)).alloc (.cells zero5 24)) = W3 := ⟨_, rfl⟩
  have hB3 : Below w.heap.size w W3 := by
    rw [← hW3]
    exact (((Below.refl _ _).alloc (Nat.le_refl _) _).alloc (by simp) _).alloc (by simp; omega) _
  have hs3 : W3.heap.size = w.heap.size + 1 + 1 + 1 := by rw [← hW3]; simp
  have hst3 : StandAt w0 m nl ws I W3 := hst.kept (hB3.block m (by omega))
  have nb : W3.heap[w.heap.size]? = some (.cells #[.int .i64 t.op, .int .i64 t.so, .string t.nm, .int .i64 t.nu, .slice A t.ks.length cap] 24 (0, 0)) := by
    rw [← hW3]
    exact ((((Below.refl _ _).alloc (Nat.le_refl _) _).alloc (by simp) _).block _ (by simp)).trans (heap_alloc_new w _)
  have sb : W3.heap[w.heap.size + 1]? = some (.cells #[.map (some m)] 74 (0, 0)) := by
    rw [← hW3]
    exact (((Below.refl _ _).alloc (Nat.le_refl _) _).block _ (by simp)).trans (by have := heap_alloc_new (w.alloc (.cells #[.int .i64 t.op, .int .i64 t.so, .string t.nm, .int .i64 t.nu, .slice A t.ks.length cap] 24)) (.cells #[.map (some m)] 74); rwa [World.size_alloc] at this)
  have zb : W3.heap[w.heap.size + 1 + 1]? = some (.cells zero5 24 (0, 0)) := by
    rw [← hW3]
    have := heap_alloc_new ((w.alloc (.cells #[.int .i64 t.op, .int .i64 t.so, .string t.nm, .int .i64 t.nu, .slice A t.ks.length cap] 24)).alloc (.cells #[.map (some m)] 74)) (.cells zero5 24)
    rwa [World.size_alloc, World.size_alloc] at this
  have NB := Lib.hid nb
  have SB := Lib.hid sb
  have ZB := Lib.hid zb
  have B3 := Lib.hid hB3
  have S3 := Lib.hid hs3
  have HW := Lib.hid hW3
  have HST := Lib.hid hst3
  -- the kids, mapped
  have hmap : ∀ W, Below W3.heap.size W3 W → (t.op = 1 → lookF (nl.take I) (ws.take I) t.nm = none) → Calls Try.prog 96 #[.slice A t.ks.length cap, .func (.func 101) #[] #[.pointer (some ⟨w.heap.size + 1, 0, none⟩)]] W (RetL W (t.ks.map (subN (lookF (nl.take I) (ws.take I))))) := by
    intro W hbW _
    have hBW := hB3.trans (hbW.mono hB3.size)
    cases hA : A with
    | none =>
      rw [hA] at hL
      have h0 := lies_none hL
      rw [h0]
      exact mapped_nil _ _ _
    | some a =>
      rw [hA] at hL
      refine mapped_repl (w.heap.size + 1) t.ks _ _ cap W (hL.later hBW) hsh.self a rfl (by rw [List.length_map]) (fun i hi A' C W' hb hl => ?_)
      have hc : W'.cell? ⟨w.heap.size + 1, 0, none⟩ = some (.map (some m)) := cell_row (i := 0) ((hb.block _ (by have := hbW.size; omega)).trans ((hbW.block _ (by omega)).trans sb)) rfl
      rw [List.getElem_map]
      refine repl1_any m _ _ _ A' C W' hc (fun W'' hb'' => ?_)
      have hB' := hBW.trans ((hb.trans (hb''.mono hb.size)).mono hBW.size)
      exact ih i hi A' C W'' (hl.later hb'') (hL.fine hi) (hsh.kid hi) (hb0.trans (hB'.mono hsz0)) (hst.kept (hB'.block m (by omega)))
  have HM := Lib.hid hmap
  have HF := Lib.hid hfine
  clear hB3 hs3 hst3 nb sb zb hmap ih hL hsh hst hfine hW3
  by_cases h1 : t.op = 1
  case neg =>
    have h1' : (t.op == 1) = false := by simpa using h1
    have hsub := Lib.hid (subN_build (f := lookF (nl.take I) (ws.take I)) (t := t) (fun e => absurd e h1))
    have HMM := Lib.hid (HM.out W3 (Below.refl _ _) (fun e => absurd e h1))
    clear h1
    go_enter Try.func70, Try.ntmps70
    go_wp2_with fail
    rw [HW.out]
    refine HMM.out.mono ?_
    rintro e w1 ⟨A1, c1, rfl, hr, hb⟩
    have hs3 := S3.out
    have hn := (hb.block w.heap.size (by omega)).trans NB.out
    have hz := (hb.block (w.heap.size + 1 + 1) (by omega)).trans ZB.out
    have n0 := cell_row hn (i := 0) rfl
    have n1 := cell_row hn (i := 1) rfl
    have n2 := cell_row hn (i := 2) rfl
    have n3 := cell_row hn (i := 3) rfl
    have n4 := cell_row hn (i := 4) rfl
    have g4 := frozen_of_row w1 w.heap.size 4 _ _ hn
    have z0 := cell_row hz (i := 0) rfl
    have z1 := cell_row hz (i := 1) rfl
    have z2 := cell_row hz (i := 2) rfl
    have z3 := cell_row hz (i := 3) rfl
    have z4 := cell_row hz (i := 4) rfl
    have f0 := frozen_of_row w1 (w.heap.size + 1 + 1) 0 _ _ hz
    have f1 := frozen_of_row w1 (w.heap.size + 1 + 1) 1 _ _ hz
    have f2 := frozen_of_row w1 (w.heap.size + 1 + 1) 2 _ _ hz
    have f3 := frozen_of_row w1 (w.heap.size + 1 + 1) 3 _ _ hz
    have f4 := frozen_of_row w1 (w.heap.size + 1 + 1) 4 _ _ hz
    rw [List.length_map] at *
    have hz' := (heap_setCell_other w1 ⟨w.heap.size, 4, none⟩ (w.heap.size + 1 + 1) (.slice A1 t.ks.length c1) (by simp; omega)).trans hz
    have Hfin := Lib.hid (set5_same (.int .i64 t.op) (.int .i64 t.so) (.string t.nm) (.int .i64 t.nu) (.slice A1 t.ks.length c1) hz')
    have HR := Lib.hid ((hr.set1 (p := ⟨w.heap.size, 4, none⟩) (by simp; omega) (.slice A1 t.ks.length c1)).set5 (b := w.heap.size + 1 + 1) (n1 := w.heap.size) (by omega) (by omega) (.int .i64 t.op) (.int .i64 t.so) (.string t.nm) (.int .i64 t.nu) (.slice A1 t.ks.length c1))
    have HB := Lib.hid (Below.set5 ((B3.out.trans (hb.mono (by omega))).setCell (p := ⟨w.heap.size, 4, none⟩) (by simp) (.slice A1 t.ks.length c1)) (b := w.heap.size + 1 + 1) (by omega) (.int .i64 t.op) (.int .i64 t.so) (.string t.nm) (.int .i64 t.nu) (.slice A1 t.ks.length c1))
    clear hr hb hn hz hz'
    go_wp2_with fail
    have hf := Hfin.out
    have y0 := cell_row hf (i := 0) rfl
    have y1 := cell_row hf (i := 1) rfl
    have y2 := cell_row hf (i := 2) rfl
    have y3 := cell_row hf (i := 3) rfl
    have y4 := cell_row hf (i := 4) rfl
    rw [hsub.out]
    refine bodyPost_ret (v := nv t.op t.so t.nm t.nu (.slice A1 t.ks.length c1)) ?_ rfl ⟨A1, c1, by show Ending.returned (nv t.op t.so t.nm t.nu (.slice A1 t.ks.length c1)) = .returned (nv t.op t.so t.nm t.nu (.slice A1 (t.ks.map (subN (lookF (nl.take I) (ws.take I)))).length c1)); rw [List.length_map], HR.out, ⟨HF.out.nm, HF.out.op, HF.out.so, HF.out.nu⟩, HB.out⟩
    clear hf Hfin HR HB
    simp [results, Try.f70, go_sem, y0, y1, y2, y3, y4]
  case pos =>
    have h1' : (t.op == 1) = true := by simpa using h1
    have H1 := Lib.hid h1
    clear h1
    rcases HST.out.look t.nm with ⟨hno, hlk⟩ | ⟨x, hx, hlk, hLx, hFx, hmx⟩
    · rw [← HW.out] at hlk
      go_enter Try.func70, Try.ntmps70
      go_wp2_with fail
      rw [HW.out]
      have hsub := Lib.hid (subN_build (f := lookF (nl.take I) (ws.take I)) (t := t) (fun _ => hno))
      refine (HM.out _ ((Below.refl _ _).alloc (Nat.le_refl _) _) (fun _ => hno)).mono ?_
      rintro e w1 ⟨A1, c1, rfl, hr, hb⟩
      have hr := hr.lower (show W3.heap.size ≤ _ by simp)
      have hb : Below W3.heap.size W3 w1 := ((Below.refl _ _).alloc (Nat.le_refl _) _).trans (hb.mono (by simp))
      clear hlk hno
      have hs3 := S3.out
      have hn := (hb.block w.heap.size (by omega)).trans NB.out
      have hz := (hb.block (w.heap.size + 1 + 1) (by omega)).trans ZB.out
      have n0 := cell_row hn (i := 0) rfl
      have n1 := cell_row hn (i := 1) rfl
      have n2 := cell_row hn (i := 2) rfl
      have n3 := cell_row hn (i := 3) rfl
      have n4 := cell_row hn (i := 4) rfl
      have g4 := frozen_of_row w1 w.heap.size 4 _ _ hn
      have z0 := cell_row hz (i := 0) rfl
      have z1 := cell_row hz (i := 1) rfl
      have z2 := cell_row hz (i := 2) rfl
      have z3 := cell_row hz (i := 3) rfl
      have z4 := cell_row hz (i := 4) rfl
      have f0 := frozen_of_row w1 (w.heap.size + 1 + 1) 0 _ _ hz
      have f1 := frozen_of_row w1 (w.heap.size + 1 + 1) 1 _ _ hz
      have f2 := frozen_of_row w1 (w.heap.size + 1 + 1) 2 _ _ hz
      have f3 := frozen_of_row w1 (w.heap.size + 1 + 1) 3 _ _ hz
      have f4 := frozen_of_row w1 (w.heap.size + 1 + 1) 4 _ _ hz
      rw [List.length_map] at *
      have hz' := (heap_setCell_other w1 ⟨w.heap.size, 4, none⟩ (w.heap.size + 1 + 1) (.slice A1 t.ks.length c1) (by simp; omega)).trans hz
      have Hfin := Lib.hid (set5_same (.int .i64 t.op) (.int .i64 t.so) (.string t.nm) (.int .i64 t.nu) (.slice A1 t.ks.length c1) hz')
      have HR := Lib.hid ((hr.set1 (p := ⟨w.heap.size, 4, none⟩) (by simp; omega) (.slice A1 t.ks.length c1)).set5 (b := w.heap.size + 1 + 1) (n1 := w.heap.size) (by omega) (by omega) (.int .i64 t.op) (.int .i64 t.so) (.string t.nm) (.int .i64 t.nu) (.slice A1 t.ks.length c1))
      have HB := Lib.hid (Below.set5 ((B3.out.trans (hb.mono (by omega))).setCell (p := ⟨w.heap.size, 4, none⟩) (by simp) (.slice A1 t.ks.length c1)) (b := w.heap.size + 1 + 1) (by omega) (.int .i64 t.op) (.int .i64 t.so) (.string t.nm) (.int .i64 t.nu) (.slice A1 t.ks.length c1))
      clear hr hb hn hz hz'
      go_wp2_with fail
      have hf := Hfin.out
      have y0 := cell_row hf (i := 0) rfl
      have y1 := cell_row hf (i := 1) rfl
      have y2 := cell_row hf (i := 2) rfl
      have y3 := cell_row hf (i := 3) rfl
      have y4 := cell_row hf (i := 4) rfl
      rw [hsub.out]
      refine bodyPost_ret (v := nv t.op t.so t.nm t.nu (.slice A1 t.ks.length c1)) ?_ rfl ⟨A1, c1, by show Ending.returned (nv t.op t.so t.nm t.nu (.slice A1 t.ks.length c1)) = .returned (nv t.op t.so t.nm t.nu (.slice A1 (t.ks.map (subN (lookF (nl.take I) (ws.take I)))).length c1)); rw [List.length_map], HR.out, ⟨HF.out.nm, HF.out.op, HF.out.so, HF.out.nu⟩, HB.out⟩
      clear hf Hfin HR HB
      simp [results, Try.f70, go_sem, y0, y1, y2, y3, y4]
    · rw [← HW.out] at hlk
      go_enter Try.func70, Try.ntmps70
      go_wp2_with fail
      rw [HW.out]
      have hsub := Lib.hid (subN_found (f := lookF (nl.take I) (ws.take I)) H1.out hx)
      have hLx3 := hLx.later (hb0.trans ((B3.out.trans (((Below.refl W3.heap.size W3).alloc (Nat.le_refl _) (.cells #[.int .i64 x.1.op, .int .i64 x.1.so, .string x.1.nm, .int .i64 x.1.nu, .slice x.2.1 x.1.ks.length x.2.2] 24)).mono B3.out.size)).mono hsz0))
      refine (copyOf_any x.1 x.2.1 x.2.2 _ hLx3 hFx (hsw _ hmx)).mono ?_
      rintro e w1 ⟨A1, c1, rfl, hr1, hFu, hb1⟩
      have hr := hr1.lower (show W3.heap.size ≤ _ by simp)
      have hb : Below W3.heap.size W3 w1 := ((Below.refl _ _).alloc (Nat.le_refl _) _).trans (hb1.mono (by simp))
      clear hlk hx hLx hLx3 hr1 hb1
      obtain ⟨u, UA, UC⟩ := x
      have hs3 := S3.out
      have hz := (hb.block (w.heap.size + 1 + 1) (by omega)).trans ZB.out
      have z0 := cell_row hz (i := 0) rfl
      have z1 := cell_row hz (i := 1) rfl
      have z2 := cell_row hz (i := 2) rfl
      have z3 := cell_row hz (i := 3) rfl
      have z4 := cell_row hz (i := 4) rfl
      have f0 := frozen_of_row w1 (w.heap.size + 1 + 1) 0 _ _ hz
      have f1 := frozen_of_row w1 (w.heap.size + 1 + 1) 1 _ _ hz
      have f2 := frozen_of_row w1 (w.heap.size + 1 + 1) 2 _ _ hz
      have f3 := frozen_of_row w1 (w.heap.size + 1 + 1) 3 _ _ hz
      have f4 := frozen_of_row w1 (w.heap.size + 1 + 1) 4 _ _ hz
      have Hfin := Lib.hid (set5_same (.int .i64 u.op) (.int .i64 u.so) (.string u.nm) (.int .i64 u.nu) (.slice A1 u.ks.length c1) hz)
      have HR := Lib.hid (hr.set5 (b := w.heap.size + 1 + 1) (n1 := w.heap.size) (by omega) (by omega) (.int .i64 u.op) (.int .i64 u.so) (.string u.nm) (.int .i64 u.nu) (.slice A1 u.ks.length c1))
      have HB := Lib.hid (Below.set5 (B3.out.trans (hb.mono (by omega))) (b := w.heap.size + 1 + 1) (by omega) (.int .i64 u.op) (.int .i64 u.so) (.string u.nm) (.int .i64 u.nu) (.slice A1 u.ks.length c1))
      clear hr hb hz
      go_wp2_with fail
      have hf := Hfin.out
      have y0 := cell_row hf (i := 0) rfl
      have y1 := cell_row hf (i := 1) rfl
      have y2 := cell_row hf (i := 2) rfl
      have y3 := cell_row hf (i := 3) rfl
      have y4 := cell_row hf (i := 4) rfl
      rw [hsub.out]
      refine bodyPost_ret (v := nv u.op u.so u.nm u.nu (.slice A1 u.ks.length c1)) ?_ rfl ⟨A1, c1, rfl, HR.out, hFu, HB.out⟩
      clear hf Hfin HR HB
      simp [results, Try.f70, go_sem, y0, y1, y2, y3, y4]
end Go.Proofs.Ytpjokapkoeclpaa
