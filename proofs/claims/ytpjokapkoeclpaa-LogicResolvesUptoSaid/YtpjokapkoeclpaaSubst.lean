/-
  What package logic's SubstAll and Subst, and the document's own Subst, return; conditions: the trees lie in memory and none of their lists is too long to be made.
-/
import Derived.Test.YtpjokapkoeclpaaReplace
namespace Go.Proofs.Ytpjokapkoeclpaa
open Go.RowKit Go.Shelf Go.WideMaps

attribute [local go_sem] Oper.semAt_some
/-- What keepFirst does. -/
def KeepPost (w0 : World) (m : Nat) (nl : List ByteArray) (ws : List Nd) (i : Nat) (W : World) (e : Ending) (w' : World) : Prop :=
  e = .returned (.tuple #[]) ∧ StandAt w0 m nl ws i w' ∧ Below m W w' ∧ W.heap.size ≤ w'.heap.size
set_option maxRecDepth 100000 in
set_option maxHeartbeats 4000000 in
theorem keep_any (w0 : World) (m : Nat) (nl : List ByteArray) (ws : List Nd) (i : Nat) (h1 : i < nl.length) (h2 : i < ws.length) (A : Option Addr) (C : Nat) (W : World) (hL : Lies w0 A C ws[i].ks) (hf : Fine ws[i]) (hm : m < W.heap.size) (hst : StandAt w0 m nl ws i W) :
    Calls Try.prog 69 #[.map (some m), .string nl[i], nvA (ws[i], A, C)] W (KeepPost w0 m nl ws (i + 1) W) := by
  have hbO : ∀ O, (W.alloc O).heap[m]? = W.heap[m]? := fun O => ((Below.refl W.heap.size W).alloc (Nat.le_refl _) O).block m hm
  have hbO2 : ∀ O O', ((W.alloc O).alloc O').heap[m]? = W.heap[m]? := fun O O' => (((Below.refl W.heap.size W).alloc (Nat.le_refl _) O).alloc (by simp) O').block m hm
  have hst1 := hst.kept (hbO (.cells #[.int .i64 ws[i].op, .int .i64 ws[i].so, .string ws[i].nm, .int .i64 ws[i].nu, .slice A ws[i].ks.length C] 24))
  rcases hst1.look nl[i] with ⟨hno, hlk⟩ | ⟨x, hx, hlk, _⟩
  · obtain ⟨o, he, hs'⟩ := (hst.kept (hbO2 (.cells #[.int .i64 ws[i].op, .int .i64 ws[i].so, .string ws[i].nm, .int .i64 ws[i].nu, .slice A ws[i].ks.length C] 24) (.cells zero5 24))).enter h1 h2 hno hL hf (by simp; omega)
    have he : (Instr.mapUpdate 74 (.map (some m)) (.string nl[i]) (.agg #[.int .i64 ws[i].op, .int .i64 ws[i].so, .string ws[i].nm, .int .i64 ws[i].nu, .slice A ws[i].ks.length C])).run Try.prog _ = _ := he
    have HS := Lib.hid hs'
    have HB := Lib.hid (Below.withObj (((Below.refl W.heap.size W).alloc (Nat.le_refl _) (.cells #[.int .i64 ws[i].op, .int .i64 ws[i].so, .string ws[i].nm, .int .i64 ws[i].nu, .slice A ws[i].ks.length C] 24)).alloc (by simp) (.cells zero5 24) |>.mono (Nat.le_of_lt hm)) (Nat.le_refl m) o)
    have HZ := Lib.hid (show W.heap.size ≤ (withObj ((W.alloc (.cells #[.int .i64 ws[i].op, .int .i64 ws[i].so, .string ws[i].nm, .int .i64 ws[i].nu, .slice A ws[i].ks.length C] 24)).alloc (.cells zero5 24)) m o).heap.size by rw [withObj_size]; simp; omega)
    clear hs' hst hst1 hbO hbO2 hno
    go_enter Try.func69, Try.ntmps69
    go_wp2_with fail
    go_end0
    exact ⟨rfl, HS.out, HB.out, HZ.out⟩
  · have HS := Lib.hid ((hst.skip h1 h2 hx).kept (hbO2 (.cells #[.int .i64 ws[i].op, .int .i64 ws[i].so, .string ws[i].nm, .int .i64 ws[i].nu, .slice A ws[i].ks.length C] 24) (.cells #[.int .i64 x.1.op, .int .i64 x.1.so, .string x.1.nm, .int .i64 x.1.nu, .slice x.2.1 x.1.ks.length x.2.2] 24)))
    have HB := Lib.hid (((Below.refl W.heap.size W).alloc (Nat.le_refl _) (.cells #[.int .i64 ws[i].op, .int .i64 ws[i].so, .string ws[i].nm, .int .i64 ws[i].nu, .slice A ws[i].ks.length C] 24)).alloc (by simp) (.cells #[.int .i64 x.1.op, .int .i64 x.1.so, .string x.1.nm, .int .i64 x.1.nu, .slice x.2.1 x.1.ks.length x.2.2] 24) |>.mono (Nat.le_of_lt hm))
    have HZ := Lib.hid (show W.heap.size ≤ ((W.alloc (.cells #[.int .i64 ws[i].op, .int .i64 ws[i].so, .string ws[i].nm, .int .i64 ws[i].nu, .slice A ws[i].ks.length C] 24)).alloc (.cells #[.int .i64 x.1.op, .int .i64 x.1.so, .string x.1.nm, .int .i64 x.1.nu, .slice x.2.1 x.1.ks.length x.2.2] 24)).heap.size by simp; omega)
    clear hst hst1 hbO hbO2 hx
    go_enter Try.func69, Try.ntmps69
    go_wp2_with fail
    go_end0
    exact ⟨rfl, HS.out, HB.out, HZ.out⟩

theorem StandAt.base {w0 w1 : World} {m : Nat} {nl : List ByteArray} {ws : List Nd} {i : Nat} {W : World} (h : StandAt w0 m nl ws i W) (hb : Below w0.heap.size w0 w1) : StandAt w1 m nl ws i W := by
  obtain ⟨es, clock, ps, h1, h2, h3, h4⟩ := h
  exact ⟨es, clock, ps, h1, h2, fun p hp => ⟨(h3 p hp).1.later hb, (h3 p hp).2⟩, h4⟩
theorem zip_take_take {α β : Type} : ∀ (a : List α) (b : List β) (n : Nat), (a.take n).zip (b.take n) = (a.zip b).take n
  | [], _, n => by simp
  | _ :: _, [], n => by simp
  | x :: a, y :: b, 0 => by simp
  | x :: a, y :: b, n + 1 => by simp [zip_take_take a b n]
theorem lookF_full {nl : List ByteArray} {ws : List Nd} {i : Nat} (h : nl.length ≤ i ∨ ws.length ≤ i) (nm : ByteArray) : lookF (nl.take i) (ws.take i) nm = lookF nl ws nm := by
  unfold lookF
  rw [zip_take_take, List.take_of_length_le]
  rw [List.length_zip]
  omega

set_option maxRecDepth 100000 in
set_option maxHeartbeats 4000000 in
theorem substAll_any (nl : List ByteArray) (ws : List Nd) (hsw : ∀ u ∈ ws, Short u) (NA WA : Option Addr) (ncap wcap : Nat) (hnl : nl.length ≤ maxLen) (t : Nd) (A : Option Addr) (cap : Nat) (w : World) (hL : Lies w A cap t.ks) (hfine : Fine t) (hsh : Short t) (hS : Strs w NA nl) (hW : Lies w WA wcap ws) :
    Calls Try.prog 38 #[nv t.op t.so t.nm t.nu (.slice A t.ks.length cap), .slice NA nl.length ncap, .slice WA ws.length wcap] w (RetN w (subN (lookF nl ws) t)) := by
  have hmm := @run_makeMap Try.prog
  have hwn := hW.len
  unfold maxLen at hwn hnl
  obtain ⟨W3, hW3⟩ : ∃ W3, (((w.alloc (.cells #[.int .i64 t.op, .int .i64 t.so, .string t.nm, .int .i64 t.nu, .slice A t.ks.length cap] 24)).alloc (.cells zero5 24)).alloc (.map #[] 0)) = W3 := ⟨_, rfl⟩
  have hB3 : Below w.heap.size w W3 := by
    rw [← hW3]
    exact (((Below.refl _ _).alloc (Nat.le_refl _) _).alloc (by simp) _).alloc (by simp; omega) _
  have hs3 : W3.heap.size = w.heap.size + 1 + 1 + 1 := by rw [← hW3]; simp
  have hst3 : StandAt w (w.heap.size + 1 + 1) nl ws 0 W3 := by
    rw [← hW3]
    have := heap_alloc_new ((w.alloc (.cells #[.int .i64 t.op, .int .i64 t.so, .string t.nm, .int .i64 t.nu, .slice A t.ks.length cap] 24)).alloc (.cells zero5 24)) (.map #[] 0)
    rw [World.size_alloc, World.size_alloc] at this
    exact StandAt.nil this
  have nb : W3.heap[w.heap.size]? = some (.cells #[.int .i64 t.op, .int .i64 t.so, .string t.nm, .int .i64 t.nu, .slice A t.ks.length cap] 24 (0, 0)) := by
    rw [← hW3]
    exact ((((Below.refl _ _).alloc (Nat.le_refl _) _).alloc (by simp) _).block _ (by simp)).trans (heap_alloc_new w _)
  have zb : W3.heap[w.heap.size + 1]? = some (.cells zero5 24 (0, 0)) := by
    rw [← hW3]
    exact (((Below.refl _ _).alloc (Nat.le_refl _) _).block _ (by simp)).trans (by have := heap_alloc_new (w.alloc (.cells #[.int .i64 t.op, .int .i64 t.so, .string t.nm, .int .i64 t.nu, .slice A t.ks.length cap] 24)) (.cells zero5 24); rwa [World.size_alloc] at this)
  have NB := Lib.hid nb
  have ZB := Lib.hid zb
  have B3 := Lib.hid hB3
  have S3 := Lib.hid hs3
  have HW := Lib.hid hW3
  have HST := Lib.hid hst3
  have HS := Lib.hid hS
  have HWL := Lib.hid hW
  have HL := Lib.hid hL
  have HF := Lib.hid hfine
  have HSh := Lib.hid hsh
  clear hB3 hs3 hst3 nb zb hS hW hL hfine hsh hW3
  by_cases hlt : ws.length < nl.length
  · go_enter Try.func38, Try.ntmps38
    go_wp2_with fail
    rw [HW.out]
    go_loopw [15] (fun i wr => ∃ k : Nat, k ≤ ws.length ∧ i = .int .i64 k ∧ Hid (StandAt w (w.heap.size + 1 + 1) nl ws k wr) ∧ Hid (Below (w.heap.size + 1 + 1) W3 wr) ∧ Hid (W3.heap.size ≤ wr.heap.size)) (fun i _ => ws.length - (intOf i).toNat)
    case atStart => exact ⟨0, Nat.zero_le _, rfl, HST.out, Lib.hid (Below.refl _ _), Lib.hid (Nat.le_refl _)⟩
    case round =>
      obtain ⟨k, hk, rfl, hst, hb, hsz⟩ := hrel
      have hs3 := S3.out
      have hszr := hsz.out
      have hBw : Below w.heap.size w wr := B3.out.trans (hb.out.mono (by omega))
      by_cases hlk : k < ws.length
      · obtain ⟨sb, so, hsa, hsc⟩ := HS.out.later hBw
        obtain rfl := hsa (by omega)
        have h1 : k < nl.length := by omega
        have h2 : k < ws.length := by omega
        have n0 := hsc k h1
        obtain ⟨b, o, A', C', rfl, g5, hK⟩ := HWL.out.kid h2
        have hFk := HWL.out.fine h2
        obtain ⟨a0, a1, a2, a3, a4⟩ := g5.later hBw
        have KP := Lib.hid (fun W hm hst => keep_any w (w.heap.size + 1 + 1) nl ws k h1 h2 A' C' W hK hFk hm hst)
        generalize hna : nl[k] = na at *
        generalize hq : ws[k] = q at *
        clear hsc hsa g5 hna hq hK
        go_wp2_with fail
        go_still_tail 9, (by kernel_rfl)
        change wpList _ _ _ _ _ wr.drew
        go_wp2_with fail
        refine (KP.out wr.drew (show w.heap.size + 1 + 1 < wr.heap.size by omega) (hst.out.kept rfl)).mono ?_
        rintro e w2 ⟨rfl, hst2, hb2, hs2⟩
        have HB2 := Lib.hid (hb.out.trans (((Below.refl (w.heap.size + 1 + 1) wr).drew).trans hb2))
        have HS2 := Lib.hid (Nat.le_trans hszr (show wr.heap.size ≤ w2.heap.size from hs2))
        have HST2 := Lib.hid hst2
        clear hb2 hs2 hst2 n0 a0 a1 a2 a3 a4
        go_wp2_with fail
        go_roundw
        case rel => exact ⟨k + 1, by omega, by go_num, HST2.out, HB2.out, HS2.out⟩
        case measure => simp [intOf]; omega
      · have hfull := fun nm => lookF_full (nl := nl) (ws := ws) (i := k) (by omega) nm
        have hF : lookF (nl.take k) (ws.take k) = lookF nl ws := funext hfull
        have hnb := (hb.out.block w.heap.size (by omega)).trans NB.out
        have hzb := (hb.out.block (w.heap.size + 1) (by omega)).trans ZB.out
        have n0 := cell_row hnb (i := 0) rfl
        have n1 := cell_row hnb (i := 1) rfl
        have n2 := cell_row hnb (i := 2) rfl
        have n3 := cell_row hnb (i := 3) rfl
        have n4 := cell_row hnb (i := 4) rfl
        have R := Lib.hid (replace_any wr (w.heap.size + 1 + 1) k nl ws hsw (by omega) t A cap wr (HL.out.later hBw) HF.out HSh.out (Below.refl _ _) (hst.out.base hBw))
        rw [hF] at R
        have HZ := Lib.hid hzb
        have HBw := Lib.hid hBw
        generalize subN (lookF nl ws) t = u at *
        clear hnb hzb hfull hF
        go_wp2_with fail
        refine R.out.mono ?_
        rintro e w1 ⟨A1, c1, rfl, hr, hFu, hb1⟩
        have hz := (hb1.block (w.heap.size + 1) (by omega)).trans HZ.out
        have z0 := cell_row hz (i := 0) rfl
        have z1 := cell_row hz (i := 1) rfl
        have z2 := cell_row hz (i := 2) rfl
        have z3 := cell_row hz (i := 3) rfl
        have z4 := cell_row hz (i := 4) rfl
        have f0 := frozen_of_row w1 (w.heap.size + 1) 0 _ _ hz
        have f1 := frozen_of_row w1 (w.heap.size + 1) 1 _ _ hz
        have f2 := frozen_of_row w1 (w.heap.size + 1) 2 _ _ hz
        have f3 := frozen_of_row w1 (w.heap.size + 1) 3 _ _ hz
        have f4 := frozen_of_row w1 (w.heap.size + 1) 4 _ _ hz
        have Hfin := Lib.hid (set5_same (.int .i64 u.op) (.int .i64 u.so) (.string u.nm) (.int .i64 u.nu) (.slice A1 u.ks.length c1) hz)
        have HR := Lib.hid (hr.set5 (b := w.heap.size + 1) (n1 := w.heap.size) (by omega) (by omega) (.int .i64 u.op) (.int .i64 u.so) (.string u.nm) (.int .i64 u.nu) (.slice A1 u.ks.length c1))
        have HB := Lib.hid (Below.set5 (HBw.out.trans (hb1.mono (by omega))) (b := w.heap.size + 1) (by omega) (.int .i64 u.op) (.int .i64 u.so) (.string u.nm) (.int .i64 u.nu) (.slice A1 u.ks.length c1))
        clear hr hb1 hz n0 n1 n2 n3 n4
        go_wp2_with fail
        have hf := Hfin.out
        have y0 := cell_row hf (i := 0) rfl
        have y1 := cell_row hf (i := 1) rfl
        have y2 := cell_row hf (i := 2) rfl
        have y3 := cell_row hf (i := 3) rfl
        have y4 := cell_row hf (i := 4) rfl
        refine bodyPost_ret (v := nv u.op u.so u.nm u.nu (.slice A1 u.ks.length c1)) ?_ rfl ⟨A1, c1, rfl, HR.out, hFu, HB.out⟩
        clear hf Hfin HR HB
        simp [results, Try.f38, go_sem, y0, y1, y2, y3, y4]
  · go_enter Try.func38, Try.ntmps38
    go_wp2_with fail
    rw [HW.out]
    go_loopw [15] (fun i wr => ∃ k : Nat, k ≤ nl.length ∧ i = .int .i64 k ∧ Hid (StandAt w (w.heap.size + 1 + 1) nl ws k wr) ∧ Hid (Below (w.heap.size + 1 + 1) W3 wr) ∧ Hid (W3.heap.size ≤ wr.heap.size)) (fun i _ => nl.length - (intOf i).toNat)
    case atStart => exact ⟨0, Nat.zero_le _, rfl, HST.out, Lib.hid (Below.refl _ _), Lib.hid (Nat.le_refl _)⟩
    case round =>
      obtain ⟨k, hk, rfl, hst, hb, hsz⟩ := hrel
      have hs3 := S3.out
      have hszr := hsz.out
      have hBw : Below w.heap.size w wr := B3.out.trans (hb.out.mono (by omega))
      by_cases hlk : k < nl.length
      · obtain ⟨sb, so, hsa, hsc⟩ := HS.out.later hBw
        obtain rfl := hsa (by omega)
        have h1 : k < nl.length := by omega
        have h2 : k < ws.length := by omega
        have n0 := hsc k h1
        obtain ⟨b, o, A', C', rfl, g5, hK⟩ := HWL.out.kid h2
        have hFk := HWL.out.fine h2
        obtain ⟨a0, a1, a2, a3, a4⟩ := g5.later hBw
        have KP := Lib.hid (fun W hm hst => keep_any w (w.heap.size + 1 + 1) nl ws k h1 h2 A' C' W hK hFk hm hst)
        generalize hna : nl[k] = na at *
        generalize hq : ws[k] = q at *
        clear hsc hsa g5 hna hq hK
        go_wp2_with fail
        go_still_tail 9, (by kernel_rfl)
        change wpList _ _ _ _ _ wr.drew
        go_wp2_with fail
        refine (KP.out wr.drew (show w.heap.size + 1 + 1 < wr.heap.size by omega) (hst.out.kept rfl)).mono ?_
        rintro e w2 ⟨rfl, hst2, hb2, hs2⟩
        have HB2 := Lib.hid (hb.out.trans (((Below.refl (w.heap.size + 1 + 1) wr).drew).trans hb2))
        have HS2 := Lib.hid (Nat.le_trans hszr (show wr.heap.size ≤ w2.heap.size from hs2))
        have HST2 := Lib.hid hst2
        clear hb2 hs2 hst2 n0 a0 a1 a2 a3 a4
        go_wp2_with fail
        go_roundw
        case rel => exact ⟨k + 1, by omega, by go_num, HST2.out, HB2.out, HS2.out⟩
        case measure => simp [intOf]; omega
      · have hfull := fun nm => lookF_full (nl := nl) (ws := ws) (i := k) (by omega) nm
        have hF : lookF (nl.take k) (ws.take k) = lookF nl ws := funext hfull
        have hnb := (hb.out.block w.heap.size (by omega)).trans NB.out
        have hzb := (hb.out.block (w.heap.size + 1) (by omega)).trans ZB.out
        have n0 := cell_row hnb (i := 0) rfl
        have n1 := cell_row hnb (i := 1) rfl
        have n2 := cell_row hnb (i := 2) rfl
        have n3 := cell_row hnb (i := 3) rfl
        have n4 := cell_row hnb (i := 4) rfl
        have R := Lib.hid (replace_any wr (w.heap.size + 1 + 1) k nl ws hsw (by omega) t A cap wr (HL.out.later hBw) HF.out HSh.out (Below.refl _ _) (hst.out.base hBw))
        rw [hF] at R
        have HZ := Lib.hid hzb
        have HBw := Lib.hid hBw
        generalize subN (lookF nl ws) t = u at *
        clear hnb hzb hfull hF
        go_wp2_with fail
        refine R.out.mono ?_
        rintro e w1 ⟨A1, c1, rfl, hr, hFu, hb1⟩
        have hz := (hb1.block (w.heap.size + 1) (by omega)).trans HZ.out
        have z0 := cell_row hz (i := 0) rfl
        have z1 := cell_row hz (i := 1) rfl
        have z2 := cell_row hz (i := 2) rfl
        have z3 := cell_row hz (i := 3) rfl
        have z4 := cell_row hz (i := 4) rfl
        have f0 := frozen_of_row w1 (w.heap.size + 1) 0 _ _ hz
        have f1 := frozen_of_row w1 (w.heap.size + 1) 1 _ _ hz
        have f2 := frozen_of_row w1 (w.heap.size + 1) 2 _ _ hz
        have f3 := frozen_of_row w1 (w.heap.size + 1) 3 _ _ hz
        have f4 := frozen_of_row w1 (w.heap.size + 1) 4 _ _ hz
        have Hfin := Lib.hid (set5_same (.int .i64 u.op) (.int .i64 u.so) (.string u.nm) (.int .i64 u.nu) (.slice A1 u.ks.length c1) hz)
        have HR := Lib.hid (hr.set5 (b := w.heap.size + 1) (n1 := w.heap.size) (by omega) (by omega) (.int .i64 u.op) (.int .i64 u.so) (.string u.nm) (.int .i64 u.nu) (.slice A1 u.ks.length c1))
        have HB := Lib.hid (Below.set5 (HBw.out.trans (hb1.mono (by omega))) (b := w.heap.size + 1) (by omega) (.int .i64 u.op) (.int .i64 u.so) (.string u.nm) (.int .i64 u.nu) (.slice A1 u.ks.length c1))
        clear hr hb1 hz n0 n1 n2 n3 n4
        go_wp2_with fail
        have hf := Hfin.out
        have y0 := cell_row hf (i := 0) rfl
        have y1 := cell_row hf (i := 1) rfl
        have y2 := cell_row hf (i := 2) rfl
        have y3 := cell_row hf (i := 3) rfl
        have y4 := cell_row hf (i := 4) rfl
        refine bodyPost_ret (v := nv u.op u.so u.nm u.nu (.slice A1 u.ks.length c1)) ?_ rfl ⟨A1, c1, rfl, HR.out, hFu, HB.out⟩
        clear hf Hfin HR HB
        simp [results, Try.f38, go_sem, y0, y1, y2, y3, y4]
end Go.Proofs.Ytpjokapkoeclpaa
