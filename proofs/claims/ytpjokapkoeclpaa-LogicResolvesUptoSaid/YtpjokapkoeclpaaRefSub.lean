/-
  What the document's own SubstAll and Subst return; conditions: the trees lie in memory and none of their lists is too long to be grown.
-/
import Derived.Test.YtpjokapkoeclpaaSame
namespace Go.Proofs.Ytpjokapkoeclpaa
open Go.RowKit Go.Shelf

attribute [local go_sem] Oper.semAt_some
/-- A slice of a list's length holds strings. -/
def Strs (w : World) (SA : Option Addr) (sl : List ByteArray) : Prop := ∃ b o, (0 < sl.length → SA = some ⟨b, o, none⟩) ∧ ∀ i (hi : i < sl.length), w.cell? ⟨b, o + i, none⟩ = some (.string sl[i])
theorem Strs.later {w w' : World} {SA : Option Addr} {sl : List ByteArray} (h : Strs w SA sl) (hb : Below w.heap.size w w') : Strs w' SA sl := by
  obtain ⟨b, o, h1, h2⟩ := h
  exact ⟨b, o, h1, fun i hi => cellB hb (Nat.le_refl _) (h2 i hi)⟩

/-- What a name stands for: the first pair counts. -/
def lookF (nl : List ByteArray) (ws : List Nd) (nm : ByteArray) : Option Nd := ((nl.zip ws).find? fun p => p.1.toList == nm.toList).map Prod.snd
def subN (f : ByteArray → Option Nd) : Nd → Nd
  | .mk a b c d l => ((if a = 1 then f c else none).getD (.mk a b c d (l.attach.map fun k => subN f k.1)))
termination_by t => SizeOf.sizeOf t
decreasing_by
  have := List.sizeOf_lt_of_mem k.2
  simp only [Nd.mk.sizeOf_spec]
  omega
theorem subN_eq (f : ByteArray → Option Nd) (t : Nd) : subN f t = (if t.op = 1 then f t.nm else none).getD (.mk t.op t.so t.nm t.nu (t.ks.map (subN f))) := by
  cases t
  rw [subN]
  simp only [Nd.op, Nd.so, Nd.nm, Nd.nu, Nd.ks]
  rw [List.attach_map_val (f := subN f)]
  rfl
theorem subN_build {f : ByteArray → Option Nd} {t : Nd} (h : t.op = 1 → f t.nm = none) : subN f t = .mk t.op t.so t.nm t.nu (t.ks.map (subN f)) := by
  rw [subN_eq]
  split
  · rename_i h1; rw [h h1]; rfl
  · rfl
theorem subN_found {f : ByteArray → Option Nd} {t u : Nd} (h1 : t.op = 1) (h : f t.nm = some u) : subN f t = u := by
  rw [subN_eq, if_pos h1, h]; rfl

theorem lookF_none {nl : List ByteArray} {ws : List Nd} {nm : ByteArray} (h : ∀ j (h1 : j < nl.length), j < ws.length → nl[j].toList ≠ nm.toList) : lookF nl ws nm = none := by
  unfold lookF
  rw [Option.map_eq_none_iff, List.find?_eq_none]
  intro p hp
  obtain ⟨i, hi, rfl⟩ := List.getElem_of_mem hp
  rw [List.length_zip] at hi
  rw [List.getElem_zip, beq_iff_eq]
  exact h i (by omega) (by omega)
theorem lookF_some {nl : List ByteArray} {ws : List Nd} {nm : ByteArray} {i : Nat} (h1 : i < nl.length) (h2 : i < ws.length) (he : nl[i].toList = nm.toList) (h : ∀ j (h1 : j < nl.length), j < i → nl[j].toList ≠ nm.toList) : lookF nl ws nm = some ws[i] := by
  unfold lookF
  have hz : i < (nl.zip ws).length := by rw [List.length_zip]; omega
  have : (nl.zip ws).find? (fun p => p.1.toList == nm.toList) = some (nl.zip ws)[i] := by
    rw [List.find?_eq_some_iff_getElem]
    refine ⟨by rw [List.getElem_zip]; simpa using he, i, hz, rfl, fun j hj => ?_⟩
    rw [List.getElem_zip]
    simpa using h j (by omega) hj
  rw [this, List.getElem_zip]
  rfl

set_option maxRecDepth 100000 in
set_option maxHeartbeats 4000000 in
theorem refSubstAll_any (nl : List ByteArray) (ws : List Nd) (hsw : ∀ u ∈ ws, Short u) (NA WA : Option Addr) (ncap wcap : Nat) (hnl : nl.length ≤ maxLen) (t : Nd) : ∀ (A : Option Addr) (cap : Nat) (w : World), Lies w A cap t.ks → Fine t → Short t → Strs w NA nl → Lies w WA wcap ws →
    Calls Try.prog 39 #[nv t.op t.so t.nm t.nu (.slice A t.ks.length cap), .slice NA nl.length ncap, .slice WA ws.length wcap] w (RetN w (subN (lookF nl ws) t)) := by
  induction t using Nd.ind with
  | h t ih =>
  intro A cap w hL hfine hsh hS hW
  have HB1 : Below w.heap.size w (w.alloc (.cells #[.int .i64 t.op, .int .i64 t.so, .string t.nm, .int .i64 t.nu, .slice A t.ks.length cap] 24)) := (Below.refl _ _).alloc (Nat.le_refl _) _
  obtain ⟨i0, hi, hz0, hz1, hz2⟩ := info_parts info24
  have I0 := Lib.hid hi
  have Z0 := Lib.hid hz0
  have Z1 := Lib.hid hz1
  have Z2 := Lib.hid hz2
  clear hi hz0 hz1 hz2
  have hn := hL.len
  unfold maxLen at hn
  have HL := Lib.hid hL
  have IH := Lib.hid ih
  have HF := Lib.hid hfine
  have HSh := Lib.hid hsh
  have HS := Lib.hid hS
  have HW := Lib.hid hW
  clear hL ih hfine hsh hS hW
  have HB1 := Lib.hid HB1
  by_cases h1 : t.op = 1
  case neg =>
    have h1' : (t.op == 1) = false := by simpa using h1
    have hsub := Lib.hid (subN_build (f := lookF nl ws) (t := t) (fun e => absurd e h1))
    clear h1
    go_enter Try.func39, Try.ntmps39
    go_wp2_with fail
    have G0 : GInv w (w.heap.size + 1 + 1 + 1) (w.heap.size + 1 + 1) (w.heap.size + 1) t [] (((w.alloc (.cells #[.int .i64 t.op, .int .i64 t.so, .string t.nm, .int .i64 t.nu, .slice A t.ks.length cap] 24)).alloc (.cells zero5 24)).alloc (.cells #[.int .i64 t.op, .int .i64 t.so, .string t.nm, .int .i64 t.nu, .slice none 0 0] 24)) :=
      ⟨_, [], rfl, Grows.nil _ _, by have := heap_alloc_new ((w.alloc (.cells #[.int .i64 t.op, .int .i64 t.so, .string t.nm, .int .i64 t.nu, .slice A t.ks.length cap] 24)).alloc (.cells zero5 24)) (.cells #[.int .i64 t.op, .int .i64 t.so, .string t.nm, .int .i64 t.nu, .slice none 0 0] 24); rwa [World.size_alloc, World.size_alloc] at this, (((Below.refl _ _).alloc (Nat.le_refl _) _).block _ (by simp)).trans (by have := heap_alloc_new (w.alloc (.cells #[.int .i64 t.op, .int .i64 t.so, .string t.nm, .int .i64 t.nu, .slice A t.ks.length cap] 24)) (.cells zero5 24); rwa [World.size_alloc] at this), ((HB1.out.alloc (by simp) _).alloc (by simp; omega) _)⟩
    generalize (((w.alloc (.cells #[.int .i64 t.op, .int .i64 t.so, .string t.nm, .int .i64 t.nu, .slice A t.ks.length cap] 24)).alloc (.cells zero5 24)).alloc (.cells #[.int .i64 t.op, .int .i64 t.so, .string t.nm, .int .i64 t.nu, .slice none 0 0] 24)) = W0 at *
    go_loopw [51] (fun i wr => ∃ k : Nat, k ≤ t.ks.length ∧ i = .int .i64 k ∧ Hid (GInv w (w.heap.size + 1 + 1 + 1) (w.heap.size + 1 + 1) (w.heap.size + 1) t ((t.ks.take k).map (subN (lookF nl ws))) wr)) (fun i _ => t.ks.length - (intOf i).toNat)
    case atStart => exact ⟨0, Nat.zero_le _, rfl, G0⟩
    case round =>
      obtain ⟨k, hk, rfl, v, xs, hG⟩ := hrel
      have HG := Lib.hid hG
      have c4 := cell_row hG.rbox (i := 4) rfl
      have hBr := hG.below
      have hrbz := (Array.getElem?_eq_some_iff.1 hG.rbox).1
      have hlen : xs.length = k := by
        have := congrArg List.length hG.outs
        simpa [Nat.min_eq_left hk] using this
      clear hG
      by_cases hlt : k < t.ks.length
      · obtain ⟨b, o, A', C', rfl, g5, hK⟩ := HL.out.kid hlt
        have hFk := HL.out.fine hlt
        obtain ⟨a0, a1, a2, a3, a4⟩ := g5.later hBr
        have c := Lib.hid (fun w hL hS hW => IH.out k hlt A' C' w hL hFk (HSh.out.kid hlt) hS hW)
        have hK' := Lib.hid (hK.later hBr)
        have htk := Lib.hid (show (t.ks.take (k + 1)).map (subN (lookF nl ws)) = (t.ks.take k).map (subN (lookF nl ws)) ++ [subN (lookF nl ws) t.ks[k]] from by rw [List.take_succ_eq_append_getElem hlt, List.map_append]; rfl)
        have hsz := hBr.size
        have hself := HSh.out.self
        have HS' := Lib.hid (HS.out.later hBr)
        have HW' := Lib.hid (HW.out.later hBr)
        generalize subN (lookF nl ws) t.ks[k] = u at *
        generalize t.ks[k] = q at *
        clear g5 hK IH HL HS HW
        go_wp2_with fail
        refine (c.out _ (hK'.out.later ((Below.refl _ _).alloc (Nat.le_refl _) _)) (HS'.out.later ((Below.refl _ _).alloc (Nat.le_refl _) _)) (HW'.out.later ((Below.refl _ _).alloc (Nat.le_refl _) _))).mono ?_
        rintro e w2 ⟨A2, C2, rfl, hrob, hFu, hb2⟩
        have hb3 : Below wr.heap.size wr w2 := ((Below.refl _ _).alloc (Nat.le_refl _) _).trans (hb2.mono (by simp))
        have HG2 := Lib.hid (HG.out.later hb3)
        have hR : Rob (w.heap.size + 1 + 1 + 1) w2 v.ownBlock A2 C2 u.ks := hrob.newNone (fun g hg => by have := (HG.out.grows.row.lt g hg).2; simp; omega) (by simp; omega)
        have HR := Lib.hid hR
        have d4 := cell_row HG2.out.rbox (i := 4) rfl
        have hsz2 : w.heap.size + 1 + 1 + 1 ≤ w2.heap.size := by have := (Array.getElem?_eq_some_iff.1 HG2.out.rbox).1; omega
        have hsz3 : w.heap.size + 1 + 1 < w2.heap.size := by omega
        have SZ := Lib.hid (show ∀ O O', w.heap.size + 1 + 1 + 1 ≤ ((w2.alloc O).alloc O').heap.size from fun O O' => by rw [World.size_alloc, World.size_alloc]; omega)
        have NX := Lib.hid (fun O => news5 (w2.alloc O) (u, A2, C2) (w2.heap.size + 1) (by rw [World.size_alloc]))
        have BB := Lib.hid (show ∀ O O', Below w2.heap.size w2 ((w2.alloc O).alloc O') from fun O O' => ((Below.refl _ _).alloc (Nat.le_refl _) _).alloc (by rw [World.size_alloc]; omega) _)
        have HO := Lib.hid (fun O O' => ownsRow_below HG2.out.grows.row (BB.out O O'))
        have L1 := Lib.hid (show xs.length + 1 ≤ maxLen by unfold maxLen; omega)
        have L2 := Lib.hid (show (xs.length + 1) * 64 ≤ 140737488355328 by omega)
        clear hb2 hb3 hrob hR a0 a1 a2 a3 a4 c4 HG
        go_wp2_with (at_builtin; refine wpList_append_own_at _ rfl _ _ 22 rfl (w.heap.size + 1 + 1 + 1) 24 i0 _ 5 64 Try.underlying22 I0.out Z0.out Z1.out Z2.out rfl (by decide) v xs.length (flatN xs) rfl (HO.out _ _) ⟨w2.heap.size + 1, 0, none⟩ 1 1 (cells5 (u, A2, C2)) rfl rfl (NX.out _) (by simp [cells5, Value.oneCell']) L1.out L2.out (SZ.out _ _) ?_; intro v' w3 hown3 hgrow3 _ hor; obtain ⟨g3, cap3, rfl⟩ := ownsRow_succ hown3; have HST := Lib.hid ((HG2.out.later (BB.out _ _)).step (x := (u, A2, C2)) (by omega) (by omega) (by omega) (HR.out.later (BB.out _ _)) hFu hown3 hgrow3 hor); have hb := hgrow3.block (w.heap.size + 1 + 1) (Nat.lt_of_lt_of_le hsz3 (BB.out _ _).size) (fun e => absurd ((HG2.out.grows.row.lt _ e.symm).1) (by omega)); have hb' := hb.trans (((BB.out _ _).block _ hsz3).trans HG2.out.rbox); have e4 := cell_row hb' (i := 4) rfl; have f4 := frozen_of_row w3 (w.heap.size + 1 + 1) 4 _ _ hb'; clear hb hb' hown3 hgrow3 hor)
        go_roundw
        case rel => exact ⟨k + 1, by omega, by go_num, by rw [htk.out]; have := HST.out; rw [hlen] at this; exact ⟨_, _, this⟩⟩
        case measure => simp [intOf]; omega
      · have hG := HG.out
        obtain ⟨A3, cap3, rfl, hrob⟩ := hG.grows.rob (by unfold maxLen; omega)
        have hr := hG.rbox
        have b0 := cell_row hr (i := 0) rfl
        have b1 := cell_row hr (i := 1) rfl
        have b2 := cell_row hr (i := 2) rfl
        have b3 := cell_row hr (i := 3) rfl
        have hz := hG.zbox
        have z0 := cell_row hz (i := 0) rfl
        have z1 := cell_row hz (i := 1) rfl
        have z2 := cell_row hz (i := 2) rfl
        have z3 := cell_row hz (i := 3) rfl
        have z4 := cell_row hz (i := 4) rfl
        have f0 := frozen_of_row wr (w.heap.size + 1) 0 _ _ hz
        have f1 := frozen_of_row wr (w.heap.size + 1) 1 _ _ hz
        have f2 := frozen_of_row wr (w.heap.size + 1) 2 _ _ hz
        have f3 := frozen_of_row wr (w.heap.size + 1) 3 _ _ hz
        have f4 := frozen_of_row wr (w.heap.size + 1) 4 _ _ hz
        have hfin := set5_same (.int .i64 t.op) (.int .i64 t.so) (.string t.nm) (.int .i64 t.nu) (.slice A3 k cap3) hz
        have hk' : t.ks.length = k := by omega
        have houts : xs.map (·.1) = t.ks.map (subN (lookF nl ws)) := hG.outs.trans (by rw [List.take_of_length_le (by omega)])
        have HRob := Lib.hid hrob
        have Hfin := Lib.hid hfin
        clear hr hz hG hrob hfin
        go_wp2_with fail
        have hf := Hfin.out
        have y0 := cell_row hf (i := 0) rfl
        have y1 := cell_row hf (i := 1) rfl
        have y2 := cell_row hf (i := 2) rfl
        have y3 := cell_row hf (i := 3) rfl
        have y4 := cell_row hf (i := 4) rfl
        rw [hsub.out]
        refine bodyPost_ret (v := nv t.op t.so t.nm t.nu (.slice A3 k cap3)) ?_ rfl ⟨A3, cap3, by show Ending.returned (nv t.op t.so t.nm t.nu (.slice A3 k cap3)) = .returned (nv t.op t.so t.nm t.nu (.slice A3 (t.ks.map (subN (lookF nl ws))).length cap3)); rw [List.length_map, hk'], ?_, ⟨HF.out.nm, HF.out.op, HF.out.so, HF.out.nu⟩, Below.set5 hBr (by omega) _ _ _ _ _⟩
        · clear hf Hfin HRob
          simp [results, Try.f39, go_sem, y0, y1, y2, y3, y4]
        · have := HRob.out
          rw [houts] at this
          exact this.set5 (by omega) (by omega) _ _ _ _ _
  case pos =>
    have h1' : (t.op == 1) = true := by simpa using h1
    have H1 := Lib.hid h1
    clear h1
    go_enter Try.func39, Try.ntmps39
    go_wp2_with fail
    have Z1b := Lib.hid (show ((w.alloc (.cells #[.int .i64 t.op, .int .i64 t.so, .string t.nm, .int .i64 t.nu, .slice A t.ks.length cap] 24)).alloc (.cells zero5 24)).heap[w.heap.size + 1]? = some (.cells zero5 24 (0, 0)) from by have := heap_alloc_new (w.alloc (.cells #[.int .i64 t.op, .int .i64 t.so, .string t.nm, .int .i64 t.nu, .slice A t.ks.length cap] 24)) (.cells zero5 24); rwa [World.size_alloc] at this)
    have B2 := Lib.hid (show Below w.heap.size w ((w.alloc (.cells #[.int .i64 t.op, .int .i64 t.so, .string t.nm, .int .i64 t.nu, .slice A t.ks.length cap] 24)).alloc (.cells zero5 24)) from HB1.out.alloc (by simp) _)
    have S2 := Lib.hid (show ((w.alloc (.cells #[.int .i64 t.op, .int .i64 t.so, .string t.nm, .int .i64 t.nu, .slice A t.ks.length cap] 24)).alloc (.cells zero5 24)).heap.size = w.heap.size + 1 + 1 by simp)
    have F5 := Lib.hid ((five_new w t (.slice A t.ks.length cap) 24).later ((Below.refl _ _).alloc (Nat.le_refl _) (.cells zero5 24)))
    generalize ((w.alloc (.cells #[.int .i64 t.op, .int .i64 t.so, .string t.nm, .int .i64 t.nu, .slice A t.ks.length cap] 24)).alloc (.cells zero5 24)) = W0 at *
    go_loopw [7] (fun i wr => ∃ j : Nat, i = .int .i64 j ∧ j ≤ nl.length ∧ j ≤ ws.length ∧ Hid (∀ m (h : m < nl.length), m < j → nl[m].toList ≠ t.nm.toList) ∧ Hid (Below W0.heap.size W0 wr)) (fun i _ => nl.length - (intOf i).toNat)
    case atStart => exact ⟨0, rfl, Nat.zero_le _, Nat.zero_le _, fun m _ hm => absurd hm (by omega), Lib.hid (Below.refl _ _)⟩
    case round =>
      obtain ⟨j, rfl, hj1, hj2, hno, hbx⟩ := hrel
      have hwn := HW.out.len
      unfold maxLen at hwn hnl
      have hBw := B2.out.trans (hbx.out.mono B2.out.size)
      have HBw := Lib.hid hBw
      have hs2 := S2.out
      have hszq := hbx.out.size
      by_cases hl1 : j < nl.length
      · by_cases hl2 : j < ws.length
        · obtain ⟨sb, so, hsa, hsc⟩ := HS.out.later hBw
          obtain rfl := hsa (by omega)
          have n0 := hsc j hl1
          obtain ⟨b, o, A', C', rfl, g5, hK⟩ := HW.out.kid hl2
          have hFk := HW.out.fine hl2
          have hshk := hsw _ (List.getElem_mem hl2)
          have m2 := (F5.out.later hbx.out).c2
          have hsome := Lib.hid (fun (e : nl[j].toList = t.nm.toList) => subN_found (f := lookF nl ws) H1.out (lookF_some hl1 hl2 e (fun m hm hmj => hno.out m hm hmj)))
          have hnx := Lib.hid (fun (e : nl[j].toList ≠ t.nm.toList) => (show Hid (∀ m (h : m < nl.length), m < j + 1 → nl[m].toList ≠ t.nm.toList) from fun m hm hmj => by
            by_cases e' : m = j
            · subst e'; exact e
            · exact hno.out m hm (by omega)))
          obtain ⟨a0, a1, a2, a3, a4⟩ := g5.later hBw
          have hK' := Lib.hid (hK.later hBw)
          have hz := (hbx.out.block (w.heap.size + 1) (by omega)).trans Z1b.out
          have HZ := Lib.hid hz
          generalize nl[j] = na at *
          generalize ws[j] = q at *
          clear hsc g5 hK hno hsa IH hz
          cases he : na.toList == t.nm.toList
          case true =>
            have hsub := Lib.hid (hsome.out (by simpa using he))
            clear hsome hnx
            go_wp2_with fail
            go_quiet (fail)
            go_wp2_with fail
            refine (same_any q _ _ _ (hK'.out.later (below_drewN (Below.refl _ _) _)) hFk hshk).mono ?_
            rintro e w2 ⟨A2, C2, rfl, hrob, hFu, hb2⟩
            have hb3 : Below wr.heap.size wr w2 := (below_drewN (Below.refl _ _) _).trans (hb2.mono (by simp))
            have hz := (hb3.block (w.heap.size + 1) (by omega)).trans HZ.out
            have z0 := cell_row hz (i := 0) rfl
            have z1 := cell_row hz (i := 1) rfl
            have z2 := cell_row hz (i := 2) rfl
            have z3 := cell_row hz (i := 3) rfl
            have z4 := cell_row hz (i := 4) rfl
            have f0 := frozen_of_row w2 (w.heap.size + 1) 0 _ _ hz
            have f1 := frozen_of_row w2 (w.heap.size + 1) 1 _ _ hz
            have f2 := frozen_of_row w2 (w.heap.size + 1) 2 _ _ hz
            have f3 := frozen_of_row w2 (w.heap.size + 1) 3 _ _ hz
            have f4 := frozen_of_row w2 (w.heap.size + 1) 4 _ _ hz
            have Hfin := Lib.hid (set5_same (.int .i64 q.op) (.int .i64 q.so) (.string q.nm) (.int .i64 q.nu) (.slice A2 q.ks.length C2) hz)
            have HR := Lib.hid (show Rob w.heap.size (set5 w2 (w.heap.size + 1) (.int .i64 q.op) (.int .i64 q.so) (.string q.nm) (.int .i64 q.nu) (.slice A2 q.ks.length C2)) none A2 C2 q.ks from hrob.set5 (by simp; omega) (by simp; omega) _ _ _ _ _)
            have HB := Lib.hid (HBw.out.trans (hb3.mono (by omega)))
            clear hb2 hb3 hrob hz n0 a0 a1 a2 a3 a4 m2
            go_wp2_with fail
            have hf := Hfin.out
            have y0 := cell_row hf (i := 0) rfl
            have y1 := cell_row hf (i := 1) rfl
            have y2 := cell_row hf (i := 2) rfl
            have y3 := cell_row hf (i := 3) rfl
            have y4 := cell_row hf (i := 4) rfl
            rw [hsub.out]
            refine bodyPost_ret (v := nv q.op q.so q.nm q.nu (.slice A2 q.ks.length C2)) ?_ rfl ⟨A2, C2, rfl, HR.out, hFu, Below.set5 HB.out (by omega) _ _ _ _ _⟩
            clear hf Hfin HR
            simp [results, Try.f39, go_sem, y0, y1, y2, y3, y4]
          case false =>
            have Hnx := hnx.out (by simpa using he)
            clear hsome hnx
            go_wp2_with fail
            go_quiet (fail)
            go_wp2_with fail
            go_roundw
            case rel => exact ⟨j + 1, by go_num, by omega, by omega, Hnx, Lib.hid (below_drewN hbx.out _)⟩
            case measure => simp [intOf]; omega
        · have hsub := Lib.hid (subN_build (f := lookF nl ws) (t := t) (fun _ => lookF_none (fun m h1 h2 => hno.out m h1 (by omega))))
          obtain ⟨m0, m1, m2, m3, m4⟩ := F5.out.later hbx.out
          have hz := (hbx.out.block (w.heap.size + 1) (by omega)).trans Z1b.out
          have G0 : GInv w (wr.heap.size + 1) wr.heap.size (w.heap.size + 1) t [] (wr.alloc (.cells #[.int .i64 t.op, .int .i64 t.so, .string t.nm, .int .i64 t.nu, .slice none 0 0] 24)) :=
            ⟨_, [], rfl, Grows.nil _ _, heap_alloc_new wr (.cells #[.int .i64 t.op, .int .i64 t.so, .string t.nm, .int .i64 t.nu, .slice none 0 0] 24), (((Below.refl _ _).alloc (Nat.le_refl _) _).block _ (by omega)).trans hz, hBw.alloc (by omega) _⟩
          have G0 := Lib.hid G0
          have hlt0 : w.heap.size < wr.heap.size := by omega
          clear hz hno
          go_wp2_with fail
          have G0 := G0.out
          generalize wr = wq at *
          generalize wq.alloc (.cells #[.int .i64 t.op, .int .i64 t.so, .string t.nm, .int .i64 t.nu, .slice none 0 0] 24) = W3 at *
          clear m0 m1 m2 m3 m4
          go_loopw [51] (fun i wr => ∃ k : Nat, k ≤ t.ks.length ∧ i = .int .i64 k ∧ Hid (GInv w (wq.heap.size + 1) wq.heap.size (w.heap.size + 1) t ((t.ks.take k).map (subN (lookF nl ws))) wr)) (fun i _ => t.ks.length - (intOf i).toNat)
          case atStart => exact ⟨0, Nat.zero_le _, rfl, G0⟩
          case round =>
            obtain ⟨k, hk, rfl, v, xs, hG⟩ := hrel
            have HG := Lib.hid hG
            have c4 := cell_row hG.rbox (i := 4) rfl
            have hBr := hG.below
            have hrbz := (Array.getElem?_eq_some_iff.1 hG.rbox).1
            have hlen : xs.length = k := by
              have := congrArg List.length hG.outs
              simpa [Nat.min_eq_left hk] using this
            clear hG
            by_cases hlt : k < t.ks.length
            · obtain ⟨b, o, A', C', rfl, g5, hK⟩ := HL.out.kid hlt
              have hFk := HL.out.fine hlt
              obtain ⟨a0, a1, a2, a3, a4⟩ := g5.later hBr
              have c := Lib.hid (fun w hL hS hW => IH.out k hlt A' C' w hL hFk (HSh.out.kid hlt) hS hW)
              have hK' := Lib.hid (hK.later hBr)
              have htk := Lib.hid (show (t.ks.take (k + 1)).map (subN (lookF nl ws)) = (t.ks.take k).map (subN (lookF nl ws)) ++ [subN (lookF nl ws) t.ks[k]] from by rw [List.take_succ_eq_append_getElem hlt, List.map_append]; rfl)
              have hsz := hBr.size
              have hself := HSh.out.self
              have HS' := Lib.hid (HS.out.later hBr)
              have HW' := Lib.hid (HW.out.later hBr)
              generalize subN (lookF nl ws) t.ks[k] = u at *
              generalize t.ks[k] = q at *
              clear g5 hK IH HL HS HW
              go_wp2_with fail
              refine (c.out _ (hK'.out.later ((Below.refl _ _).alloc (Nat.le_refl _) _)) (HS'.out.later ((Below.refl _ _).alloc (Nat.le_refl _) _)) (HW'.out.later ((Below.refl _ _).alloc (Nat.le_refl _) _))).mono ?_
              rintro e w2 ⟨A2, C2, rfl, hrob, hFu, hb2⟩
              have hb3 : Below wr.heap.size wr w2 := ((Below.refl _ _).alloc (Nat.le_refl _) _).trans (hb2.mono (by simp))
              have HG2 := Lib.hid (HG.out.later hb3)
              have hR : Rob (wq.heap.size + 1) w2 v.ownBlock A2 C2 u.ks := hrob.newNone (fun g hg => by have := (HG.out.grows.row.lt g hg).2; simp; omega) (by simp; omega)
              have HR := Lib.hid hR
              have d4 := cell_row HG2.out.rbox (i := 4) rfl
              have hsz2 : wq.heap.size + 1 ≤ w2.heap.size := by have := (Array.getElem?_eq_some_iff.1 HG2.out.rbox).1; omega
              have hsz3 : wq.heap.size < w2.heap.size := by omega
              have SZ := Lib.hid (show ∀ O O', wq.heap.size + 1 ≤ ((w2.alloc O).alloc O').heap.size from fun O O' => by rw [World.size_alloc, World.size_alloc]; omega)
              have NX := Lib.hid (fun O => news5 (w2.alloc O) (u, A2, C2) (w2.heap.size + 1) (by rw [World.size_alloc]))
              have BB := Lib.hid (show ∀ O O', Below w2.heap.size w2 ((w2.alloc O).alloc O') from fun O O' => ((Below.refl _ _).alloc (Nat.le_refl _) _).alloc (by rw [World.size_alloc]; omega) _)
              have HO := Lib.hid (fun O O' => ownsRow_below HG2.out.grows.row (BB.out O O'))
              have L1 := Lib.hid (show xs.length + 1 ≤ maxLen by unfold maxLen; omega)
              have L2 := Lib.hid (show (xs.length + 1) * 64 ≤ 140737488355328 by omega)
              clear hb2 hb3 hrob hR a0 a1 a2 a3 a4 c4 HG
              go_wp2_with (at_builtin; refine wpList_append_own_at _ rfl _ _ 22 rfl (wq.heap.size + 1) 24 i0 _ 5 64 Try.underlying22 I0.out Z0.out Z1.out Z2.out rfl (by decide) v xs.length (flatN xs) rfl (HO.out _ _) ⟨w2.heap.size + 1, 0, none⟩ 1 1 (cells5 (u, A2, C2)) rfl rfl (NX.out _) (by simp [cells5, Value.oneCell']) L1.out L2.out (SZ.out _ _) ?_; intro v' w3 hown3 hgrow3 _ hor; obtain ⟨g3, cap3, rfl⟩ := ownsRow_succ hown3; have HST := Lib.hid ((HG2.out.later (BB.out _ _)).step (x := (u, A2, C2)) (by omega) (by omega) (by omega) (HR.out.later (BB.out _ _)) hFu hown3 hgrow3 hor); have hb := hgrow3.block wq.heap.size (Nat.lt_of_lt_of_le hsz3 (BB.out _ _).size) (fun e => absurd ((HG2.out.grows.row.lt _ e.symm).1) (by omega)); have hb' := hb.trans (((BB.out _ _).block _ hsz3).trans HG2.out.rbox); have e4 := cell_row hb' (i := 4) rfl; have f4 := frozen_of_row w3 wq.heap.size 4 _ _ hb'; clear hb hb' hown3 hgrow3 hor)
              go_roundw
              case rel => exact ⟨k + 1, by omega, by go_num, by rw [htk.out]; have := HST.out; rw [hlen] at this; exact ⟨_, _, this⟩⟩
              case measure => simp [intOf]; omega
            · have hG := HG.out
              obtain ⟨A3, cap3, rfl, hrob⟩ := hG.grows.rob (by unfold maxLen; omega)
              have hr := hG.rbox
              have b0 := cell_row hr (i := 0) rfl
              have b1 := cell_row hr (i := 1) rfl
              have b2 := cell_row hr (i := 2) rfl
              have b3 := cell_row hr (i := 3) rfl
              have hz := hG.zbox
              have z0 := cell_row hz (i := 0) rfl
              have z1 := cell_row hz (i := 1) rfl
              have z2 := cell_row hz (i := 2) rfl
              have z3 := cell_row hz (i := 3) rfl
              have z4 := cell_row hz (i := 4) rfl
              have f0 := frozen_of_row wr (w.heap.size + 1) 0 _ _ hz
              have f1 := frozen_of_row wr (w.heap.size + 1) 1 _ _ hz
              have f2 := frozen_of_row wr (w.heap.size + 1) 2 _ _ hz
              have f3 := frozen_of_row wr (w.heap.size + 1) 3 _ _ hz
              have f4 := frozen_of_row wr (w.heap.size + 1) 4 _ _ hz
              have hfin := set5_same (.int .i64 t.op) (.int .i64 t.so) (.string t.nm) (.int .i64 t.nu) (.slice A3 k cap3) hz
              have hk' : t.ks.length = k := by omega
              have houts : xs.map (·.1) = t.ks.map (subN (lookF nl ws)) := hG.outs.trans (by rw [List.take_of_length_le (by omega)])
              have HRob := Lib.hid hrob
              have Hfin := Lib.hid hfin
              clear hr hz hG hrob hfin
              go_wp2_with fail
              have hf := Hfin.out
              have y0 := cell_row hf (i := 0) rfl
              have y1 := cell_row hf (i := 1) rfl
              have y2 := cell_row hf (i := 2) rfl
              have y3 := cell_row hf (i := 3) rfl
              have y4 := cell_row hf (i := 4) rfl
              rw [hsub.out]
              refine bodyPost_ret (v := nv t.op t.so t.nm t.nu (.slice A3 k cap3)) ?_ rfl ⟨A3, cap3, by show Ending.returned (nv t.op t.so t.nm t.nu (.slice A3 k cap3)) = .returned (nv t.op t.so t.nm t.nu (.slice A3 (t.ks.map (subN (lookF nl ws))).length cap3)); rw [List.length_map, hk'], ?_, ⟨HF.out.nm, HF.out.op, HF.out.so, HF.out.nu⟩, Below.set5 hBr (by omega) _ _ _ _ _⟩
              · clear hf Hfin HRob
                simp [results, Try.f39, go_sem, y0, y1, y2, y3, y4]
              · have := HRob.out
                rw [houts] at this
                exact this.set5 (by omega) (by omega) _ _ _ _ _
      · have hsub := Lib.hid (subN_build (f := lookF nl ws) (t := t) (fun _ => lookF_none (fun m h1 h2 => hno.out m h1 (by omega))))
        obtain ⟨m0, m1, m2, m3, m4⟩ := F5.out.later hbx.out
        have hz := (hbx.out.block (w.heap.size + 1) (by omega)).trans Z1b.out
        have G0 : GInv w (wr.heap.size + 1) wr.heap.size (w.heap.size + 1) t [] (wr.alloc (.cells #[.int .i64 t.op, .int .i64 t.so, .string t.nm, .int .i64 t.nu, .slice none 0 0] 24)) :=
          ⟨_, [], rfl, Grows.nil _ _, heap_alloc_new wr (.cells #[.int .i64 t.op, .int .i64 t.so, .string t.nm, .int .i64 t.nu, .slice none 0 0] 24), (((Below.refl _ _).alloc (Nat.le_refl _) _).block _ (by omega)).trans hz, hBw.alloc (by omega) _⟩
        have G0 := Lib.hid G0
        have hlt0 : w.heap.size < wr.heap.size := by omega
        clear hz hno
        go_wp2_with fail
        have G0 := G0.out
        generalize wr = wq at *
        generalize wq.alloc (.cells #[.int .i64 t.op, .int .i64 t.so, .string t.nm, .int .i64 t.nu, .slice none 0 0] 24) = W3 at *
        clear m0 m1 m2 m3 m4
        go_loopw [51] (fun i wr => ∃ k : Nat, k ≤ t.ks.length ∧ i = .int .i64 k ∧ Hid (GInv w (wq.heap.size + 1) wq.heap.size (w.heap.size + 1) t ((t.ks.take k).map (subN (lookF nl ws))) wr)) (fun i _ => t.ks.length - (intOf i).toNat)
        case atStart => exact ⟨0, Nat.zero_le _, rfl, G0⟩
        case round =>
          obtain ⟨k, hk, rfl, v, xs, hG⟩ := hrel
          have HG := Lib.hid hG
          have c4 := cell_row hG.rbox (i := 4) rfl
          have hBr := hG.below
          have hrbz := (Array.getElem?_eq_some_iff.1 hG.rbox).1
          have hlen : xs.length = k := by
            have := congrArg List.length hG.outs
            simpa [Nat.min_eq_left hk] using this
          clear hG
          by_cases hlt : k < t.ks.length
          · obtain ⟨b, o, A', C', rfl, g5, hK⟩ := HL.out.kid hlt
            have hFk := HL.out.fine hlt
            obtain ⟨a0, a1, a2, a3, a4⟩ := g5.later hBr
            have c := Lib.hid (fun w hL hS hW => IH.out k hlt A' C' w hL hFk (HSh.out.kid hlt) hS hW)
            have hK' := Lib.hid (hK.later hBr)
            have htk := Lib.hid (show (t.ks.take (k + 1)).map (subN (lookF nl ws)) = (t.ks.take k).map (subN (lookF nl ws)) ++ [subN (lookF nl ws) t.ks[k]] from by rw [List.take_succ_eq_append_getElem hlt, List.map_append]; rfl)
            have hsz := hBr.size
            have hself := HSh.out.self
            have HS' := Lib.hid (HS.out.later hBr)
            have HW' := Lib.hid (HW.out.later hBr)
            generalize subN (lookF nl ws) t.ks[k] = u at *
            generalize t.ks[k] = q at *
            clear g5 hK IH HL HS HW
            go_wp2_with fail
            refine (c.out _ (hK'.out.later ((Below.refl _ _).alloc (Nat.le_refl _) _)) (HS'.out.later ((Below.refl _ _).alloc (Nat.le_refl _) _)) (HW'.out.later ((Below.refl _ _).alloc (Nat.le_refl _) _))).mono ?_
            rintro e w2 ⟨A2, C2, rfl, hrob, hFu, hb2⟩
            have hb3 : Below wr.heap.size wr w2 := ((Below.refl _ _).alloc (Nat.le_refl _) _).trans (hb2.mono (by simp))
            have HG2 := Lib.hid (HG.out.later hb3)
            have hR : Rob (wq.heap.size + 1) w2 v.ownBlock A2 C2 u.ks := hrob.newNone (fun g hg => by have := (HG.out.grows.row.lt g hg).2; simp; omega) (by simp; omega)
            have HR := Lib.hid hR
            have d4 := cell_row HG2.out.rbox (i := 4) rfl
            have hsz2 : wq.heap.size + 1 ≤ w2.heap.size := by have := (Array.getElem?_eq_some_iff.1 HG2.out.rbox).1; omega
            have hsz3 : wq.heap.size < w2.heap.size := by omega
            have SZ := Lib.hid (show ∀ O O', wq.heap.size + 1 ≤ ((w2.alloc O).alloc O').heap.size from fun O O' => by rw [World.size_alloc, World.size_alloc]; omega)
            have NX := Lib.hid (fun O => news5 (w2.alloc O) (u, A2, C2) (w2.heap.size + 1) (by rw [World.size_alloc]))
            have BB := Lib.hid (show ∀ O O', Below w2.heap.size w2 ((w2.alloc O).alloc O') from fun O O' => ((Below.refl _ _).alloc (Nat.le_refl _) _).alloc (by rw [World.size_alloc]; omega) _)
            have HO := Lib.hid (fun O O' => ownsRow_below HG2.out.grows.row (BB.out O O'))
            have L1 := Lib.hid (show xs.length + 1 ≤ maxLen by unfold maxLen; omega)
            have L2 := Lib.hid (show (xs.length + 1) * 64 ≤ 140737488355328 by omega)
            clear hb2 hb3 hrob hR a0 a1 a2 a3 a4 c4 HG
            go_wp2_with (at_builtin; refine wpList_append_own_at _ rfl _ _ 22 rfl (wq.heap.size + 1) 24 i0 _ 5 64 Try.underlying22 I0.out Z0.out Z1.out Z2.out rfl (by decide) v xs.length (flatN xs) rfl (HO.out _ _) ⟨w2.heap.size + 1, 0, none⟩ 1 1 (cells5 (u, A2, C2)) rfl rfl (NX.out _) (by simp [cells5, Value.oneCell']) L1.out L2.out (SZ.out _ _) ?_; intro v' w3 hown3 hgrow3 _ hor; obtain ⟨g3, cap3, rfl⟩ := ownsRow_succ hown3; have HST := Lib.hid ((HG2.out.later (BB.out _ _)).step (x := (u, A2, C2)) (by omega) (by omega) (by omega) (HR.out.later (BB.out _ _)) hFu hown3 hgrow3 hor); have hb := hgrow3.block wq.heap.size (Nat.lt_of_lt_of_le hsz3 (BB.out _ _).size) (fun e => absurd ((HG2.out.grows.row.lt _ e.symm).1) (by omega)); have hb' := hb.trans (((BB.out _ _).block _ hsz3).trans HG2.out.rbox); have e4 := cell_row hb' (i := 4) rfl; have f4 := frozen_of_row w3 wq.heap.size 4 _ _ hb'; clear hb hb' hown3 hgrow3 hor)
            go_roundw
            case rel => exact ⟨k + 1, by omega, by go_num, by rw [htk.out]; have := HST.out; rw [hlen] at this; exact ⟨_, _, this⟩⟩
            case measure => simp [intOf]; omega
          · have hG := HG.out
            obtain ⟨A3, cap3, rfl, hrob⟩ := hG.grows.rob (by unfold maxLen; omega)
            have hr := hG.rbox
            have b0 := cell_row hr (i := 0) rfl
            have b1 := cell_row hr (i := 1) rfl
            have b2 := cell_row hr (i := 2) rfl
            have b3 := cell_row hr (i := 3) rfl
            have hz := hG.zbox
            have z0 := cell_row hz (i := 0) rfl
            have z1 := cell_row hz (i := 1) rfl
            have z2 := cell_row hz (i := 2) rfl
            have z3 := cell_row hz (i := 3) rfl
            have z4 := cell_row hz (i := 4) rfl
            have f0 := frozen_of_row wr (w.heap.size + 1) 0 _ _ hz
            have f1 := frozen_of_row wr (w.heap.size + 1) 1 _ _ hz
            have f2 := frozen_of_row wr (w.heap.size + 1) 2 _ _ hz
            have f3 := frozen_of_row wr (w.heap.size + 1) 3 _ _ hz
            have f4 := frozen_of_row wr (w.heap.size + 1) 4 _ _ hz
            have hfin := set5_same (.int .i64 t.op) (.int .i64 t.so) (.string t.nm) (.int .i64 t.nu) (.slice A3 k cap3) hz
            have hk' : t.ks.length = k := by omega
            have houts : xs.map (·.1) = t.ks.map (subN (lookF nl ws)) := hG.outs.trans (by rw [List.take_of_length_le (by omega)])
            have HRob := Lib.hid hrob
            have Hfin := Lib.hid hfin
            clear hr hz hG hrob hfin
            go_wp2_with fail
            have hf := Hfin.out
            have y0 := cell_row hf (i := 0) rfl
            have y1 := cell_row hf (i := 1) rfl
            have y2 := cell_row hf (i := 2) rfl
            have y3 := cell_row hf (i := 3) rfl
            have y4 := cell_row hf (i := 4) rfl
            rw [hsub.out]
            refine bodyPost_ret (v := nv t.op t.so t.nm t.nu (.slice A3 k cap3)) ?_ rfl ⟨A3, cap3, by show Ending.returned (nv t.op t.so t.nm t.nu (.slice A3 k cap3)) = .returned (nv t.op t.so t.nm t.nu (.slice A3 (t.ks.map (subN (lookF nl ws))).length cap3)); rw [List.length_map, hk'], ?_, ⟨HF.out.nm, HF.out.op, HF.out.so, HF.out.nu⟩, Below.set5 hBr (by omega) _ _ _ _ _⟩
            · clear hf Hfin HRob
              simp [results, Try.f39, go_sem, y0, y1, y2, y3, y4]
            · have := HRob.out
              rw [houts] at this
              exact this.set5 (by omega) (by omega) _ _ _ _ _
end Go.Proofs.Ytpjokapkoeclpaa
