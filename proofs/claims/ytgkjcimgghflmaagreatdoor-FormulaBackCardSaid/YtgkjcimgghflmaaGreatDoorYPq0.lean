/-
  What the program's tables answer when they are asked by a text: signAt, operator and wordAt; conditions: the tables hold what the program's text lays.
-/
import Derived.IntWalk
import Derived.Test.YtgkjcimgghflmaaGreatDoorYTxt
import Derived.Test.YtgkjcimgghflmaaGreatDoorYTok
namespace Go.Proofs.YtgkjcimgghflmaaGreatDoor
open Go.RowKit Go.Shelf
set_option maxHeartbeats 400000 in
theorem pLetter_any (c : Int) (w : World) : Calls Tryz.prog 104 #[.int .u8 c] w fun e w' => e = .returned (.bool (letB c)) ∧ w = w' := by
  have hb : ∀ b, letB c = b ↔ decide (97 ≤ c ∧ c ≤ 122 ∨ 65 ≤ c ∧ c ≤ 90) = b := fun b => Iff.rfl
  generalize letB c = B at *
  by_cases h1 : 97 ≤ c
  · by_cases h2 : c ≤ 122
    · obtain rfl : B = true := (hb _).2 (by simp; omega)
      clear hb
      go_enter Tryz.func104, Tryz.ntmps104
      go_wp2
      go_ret
      exact ⟨rfl, rfl⟩
    · obtain rfl : B = false := (hb _).2 (by simp; omega)
      clear hb
      have h3 : 65 ≤ c := by omega
      have h4 : ¬ c ≤ 90 := by omega
      go_enter Tryz.func104, Tryz.ntmps104
      go_wp2
      go_ret
      exact ⟨rfl, rfl⟩
  · by_cases h3 : 65 ≤ c
    · by_cases h4 : c ≤ 90
      · obtain rfl : B = true := (hb _).2 (by simp; omega)
        clear hb
        go_enter Tryz.func104, Tryz.ntmps104
        go_wp2
        go_ret
        exact ⟨rfl, rfl⟩
      · obtain rfl : B = false := (hb _).2 (by simp; omega)
        clear hb
        go_enter Tryz.func104, Tryz.ntmps104
        go_wp2
        go_ret
        exact ⟨rfl, rfl⟩
    · obtain rfl : B = false := (hb _).2 (by simp; omega)
      clear hb
      go_enter Tryz.func104, Tryz.ntmps104
      go_wp2
      go_ret
      exact ⟨rfl, rfl⟩
set_option maxHeartbeats 400000 in
theorem pDigit_any (c : Int) (w : World) : Calls Tryz.prog 107 #[.int .u8 c] w fun e w' => e = .returned (.bool (digB c)) ∧ w = w' := by
  have hb : ∀ b, digB c = b ↔ decide (48 ≤ c ∧ c ≤ 57) = b := fun b => Iff.rfl
  generalize digB c = B at *
  by_cases h1 : 48 ≤ c
  · by_cases h2 : c ≤ 57
    · obtain rfl : B = true := (hb _).2 (by simp; omega)
      clear hb
      go_enter Tryz.func107, Tryz.ntmps107
      go_wp2
      go_ret
      exact ⟨rfl, rfl⟩
    · obtain rfl : B = false := (hb _).2 (by simp; omega)
      clear hb
      go_enter Tryz.func107, Tryz.ntmps107
      go_wp2
      go_ret
      exact ⟨rfl, rfl⟩
  · obtain rfl : B = false := (hb _).2 (by simp; omega)
    clear hb
    go_enter Tryz.func107, Tryz.ntmps107
    go_wp2
    go_ret
    exact ⟨rfl, rfl⟩
set_option maxHeartbeats 400000 in
theorem pName_any (c : Int) (w : World) : Calls Tryz.prog 106 #[.int .u8 c] w fun e w' => e = .returned (.bool (okC c)) ∧ w = w' := by
  have hv : okC c = (letB c || (digB c || c == 46)) := rfl
  cases h1 : letB c
  case true =>
    have e := Lib.hid (show okC c = true by rw [hv, h1]; rfl)
    have c1 := pLetter_any c w
    rw [h1] at c1
    clear hv h1
    go_enter Tryz.func106, Tryz.ntmps106
    go_wp2_with fail
    refine c1.mono ?_
    rintro e w1 ⟨rfl, rfl⟩
    go_wp2_with fail
    go_ret
    exact ⟨by rw [e.out]; rfl, rfl⟩
  have c1 := pLetter_any c w
  rw [h1] at c1
  have c2 := pDigit_any c w
  cases h2 : digB c
  case true =>
    have e := Lib.hid (show okC c = true by rw [hv, h1, h2]; rfl)
    rw [h2] at c2
    clear hv h1 h2
    go_enter Tryz.func106, Tryz.ntmps106
    go_wp2_with fail
    refine c1.mono ?_
    rintro e w1 ⟨rfl, rfl⟩
    go_wp2_with fail
    refine c2.mono ?_
    rintro e w1 ⟨rfl, rfl⟩
    go_wp2_with fail
    go_ret
    exact ⟨by rw [e.out]; rfl, rfl⟩
  rw [h2] at c2
  have e := Lib.hid (show okC c = (c == 46) by rw [hv, h1, h2]; rfl)
  clear hv h1 h2
  go_enter Tryz.func106, Tryz.ntmps106
  go_wp2_with fail
  refine c1.mono ?_
  rintro e w1 ⟨rfl, rfl⟩
  go_wp2_with fail
  refine c2.mono ?_
  rintro e w1 ⟨rfl, rfl⟩
  go_wp2_with fail
  go_ret
  exact ⟨by rw [e.out]; rfl, rfl⟩
def blB (c : Int) : Bool := c == 32 || (c == 9 || c == 10)
set_option maxHeartbeats 400000 in
theorem pBlank_any (c : Int) (w : World) : Calls Tryz.prog 125 #[.int .u8 c] w fun e w' => e = .returned (.bool (blB c)) ∧ w = w' := by
  have hv : blB c = (c == 32 || (c == 9 || c == 10)) := rfl
  cases h1 : (c == 32)
  case true =>
    have e := Lib.hid (show blB c = true by rw [hv, h1]; rfl)
    clear hv
    go_enter Tryz.func125, Tryz.ntmps125
    go_wp2_with fail
    go_ret
    exact ⟨by rw [e.out]; rfl, rfl⟩
  cases h2 : (c == 9)
  case true =>
    have e := Lib.hid (show blB c = true by rw [hv, h1, h2]; rfl)
    clear hv
    go_enter Tryz.func125, Tryz.ntmps125
    go_wp2_with fail
    go_ret
    exact ⟨by rw [e.out]; rfl, rfl⟩
  have e := Lib.hid (show blB c = (c == 10) by rw [hv, h1, h2]; rfl)
  clear hv
  go_enter Tryz.func125, Tryz.ntmps125
  go_wp2_with fail
  go_ret
  exact ⟨by rw [e.out]; rfl, rfl⟩
set_option maxHeartbeats 400000 in
theorem pLine_any (c : Int) (w : World) : Calls Tryz.prog 127 #[.int .u8 c] w fun e w' => e = .returned (.bool (c != 10)) ∧ w = w' := by
  go_enter Tryz.func127, Tryz.ntmps127
  go_wp2_with fail
  go_ret
  exact ⟨rfl, rfl⟩
/-- How many bytes at a text's start are of a kind. -/
def spn (q : UInt8 → Bool) (l : List UInt8) : Nat := (l.takeWhile q).length
theorem spn_at {q : UInt8 → Bool} {l : List UInt8} {n : Nat} (h : n ≤ l.length) (hp : ∀ j (h : j < l.length), j < n → q l[j] = true) (he : n = l.length ∨ ∃ h : n < l.length, q l[n] = false) : spn q l = n := by
  unfold spn; rw [takeWhile_at h hp he, List.length_take]; omega
/-- A function value that a call enters. -/
def Ent (F : Nat) : Prop := ∀ (args : Array Value) (w : World), (callFunc F args).run Tryz.prog w = .ok (.enter F args) w
set_option maxRecDepth 100000 in
set_option maxHeartbeats 4000000 in
theorem span_any (F : Nat) (q : UInt8 → Bool) (hF : Ent F) (hq : ∀ (c : UInt8) (w : World), Calls Tryz.prog F #[.int .u8 c.toNat] w fun e w' => e = .returned (.bool (q c)) ∧ w = w') (s : ByteArray) (hs : s.size ≤ 9223372036854775000) (w : World) :
    Calls Tryz.prog 105 #[.string s, .func (.func F) #[] #[]] w fun e w' => e = .returned (.int .i64 (spn q (lst s))) ∧ w = w' := by
  have HQ := Lib.hid hq
  unfold Ent at hF
  clear hq
  go_enter Tryz.func105, Tryz.ntmps105
  go_wp2_with fail
  go_loop [5] (fun i => ∃ k : Nat, k ≤ s.size ∧ i = .int .i64 k ∧ Hid (∀ j (h : j < s.size), j < k → q s[j] = true)) (fun i => s.size - (intOf i).toNat)
  case atStart => exact ⟨0, by omega, rfl, fun j _ hj => absurd hj (by omega)⟩
  case round =>
    obtain ⟨k, hk, rfl, hj⟩ := hrel
    by_cases hlt : k < s.size
    · have hsn := Lib.hid (fun (e : q s[k] = true) => (show Hid (∀ j (h : j < s.size), j < k + 1 → q s[j] = true) from fun j hjs hjk => by
        by_cases e' : j = k
        · subst e'; exact e
        · exact hj.out j hjs (by omega)))
      have hfin := Lib.hid (fun (e : q s[k] = false) => show spn q (lst s) = k from spn_at (by rw [lst_len]; omega) (fun j h hjk => hj.out j (by rw [lst_len] at h; exact h) hjk) (.inr ⟨by rw [lst_len]; exact hlt, e⟩))
      clear hj
      have c1 := HQ.out s[k]
      cases h1 : q s[k]
      case true =>
        have Hn := hsn.out h1
        rw [h1] at c1
        clear h1 hsn hfin
        go_wp2_with fail
        refine (c1 _).mono ?_
        rintro e w1 ⟨rfl, rfl⟩
        clear c1
        go_wp2_with fail
        go_round
        case rel => exact ⟨k + 1, by omega, by go_num, Hn⟩
        case measure => simp [intOf]; omega
      case false =>
        have Hf := Lib.hid (hfin.out h1)
        rw [h1] at c1
        clear h1 hsn hfin
        go_wp2_with fail
        refine (c1 _).mono ?_
        rintro e w1 ⟨rfl, rfl⟩
        clear c1
        go_wp2_with fail
        go_ret
        exact ⟨by rw [Hf.out]; rfl, rfl⟩
    · obtain rfl : k = s.size := by omega
      have Hf := Lib.hid (show spn q (lst s) = s.size from spn_at (by rw [lst_len]; omega) (fun j h hjk => hj.out j (by rw [lst_len] at h; exact h) hjk) (.inl (lst_len s).symm))
      clear hj HQ
      go_wp2_with fail
      go_ret
      exact ⟨by rw [Hf.out]; rfl, rfl⟩
theorem ent106 : Ent 106 := fun _ _ => by simp [go_sem]
theorem ent107 : Ent 107 := fun _ _ => by simp [go_sem]
theorem ent125 : Ent 125 := fun _ _ => by simp [go_sem]
theorem ent127 : Ent 127 := fun _ _ => by simp [go_sem]
set_option maxRecDepth 100000 in
set_option maxHeartbeats 2000000 in
theorem pHas_any (s t : ByteArray) (w : World) : Calls Tryz.prog 126 #[.string s, .string t] w fun e w' => e = .returned (.bool ((lst t).isPrefixOf (lst s))) ∧ w = w' := by
  have c : Calls Tryz.prog 139 #[.string s, .string t] w fun e w' => e = .returned (.bool ((lst t).isPrefixOf (lst s))) ∧ w = w' := by
    have hex := extract_bs s 0 t.size
    have htk := take_prefix (t := lst t) (l := lst s)
    have hnp := no_prefix (t := lst t) (l := lst s)
    rw [lst_len, lst_len] at hnp
    rw [lst_len] at htk
    have hbeq : ((s.extract 0 t.size).toList == t.toList) = (lst t).isPrefixOf (lst s) := by
      rw [hex, bs_toList, ByteArray.toList_eq]
      exact htk
    generalize (lst t).isPrefixOf (lst s) = b at *
    by_cases hfit : t.size ≤ s.size
    · clear hex htk hnp
      go_enter Tryz.func139, Tryz.ntmps139
      go_wp2_with fail
      go_ret
      exact ⟨rfl, rfl⟩
    · have hb := hnp (by omega)
      subst hb
      clear hex htk hnp hbeq
      go_enter Tryz.func139, Tryz.ntmps139
      go_wp2_with fail
      go_ret
      exact ⟨rfl, rfl⟩
  go_enter Tryz.func126, Tryz.ntmps126
  go_wp2_with fail
  refine c.mono ?_
  rintro e w1 ⟨rfl, rfl⟩
  go_wp2_with fail
  go_ret
  exact ⟨rfl, rfl⟩
end Go.Proofs.YtgkjcimgghflmaaGreatDoor
namespace Go.Proofs.YtgkjcimgghflmaaGreatDoor
open Go.RowKit Go.Shelf
theorem sig_place : Tryz.prog.globalNamed "quantale/formula.signs" = some 2 := by kernel_rfl
def SigTab (w : World) : Prop := w.var? Tryz.prog "quantale/formula.signs" = some signCs
theorem SigTab.later {w w' : World} (h : SigTab w) (hb : Below w.heap.size w w') : SigTab w' := var_later sig_place h hb
theorem sig_at0 (w : World) : (Instr.index 141 (.agg signCs) (.int .i64 0)).run Tryz.prog w = .ok (.string (bs (signL[0]'(by decide)))) w := by kernel_rfl
theorem sig_at1 (w : World) : (Instr.index 141 (.agg signCs) (.int .i64 1)).run Tryz.prog w = .ok (.string (bs (signL[1]'(by decide)))) w := by kernel_rfl
theorem sig_at2 (w : World) : (Instr.index 141 (.agg signCs) (.int .i64 2)).run Tryz.prog w = .ok (.string (bs (signL[2]'(by decide)))) w := by kernel_rfl
theorem sig_at3 (w : World) : (Instr.index 141 (.agg signCs) (.int .i64 3)).run Tryz.prog w = .ok (.string (bs (signL[3]'(by decide)))) w := by kernel_rfl
theorem sig_at4 (w : World) : (Instr.index 141 (.agg signCs) (.int .i64 4)).run Tryz.prog w = .ok (.string (bs (signL[4]'(by decide)))) w := by kernel_rfl
theorem sig_at5 (w : World) : (Instr.index 141 (.agg signCs) (.int .i64 5)).run Tryz.prog w = .ok (.string (bs (signL[5]'(by decide)))) w := by kernel_rfl
theorem sig_at6 (w : World) : (Instr.index 141 (.agg signCs) (.int .i64 6)).run Tryz.prog w = .ok (.string (bs (signL[6]'(by decide)))) w := by kernel_rfl
theorem sig_at7 (w : World) : (Instr.index 141 (.agg signCs) (.int .i64 7)).run Tryz.prog w = .ok (.string (bs (signL[7]'(by decide)))) w := by kernel_rfl
theorem sig_at8 (w : World) : (Instr.index 141 (.agg signCs) (.int .i64 8)).run Tryz.prog w = .ok (.string (bs (signL[8]'(by decide)))) w := by kernel_rfl
theorem sig_at9 (w : World) : (Instr.index 141 (.agg signCs) (.int .i64 9)).run Tryz.prog w = .ok (.string (bs (signL[9]'(by decide)))) w := by kernel_rfl
theorem sig_at10 (w : World) : (Instr.index 141 (.agg signCs) (.int .i64 10)).run Tryz.prog w = .ok (.string (bs (signL[10]'(by decide)))) w := by kernel_rfl
theorem sig_at11 (w : World) : (Instr.index 141 (.agg signCs) (.int .i64 11)).run Tryz.prog w = .ok (.string (bs (signL[11]'(by decide)))) w := by kernel_rfl
theorem sig_at12 (w : World) : (Instr.index 141 (.agg signCs) (.int .i64 12)).run Tryz.prog w = .ok (.string (bs (signL[12]'(by decide)))) w := by kernel_rfl
theorem sig_at13 (w : World) : (Instr.index 141 (.agg signCs) (.int .i64 13)).run Tryz.prog w = .ok (.string (bs (signL[13]'(by decide)))) w := by kernel_rfl
theorem sig_at14 (w : World) : (Instr.index 141 (.agg signCs) (.int .i64 14)).run Tryz.prog w = .ok (.string (bs (signL[14]'(by decide)))) w := by kernel_rfl
theorem sig_at15 (w : World) : (Instr.index 141 (.agg signCs) (.int .i64 15)).run Tryz.prog w = .ok (.string (bs (signL[15]'(by decide)))) w := by kernel_rfl
theorem sig_at16 (w : World) : (Instr.index 141 (.agg signCs) (.int .i64 16)).run Tryz.prog w = .ok (.string (bs (signL[16]'(by decide)))) w := by kernel_rfl
theorem sig_under : Tryz.prog.underlying 141 = some (.array 17 9) := by kernel_rfl
theorem sig_info : (Tryz.prog.info? 141).map (·.size) = some signCs.size := by kernel_rfl
theorem sig_at : ∀ k (h : k < signL.length) (w : World), (Instr.index 141 (.agg signCs) (.int .i64 k)).run Tryz.prog w = .ok (.string (bs signL[k])) w := by
  intro k h w
  match k, h with
  | 0, _ => exact sig_at0 w
  | 1, _ => exact sig_at1 w
  | 2, _ => exact sig_at2 w
  | 3, _ => exact sig_at3 w
  | 4, _ => exact sig_at4 w
  | 5, _ => exact sig_at5 w
  | 6, _ => exact sig_at6 w
  | 7, _ => exact sig_at7 w
  | 8, _ => exact sig_at8 w
  | 9, _ => exact sig_at9 w
  | 10, _ => exact sig_at10 w
  | 11, _ => exact sig_at11 w
  | 12, _ => exact sig_at12 w
  | 13, _ => exact sig_at13 w
  | 14, _ => exact sig_at14 w
  | 15, _ => exact sig_at15 w
  | 16, _ => exact sig_at16 w
  | k + 17, h => exact absurd h (by simp [signL])
set_option maxRecDepth 100000 in
set_option maxHeartbeats 4000000 in
theorem signAt_any (s : ByteArray) (w : World) (hT : SigTab w) :
    Calls Tryz.prog 108 #[.string s] w fun e w' => e = .returned (.string (bs (sgnAt (lst s)))) ∧ Below w.heap.size w w' := by
  obtain ⟨ty, fr, hk⟩ := block_of_var sig_place hT
  clear hT
  have hat : Hid (∀ k (h : k < signL.length) (w : World), (Instr.index 141 (.agg signCs) (.int .i64 k)).run Tryz.prog w = .ok (.string (bs signL[k])) w) := Lib.hid sig_at
  go_enter Tryz.func108, Tryz.ntmps108
  go_wp2_with (refine wpList_load_row rfl 141 _ rfl 2 rfl ty _ fr _ hk sig_under rfl sig_info ?_)
  clear hk
  generalize signCs = IC at *
  go_loopw [6] (fun i wr => ∃ k : Nat, k ≤ 17 ∧ i = .int .i64 k ∧ Hid (∀ j (h : j < signL.length), j < k → signL[j].isPrefixOf (lst s) = false) ∧ Below w.heap.size w wr) (fun i _ => 17 - (intOf i).toNat)
  case atStart => exact ⟨0, by omega, rfl, fun j _ hj => absurd hj (by omega), Below.refl _ _⟩
  case round =>
    obtain ⟨k, hk, rfl, hj, hB⟩ := hrel
    by_cases hlt : k < 17
    · have hx := hat.out k hlt
      have hsn := Lib.hid (fun (e : (signL[k]'hlt).isPrefixOf (lst s) = false) => (show Hid (∀ j (h : j < signL.length), j < k + 1 → signL[j].isPrefixOf (lst s) = false) from fun j hjs hjk => by
        by_cases e' : j = k
        · subst e'; exact e
        · exact hj.out j hjs (by omega)))
      have hyes := Lib.hid (fun (e : (signL[k]'hlt).isPrefixOf (lst s) = true) => show bs (sgnAt (lst s)) = bs (signL[k]'hlt) by unfold sgnAt; rw [find_at hlt hj.out e]; rfl)
      have HB2 := Lib.hid hB
      have c := fun W => pHas_any s (bs (signL[k]'hlt)) W
      have e0 : lst (bs (signL[k]'hlt)) = signL[k]'hlt := rfl
      rw [e0] at c
      generalize (signL[k]'hlt).isPrefixOf (lst s) = b at *
      generalize bs (signL[k]'hlt) = q at *
      clear e0 hat hj hB
      cases b
      case true =>
        have Hy := Lib.hid (hyes.out rfl)
        clear hyes hsn
        go_wp2_with fail
        refine (c _).mono ?_
        rintro e w1 ⟨rfl, rfl⟩
        clear c
        go_wp2_with fail
        go_ret
        exact ⟨by rw [Hy.out]; rfl, HB2.out⟩
      case false =>
        have Hn := hsn.out rfl
        clear hyes hsn
        go_wp2_with fail
        refine (c _).mono ?_
        rintro e w1 ⟨rfl, rfl⟩
        clear c
        go_wp2_with fail
        go_roundw
        case rel => exact ⟨k + 1, by omega, by go_num, Hn, HB2.out⟩
        case measure => simp [intOf]; omega
    · obtain rfl : k = 17 := by omega
      have Hy := Lib.hid (show bs (sgnAt (lst s)) = ⟨#[]⟩ by
        unfold sgnAt; rw [find_none' fun j hj' => hj.out j hj' (by simpa [signL] using hj')]; rfl)
      clear hj hat
      go_wp2_with fail
      go_ret
      exact ⟨by rw [Hy.out]; rfl, hB⟩
/-- What a sign between two kids stands for. -/
def opT (t : List UInt8) : Int := (infOps.find? fun o => sgn o == t).getD 0
set_option maxRecDepth 100000 in
set_option maxHeartbeats 4000000 in
theorem operator_any (t : List UInt8) (w : World) (hT : Tabs w) :
    Calls Tryz.prog 101 #[.string (bs t)] w fun e w' => e = .returned (.int .i64 (opT t)) ∧ Below w.heap.size w w' := by
  obtain ⟨ty, fr, hk⟩ := block_of_var inf_place hT.inf
  clear hT
  have hat : Hid (∀ k (h : k < infOps.length) (w : World), (Instr.index 133 (.agg infCells) (.int .i64 k)).run Tryz.prog w = .ok (.agg #[.string (bs (sgn infOps[k])), .int .i64 infOps[k]]) w) := Lib.hid inf_at
  have HV := Lib.hid (show opT t = (infOps.find? fun o => sgn o == t).getD 0 from rfl)
  have hl : (bs t).toList = t := bs_toList t
  generalize bs t = bt at *
  generalize opT t = v at *
  go_enter Tryz.func101, Tryz.ntmps101
  go_wp2_with (refine wpList_load_row rfl 133 _ rfl 0 rfl ty _ fr _ hk inf_under rfl inf_info ?_)
  clear hk
  generalize infCells = IC at *
  go_loopw [6] (fun i wr => ∃ k : Nat, k ≤ 11 ∧ i = .int .i64 k ∧ Hid (∀ j (h : j < infOps.length), j < k → (sgn infOps[j] == t) = false) ∧ Below w.heap.size w wr) (fun i _ => 11 - (intOf i).toNat)
  case atStart => exact ⟨0, by omega, rfl, fun j _ hj => absurd hj (by omega), Below.refl _ _⟩
  case round =>
    obtain ⟨k, hk, rfl, hj, hB⟩ := hrel
    by_cases hlt : k < 11
    · have hx := hat.out k hlt
      have hsn := Lib.hid (fun (e : (sgn (infOps[k]'hlt) == t) = false) => (show Hid (∀ j (h : j < infOps.length), j < k + 1 → (sgn infOps[j] == t) = false) from fun j hjs hjk => by
        by_cases e' : j = k
        · subst e'; exact e
        · exact hj.out j hjs (by omega)))
      have hyes := Lib.hid (fun (e : (sgn (infOps[k]'hlt) == t) = true) => show v = infOps[k]'hlt by rw [HV.out, find_at (p := fun o => sgn o == t) hlt hj.out e]; rfl)
      have e0 : ((bs (sgn (infOps[k]'hlt))).toList == bt.toList) = (sgn (infOps[k]'hlt) == t) := by rw [bs_toList, hl]
      have HB2 := Lib.hid hB
      have hsz := hB.size
      generalize (sgn (infOps[k]'hlt) == t) = b at *
      generalize bs (sgn (infOps[k]'hlt)) = q at *
      generalize infOps[k]'hlt = o at *
      clear hat hj hB hl
      cases b
      case true =>
        have Hy := Lib.hid (hyes.out rfl)
        clear hyes hsn
        go_wp2_with fail
        go_ret
        exact ⟨by rw [Hy.out]; rfl, HB2.out.alloc hsz _⟩
      case false =>
        have Hn := hsn.out rfl
        clear hyes hsn
        go_wp2_with fail
        go_roundw
        case rel => exact ⟨k + 1, by omega, by go_num, Hn, HB2.out.alloc hsz _⟩
        case measure => simp [intOf]; omega
    · obtain rfl : k = 11 := by omega
      have Hy := Lib.hid (show v = 0 by rw [HV.out, find_none' (p := fun o => sgn o == t) fun j hj' => hj.out j hj' hj']; rfl)
      clear hj hat
      go_wp2_with fail
      go_ret
      exact ⟨by rw [Hy.out]; rfl, hB⟩
/-- The operator of the word that a text is. -/
def wordT (t : List UInt8) : Option Int := wordOps.find? fun o => wrdS o == t
abbrev wordTV : Option Int → Value
  | some o => .tuple #[.agg #[.string (bs (wrdS o)), .int .i64 o, .int .i64 (wrdN o)], .bool true]
  | none => .tuple #[.agg #[.string ⟨#[]⟩, .int .i64 0, .int .i64 0], .bool false]
set_option maxRecDepth 100000 in
set_option maxHeartbeats 4000000 in
theorem wordAt_any (t : List UInt8) (w : World) (hT : Tabs w) :
    Calls Tryz.prog 169 #[.string (bs t)] w fun e w' => e = .returned (wordTV (wordT t)) ∧ Below w.heap.size w w' := by
  obtain ⟨ty, fr, hk⟩ := block_of_var word_place hT.wor
  have hat : Hid (∀ k (h : k < wordOps.length) (w : World), (Instr.index 134 (.agg wordCells) (.int .i64 k)).run Tryz.prog w = .ok (.agg #[.string (bs (wrdS wordOps[k])), .int .i64 wordOps[k], .int .i64 (wrdN wordOps[k])]) w) := Lib.hid word_at
  have hlt0 : 0 < w.heap.size := by have := (Array.getElem?_eq_some_iff.1 hk).1; omega
  have hk' : ∀ O, (w.alloc O).heap[1]? = some (.cells wordCells ty fr) := fun O => by rw [Lib.alloc_old w O 1 (Array.getElem?_eq_some_iff.1 hk).1]; exact hk
  clear hT
  have HV := Lib.hid (show wordT t = (wordOps.find? fun o => wrdS o == t) from rfl)
  have hl : (bs t).toList = t := bs_toList t
  generalize bs t = bt at *
  generalize wordT t = v at *
  go_enter Tryz.func169, Tryz.ntmps169
  go_wp2_with (refine wpList_load_row rfl 134 _ rfl 1 rfl ty _ fr _ (hk' _) word_under rfl word_info ?_)
  clear hk hk'
  generalize wordCells = IC at *
  go_loopw [7] (fun i wr => ∃ k : Nat, k ≤ 11 ∧ i = .int .i64 k ∧ Hid (∀ j (h : j < wordOps.length), j < k → (wrdS wordOps[j] == t) = false) ∧ Below w.heap.size w wr ∧ wr.heap[w.heap.size]? = some (.cells #[.string ⟨#[]⟩, .int .i64 0, .int .i64 0] 115 (0, 0))) (fun i _ => 11 - (intOf i).toNat)
  case atStart => exact ⟨0, by omega, rfl, fun j _ hj => absurd hj (by omega), (Below.refl _ _).alloc (Nat.le_refl _) _, World.alloc_heap_new _ _⟩
  case round =>
    obtain ⟨k, hk, rfl, hj, hB, hres⟩ := hrel
    have hsz : w.heap.size < wr.heap.size := (Array.getElem?_eq_some_iff.1 hres).1
    have c0 : wr.cell? ⟨w.heap.size, 0, none⟩ = some (.string ⟨#[]⟩) := by rw [Lib.cell_of_heap hres]; rfl
    have c1 : wr.cell? ⟨w.heap.size, 1, none⟩ = some (.int .i64 0) := by rw [Lib.cell_of_heap hres]; rfl
    have c2 : wr.cell? ⟨w.heap.size, 2, none⟩ = some (.int .i64 0) := by rw [Lib.cell_of_heap hres]; rfl
    have f0 : wr.frozen? ⟨w.heap.size, 0, none⟩ = false := Lib.frozen_of_heap hres 0
    have f1 : wr.frozen? ⟨w.heap.size, 1, none⟩ = false := Lib.frozen_of_heap hres 1
    have f2 : wr.frozen? ⟨w.heap.size, 2, none⟩ = false := Lib.frozen_of_heap hres 2
    by_cases hlt : k < 11
    · have hx := hat.out k hlt
      have hsn := Lib.hid (fun (e : (wrdS (wordOps[k]'hlt) == t) = false) => (show Hid (∀ j (h : j < wordOps.length), j < k + 1 → (wrdS wordOps[j] == t) = false) from fun j hjs hjk => by
        by_cases e' : j = k
        · subst e'; exact e
        · exact hj.out j hjs (by omega)))
      have hyes := Lib.hid (fun (e : (wrdS (wordOps[k]'hlt) == t) = true) => show wordTV v = .tuple #[.agg #[.string (bs (wrdS (wordOps[k]'hlt))), .int .i64 (wordOps[k]'hlt), .int .i64 (wrdN (wordOps[k]'hlt))], .bool true] by rw [HV.out, find_at (p := fun o => wrdS o == t) hlt hj.out e])
      have e0 : ((bs (wrdS (wordOps[k]'hlt))).toList == bt.toList) = (wrdS (wordOps[k]'hlt) == t) := by rw [bs_toList, hl]
      have HB2 := Lib.hid hB
      have HR := Lib.hid hres
      generalize (wrdS (wordOps[k]'hlt) == t) = b at *
      generalize bs (wrdS (wordOps[k]'hlt)) = q at *
      generalize wrdN (wordOps[k]'hlt) = nn at *
      generalize wordOps[k]'hlt = o at *
      clear hat hj hB hl hres
      cases b
      case true =>
        have Hy := Lib.hid (hyes.out rfl)
        clear hyes hsn HR
        go_wp2_with fail
        refine bodyPost_ret (v := .tuple #[.agg #[.string q, .int .i64 o, .int .i64 nn], .bool true]) (by simp [results, Tryz.results169, go_sem, c0, c1, c2, hsz]) rfl ⟨?_, ?_⟩
        · rw [Hy.out]
        · exact (((HB2.out.setCell (p := ⟨w.heap.size, 0, none⟩) (Nat.le_refl _) _).setCell (p := ⟨w.heap.size, 1, none⟩) (Nat.le_refl _) _).setCell (p := ⟨w.heap.size, 2, none⟩) (Nat.le_refl _) _).alloc (by simp; omega) _
      case false =>
        have Hn := hsn.out rfl
        clear hyes hsn
        go_wp2_with fail
        go_roundw
        case rel => exact ⟨k + 1, by omega, by go_num, Hn, HB2.out.alloc (by omega) _, by rw [Lib.alloc_old wr _ _ hsz]; exact HR.out⟩
        case measure => simp [intOf]; omega
    · obtain rfl : k = 11 := by omega
      have Hy := Lib.hid (show wordTV v = .tuple #[.agg #[.string ⟨#[]⟩, .int .i64 0, .int .i64 0], .bool false] by rw [HV.out, find_none' (p := fun o => wrdS o == t) fun j hj' => hj.out j hj' hj'])
      have HB2 := Lib.hid hB
      clear hj hat hres hB
      go_wp2_with fail
      refine bodyPost_ret (v := .tuple #[.agg #[.string ⟨#[]⟩, .int .i64 0, .int .i64 0], .bool false]) (by simp [results, Tryz.results169, go_sem, c0, c1, c2]) rfl ⟨?_, ?_⟩
      · rw [Hy.out]
      · exact ((HB2.out.setCell (p := ⟨w.heap.size, 0, none⟩) (Nat.le_refl _) _).setCell (p := ⟨w.heap.size, 1, none⟩) (Nat.le_refl _) _).setCell (p := ⟨w.heap.size, 2, none⟩) (Nat.le_refl _) _
end Go.Proofs.YtgkjcimgghflmaaGreatDoor
