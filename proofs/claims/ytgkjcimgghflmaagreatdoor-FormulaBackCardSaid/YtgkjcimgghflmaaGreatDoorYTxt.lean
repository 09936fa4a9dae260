/-
  What the document's own functions of printing return: between, head, Digits, show; conditions: the tree lies in memory and its text is short.
-/
import Derived.Laws.Rows
import Derived.Lib.LaidTab
import Derived.WalkSmall
import Derived.Deep.LoopGhost
import Derived.Lib.ItoaNum
import Derived.Deep.RegionHeld3
import Derived.Laws.Concat
import Derived.Laws.IdiomStrings
import Derived.Test.YtgkjcimgghflmaaGreatDoorYLib
import Derived.Test.YtgkjcimgghflmaaGreatDoorYFns
import Derived.Test.YtgkjcimgghflmaaGreatDoorYRefCheck
namespace Go.Proofs.YtgkjcimgghflmaaGreatDoor
open Go.RowKit Go.Shelf
def infCells : Array Value := #[.string ⟨#[60, 61, 62]⟩, .int .i64 36, .string ⟨#[61, 62]⟩, .int .i64 35, .string ⟨#[124, 124]⟩, .int .i64 34, .string ⟨#[38, 38]⟩, .int .i64 33, .string ⟨#[61]⟩, .int .i64 37, .string ⟨#[60, 61]⟩, .int .i64 38, .string ⟨#[60]⟩, .int .i64 39, .string ⟨#[105, 110]⟩, .int .i64 40, .string ⟨#[115, 117, 98]⟩, .int .i64 41, .string ⟨#[43]⟩, .int .i64 4, .string ⟨#[45]⟩, .int .i64 5]
def wordCells : Array Value := #[.string ⟨#[116, 114, 117, 101]⟩, .int .i64 30, .int .i64 0, .string ⟨#[102, 97, 108, 115, 101]⟩, .int .i64 31, .int .i64 0, .string ⟨#[101, 109, 112, 116, 121]⟩, .int .i64 9, .int .i64 0, .string ⟨#[115, 105, 110, 103]⟩, .int .i64 10, .int .i64 1, .string ⟨#[118, 108, 101, 110]⟩, .int .i64 16, .int .i64 1, .string ⟨#[99, 117, 112]⟩, .int .i64 11, .int .i64 2, .string ⟨#[99, 97, 112]⟩, .int .i64 12, .int .i64 2, .string ⟨#[100, 105, 102, 102]⟩, .int .i64 13, .int .i64 2, .string ⟨#[115, 101, 108]⟩, .int .i64 14, .int .i64 2, .string ⟨#[115, 116, 111]⟩, .int .i64 15, .int .i64 3, .string ⟨#[105, 116, 101]⟩, .int .i64 8, .int .i64 3]
theorem inf_place : Tryz.prog.globalNamed "quantale/formula.infixes" = some 0 := by kernel_rfl
theorem word_place : Tryz.prog.globalNamed "quantale/formula.words" = some 1 := by kernel_rfl
/-- The tables that printing reads. -/
structure Tabs (w : World) : Prop where
  inf : w.var? Tryz.prog "quantale/formula.infixes" = some infCells
  wor : w.var? Tryz.prog "quantale/formula.words" = some wordCells
theorem block_of_var {w : World} {n : String} {g : Nat} {cs : Array Value} (hg : Tryz.prog.globalNamed n = some g) (h : w.var? Tryz.prog n = some cs) : ∃ t fr, w.heap[g]? = some (.cells cs t fr) := by
  simp only [World.var?, hg, Option.bind_some] at h
  split at h
  · rename_i c t fr hb
    cases h
    exact ⟨t, fr, hb⟩
  · cases h
theorem var_later {w w' : World} {n : String} {g : Nat} {cs : Array Value} (hg : Tryz.prog.globalNamed n = some g) (h : w.var? Tryz.prog n = some cs) (hb : Below w.heap.size w w') : w'.var? Tryz.prog n = some cs := by
  obtain ⟨t, fr, hk⟩ := block_of_var hg h
  have hlt : g < w.heap.size := (Array.getElem?_eq_some_iff.1 hk).1
  exact var?_below hb hg hlt h
theorem Tabs.later {w w' : World} (h : Tabs w) (hb : Below w.heap.size w w') : Tabs w' :=
  ⟨var_later inf_place h.inf hb, var_later word_place h.wor hb⟩
/-- The sign of an operator between two kids; none stands for any other. -/
def sgn (op : Int) : List UInt8 :=
  if op = 36 then [60, 61, 62]
  else if op = 35 then [61, 62]
  else if op = 34 then [124, 124]
  else if op = 33 then [38, 38]
  else if op = 37 then [61]
  else if op = 38 then [60, 61]
  else if op = 39 then [60]
  else if op = 40 then [105, 110]
  else if op = 41 then [115, 117, 98]
  else if op = 4 then [43]
  else if op = 5 then [45]
  else []
/-- The word of an operator and the number of its arguments. -/
def wrd (op : Int) : Option (List UInt8 × Int) :=
  if op = 30 then some ([116, 114, 117, 101], 0)
  else if op = 31 then some ([102, 97, 108, 115, 101], 0)
  else if op = 9 then some ([101, 109, 112, 116, 121], 0)
  else if op = 10 then some ([115, 105, 110, 103], 1)
  else if op = 16 then some ([118, 108, 101, 110], 1)
  else if op = 11 then some ([99, 117, 112], 2)
  else if op = 12 then some ([99, 97, 112], 2)
  else if op = 13 then some ([100, 105, 102, 102], 2)
  else if op = 14 then some ([115, 101, 108], 2)
  else if op = 15 then some ([115, 116, 111], 3)
  else if op = 8 then some ([105, 116, 101], 3)
  else none
theorem inf_at0 (w : World) : (Instr.index 133 (.agg infCells) (.int .i64 0)).run Tryz.prog w = .ok (.agg #[.string ⟨#[60, 61, 62]⟩, .int .i64 36]) w := by kernel_rfl
theorem inf_at1 (w : World) : (Instr.index 133 (.agg infCells) (.int .i64 1)).run Tryz.prog w = .ok (.agg #[.string ⟨#[61, 62]⟩, .int .i64 35]) w := by kernel_rfl
theorem inf_at2 (w : World) : (Instr.index 133 (.agg infCells) (.int .i64 2)).run Tryz.prog w = .ok (.agg #[.string ⟨#[124, 124]⟩, .int .i64 34]) w := by kernel_rfl
theorem inf_at3 (w : World) : (Instr.index 133 (.agg infCells) (.int .i64 3)).run Tryz.prog w = .ok (.agg #[.string ⟨#[38, 38]⟩, .int .i64 33]) w := by kernel_rfl
theorem inf_at4 (w : World) : (Instr.index 133 (.agg infCells) (.int .i64 4)).run Tryz.prog w = .ok (.agg #[.string ⟨#[61]⟩, .int .i64 37]) w := by kernel_rfl
theorem inf_at5 (w : World) : (Instr.index 133 (.agg infCells) (.int .i64 5)).run Tryz.prog w = .ok (.agg #[.string ⟨#[60, 61]⟩, .int .i64 38]) w := by kernel_rfl
theorem inf_at6 (w : World) : (Instr.index 133 (.agg infCells) (.int .i64 6)).run Tryz.prog w = .ok (.agg #[.string ⟨#[60]⟩, .int .i64 39]) w := by kernel_rfl
theorem inf_at7 (w : World) : (Instr.index 133 (.agg infCells) (.int .i64 7)).run Tryz.prog w = .ok (.agg #[.string ⟨#[105, 110]⟩, .int .i64 40]) w := by kernel_rfl
theorem inf_at8 (w : World) : (Instr.index 133 (.agg infCells) (.int .i64 8)).run Tryz.prog w = .ok (.agg #[.string ⟨#[115, 117, 98]⟩, .int .i64 41]) w := by kernel_rfl
theorem inf_at9 (w : World) : (Instr.index 133 (.agg infCells) (.int .i64 9)).run Tryz.prog w = .ok (.agg #[.string ⟨#[43]⟩, .int .i64 4]) w := by kernel_rfl
theorem inf_at10 (w : World) : (Instr.index 133 (.agg infCells) (.int .i64 10)).run Tryz.prog w = .ok (.agg #[.string ⟨#[45]⟩, .int .i64 5]) w := by kernel_rfl
theorem word_at0 (w : World) : (Instr.index 134 (.agg wordCells) (.int .i64 0)).run Tryz.prog w = .ok (.agg #[.string ⟨#[116, 114, 117, 101]⟩, .int .i64 30, .int .i64 0]) w := by kernel_rfl
theorem word_at1 (w : World) : (Instr.index 134 (.agg wordCells) (.int .i64 1)).run Tryz.prog w = .ok (.agg #[.string ⟨#[102, 97, 108, 115, 101]⟩, .int .i64 31, .int .i64 0]) w := by kernel_rfl
theorem word_at2 (w : World) : (Instr.index 134 (.agg wordCells) (.int .i64 2)).run Tryz.prog w = .ok (.agg #[.string ⟨#[101, 109, 112, 116, 121]⟩, .int .i64 9, .int .i64 0]) w := by kernel_rfl
theorem word_at3 (w : World) : (Instr.index 134 (.agg wordCells) (.int .i64 3)).run Tryz.prog w = .ok (.agg #[.string ⟨#[115, 105, 110, 103]⟩, .int .i64 10, .int .i64 1]) w := by kernel_rfl
theorem word_at4 (w : World) : (Instr.index 134 (.agg wordCells) (.int .i64 4)).run Tryz.prog w = .ok (.agg #[.string ⟨#[118, 108, 101, 110]⟩, .int .i64 16, .int .i64 1]) w := by kernel_rfl
theorem word_at5 (w : World) : (Instr.index 134 (.agg wordCells) (.int .i64 5)).run Tryz.prog w = .ok (.agg #[.string ⟨#[99, 117, 112]⟩, .int .i64 11, .int .i64 2]) w := by kernel_rfl
theorem word_at6 (w : World) : (Instr.index 134 (.agg wordCells) (.int .i64 6)).run Tryz.prog w = .ok (.agg #[.string ⟨#[99, 97, 112]⟩, .int .i64 12, .int .i64 2]) w := by kernel_rfl
theorem word_at7 (w : World) : (Instr.index 134 (.agg wordCells) (.int .i64 7)).run Tryz.prog w = .ok (.agg #[.string ⟨#[100, 105, 102, 102]⟩, .int .i64 13, .int .i64 2]) w := by kernel_rfl
theorem word_at8 (w : World) : (Instr.index 134 (.agg wordCells) (.int .i64 8)).run Tryz.prog w = .ok (.agg #[.string ⟨#[115, 101, 108]⟩, .int .i64 14, .int .i64 2]) w := by kernel_rfl
theorem word_at9 (w : World) : (Instr.index 134 (.agg wordCells) (.int .i64 9)).run Tryz.prog w = .ok (.agg #[.string ⟨#[115, 116, 111]⟩, .int .i64 15, .int .i64 3]) w := by kernel_rfl
theorem word_at10 (w : World) : (Instr.index 134 (.agg wordCells) (.int .i64 10)).run Tryz.prog w = .ok (.agg #[.string ⟨#[105, 116, 101]⟩, .int .i64 8, .int .i64 3]) w := by kernel_rfl
def infOps : List Int := [36, 35, 34, 33, 37, 38, 39, 40, 41, 4, 5]
def wordOps : List Int := [30, 31, 9, 10, 16, 11, 12, 13, 14, 15, 8]
theorem inf_under : Tryz.prog.underlying 133 = some (.array 11 132) := by kernel_rfl
theorem word_under : Tryz.prog.underlying 134 = some (.array 11 115) := by kernel_rfl
theorem inf_info : (Tryz.prog.info? 133).map (·.size) = some infCells.size := by kernel_rfl
theorem word_info : (Tryz.prog.info? 134).map (·.size) = some wordCells.size := by kernel_rfl
theorem inf_at : ∀ k (h : k < infOps.length) (w : World), (Instr.index 133 (.agg infCells) (.int .i64 k)).run Tryz.prog w = .ok (.agg #[.string ⟨(sgn infOps[k]).toArray⟩, .int .i64 infOps[k]]) w := by
  intro k h w
  match k, h with
  | 0, _ => exact inf_at0 w
  | 1, _ => exact inf_at1 w
  | 2, _ => exact inf_at2 w
  | 3, _ => exact inf_at3 w
  | 4, _ => exact inf_at4 w
  | 5, _ => exact inf_at5 w
  | 6, _ => exact inf_at6 w
  | 7, _ => exact inf_at7 w
  | 8, _ => exact inf_at8 w
  | 9, _ => exact inf_at9 w
  | 10, _ => exact inf_at10 w
  | k + 11, h => exact absurd h (by simp [infOps])
theorem sgn_none {op : Int} (h : ∀ j (hj : j < infOps.length), infOps[j] ≠ op) : sgn op = [] := by
  have h0 : op ≠ 36 := fun e => h 0 (by decide) (by rw [e]; rfl)
  have h1 : op ≠ 35 := fun e => h 1 (by decide) (by rw [e]; rfl)
  have h2 : op ≠ 34 := fun e => h 2 (by decide) (by rw [e]; rfl)
  have h3 : op ≠ 33 := fun e => h 3 (by decide) (by rw [e]; rfl)
  have h4 : op ≠ 37 := fun e => h 4 (by decide) (by rw [e]; rfl)
  have h5 : op ≠ 38 := fun e => h 5 (by decide) (by rw [e]; rfl)
  have h6 : op ≠ 39 := fun e => h 6 (by decide) (by rw [e]; rfl)
  have h7 : op ≠ 40 := fun e => h 7 (by decide) (by rw [e]; rfl)
  have h8 : op ≠ 41 := fun e => h 8 (by decide) (by rw [e]; rfl)
  have h9 : op ≠ 4 := fun e => h 9 (by decide) (by rw [e]; rfl)
  have h10 : op ≠ 5 := fun e => h 10 (by decide) (by rw [e]; rfl)
  simp only [sgn, h0, h1, h2, h3, h4, h5, h6, h7, h8, h9, h10, if_false]
set_option maxRecDepth 100000 in
set_option maxHeartbeats 4000000 in
theorem signOf_any (op : Int) (w : World) (hT : Tabs w) :
    Calls Tryz.prog 90 #[.int .i64 op] w fun e w' => e = .returned (.string ⟨(sgn op).toArray⟩) ∧ Below w.heap.size w w' := by
  obtain ⟨ty, fr, hk⟩ := block_of_var inf_place hT.inf
  clear hT
  have HB : ∀ O, Below w.heap.size w (w.alloc O) := fun O => (Below.refl _ _).alloc (Nat.le_refl _) _
  have hat : Hid (∀ k (h : k < infOps.length) (w : World), (Instr.index 133 (.agg infCells) (.int .i64 k)).run Tryz.prog w = .ok (.agg #[.string ⟨(sgn infOps[k]).toArray⟩, .int .i64 infOps[k]]) w) := Lib.hid inf_at
  clear HB
  go_enter Tryz.func90, Tryz.ntmps90
  go_wp2_with (refine wpList_load_row rfl 133 _ rfl 0 rfl ty _ fr _ hk inf_under rfl inf_info ?_)
  clear hk
  generalize infCells = IC at *
  go_loopw [6] (fun i wr => ∃ k : Nat, k ≤ 11 ∧ i = .int .i64 k ∧ Hid (∀ j (h : j < infOps.length), j < k → infOps[j] ≠ op) ∧ Below w.heap.size w wr) (fun i _ => 11 - (intOf i).toNat)
  case atStart => exact ⟨0, by omega, rfl, fun j _ hj => absurd hj (by omega), Below.refl _ _⟩
  case round =>
    obtain ⟨k, hk, rfl, hj, hB⟩ := hrel
    by_cases hlt : k < 11
    · have hx := hat.out k hlt
      have hsn := Lib.hid (fun (e : infOps[k]'hlt ≠ op) => (show Hid (∀ j (h : j < infOps.length), j < k + 1 → infOps[j] ≠ op) from fun j hjs hjk => by
        by_cases e' : j = k
        · subst e'; exact e
        · exact hj.out j hjs (by omega)))
      have hyes := Lib.hid (fun (e : infOps[k]'hlt = op) => show sgn (infOps[k]'hlt) = sgn op by rw [e])
      have HB2 := Lib.hid hB
      have hsz := hB.size
      generalize hq : infOps[k]'hlt = q at *
      clear hq hat hj hB
      by_cases e : q = op
      · have e1 : (q == op) = true := by simpa using e
        have Hy := Lib.hid (hyes.out e)
        clear e hyes hsn
        go_wp2_with fail
        go_ret
        exact ⟨by rw [Hy.out]; rfl, HB2.out.alloc hsz _⟩
      · have e1 : (q == op) = false := by simpa using e
        have Hn := hsn.out e
        clear e hyes hsn
        go_wp2_with fail
        go_roundw
        case rel => exact ⟨k + 1, by omega, by go_num, Hn, HB2.out.alloc hsz _⟩
        case measure => simp [intOf]; omega
    · obtain rfl : k = 11 := by omega
      have Hy := Lib.hid (show sgn op = [] from sgn_none fun j hj' => hj.out j hj' hj')
      clear hj hat
      go_wp2_with fail
      go_ret
      exact ⟨by rw [Hy.out]; rfl, hB⟩
/-- The bytes and the number of arguments of a word that stands for an operator. -/
def wrdS (op : Int) : List UInt8 := ((wrd op).map Prod.fst).getD []
def wrdN (op : Int) : Int := ((wrd op).map Prod.snd).getD 0
theorem word_at : ∀ k (h : k < wordOps.length) (w : World), (Instr.index 134 (.agg wordCells) (.int .i64 k)).run Tryz.prog w = .ok (.agg #[.string ⟨(wrdS wordOps[k]).toArray⟩, .int .i64 wordOps[k], .int .i64 (wrdN wordOps[k])]) w := by
  intro k h w
  match k, h with
  | 0, _ => exact word_at0 w
  | 1, _ => exact word_at1 w
  | 2, _ => exact word_at2 w
  | 3, _ => exact word_at3 w
  | 4, _ => exact word_at4 w
  | 5, _ => exact word_at5 w
  | 6, _ => exact word_at6 w
  | 7, _ => exact word_at7 w
  | 8, _ => exact word_at8 w
  | 9, _ => exact word_at9 w
  | 10, _ => exact word_at10 w
  | k + 11, h => exact absurd h (by simp [wordOps])
theorem wrd_none {op : Int} (h : ∀ j (hj : j < wordOps.length), wordOps[j] ≠ op) : wrd op = none := by
  have h0 : op ≠ 30 := fun e => h 0 (by decide) (by rw [e]; rfl)
  have h1 : op ≠ 31 := fun e => h 1 (by decide) (by rw [e]; rfl)
  have h2 : op ≠ 9 := fun e => h 2 (by decide) (by rw [e]; rfl)
  have h3 : op ≠ 10 := fun e => h 3 (by decide) (by rw [e]; rfl)
  have h4 : op ≠ 16 := fun e => h 4 (by decide) (by rw [e]; rfl)
  have h5 : op ≠ 11 := fun e => h 5 (by decide) (by rw [e]; rfl)
  have h6 : op ≠ 12 := fun e => h 6 (by decide) (by rw [e]; rfl)
  have h7 : op ≠ 13 := fun e => h 7 (by decide) (by rw [e]; rfl)
  have h8 : op ≠ 14 := fun e => h 8 (by decide) (by rw [e]; rfl)
  have h9 : op ≠ 15 := fun e => h 9 (by decide) (by rw [e]; rfl)
  have h10 : op ≠ 8 := fun e => h 10 (by decide) (by rw [e]; rfl)
  simp only [wrd, h0, h1, h2, h3, h4, h5, h6, h7, h8, h9, h10, if_false]
theorem wrd_some {op : Int} {j : Nat} (hj : j < wordOps.length) (h : wordOps[j] = op) : (wrd op).isSome = true := by
  subst h
  match j, hj with
  | 0, _ => rfl
  | 1, _ => rfl
  | 2, _ => rfl
  | 3, _ => rfl
  | 4, _ => rfl
  | 5, _ => rfl
  | 6, _ => rfl
  | 7, _ => rfl
  | 8, _ => rfl
  | 9, _ => rfl
  | 10, _ => rfl
  | k + 11, h => exact absurd h (by simp [wordOps])
/-- What wordOf hands back. -/
abbrev wordV (op : Int) : Value := .tuple #[.agg #[.string ⟨(wrdS op).toArray⟩, .int .i64 (if (wrd op).isSome = true then op else 0), .int .i64 (wrdN op)], .bool (wrd op).isSome]
set_option maxRecDepth 100000 in
set_option maxHeartbeats 4000000 in
theorem wordOf_any (op : Int) (w : World) (hT : Tabs w) :
    Calls Tryz.prog 91 #[.int .i64 op] w fun e w' => e = .returned (wordV op) ∧ Below w.heap.size w w' := by
  obtain ⟨ty, fr, hk⟩ := block_of_var word_place hT.wor
  have hat : Hid (∀ k (h : k < wordOps.length) (w : World), (Instr.index 134 (.agg wordCells) (.int .i64 k)).run Tryz.prog w = .ok (.agg #[.string ⟨(wrdS wordOps[k]).toArray⟩, .int .i64 wordOps[k], .int .i64 (wrdN wordOps[k])]) w) := Lib.hid word_at
  have hlt0 : 0 < w.heap.size := by have := (Array.getElem?_eq_some_iff.1 hk).1; omega
  have hk' : ∀ O, (w.alloc O).heap[1]? = some (.cells wordCells ty fr) := fun O => by rw [Lib.alloc_old w O 1 (Array.getElem?_eq_some_iff.1 hk).1]; exact hk
  clear hT
  go_enter Tryz.func91, Tryz.ntmps91
  go_wp2_with (refine wpList_load_row rfl 134 _ rfl 1 rfl ty _ fr _ (hk' _) word_under rfl word_info ?_)
  clear hk hk'
  generalize wordCells = IC at *
  go_loopw [7] (fun i wr => ∃ k : Nat, k ≤ 11 ∧ i = .int .i64 k ∧ Hid (∀ j (h : j < wordOps.length), j < k → wordOps[j] ≠ op) ∧ Below w.heap.size w wr ∧ wr.heap[w.heap.size]? = some (.cells #[.string ⟨#[]⟩, .int .i64 0, .int .i64 0] 115 (0, 0))) (fun i _ => 11 - (intOf i).toNat)
  case atStart => exact ⟨0, by omega, rfl, fun j _ hj => absurd hj (by omega), (Below.refl _ _).alloc (Nat.le_refl _) _, World.alloc_heap_new _ _⟩
  case round =>
    obtain ⟨k, hk, rfl, hj, hB, hres⟩ := hrel
    have hsz : w.heap.size < wr.heap.size := (Array.getElem?_eq_some_iff.1 hres).1
    have c0 : wr.cell? ⟨w.heap.size, 0, none⟩ = some (.string ⟨#[]⟩) := by rw [Lib.cell_of_heap hres]; rfl
    have c1 : wr.cell? ⟨w.heap.size, 1, none⟩ = some (.int .i64 0) := by rw [Lib.cell_of_heap hres]; rfl
    have c2 : wr.cell? ⟨w.heap.size, 2, none⟩ = some (.int .i64 0) := by rw [Lib.cell_of_heap hres]; rfl
    have f0 : wr.frozen? ⟨w.heap.size, 0, none⟩ = false := Lib.frozen_of_heap hres 0
    have f1 : wr.frozen? ⟨w.heap.size, 1, none⟩ = false := Lib.frozen_of_heap hres 1
    have f2 : wr.frozen? ⟨w.heap.size, 2, none⟩ = false := Lib.frozen_of_heap hres 2
    by_cases hlt : k < 11
    · have hx := hat.out k hlt
      have hsn := Lib.hid (fun (e : wordOps[k]'hlt ≠ op) => (show Hid (∀ j (h : j < wordOps.length), j < k + 1 → wordOps[j] ≠ op) from fun j hjs hjk => by
        by_cases e' : j = k
        · subst e'; exact e
        · exact hj.out j hjs (by omega)))
      have hyes := Lib.hid (fun (e : wordOps[k]'hlt = op) => show (wrd op).isSome = true from wrd_some hlt e)
      have HB2 := Lib.hid hB
      have HR := Lib.hid hres
      generalize hq : wordOps[k]'hlt = q at *
      clear hq hat hj hB hres
      by_cases e : q = op
      · have e1 : (q == op) = true := by simpa using e
        have Hy := Lib.hid (hyes.out e)
        subst e
        clear hyes hsn HR
        go_wp2_with fail
        refine bodyPost_ret (v := .tuple #[.agg #[.string ⟨(wrdS q).toArray⟩, .int .i64 q, .int .i64 (wrdN q)], .bool true]) (by simp [results, Tryz.results91, go_sem, c0, c1, c2, hsz]) rfl ⟨?_, ?_⟩
        · simp [Hy.out]
        · exact (((HB2.out.setCell (p := ⟨w.heap.size, 0, none⟩) (Nat.le_refl _) _).setCell (p := ⟨w.heap.size, 1, none⟩) (Nat.le_refl _) _).setCell (p := ⟨w.heap.size, 2, none⟩) (Nat.le_refl _) _).alloc (by simp; omega) _
      · have e1 : (q == op) = false := by simpa using e
        have Hn := hsn.out e
        clear e hyes hsn
        go_wp2_with fail
        go_roundw
        case rel => exact ⟨k + 1, by omega, by go_num, Hn, HB2.out.alloc (by omega) _, by rw [Lib.alloc_old wr _ _ hsz]; exact HR.out⟩
        case measure => simp [intOf]; omega
    · obtain rfl : k = 11 := by omega
      have Hy := Lib.hid (show wrd op = none from wrd_none fun j hj' => hj.out j hj' hj')
      have HB2 := Lib.hid hB
      clear hj hat hres hB
      go_wp2_with fail
      refine bodyPost_ret (v := .tuple #[.agg #[.string ⟨#[]⟩, .int .i64 0, .int .i64 0], .bool false]) (by simp [results, Tryz.results91, go_sem, c0, c1, c2]) rfl ⟨?_, ?_⟩
      · simp [wrdS, wrdN, Hy.out]
      · exact ((HB2.out.setCell (p := ⟨w.heap.size, 0, none⟩) (Nat.le_refl _) _).setCell (p := ⟨w.heap.size, 1, none⟩) (Nat.le_refl _) _).setCell (p := ⟨w.heap.size, 2, none⟩) (Nat.le_refl _) _
end Go.Proofs.YtgkjcimgghflmaaGreatDoor
namespace Go.Proofs.YtgkjcimgghflmaaGreatDoor
open Go.RowKit Go.Shelf
def paren (l : List UInt8) : List UInt8 := 40 :: (l ++ [41])
def commas : List (List UInt8) → List UInt8
  | [] => []
  | [a] => a
  | a :: b :: l => a ++ (44 :: 32 :: commas (b :: l))
def intT (n : Int) : List UInt8 := if n < 0 then paren (Lib.itoa n) else Lib.itoa n
/-- Is the first kid an integer that is not negative? -/
def natKid (t : Nd) : Bool := match t.ks with
  | [] => false
  | k :: _ => k.op == 2 && decide (0 ≤ k.nu)
/-- The text of a node whose kids' texts are l. -/
def txtW (t : Nd) (l : List (List UInt8)) : List UInt8 :=
  if sgn t.op ≠ [] then paren (l.getD 0 [] ++ (32 :: sgn t.op ++ (32 :: l.getD 1 [])))
  else if t.op = 1 then t.nm.data.toList
  else if t.op = 30 ∨ t.op = 31 ∨ t.op = 9 then wrdS t.op
  else if t.op = 2 then intT t.nu
  else if t.op = 32 then paren (33 :: l.getD 0 [])
  else if t.op = 6 then (if natKid t = true then paren (45 :: paren (l.getD 0 [])) else paren (45 :: l.getD 0 []))
  else if t.op = 7 then (if t.nu < 0 then paren (45 :: paren (Lib.itoa (-t.nu) ++ (32 :: 42 :: 32 :: l.getD 0 []))) else paren (Lib.itoa t.nu ++ (32 :: 42 :: 32 :: l.getD 0 [])))
  else (if t.op = 3 then t.nm.data.toList else wrdS t.op) ++ paren (commas l)
def txt : Nd → List UInt8
  | .mk op so nm nu ks => txtW (.mk op so nm nu ks) (ks.attach.map fun k => txt k.1)
termination_by t => SizeOf.sizeOf t
decreasing_by
  have := List.sizeOf_lt_of_mem k.2
  simp only [Nd.mk.sizeOf_spec]
  omega
theorem txt_eq (t : Nd) : txt t = txtW t (t.ks.map txt) := by
  cases t
  rw [txt]
  simp only [Nd.ks]
  congr 1
  rw [show (fun k : { x // x ∈ _ } => txt k.1) = txt ∘ Subtype.val from rfl, ← List.map_map, List.attach_map_subtype_val]
/-- How many kids an operator takes. -/
def cntOk (op : Int) (n : Nat) : Prop :=
  ((op = 1 ∨ op = 2 ∨ op = 9 ∨ op = 30 ∨ op = 31) ∧ n = 0) ∨ (op = 3 ∧ n ≤ 8) ∨ ((op = 6 ∨ op = 7 ∨ op = 10 ∨ op = 16 ∨ op = 32) ∧ n = 1)
    ∨ ((op = 4 ∨ op = 5 ∨ op = 11 ∨ op = 12 ∨ op = 13 ∨ op = 14 ∨ op = 33 ∨ op = 34 ∨ op = 35 ∨ op = 36 ∨ op = 37 ∨ op = 38 ∨ op = 39 ∨ op = 40 ∨ op = 41) ∧ n = 2) ∨ ((op = 8 ∨ op = 15) ∧ n = 3)
/-- The fields that an operator uses, and no others. -/
def fldOk (t : Nd) : Prop :=
  if t.op = 1 ∨ t.op = 3 then nameB t.nm = true ∧ t.nu = 0 ∧ 0 ≤ t.so ∧ t.so ≤ 5
  else t.nm.toList = [] ∧ t.so = 0 ∧ (if t.op = 2 ∨ t.op = 7 then -1000000000000 ≤ t.nu ∧ t.nu ≤ 1000000000000 else t.nu = 0)
open Classical in
noncomputable def frmB (t : Nd) : Bool := decide (fldOk t ∧ cntOk t.op t.ks.length)
noncomputable def prB : Nd → Bool
  | .mk op so nm nu ks => frmB (.mk op so nm nu ks) && ks.attach.all fun k => prB k.1
termination_by t => SizeOf.sizeOf t
decreasing_by
  have := List.sizeOf_lt_of_mem k.2
  simp only [Nd.mk.sizeOf_spec]
  omega
theorem prB_eq (t : Nd) : prB t = (frmB t && t.ks.all prB) := by
  cases t
  rw [prB]
  simp only [Nd.ks]
  congr 1
  rw [show (fun k : { x // x ∈ _ } => prB k.1) = prB ∘ Subtype.val from rfl, ← List.all_map, List.attach_map_subtype_val]
end Go.Proofs.YtgkjcimgghflmaaGreatDoor
namespace Go.Proofs.YtgkjcimgghflmaaGreatDoor
open Go.RowKit Go.Shelf
def hdT (t : Nd) : List UInt8 := if t.op = 3 then t.nm.data.toList else wrdS t.op
theorem nDigits_le : ∀ (k u : Nat), 1 ≤ k → u < 10 ^ k → Lib.nDigits u ≤ k
  | 0, _, h, _ => by omega
  | k + 1, u, _, h => by
    by_cases hs : u < 10
    · rw [Lib.nDigits_small hs]; omega
    · rw [Lib.nDigits_big hs]
      rw [Nat.pow_succ] at h
      have hk : 1 ≤ k := by
        rcases Nat.eq_zero_or_pos k with rfl | h'
        · simp at h; omega
        · exact h'
      have := nDigits_le k (u / 10) hk (by omega)
      omega
theorem dec_len {n : Nat} (_hn : n ≤ 9223372036854775807) : (Lib.decDigits n).length ≤ 19 := by
  rw [Lib.decDigits_length]
  exact nDigits_le 19 n (by omega) (by omega)
def bs (l : List UInt8) : ByteArray := ⟨l.toArray⟩
theorem cat {x y : List UInt8} (z : List UInt8) (h : x ++ y = z) (hz : z.length ≤ 8388608) (w : World) : (Op.stringOp .add (bs x) (bs y)).run Tryz.prog w = .ok (.string (bs z)) w := by
  subst h
  rw [List.length_append] at hz
  exact run_string_add_lists w x y (by omega) (by omega)
end Go.Proofs.YtgkjcimgghflmaaGreatDoor
