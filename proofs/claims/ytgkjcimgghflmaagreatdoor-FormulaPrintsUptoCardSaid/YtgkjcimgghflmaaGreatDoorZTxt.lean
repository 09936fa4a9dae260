/-
  The text of a tree as the document prints it, as lists of bytes, and which trees have one: no program is spoken of; conditions: none.
  What the document's own functions of printing return: between, head, Digits, show; conditions: the tree lies in memory and its text is short.
-/
import Derived.Lib.ItoaNum
import Derived.Deep.RegionHeld3
import Derived.Laws.Concat
import Derived.Laws.IdiomStrings
import Derived.Test.YtgkjcimgghflmaaGreatDoorZTabs
import Derived.Test.YtgkjcimgghflmaaGreatDoorZRefCheck
namespace Go.Proofs.YtgkjcimgghflmaaGreatDoor
open Go.RowKit Go.Shelf

def paren (l : List UInt8) : List UInt8 := 40 :: (l ++ [41])
def commas : List (List UInt8) → List UInt8
  | [] => []
  | [a] => a
  | a :: b :: l => a ++ (44 :: 32 :: commas (b :: l))
def intT (n : Int) : List UInt8 := if n < 0 then paren (Lib.itoa n) else Lib.itoa n
/-- Is the first kid an integer that is not negative? -/
def natKid (t : Nd) : Bool := match t.ks with
  | [] => false
  | k :: _ => k.op == 2 && decide (0 ≤ k.nu)
/-- The text of a node whose kids' texts are l. -/
def txtW (t : Nd) (l : List (List UInt8)) : List UInt8 :=
  if sgn t.op ≠ [] then paren (l.getD 0 [] ++ (32 :: sgn t.op ++ (32 :: l.getD 1 [])))
  else if t.op = 1 then t.nm.data.toList
  else if t.op = 30 ∨ t.op = 31 ∨ t.op = 9 then wrdS t.op
  else if t.op = 2 then intT t.nu
  else if t.op = 32 then paren (33 :: l.getD 0 [])
  else if t.op = 6 then (if natKid t = true then paren (45 :: paren (l.getD 0 [])) else paren (45 :: l.getD 0 []))
  else if t.op = 7 then (if t.nu < 0 then paren (45 :: paren (Lib.itoa (-t.nu) ++ (32 :: 42 :: 32 :: l.getD 0 []))) else paren (Lib.itoa t.nu ++ (32 :: 42 :: 32 :: l.getD 0 [])))
  else (if t.op = 3 then t.nm.data.toList else wrdS t.op) ++ paren (commas l)
def txt : Nd → List UInt8
  | .mk op so nm nu ks => txtW (.mk op so nm nu ks) (ks.attach.map fun k => txt k.1)
termination_by t => SizeOf.sizeOf t
decreasing_by
  have := List.sizeOf_lt_of_mem k.2
  simp only [Nd.mk.sizeOf_spec]
  omega
theorem txt_eq (t : Nd) : txt t = txtW t (t.ks.map txt) := by
  cases t
  rw [txt]
  simp only [Nd.ks]
  congr 1
  rw [show (fun k : { x // x ∈ _ } => txt k.1) = txt ∘ Subtype.val from rfl, ← List.map_map, List.attach_map_subtype_val]

/-- How many kids an operator takes. -/
def cntOk (op : Int) (n : Nat) : Prop :=
  ((op = 1 ∨ op = 2 ∨ op = 9 ∨ op = 30 ∨ op = 31) ∧ n = 0) ∨ (op = 3 ∧ n ≤ 8) ∨ ((op = 6 ∨ op = 7 ∨ op = 10 ∨ op = 16 ∨ op = 32) ∧ n = 1)
    ∨ ((op = 4 ∨ op = 5 ∨ op = 11 ∨ op = 12 ∨ op = 13 ∨ op = 14 ∨ op = 33 ∨ op = 34 ∨ op = 35 ∨ op = 36 ∨ op = 37 ∨ op = 38 ∨ op = 39 ∨ op = 40 ∨ op = 41) ∧ n = 2) ∨ ((op = 8 ∨ op = 15) ∧ n = 3)
/-- The fields that an operator uses, and no others. -/
def fldOk (t : Nd) : Prop :=
  if t.op = 1 ∨ t.op = 3 then nameB t.nm = true ∧ t.nu = 0 ∧ 0 ≤ t.so ∧ t.so ≤ 5
  else t.nm.toList = [] ∧ t.so = 0 ∧ (if t.op = 2 ∨ t.op = 7 then -1000000000000 ≤ t.nu ∧ t.nu ≤ 1000000000000 else t.nu = 0)
open Classical in
noncomputable def frmB (t : Nd) : Bool := decide (fldOk t ∧ cntOk t.op t.ks.length)
noncomputable def prB : Nd → Bool
  | .mk op so nm nu ks => frmB (.mk op so nm nu ks) && ks.attach.all fun k => prB k.1
termination_by t => SizeOf.sizeOf t
decreasing_by
  have := List.sizeOf_lt_of_mem k.2
  simp only [Nd.mk.sizeOf_spec]
  omega
theorem prB_eq (t : Nd) : prB t = (frmB t && t.ks.all prB) := by
  cases t
  rw [prB]
  simp only [Nd.ks]
  congr 1
  rw [show (fun k : { x // x ∈ _ } => prB k.1) = prB ∘ Subtype.val from rfl, ← List.all_map, List.attach_map_subtype_val]
end Go.Proofs.YtgkjcimgghflmaaGreatDoor
namespace Go.Proofs.YtgkjcimgghflmaaGreatDoor
open Go.RowKit Go.Shelf

def btw (op : Int) : List UInt8 := if sgn op = [] then [] else 32 :: (sgn op ++ [32])

set_option maxHeartbeats 2000000 in
theorem between_any (op : Int) (w : World) : Calls Tryz.prog 64 #[.int .i64 op] w fun e w' => e = .returned (.string ⟨(btw op).toArray⟩) ∧ w = w' := by
  go_enter Tryz.func64, Tryz.ntmps64
  go_wp2_with fail
  all_goals go_ret
  all_goals (refine ⟨?_, rfl⟩; simp only [beq_iff_eq, beq_eq_false_iff_ne] at *; first | (subst_vars; rfl) | (simp only [btw, sgn, *, if_false]; rfl))

def hdT (t : Nd) : List UInt8 := if t.op = 3 then t.nm.data.toList else wrdS t.op

theorem nDigits_le : ∀ (k u : Nat), 1 ≤ k → u < 10 ^ k → Lib.nDigits u ≤ k
  | 0, _, h, _ => by omega
  | k + 1, u, _, h => by
    by_cases hs : u < 10
    · rw [Lib.nDigits_small hs]; omega
    · rw [Lib.nDigits_big hs]
      rw [Nat.pow_succ] at h
      have hk : 1 ≤ k := by
        rcases Nat.eq_zero_or_pos k with rfl | h'
        · simp at h; omega
        · exact h'
      have := nDigits_le k (u / 10) hk (by omega)
      omega
theorem dec_len {n : Nat} (_hn : n ≤ 9223372036854775807) : (Lib.decDigits n).length ≤ 19 := by
  rw [Lib.decDigits_length]
  exact nDigits_le 19 n (by omega) (by omega)

set_option maxRecDepth 100000 in
set_option maxHeartbeats 2000000 in
theorem digits_any (n : Nat) : n ≤ 9223372036854775807 → ∀ w : World, Calls Tryz.prog 65 #[.int .i64 n] w fun e w' => e = .returned (.string ⟨(Lib.decDigits n).toArray⟩) ∧ Below w.heap.size w w' := by
  induction n using Nat.strongRecOn with
  | ind n ih =>
  intro hn w
  by_cases h : n < 10
  · have hcv : (convert 55 9 (.slice (some ⟨w.heap.size, 0, none⟩) 1 1)).run Tryz.prog (w.alloc (.cells #[.int .u8 (48 + (n : Int))] 5)) = .ok (.string ⟨[UInt8.ofNat (48 + n)].toArray⟩) (w.alloc (.cells #[.int .u8 (48 + (n : Int))] 5)) := by
      refine run_convert_bytes_back _ 55 9 5 ⟨w.heap.size, 0, none⟩ 1 [UInt8.ofNat (48 + n)] bld_sl (by kernel_rfl) bld_str (fun j hj => ?_)
      obtain rfl : j = 0 := by simp at hj; omega
      simp [Addr.add, go_sem]; omega
    have Hd := Lib.hid (show Lib.decDigits n = [UInt8.ofNat (48 + n)] by rw [Lib.decDigits, dif_pos h])
    clear ih
    generalize UInt8.ofNat (48 + n) = d at *
    go_enter Tryz.func65, Tryz.ntmps65
    go_wp2_with fail
    go_ret
    exact ⟨by rw [Hd.out]; rfl, (Below.refl _ _).alloc (Nat.le_refl _) _⟩
  · have c1 := ih (n / 10) (by omega) (by omega)
    have c2 := ih (n % 10) (by omega) (by omega)
    have l1 := dec_len (n := n / 10) (by omega)
    have l2 := dec_len (n := n % 10) (by omega)
    have Hd := Lib.hid (show Lib.decDigits n = Lib.decDigits (n / 10) ++ Lib.decDigits (n % 10) by
      have hz : Lib.decDigits (n % 10) = [UInt8.ofNat (48 + n % 10)] := by rw [Lib.decDigits, dif_pos (by omega)]
      rw [hz, Lib.decDigits, dif_neg h])
    have hadd := fun w => run_string_add_lists (P := Tryz.prog) w (Lib.decDigits (n / 10)) (Lib.decDigits (n % 10)) (by omega) (by omega)
    rw [show ((n / 10 : Nat) : Int) = (n : Int) / 10 by omega] at c1
    rw [show ((n % 10 : Nat) : Int) = (n : Int) % 10 by omega] at c2
    have C1 := Lib.hid c1
    have C2 := Lib.hid c2
    clear ih c1 c2 l1 l2
    go_enter Tryz.func65, Tryz.ntmps65
    go_wp2_with fail
    refine (C1.out _).mono ?_
    rintro e w1 ⟨rfl, hb1⟩
    have HB1 := Lib.hid hb1
    have hs1 := hb1.size
    clear hb1
    go_wp2_with fail
    refine (C2.out _).mono ?_
    rintro e w2 ⟨rfl, hb2⟩
    have HB2 := Lib.hid (HB1.out.trans (hb2.mono hs1))
    clear hb2
    go_wp2_with fail
    go_ret
    exact ⟨by rw [Hd.out]; rfl, HB2.out⟩

def bs (l : List UInt8) : ByteArray := ⟨l.toArray⟩
theorem cat {x y : List UInt8} (z : List UInt8) (h : x ++ y = z) (hz : z.length ≤ 8388608) (w : World) : (Op.stringOp .add (bs x) (bs y)).run Tryz.prog w = .ok (.string (bs z)) w := by
  subst h
  rw [List.length_append] at hz
  exact run_string_add_lists w x y (by omega) (by omega)

set_option maxHeartbeats 2000000 in
theorem head_any (t : Nd) (s : Value) (h : t.op = 3 ∨ t.op = 8 ∨ t.op = 10 ∨ t.op = 11 ∨ t.op = 12 ∨ t.op = 13 ∨ t.op = 14 ∨ t.op = 15 ∨ t.op = 16) (w : World) :
    Calls Tryz.prog 66 #[nv t.op t.so t.nm t.nu s] w fun e w' => e = .returned (.string (bs (hdT t))) ∧ Below w.heap.size w w' := by
  have HB : ∀ O, Below w.heap.size w (w.alloc O) := fun O => (Below.refl _ _).alloc (Nat.le_refl _) _
  have Hd := Lib.hid (show bs (hdT t) = bs (if t.op = 3 then t.nm.data.toList else wrdS t.op) from rfl)
  rcases h with e | e | e | e | e | e | e | e | e
  all_goals
    rw [e] at Hd ⊢
    clear e
    go_enter Tryz.func66, Tryz.ntmps66
    go_wp2_with fail
    go_ret
    exact ⟨by rw [Hd.out]; rfl, HB _⟩

/-- The document's own text of a node is its text, wherever it lies. -/
def ShowOk (q : Nd) : Prop := ∀ (A : Option Addr) (cap : Nat) (w : World), Lies w A cap q.ks →
    Calls Tryz.prog 30 #[nv q.op q.so q.nm q.nu (.slice A q.ks.length cap)] w fun e w' => e = .returned (.string (bs (txt q))) ∧ Below w.heap.size w w'
end Go.Proofs.YtgkjcimgghflmaaGreatDoor
