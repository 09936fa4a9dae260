/-
  What slices.SortFunc asks of the order of entries: a strict weak order, and what compareEntries returns in each world that the sort passes through; conditions: the entries lie in memory that is older than the row.
  What slices.SortFunc does to a table of entries: it holds the same entries in the order of compareEntries; conditions: the entries lie in memory that is older than the table's row.
-/
import Derived.Test.YtmeeombadkgneaaGreatZVa9
import Derived.Test.YtmeeombadkgneaaGreatZLib
namespace Go.Proofs.YtmeeombadkgneaaGreat
open Go.RowKit Go.Shelf Go.Sort

attribute [local go_sem] Oper.semAt_some
/-- An entry that lies in a world. -/
def El0 (w0 : World) : Type := { e : EA // LiesE w0 e }
def zeroV : VA := ⟨⟨0, 0, [], [], []⟩, none, 0, none, 0, none, 0⟩
def zeroE : EA := ⟨⟨#[]⟩, [], none, 0, zeroV⟩
theorem ints_zero (w : World) : Ints w none [] := ⟨0, 0, fun h => by simp at h, fun i h => by simp at h⟩
theorem lies_zeroV (w : World) : LiesV w zeroV := ⟨ints_zero w, ints_zero w, ints_zero w, by simp [zeroV], by simp [zeroV], by simp [zeroV]⟩
theorem lies_zeroE (w : World) : LiesE w zeroE := ⟨by simp [zeroE, ByteArray.size], ⟨by simp [zeroE], ⟨0, 0, fun h => by simp [zeroE] at h, fun i h => by simp [zeroE] at h⟩, fun i h => by simp [zeroE] at h⟩, lies_zeroV w⟩
instance (w0 : World) : Inhabited (El0 w0) := ⟨⟨zeroE, lies_zeroE w0⟩⟩
/-- The seven cells of an entry. -/
def encEn {w0 : World} (x : El0 w0) : List Value := [.string x.1.nm, .slice x.1.A x.1.args.length x.1.c, .int .i64 x.1.val.v.so, .int .i64 x.1.val.v.nu, .slice x.1.val.a1 x.1.val.v.st.length x.1.val.c1, .slice x.1.val.a2 x.1.val.v.ix.length x.1.val.c2, .slice x.1.val.a3 x.1.val.v.xs.length x.1.val.c3]
def cfE {w0 : World} (x y : El0 w0) : Int := cmpE x.1 y.1
theorem lt_iff {w0 : World} (x y : El0 w0) : ltOf cfE x y = decide (cmpE x.1 y.1 < 0) := rfl
theorem swo_E (w0 : World) : SWO (ltOf (cfE (w0 := w0))) where
  irrefl x := by
    rw [lt_iff]
    have := laws_E.neg x.1 x.1
    exact decide_eq_false (by omega)
  trans x y z h1 h2 := by
    rw [lt_iff] at *
    have t := laws_E.tri x.1 y.1 z.1
    have h1 := of_decide_eq_true h1
    have h2 := of_decide_eq_true h2
    obtain ⟨a, b⟩ := t (by omega) (by omega)
    exact decide_eq_true (by omega)
  ntrans x y z h1 h2 := by
    rw [lt_iff] at *
    have t := laws_E.tri z.1 y.1 x.1
    have h1 := of_decide_eq_false h1
    have h2 := of_decide_eq_false h2
    have n1 := laws_E.neg x.1 y.1
    have n2 := laws_E.neg y.1 z.1
    have n3 := laws_E.neg x.1 z.1
    obtain ⟨a, b⟩ := t (by omega) (by omega)
    exact decide_eq_false (by omega)
/-- A world of the sort's: all older blocks stand. -/
theorem below_sort {w0 w : World} {α : Type} [Inhabited α] (enc : α → List Value) (k blk off m : Nat) (dk : Array α) (os : Array Obj) (hb : Below w0.heap.size w0 w) (hblk : w0.heap.size ≤ blk) : Below w0.heap.size w0 (sortWorldK enc k w blk off m dk os) := by
  refine ⟨hb.os, hb.tape, hb.output, ?_, fun i hi => ?_⟩
  · have : w.heap.size ≤ (sortWorldK enc k w blk off m dk os).heap.size := by
      show w.heap.size ≤ ((w.heap.modify blk _) ++ os).size
      simp
    exact Nat.le_trans hb.size this
  · have hw := hb.size
    show ((w.heap.modify blk _) ++ os)[i]? = _
    rw [Array.getElem?_append_left (by simp; omega), Array.getElem?_modify, if_neg (by omega)]
    exact hb.block i hi
theorem cmpLays_E {w0 w : World} (blk off size : Nat) (hb : Below w0.heap.size w0 w) (hblk : w0.heap.size ≤ blk) : CmpLays Tryz.prog 34 #[] (encEn (w0 := w0)) 7 cfE blk off size w := by
  intro m os dk _ x y
  have hB := below_sort (encEn (w0 := w0)) 7 blk off m dk os hb hblk
  exact compareE_gr x.1 y.1 _ (x.2.later hB) (y.2.later hB)
end Go.Proofs.YtmeeombadkgneaaGreat
namespace Go.Proofs.YtmeeombadkgneaaGreat
open Go.Proofs Go.RowKit Go.Shelf Go.Sort Go.Lib

attribute [local go_sem] Oper.semAt_some
set_option maxRecDepth 100000 in
set_option maxHeartbeats 4000000 in
theorem sortE_any {w0 w : World} (blk off cap : Nat) (d : Array (El0 w0)) (hb : Below w0.heap.size w0 w) (hblk0 : w0.heap.size ≤ blk) (hH : HoldsK encEn 7 w blk off d) (hblk : blk < w.heap.size) (hsz : d.size < 4611686018427387904) :
    Calls Tryz.prog 68 #[.slice (some ⟨blk, off, none⟩) d.size cap, .func (.func 34) #[] #[]] w fun e w' => e = .returned (.tuple #[]) ∧ ∃ d' n os, PermIn 0 d.size d d' ∧ SortedIn (ltOf cfE) 0 d.size d' ∧ w' = sortWorldK encEn 7 w blk off n d' os := by
  have eg : ∀ args w, (callFunc 34 args).run Tryz.prog w = .ok (.enter 34 args) w := enters_of Tryz.func34 (by kernel_rfl) rfl
  have hlim : Lib.bitLen d.size < 4611686018427387904 := Nat.lt_of_le_of_lt (Lib.bitLen_le d.size 62 (by omega) (by omega)) (by omega)
  have hp := AnyQ.pdqsortCmpFunc_all (P := Tryz.prog) Tryz.pdqE 7 Tryz.isAgg29 Tryz.sizeOf29 encEn cfE 34 #[] (swo_E w0) blk off cap d w eg (cmpLays_E blk off d.size hb hblk0) ⟨fun _ => rfl, fun x v hv => by simp [encEn] at hv; rcases hv with rfl | rfl | rfl | rfl | rfl | rfl | rfl <;> rfl, hH, hblk⟩ (d.size + 1) 0 d.size (Lib.bitLen d.size) d w (by omega) rfl (SWK.start hH) (Nat.zero_le _) (Nat.le_refl _) hsz hlim (Or.inl rfl)
  change Calls Tryz.prog 90 _ _ _ at hp
  have hl : Calls Tryz.prog 91 #[.int .u64 (d.size : Int)] w fun e w' => e = .returned (.int .i64 (Lib.bitLen d.size : Nat)) ∧ w' = w := by
    have h := Any.bits_Len Tryz.bitsLen (d.size : Int) w (by omega) (by omega)
    rwa [Int.toNat_natCast] at h
  have wr : IntKind.u64.wrap (d.size : Int) = d.size := by simp [IntKind.wrap, IntKind.bits, IntKind.signed]; omega
  have hs := pdq_sorts (ltOf cfE) (swo_E w0) d 0 d.size (Lib.bitLen d.size) true true (Nat.zero_le _) (Nat.le_refl _) (Or.inl rfl)
  generalize pdq (ltOf cfE) d 0 d.size (Lib.bitLen d.size) true true = d' at hp hs
  have HS := Lib.hid hs
  clear hH eg hlim hs
  go_enter Tryz.func68, Tryz.ntmps68
  go_wp2_with (first | (go_at_call 91; refine hl.mono ?_; rintro e w' ⟨rfl, rfl⟩) | (go_at_call 90; refine hp.mono ?_; rintro e w' ⟨rfl, n, os, rfl⟩))
  go_end0
  exact ⟨rfl, d', n, os, HS.out.1, HS.out.2, rfl⟩
end Go.Proofs.YtmeeombadkgneaaGreat
