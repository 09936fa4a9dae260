/-
  The package's tables, as the given rows list them, lie in memory as the walks want them; conditions: the rows' own condition on those tables.
-/
import Derived.ProofKit
import Derived.OpenShut
import Derived.Deep.Fields
import Derived.Deep.Slices
import Derived.Lib.SmallJoins
import Derived.Test.YtgkjcimgghflmaaGreatDoorRows
import Derived.Lib.LaidU8
import Derived.ChangeSame
import Derived.MakeChecks
import Derived.Test.YtgkjcimgghflmaaGreatDoorZBase
import Derived.Test.YtgkjcimgghflmaaGreatDoorZPx4
import Derived.Test.YtgkjcimgghflmaaGreatDoorZRefCheck
namespace Go.Proofs.YtgkjcimgghflmaaGreatDoor
set_option maxRecDepth 100000
set_option maxHeartbeats 8000000
open Go.ChangeShapes Go.WideShapes Go.ChangeAt Go.RowKit Go.Deep
theorem Tryz.cells3 : Tryz.prog.cellsOf 3 = 1 := by kernel_rfl
theorem Tryz.cells9 : Tryz.prog.cellsOf 9 = 1 := by kernel_rfl
theorem add_off (b o n : Nat) : (⟨b, o, none⟩ : Addr).add n = ⟨b, o + n, none⟩ := by
 unfold Addr.add
 by_cases h : n = 0
 ·subst h; rfl
 ·rw [if_neg h]
end Go.Proofs.YtgkjcimgghflmaaGreatDoor
namespace Go.Proofs.YtgkjcimgghflmaaGreatDoor
set_option maxRecDepth 100000
set_option maxHeartbeats 8000000
open Go.RowKit Go.Shelf Go.ChangeShapes
mutual
def leafD {H : Type} : DataW H → List Value
 | .lit (.int k z) => [.int k z]
 | .lit (.string l) => [.string ⟨l.toArray⟩]
 | .agg ds => leafDs ds
 | _ => []
def leafDs {H : Type} : List (DataW H) → List Value
 | [] => []
 | d :: ds => leafD d ++ leafDs ds
end
theorem leaf_chunks {H : Type} (c : Nat) : ∀ (ds : List (DataW H)) (cs : List Value), cs.length = ds.length * c → (∀ i d, ds[i]? = some d → (cs.drop (i * c)).take c = leafD d) → cs = leafDs ds
 | [], cs, h, _ => by simp at h; subst h; simp [leafDs]
 | d :: ds, cs, h, hh => by
  have h0 : cs.take c = leafD d := by simpa using hh 0 d rfl
  have ht := leaf_chunks c ds (cs.drop c) (by simp only [List.length_drop, h, List.length_cons, Nat.add_mul]; omega) fun i e he => by
   have := hh (i + 1) e (by simpa using he)
   rw [List.drop_drop]
   rwa [Nat.add_mul, Nat.one_mul, Nat.add_comm] at this
  rw [leafDs, ← h0, ← ht, List.take_append_drop]
theorem leaf_array {H : Type} {enc : TypeId × Value → H} {P : Program} {w : World} {base : Nat} {sp : Nat → Bool} {held : Bool} {fuel : Nat} {t e : TypeId} {n c : Nat} {cs : List Value} {ds : List (DataW H)} {p : List MemPlace}
  (ht : P.underlying t = some (.array n e)) (hc : P.cellsOf e = c) (hl : cs.length = n * c) (hn : ds.length = n)
  (E : ∀ fuel cs d p, DataW.trod enc P w base sp held fuel e cs = some (d, p) → cs = leafD d)
  (h : DataW.trod enc P w base sp held fuel t cs = some (.agg ds, p)) : cs = leafDs ds := by
 refine leaf_chunks c ds cs (by rw [hn]; exact hl) fun i d hd => ?_
 have hi : i < n := by rw [← hn]; exact (List.getElem?_eq_some_iff.1 hd).1
 obtain ⟨f', d', q, hd', hq⟩ := Lib.array_elem ht h i hi
 rw [hd] at hd'
 cases hd'
 rw [hc] at hq
 exact E _ _ _ _ hq
theorem leaf_int {H : Type} {enc : TypeId × Value → H} {P : Program} {w : World} {base : Nat} {sp : Nat → Bool} {held : Bool} {t : TypeId} {k : IntKind} (ht : P.underlying t = some (.int k)) (fuel : Nat) (cs : List Value) (d : DataW H) (p : List MemPlace)
  (h : DataW.trod enc P w base sp held fuel t cs = some (d, p)) : cs = leafD d := by
 obtain ⟨z, rfl, hx, _⟩ := DataW.trod_int ht h
 cases hx
 rfl
theorem leaf_string {H : Type} {enc : TypeId × Value → H} {P : Program} {w : World} {base : Nat} {sp : Nat → Bool} {held : Bool} {t : TypeId} (ht : P.underlying t = some .string) (fuel : Nat) (cs : List Value) (d : DataW H) (p : List MemPlace)
  (h : DataW.trod enc P w base sp held fuel t cs = some (d, p)) : cs = leafD d := by
 obtain ⟨z, rfl, hx, _⟩ := DataW.trod_string ht h
 cases hx
 rfl
end Go.Proofs.YtgkjcimgghflmaaGreatDoor
namespace Go.Proofs.YtgkjcimgghflmaaGreatDoor
set_option maxRecDepth 100000
set_option maxHeartbeats 8000000
open Go.RowKit Go.Shelf Go.ChangeShapes
section
variable {H : Type} {enc : TypeId × Value → H} {w : World} {base : Nat} {sp : Nat → Bool} {held : Bool}
theorem leaf_infix (fuel : Nat) (cs : List Value) (d : DataW H) (p : List MemPlace) (h : DataW.trod enc Tryz.prog w base sp held fuel 132 cs = some (d, p)) : cs = leafD d := by
  obtain ⟨xs, n, rfl, hy, hlen, hxl, hf⟩ := DataW.trod_struct Tryz.underlying132 h
  rw [show Tryz.prog.cellsOf 132 = 2 by kernel_rfl] at hlen
  match cs, hlen, xs, hxl with
  | [c0, c1], _, [y0, y1], _ =>
    have e0 := hf 0 _ rfl
    have e1 := hf 1 _ rfl
    have f0 := leaf_string (enc := enc) Tryz.underlying9 n [c0] y0.1 y0.2 (by simpa [Tryz.cells9] using e0)
    have f1 := leaf_int (enc := enc) Tryz.underlying3 n [c1] y1.1 y1.2 (by simpa [Tryz.cells3] using e1)
    obtain ⟨rfl, _⟩ := Prod.mk.inj hy
    simp only [List.map_cons, List.map_nil, leafD, leafDs]
    rw [← f0, ← f1]
    rfl
theorem leaf_word (fuel : Nat) (cs : List Value) (d : DataW H) (p : List MemPlace) (h : DataW.trod enc Tryz.prog w base sp held fuel 115 cs = some (d, p)) : cs = leafD d := by
  obtain ⟨xs, n, rfl, hy, hlen, hxl, hf⟩ := DataW.trod_struct Tryz.underlying115 h
  rw [show Tryz.prog.cellsOf 115 = 3 by kernel_rfl] at hlen
  match cs, hlen, xs, hxl with
  | [c0, c1, c2], _, [y0, y1, y2], _ =>
    have e0 := hf 0 _ rfl
    have e1 := hf 1 _ rfl
    have e2 := hf 2 _ rfl
    have f0 := leaf_string (enc := enc) Tryz.underlying9 n [c0] y0.1 y0.2 (by simpa [Tryz.cells9] using e0)
    have f1 := leaf_int (enc := enc) Tryz.underlying3 n [c1] y1.1 y1.2 (by simpa [Tryz.cells3] using e1)
    have f2 := leaf_int (enc := enc) Tryz.underlying3 n [c2] y2.1 y2.2 (by simpa [Tryz.cells3] using e2)
    obtain ⟨rfl, _⟩ := Prod.mk.inj hy
    simp only [List.map_cons, List.map_nil, leafD, leafDs]
    rw [← f0, ← f1, ← f2]
    rfl
end
theorem var_table {W : World} {nm : String} {g t e n c : Nat} {ds : List (DataW Unit)} {CS : Array Value} (h : Lib.VarReads Tryz.prog W nm (.agg ds)) (hg : Tryz.prog.globalNamed nm = some g) (hty : (Tryz.prog.globals[g]?).map (·.type) = some t)
    (ht : Tryz.prog.underlying t = some (.array n e)) (hc : Tryz.prog.cellsOf e = c) (hct : Tryz.prog.cellsOf t = n * c) (hn : ds.length = n)
    (E : ∀ fuel cs (d : DataW Unit) p, DataW.trod (fun _ => ()) Tryz.prog W 0 (fun _ => true) false fuel e cs = some (d, p) → cs = leafD d) (hCS : (leafDs ds).toArray = CS) : W.var? Tryz.prog nm = some CS := by
  obtain ⟨g', t', cs, fuel, p, hg', ht', hvar, hd⟩ := h
  obtain rfl := Option.some.inj (hg.symm.trans hg')
  obtain rfl := Option.some.inj (hty.symm.trans ht')
  have hl : cs.toList.length = n * c := by
    cases fuel with
    | zero => simp [DataW.trod] at hd
    | succ fuel =>
      simp only [DataW.trod, ht, hc] at hd
      split at hd
      · rename_i hl; omega
      · cases hd
  have := leaf_array ht hc hl hn E hd
  rw [hvar, ← hCS, ← this]
theorem pow_of {W : World} (h : Lib.VarReads Tryz.prog W "internal/strconv.uint64pow10" Rows.laid_internal_strconv_uint64pow10) : PowTab W := by
  unfold PowTab Lib.TabIs
  exact var_table (e := 144) (n := 20) (c := 1) h pow_place (by kernel_rfl) Tryz.underlying153 (by kernel_rfl) (by kernel_rfl) rfl (leaf_int Tryz.underlying144) (by kernel_rfl)
theorem sig_of {W : World} (h : Lib.VarReads Tryz.prog W "quantale/formula.signs" Rows.laid_quantale_formula_signs) : SigTab W :=
  var_table (e := 9) (n := 17) (c := 1) h sig_place (by kernel_rfl) Tryz.underlying141 (by kernel_rfl) (by kernel_rfl) rfl (leaf_string Tryz.underlying9) (by kernel_rfl)
theorem tabs_of {W : World} (h0 : Lib.VarReads Tryz.prog W "quantale/formula.infixes" Rows.laid_quantale_formula_infixes) (h1 : Lib.VarReads Tryz.prog W "quantale/formula.words" Rows.laid_quantale_formula_words) : Tabs W :=
  ⟨var_table (e := 132) (n := 11) (c := 2) h0 inf_place (by kernel_rfl) inf_under (by kernel_rfl) (by kernel_rfl) rfl leaf_infix (by kernel_rfl),
   var_table (e := 115) (n := 11) (c := 3) h1 word_place (by kernel_rfl) word_under (by kernel_rfl) (by kernel_rfl) rfl leaf_word (by kernel_rfl)⟩
theorem all_of {W : World} (h : laidMetH Tryz.prog Rows.formulaPrintsRow.laid W) : Tabs W ∧ SigTab W ∧ PowTab W := by
  have h : laidMet Tryz.prog Rows.formulaPrintsRow.laid W := by
    rw [MakeChecks.laidMetH_plain _ _ _ (by kernel_rfl)] at h
    exact h
  exact ⟨tabs_of (Lib.laidMet.reads h (by simp [Rows.formulaPrintsRow])) (Lib.laidMet.reads h (by simp [Rows.formulaPrintsRow])), sig_of (Lib.laidMet.reads h (by simp [Rows.formulaPrintsRow])), pow_of (Lib.laidMet.reads h (by simp [Rows.formulaPrintsRow]))⟩
end Go.Proofs.YtgkjcimgghflmaaGreatDoor
