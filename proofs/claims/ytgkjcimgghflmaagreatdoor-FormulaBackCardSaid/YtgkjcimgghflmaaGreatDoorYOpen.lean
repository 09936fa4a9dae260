/-
  The package's tables, as the given rows list them, lie in memory as the walks want them; conditions: the rows' own condition on those tables.
-/
import Derived.ProofKit
import Derived.OpenShut
import Derived.Deep.Fields
import Derived.Deep.Slices
import Derived.Lib.SmallJoins
import Derived.Test.YtgkjcimgghflmaaGreatDoorRows
import Derived.Lib.LaidU8
import Derived.ChangeSame
import Derived.MakeChecks
import Derived.Test.YtgkjcimgghflmaaGreatDoorYBase
import Derived.Test.YtgkjcimgghflmaaGreatDoorYPx4
import Derived.Test.YtgkjcimgghflmaaGreatDoorYRefCheck
namespace Go.Proofs.YtgkjcimgghflmaaGreatDoor
set_option maxRecDepth 100000
open Go.ChangeShapes Go.WideShapes Go.ChangeAt Go.RowKit Go.Deep
theorem Tryz.cells27 : Tryz.prog.cellsOf 27 = 5 := by kernel_rfl
theorem Tryz.cells25 : Tryz.prog.cellsOf 25 = 1 := by kernel_rfl
theorem Tryz.cells3 : Tryz.prog.cellsOf 3 = 1 := by kernel_rfl
theorem Tryz.cells9 : Tryz.prog.cellsOf 9 = 1 := by kernel_rfl
theorem Tryz.cells2 : Tryz.prog.cellsOf 2 = 1 := by kernel_rfl
theorem add_off (b o n : Nat) : (⟨b, o, none⟩ : Addr).add n = ⟨b, o + n, none⟩ := by
  unfold Addr.add
  by_cases h : n = 0
  · subst h; rfl
  · rw [if_neg h]
theorem nd_of_trod {H : Type} {enc : TypeId × Value → H} {w : World} {base : Nat} {sp : Nat → Bool} {held : Bool} : ∀ (fuel : Nat) (cs : List Value) (y : DataW H × List MemPlace), DataW.trod enc Tryz.prog w base sp held fuel 27 cs = some y →
    ∃ (t : Nd) (A : Option Addr) (cap : Nat), cs = [.int .i64 t.op, .int .i64 t.so, .string t.nm, .int .i64 t.nu, .slice A t.ks.length cap] ∧ Lies w A cap t.ks ∧ Fine t := by
  intro fuel
  induction fuel using Nat.strongRecOn with
  | ind fuel ih =>
  intro cs y h
  obtain ⟨xs, n, rfl, _, hlen, hxl, hf⟩ := DataW.trod_struct Tryz.underlying27 h
  rw [Tryz.cells27] at hlen
  match cs, hlen with
  | [c0, c1, c2, c3, c4], _ =>
    have hxl' : xs.length = 5 := hxl
    have e0 : DataW.trod enc Tryz.prog w base sp held n 3 [c0] = xs[0]? := by
      have := hf 0 _ rfl
      simpa [Tryz.cells3] using this
    have e1 : DataW.trod enc Tryz.prog w base sp held n 3 [c1] = xs[1]? := by
      have := hf 1 _ rfl
      simpa [Tryz.cells3] using this
    have e2 : DataW.trod enc Tryz.prog w base sp held n 9 [c2] = xs[2]? := by
      have := hf 2 _ rfl
      simpa [Tryz.cells9] using this
    have e3 : DataW.trod enc Tryz.prog w base sp held n 2 [c3] = xs[3]? := by
      have := hf 3 _ rfl
      simpa [Tryz.cells2] using this
    have e4 : DataW.trod enc Tryz.prog w base sp held n 25 [c4] = xs[4]? := by
      have := hf 4 _ rfl
      simpa [Tryz.cells25] using this
    rw [List.getElem?_eq_getElem (by omega)] at e0 e1 e2 e3 e4
    obtain ⟨op, h0, _, w0⟩ := DataW.trod_int Tryz.underlying3 e0
    obtain ⟨so, h1, _, w1⟩ := DataW.trod_int Tryz.underlying3 e1
    obtain ⟨nm, h2, _, w2⟩ := DataW.trod_string Tryz.underlying9 e2
    obtain ⟨nu, h3, _, w3⟩ := DataW.trod_int Tryz.underlying2 e3
    simp only [List.cons.injEq, and_true] at h0 h1 h2 h3
    subst h0 h1 h2 h3
    rcases DataW.trod_slice Tryz.underlying25 e4 with ⟨h4, _⟩ | ⟨a, len, cap, elems, rest, m, rfl, h4, _, hb, hl, hm, hel, hall, _⟩
    · simp only [List.cons.injEq, and_true] at h4
      subst h4
      exact ⟨.mk op so nm nu [], none, 0, rfl, .mk none 0 [] (by simp) 0 0 (fun _ => none) (fun _ => 0) (fun h => by simp at h) (fun i h => by simp at h) (fun i h => by simp at h) (fun i h => by simp at h), ⟨w2, w0, w1, w3⟩⟩
    · simp only [List.cons.injEq, and_true] at h4
      subst h4
      have kid : ∀ i, i < len → ∃ X : Nd × Option Addr × Nat, (∀ j (hj : j < 5), w.cell? ((a.add (i * 5)).add j) = ([.int .i64 X.1.op, .int .i64 X.1.so, .string X.1.nm, .int .i64 X.1.nu, .slice X.2.1 X.1.ks.length X.2.2] : List Value)[j]?) ∧ Lies w X.2.1 X.2.2 X.1.ks ∧ Fine X.1 := by
        intro i hi
        have := hall i hi
        rw [List.getElem?_eq_getElem (by omega), Tryz.cells27] at this
        obtain ⟨cs', g1, g2⟩ := Option.bind_eq_some_iff.1 this
        obtain ⟨t, A, c, rfl, hL, hF⟩ := ih m (by omega) cs' _ g2
        exact ⟨(t, A, c), fun j hj => (World.cells?_some g1).2.2 j hj, hL, hF⟩
      haveI : Inhabited Nd := ⟨.mk 0 0 ⟨#[]⟩ 0 []⟩
      obtain ⟨X, hX⟩ := choose_lt kid
      have hsp : 0 < len → ∃ b o, a = ⟨b, o, none⟩ := by
        intro h0
        have := (hX 0 h0).1 0 (by omega)
        rw [Nat.zero_mul] at this
        have hs := World.cell?_spot this
        obtain ⟨b, o, s⟩ := a
        simp [Addr.add] at hs
        exact ⟨b, o, by rw [hs]⟩
      have hlenr : ((List.range len).map fun i => (X i).1).length = len := by simp
      refine ⟨.mk op so nm nu ((List.range len).map fun i => (X i).1), some a, cap, by simp [Nd.op, Nd.so, Nd.nm, Nd.nu, Nd.ks], ?_, ⟨w2, w0, w1, w3⟩⟩
      by_cases h0 : 0 < len
      · obtain ⟨b, o, rfl⟩ := hsp h0
        refine .mk _ _ _ (by simp only [Nd.ks, hlenr]; omega) b o (fun i => (X i).2.1) (fun i => (X i).2.2) (fun _ => rfl) ?_ ?_ ?_
        · intro i hi
          have hi' : i < len := by simpa [Nd.ks] using hi
          have hc := (hX i hi').1
          simp only [add_off] at hc
          simp only [Nd.ks, List.getElem_map, List.getElem_range]
          exact ⟨hc 0 (by omega), hc 1 (by omega), hc 2 (by omega), hc 3 (by omega), hc 4 (by omega)⟩
        · intro i hi
          have hi' : i < len := by simpa [Nd.ks] using hi
          simp only [Nd.ks, List.getElem_map, List.getElem_range]
          exact (hX i hi').2.1
        · intro i hi
          have hi' : i < len := by simpa [Nd.ks] using hi
          simp only [Nd.ks, List.getElem_map, List.getElem_range]
          exact (hX i hi').2.2
      · obtain rfl : len = 0 := by omega
        exact .mk _ _ _ (by simp [Nd.ks]) 0 0 (fun _ => none) (fun _ => 0) (fun h => by simp [Nd.ks] at h) (fun i h => by simp [Nd.ks] at h) (fun i h => by simp [Nd.ks] at h) (fun i h => by simp [Nd.ks] at h)
/-- An argument that is a node. -/
theorem open_nd {H : Type} {enc : TypeId × Value → H} {w : World} {base : Nat} {sp : Nat → Bool} {held : Bool} {r : Reach} {b0 : Nat} {v : Value} {d : DataW H} {p : List MemPlace}
    (hv : Value.okWide Tryz.prog w r b0 27 v) (h : DataW.Trod enc Tryz.prog w base sp held 27 v d p) :
    ∃ (t : Nd) (A : Option Addr) (cap : Nat), v = nv t.op t.so t.nm t.nu (.slice A t.ks.length cap) ∧ Lies w A cap t.ks ∧ Fine t := by
  obtain ⟨cs, rfl, hsz⟩ := okWide_struct Tryz.underlying27 hv
  obtain ⟨fuel, hf⟩ := h
  obtain ⟨t, A, cap, h1, h2, h3⟩ := nd_of_trod fuel _ _ hf
  refine ⟨t, A, cap, ?_, h2, h3⟩
  have : cs.toList = _ := h1
  show Value.agg cs = Value.agg _
  congr 1
  exact Array.toList_inj.1 this
end Go.Proofs.YtgkjcimgghflmaaGreatDoor
namespace Go.Proofs.YtgkjcimgghflmaaGreatDoor
open Go.RowKit Go.Shelf Go.ChangeShapes
mutual
/-- The cells that a datum of integers and strings reads from. -/
def leafD {H : Type} : DataW H → List Value
  | .lit (.int k z) => [.int k z]
  | .lit (.string l) => [.string ⟨l.toArray⟩]
  | .agg ds => leafDs ds
  | _ => []
def leafDs {H : Type} : List (DataW H) → List Value
  | [] => []
  | d :: ds => leafD d ++ leafDs ds
end
theorem leaf_chunks {H : Type} (c : Nat) : ∀ (ds : List (DataW H)) (cs : List Value), cs.length = ds.length * c → (∀ i d, ds[i]? = some d → (cs.drop (i * c)).take c = leafD d) → cs = leafDs ds
  | [], cs, h, _ => by simp at h; subst h; simp [leafDs]
  | d :: ds, cs, h, hh => by
    have h0 : cs.take c = leafD d := by simpa using hh 0 d rfl
    have ht := leaf_chunks c ds (cs.drop c) (by simp only [List.length_drop, h, List.length_cons, Nat.add_mul]; omega) fun i e he => by
      have := hh (i + 1) e (by simpa using he)
      rw [List.drop_drop]
      rwa [Nat.add_mul, Nat.one_mul, Nat.add_comm] at this
    rw [leafDs, ← h0, ← ht, List.take_append_drop]
theorem leaf_array {H : Type} {enc : TypeId × Value → H} {P : Program} {w : World} {base : Nat} {sp : Nat → Bool} {held : Bool} {fuel : Nat} {t e : TypeId} {n c : Nat} {cs : List Value} {ds : List (DataW H)} {p : List MemPlace}
    (ht : P.underlying t = some (.array n e)) (hc : P.cellsOf e = c) (hl : cs.length = n * c) (hn : ds.length = n)
    (E : ∀ fuel cs d p, DataW.trod enc P w base sp held fuel e cs = some (d, p) → cs = leafD d)
    (h : DataW.trod enc P w base sp held fuel t cs = some (.agg ds, p)) : cs = leafDs ds := by
  refine leaf_chunks c ds cs (by rw [hn]; exact hl) fun i d hd => ?_
  have hi : i < n := by rw [← hn]; exact (List.getElem?_eq_some_iff.1 hd).1
  obtain ⟨f', d', q, hd', hq⟩ := Lib.array_elem ht h i hi
  rw [hd] at hd'
  cases hd'
  rw [hc] at hq
  exact E _ _ _ _ hq
theorem leaf_int {H : Type} {enc : TypeId × Value → H} {P : Program} {w : World} {base : Nat} {sp : Nat → Bool} {held : Bool} {t : TypeId} {k : IntKind} (ht : P.underlying t = some (.int k)) (fuel : Nat) (cs : List Value) (d : DataW H) (p : List MemPlace)
    (h : DataW.trod enc P w base sp held fuel t cs = some (d, p)) : cs = leafD d := by
  obtain ⟨z, rfl, hx, _⟩ := DataW.trod_int ht h
  cases hx
  rfl
theorem leaf_string {H : Type} {enc : TypeId × Value → H} {P : Program} {w : World} {base : Nat} {sp : Nat → Bool} {held : Bool} {t : TypeId} (ht : P.underlying t = some .string) (fuel : Nat) (cs : List Value) (d : DataW H) (p : List MemPlace)
    (h : DataW.trod enc P w base sp held fuel t cs = some (d, p)) : cs = leafD d := by
  obtain ⟨z, rfl, hx, _⟩ := DataW.trod_string ht h
  cases hx
  rfl
end Go.Proofs.YtgkjcimgghflmaaGreatDoor
namespace Go.Proofs.YtgkjcimgghflmaaGreatDoor
open Go.RowKit Go.Shelf Go.ChangeShapes
set_option maxRecDepth 100000
section
variable {H : Type} {enc : TypeId × Value → H} {w : World} {base : Nat} {sp : Nat → Bool} {held : Bool}
theorem leaf_infix (fuel : Nat) (cs : List Value) (d : DataW H) (p : List MemPlace) (h : DataW.trod enc Tryz.prog w base sp held fuel 132 cs = some (d, p)) : cs = leafD d := by
  obtain ⟨xs, n, rfl, hy, hlen, hxl, hf⟩ := DataW.trod_struct Tryz.underlying132 h
  rw [show Tryz.prog.cellsOf 132 = 2 by kernel_rfl] at hlen
  match cs, hlen, xs, hxl with
  | [c0, c1], _, [y0, y1], _ =>
    have e0 := hf 0 _ rfl
    have e1 := hf 1 _ rfl
    have f0 := leaf_string (enc := enc) Tryz.underlying9 n [c0] y0.1 y0.2 (by simpa [Tryz.cells9] using e0)
    have f1 := leaf_int (enc := enc) Tryz.underlying3 n [c1] y1.1 y1.2 (by simpa [Tryz.cells3] using e1)
    obtain ⟨rfl, _⟩ := Prod.mk.inj hy
    simp only [List.map_cons, List.map_nil, leafD, leafDs]
    rw [← f0, ← f1]
    rfl
theorem leaf_word (fuel : Nat) (cs : List Value) (d : DataW H) (p : List MemPlace) (h : DataW.trod enc Tryz.prog w base sp held fuel 115 cs = some (d, p)) : cs = leafD d := by
  obtain ⟨xs, n, rfl, hy, hlen, hxl, hf⟩ := DataW.trod_struct Tryz.underlying115 h
  rw [show Tryz.prog.cellsOf 115 = 3 by kernel_rfl] at hlen
  match cs, hlen, xs, hxl with
  | [c0, c1, c2], _, [y0, y1, y2], _ =>
    have e0 := hf 0 _ rfl
    have e1 := hf 1 _ rfl
    have e2 := hf 2 _ rfl
    have f0 := leaf_string (enc := enc) Tryz.underlying9 n [c0] y0.1 y0.2 (by simpa [Tryz.cells9] using e0)
    have f1 := leaf_int (enc := enc) Tryz.underlying3 n [c1] y1.1 y1.2 (by simpa [Tryz.cells3] using e1)
    have f2 := leaf_int (enc := enc) Tryz.underlying3 n [c2] y2.1 y2.2 (by simpa [Tryz.cells3] using e2)
    obtain ⟨rfl, _⟩ := Prod.mk.inj hy
    simp only [List.map_cons, List.map_nil, leafD, leafDs]
    rw [← f0, ← f1, ← f2]
    rfl
end
theorem var_table {W : World} {nm : String} {g t e n c : Nat} {ds : List (DataW Unit)} {CS : Array Value} (h : Lib.VarReads Tryz.prog W nm (.agg ds)) (hg : Tryz.prog.globalNamed nm = some g) (hty : (Tryz.prog.globals[g]?).map (·.type) = some t)
    (ht : Tryz.prog.underlying t = some (.array n e)) (hc : Tryz.prog.cellsOf e = c) (hct : Tryz.prog.cellsOf t = n * c) (hn : ds.length = n)
    (E : ∀ fuel cs (d : DataW Unit) p, DataW.trod (fun _ => ()) Tryz.prog W 0 (fun _ => true) false fuel e cs = some (d, p) → cs = leafD d) (hCS : (leafDs ds).toArray = CS) : W.var? Tryz.prog nm = some CS := by
  obtain ⟨g', t', cs, fuel, p, hg', ht', hvar, hd⟩ := h
  obtain rfl := Option.some.inj (hg.symm.trans hg')
  obtain rfl := Option.some.inj (hty.symm.trans ht')
  have hl : cs.toList.length = n * c := by
    cases fuel with
    | zero => simp [DataW.trod] at hd
    | succ fuel =>
      simp only [DataW.trod, ht, hc] at hd
      split at hd
      · rename_i hl; omega
      · cases hd
  have := leaf_array ht hc hl hn E hd
  rw [hvar, ← hCS, ← this]
theorem pow_of {W : World} (h : Lib.VarReads Tryz.prog W "internal/strconv.uint64pow10" Rows.laid_internal_strconv_uint64pow10) : PowTab W := by
  unfold PowTab Lib.TabIs
  exact var_table (e := 144) (n := 20) (c := 1) h pow_place (by kernel_rfl) Tryz.underlying153 (by kernel_rfl) (by kernel_rfl) rfl (leaf_int Tryz.underlying144) (by kernel_rfl)
theorem sig_of {W : World} (h : Lib.VarReads Tryz.prog W "quantale/formula.signs" Rows.laid_quantale_formula_signs) : SigTab W :=
  var_table (e := 9) (n := 17) (c := 1) h sig_place (by kernel_rfl) Tryz.underlying141 (by kernel_rfl) (by kernel_rfl) rfl (leaf_string Tryz.underlying9) (by kernel_rfl)
theorem tabs_of {W : World} (h0 : Lib.VarReads Tryz.prog W "quantale/formula.infixes" Rows.laid_quantale_formula_infixes) (h1 : Lib.VarReads Tryz.prog W "quantale/formula.words" Rows.laid_quantale_formula_words) : Tabs W :=
  ⟨var_table (e := 132) (n := 11) (c := 2) h0 inf_place (by kernel_rfl) inf_under (by kernel_rfl) (by kernel_rfl) rfl leaf_infix (by kernel_rfl),
   var_table (e := 115) (n := 11) (c := 3) h1 word_place (by kernel_rfl) word_under (by kernel_rfl) (by kernel_rfl) rfl leaf_word (by kernel_rfl)⟩
theorem all_of {W : World} (h : laidMetH Tryz.prog Rows.formulaPrintsRow.laid W) : Tabs W ∧ SigTab W ∧ PowTab W := by
  have h : laidMet Tryz.prog Rows.formulaPrintsRow.laid W := by
    rw [MakeChecks.laidMetH_plain _ _ _ (by kernel_rfl)] at h
    exact h
  exact ⟨tabs_of (Lib.laidMet.reads h (by simp [Rows.formulaPrintsRow])) (Lib.laidMet.reads h (by simp [Rows.formulaPrintsRow])), sig_of (Lib.laidMet.reads h (by simp [Rows.formulaPrintsRow])), pow_of (Lib.laidMet.reads h (by simp [Rows.formulaPrintsRow]))⟩
end Go.Proofs.YtgkjcimgghflmaaGreatDoor
