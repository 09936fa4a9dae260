/-
  Declarations and sigs as they lie in memory, maps from names, and what looking a name up gives; conditions: the lists lie in memory.
-/
import Derived.Maps.OwnIn
import Derived.Maps.OwnSet
import Derived.WideMake
import Derived.Test.YtgkjcimgghflmaaGreatDoorYRefCheck
namespace Go.Proofs.YtgkjcimgghflmaaGreatDoor
open Go.RowKit Go.Shelf Go.WideMaps
attribute [local go_sem] Oper.semAt_some
/-- What the entries of a map from names say of a name. -/
def keyIs (s : ByteArray) (e : MapEntry) : Bool := match e.key with | .string k => k.toList == s.toList | _ => false
def lookE (es : List MapEntry) (s : ByteArray) : Option Value := (es.find? (keyIs s)).map (·.val)
def keysS (es : List MapEntry) : Prop := ∀ e ∈ es, ∃ s : ByteArray, e.key = .string s
/-- The map in block m gives names these values. -/
def NameMap (W : World) (m : Nat) (f : ByteArray → Option Value) : Prop :=
  ∃ (es : Array MapEntry) (clock : Nat), W.heap[m]? = some (.map es clock) ∧ keysS es.toList ∧ ∀ s, lookE es.toList s = f s
theorem NameMap.kept {W W' : World} {m : Nat} {f : ByteArray → Option Value} (h : NameMap W m f) (hb : W'.heap[m]? = W.heap[m]?) : NameMap W' m f := by
  obtain ⟨es, clock, h1, h2⟩ := h
  exact ⟨es, clock, hb.trans h1, h2⟩
end Go.Proofs.YtgkjcimgghflmaaGreatDoor
