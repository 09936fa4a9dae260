/-
  What the document's own functions on the fields of a node return; conditions: none but that the tree lies in memory.
-/
import Derived.Lib.QuietBelow
import Derived.BigQuiet
import Derived.Test.YtmeeombadkgneaaZRefWords
import Derived.Test.YtmeeombadkgneaaZLoops
namespace Go.Proofs.Ytmeeombadkgneaa
open Go.RowKit Go.Shelf

attribute [local go_sem] Oper.semAt_some
theorem fields_named {op so nu : Int} {nm : ByteArray} (h : op = 1 ∨ op = 3) : fieldsB op so nm nu = (nameB nm && (decide (1 ≤ so) && (decide (so ≤ 5) && (nu == 0)))) := by
  rcases h with rfl | rfl <;> rfl

def plainB (s : Int) : Bool := decide (s = 1 ∨ s = 3 ∨ s = 4 ∨ s = 5)
/-- The sorts that an operator takes, where they are a list. -/
def wantsL (op : Int) : Option (List Int) :=
  if op ∈ [1, 2, 9, 30, 31] then some []
  else if op ∈ [6, 7, 10] then some [1]
  else if op ∈ [4, 5, 38, 39] then some [1, 1]
  else if op ∈ [11, 12, 13, 41] then some [4, 4]
  else if op = 40 then some [1, 4]
  else if op = 14 then some [5, 1]
  else if op = 15 then some [5, 1, 1]
  else if op = 16 then some [5]
  else if op = 32 then some [2]
  else if op ∈ [33, 34, 35, 36] then some [2, 2]
  else none
def wantOps : List Int := [1, 2, 9, 30, 31, 6, 7, 10, 4, 5, 38, 39, 11, 12, 13, 41, 40, 14, 15, 16, 32, 33, 34, 35, 36]

end Go.Proofs.Ytmeeombadkgneaa
