/-
  What Within and Of answer, whatever address, prefix and id they are handed.
  Conditions: none.
-/
import Derived.Test.YthkiamkhignchaaDoorAdrD
import Derived.Deep.RegionHeld3
import Derived.Deep.RegionLaw
import Derived.BigRegion
namespace Go.Proofs.YthkiamkhignchaaDoor.Ad
open Go.RowKit

/-- a prefix by value -/
abbrev pv (ys : List Int) (b : Int) : Value := .agg (bv (ys ++ [b])).toArray
theorem pv_addr {w : World} {g o : Nat} {ys : List Int} {b : Int} (h : w.rangeAt g o (bv (ys ++ [b]))) : w.rangeAt g o (bv ys) := fun j v hv => h j v (by
  have := (List.getElem?_eq_some_iff.1 hv).1
  simp only [bv, List.map_append] at hv ⊢
  rw [List.getElem?_append_left (by simpa [bv] using this)]
  exact hv)
theorem pv_bits {w : World} {g : Nat} {ys : List Int} {b : Int} (h : w.rangeAt g 0 (bv (ys ++ [b]))) (hy : ys.length = 16) : w.cell? ⟨g, 16, none⟩ = some (.int .u8 b) := by
  have := h 16 (.int .u8 b) (by simp [bv, hy])
  simpa using this
/-- is it of a prefix? -/
def inp (xs ys : List Int) (b : Nat) : Bool := decide (min b 128 ≤ com xs ys)

/-- an id by value -/
abbrev iv (id : List Int) : Value := .agg (bv id).toArray
end Go.Proofs.YthkiamkhignchaaDoor.Ad
