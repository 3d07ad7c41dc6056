/-
  Contracts of package octets' functions, for every cutter that is not there, that is spoilt, or that is sound.
  Conditions: a cutter lies in a block of its own; what is left lies in a slice of at most its capacity.
-/
import Derived.Test.YthkiamkhignchaaDoorMem
namespace Go.Proofs.YthkiamkhignchaaDoor
set_option maxRecDepth 100000
open Go.RowKit

/-- what Put has made behind i rounds -/
def half (zs : List Int) (n : Int) (k i : Nat) : List Value := bv (zs ++ (List.replicate (k - i) 0 ++ be n i))

theorem half_cell (zs : List Int) (n : Int) (k j m : Nat) (hl : zs.length = m) (h : j < k) : (half zs n k j)[m + k - 1 - j]? = some (.int .u8 0) := by
  have e : k - j = (k - 1 - j) + 1 := by omega
  simp only [half, bv, List.map_append, List.map_replicate]
  rw [List.getElem?_append_right (by simp; omega), List.getElem?_append_left (by simp; omega)]
  rw [List.getElem?_replicate, if_pos (by simp; omega)]

theorem half_step (zs : List Int) (n : Int) (k j m : Nat) (hl : zs.length = m) (h : j < k) : (half zs n k j).set (m + k - 1 - j) (.int .u8 (n / 256 ^ j % 256)) = half zs n k (j + 1) := by
  obtain ⟨q, rfl⟩ : ∃ q, k = j + 1 + q := ⟨k - (j + 1), by omega⟩
  have e1 : j + 1 + q - j = q + 1 := by omega
  have e2 : j + 1 + q - (j + 1) = q := by omega
  have e3 : m + (j + 1 + q) - 1 - j = (bv zs).length + q := by rw [bv_length]; omega
  simp only [half, bv, List.map_append, List.map_replicate, e1, e2, e3, be, List.map_cons]
  rw [List.set_append_right _ _ (by simp), List.set_append_left _ _ (by simp), List.replicate_succ']
  congr 1
  rw [show (List.map (Value.int IntKind.u8) zs).length = (bv zs).length from rfl, Nat.add_sub_cancel_left]
  rw [List.set_append_right _ _ (by simp)]
  simp

end Go.Proofs.YthkiamkhignchaaDoor
