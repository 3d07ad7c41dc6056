/-
  Strings by their bytes; groups by value.
  Conditions: none.
-/
import Derived.Test.YtfaaogidbpfelaaDoorTxtP
import Derived.Test.YtfaaogidbpfelaaDoorAdvM
import Derived.Test.YtfaaogidbpfelaaDoorOps
import Derived.Laws.RangeAny
namespace Go.Proofs.YtfaaogidbpfelaaDoor.Tx
open Go.RowKit

/-- a string of these bytes -/
def bs (s : Str) : ByteArray := ⟨s.toArray⟩
theorem bs_size (s : Str) : (bs s).size = s.length := by simp [bs, ByteArray.size]
theorem bs_data (s : Str) : (bs s).data.toList = s := by simp [bs]
theorem bs_list (s : Str) : (bs s).toList = s := by rw [ByteArray.toList_eq, bs_data]
theorem bs_at (s : Str) (i : Nat) (h : i < (bs s).size) : (bs s)[i]'h = s[i]'(by rw [bs_size] at h; exact h) := by
  show (bs s).data[i]'_ = _
  simp [bs]
theorem bs_app (s t : Str) : bs s ++ bs t = bs (s ++ t) := by
  apply ByteArray.ext
  simp [bs]
theorem bs_of (x : ByteArray) : x = bs x.data.toList := by
  apply ByteArray.ext
  simp [bs]
theorem bs_inj {s t : Str} (h : bs s = bs t) : s = t := by rw [← bs_data s, h, bs_data]
theorem bs_eq (s t : Str) : (bs s = bs t) = (s = t) := propext ⟨bs_inj, fun h => by rw [h]⟩
theorem bs_cut (s : Str) (i j : Nat) : (bs s).extract i j = bs ((s.drop i).take (j - i)) := by
  apply ByteArray.ext
  apply Array.ext'
  simp [bs, ByteArray.extract, ByteArray.copySlice, List.take_drop]

end Go.Proofs.YtfaaogidbpfelaaDoor.Tx
