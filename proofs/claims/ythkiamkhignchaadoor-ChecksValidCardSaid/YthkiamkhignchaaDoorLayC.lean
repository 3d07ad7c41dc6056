/-
  A cutter of octets among blocks that are known whole: what each call answers, and which blocks are known behind it.
  Conditions: the cutter, and the bytes that it cuts, lie in two of these blocks.
-/
import Derived.Test.YthkiamkhignchaaDoorArr
import Derived.Test.YthkiamkhignchaaDoorOctFn
namespace Go.Proofs.YthkiamkhignchaaDoor
set_option maxRecDepth 100000
open Go.RowKit

/-- a sound cutter's cells: r bytes are left, which begin at place o of block b -/
abbrev ct (b o r : Nat) : List Value := [.slice (some ⟨b, o, none⟩) r r, .bool true]
/-- a spoilt one's -/
abbrev ctBad : List Value := [.slice none 0 0, .bool false]

theorem part_drop {zs : List Int} {o r : Nat} : Part (bv zs) o (bv ((zs.drop o).take r)) := fun j v hv => by
  have hj : j < r := by
    have := (List.getElem?_eq_some_iff.1 hv).1
    rw [bv_length] at this
    simp at this
    omega
  rw [← hv]
  simp [bv, hj]
theorem rd_drop {w : World} {b o r : Nat} {t : TypeId} {zs : List Int} (h : Row w b t (bv zs).toArray) : Rd w (some ⟨b, o, none⟩) ((zs.drop o).take r) :=
  rd_row h (fun j hj => part_drop j _ (bv_get _ j hj))
theorem len_drop {zs : List Int} {o r : Nat} (h : o + r ≤ zs.length) : ((zs.drop o).take r).length = r := by simp; omega

theorem cutA_ct (b o r k : Nat) : cutA (some ⟨b, o, none⟩) r k = some ⟨b, if r = k then o else o + k, none⟩ := by
  unfold cutA
  by_cases e : r = k
  · rw [if_pos e, if_pos e]
  · rw [if_neg e, if_neg e]
    simp [Addr.add]

section
variable {w0 w : World} {L : List Blk} {i g b o r : Nat} {t : TypeId} {zs : List Int}

end

end Go.Proofs.YthkiamkhignchaaDoor
