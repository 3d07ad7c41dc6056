/-
  What Masked answers, whatever address and number of bits it is handed.
  Conditions: none.
-/
import Derived.Test.YthkiamkhignchaaDoorAdrC
import Derived.StillTailTactics
namespace Go.Proofs.YthkiamkhignchaaDoor.Ad
open Go.RowKit

/-- the first j bytes are masked -/
def mpart (xs : List Int) (b j : Nat) : List Int := (msk xs b).take j ++ xs.drop j
theorem mpart_len {xs : List Int} (h : xs.length = 16) (b : Nat) {j : Nat} (hj : j ≤ 16) : (mpart xs b j).length = 16 := by simp [mpart, msk_len, h]; omega
theorem mpart_at (xs : List Int) (b : Nat) {j : Nat} (hj : j < 16) : (mpart xs b j).getD j 0 = xs.getD j 0 := by
  have e : ((msk xs b).take j).length = j := by simp [msk_len]; omega
  simp only [mpart, List.getD]
  rw [List.getElem?_append_right (by omega), e, Nat.sub_self, List.getElem?_drop]
  rfl
theorem mpart_set {xs : List Int} (h : xs.length = 16) (b : Nat) {j : Nat} (hj : j < 16) : (mpart xs b j).set j (mb (xs.getD j 0) (b - 8 * j)) = mpart xs b (j + 1) := by
  have e : ((msk xs b).take j).length = j := by simp [msk_len]; omega
  unfold mpart
  rw [List.set_append_right _ _ (by omega), e, Nat.sub_self, List.drop_eq_getElem_cons (by omega), List.set_cons_zero, List.take_add_one]
  rw [List.append_assoc]
  congr 1
  have := msk_at xs b hj
  rw [List.getD_eq_getElem?_getD, List.getElem?_eq_getElem (by rw [msk_len]; exact hj)] at this
  rw [List.getElem?_eq_getElem (by rw [msk_len]; exact hj)]
  simp only [Option.getD_some] at this
  rw [this]
  rfl
theorem mpart_end {xs : List Int} (h : xs.length = 16) (b : Nat) : mpart xs b 16 = msk xs b := by
  unfold mpart
  rw [List.take_of_length_le (by rw [msk_len]; omega), List.drop_of_length_le (by omega), List.append_nil]
theorem mb_min (x : Int) (b j : Nat) {k : Nat} (hk : k = min (b - 8 * j) 8) : mb x k = mb x (b - 8 * j) := by
  subst hk
  by_cases h : 8 ≤ b - 8 * j
  · rw [mb_big x h, mb_big x (by omega)]
  · rw [Nat.min_eq_left (by omega)]

end Go.Proofs.YthkiamkhignchaaDoor.Ad
