/-
  Arrays of bytes by value, of whatever length: compared, whatever they are.
  Conditions: none.
-/
import Derived.Test.YthkiamkhignchaaDoorMemB
import Derived.Test.YthkiamkhignchaaDoorStep
import Derived.Test.YthkiamkhignchaaDoorLay
import Derived.ChangeKeysEq
namespace Go.Proofs.YthkiamkhignchaaDoor
open Go.RowKit

/-- an array of bytes by value -/
abbrev av (xs : List Int) : Value := .agg (bv xs).toArray

theorem cellsByte : Tryd.prog.cellsOf 5 = 1 := by kernel_rfl
theorem items_eq (d : Nat) (w : World) (xs ys : List Int) : ∀ (n k : Nat), xs.length = k + n → ys.length = k + n →
    (Op.eqItems (d + 1) 5 1 (bv xs).toArray (bv ys).toArray (List.range' k n)).run Tryd.prog w = .ok (decide (xs.drop k = ys.drop k)) w
  | 0, k, hx, hy => by
    rw [List.drop_of_length_le (by omega), List.drop_of_length_le (by omega)]
    simp [Op.eqItems]
  | n + 1, k, hx, hy => by
    have px : (part 5 (bv xs).toArray (k * 1)).run Tryd.prog w = .ok (.int .u8 (xs.getD k 0)) w := run_part_plain w (by unfold Program.plainKey; rw [Tryd.underlying5]) (by rw [Nat.mul_one]; simpa using bv_get xs k (by omega))
    have py : (part 5 (bv ys).toArray (k * 1)).run Tryd.prog w = .ok (.int .u8 (ys.getD k 0)) w := run_part_plain w (by unfold Program.plainKey; rw [Tryd.underlying5]) (by rw [Nat.mul_one]; simpa using bv_get ys k (by omega))
    rw [List.range'_succ]
    simp only [Op.eqItems, Sem.run_bind, px, py, Result.andThen_ok, run_equalIn_int w d 5 .u8 .u8 _ _ Tryd.underlying5]
    have ex : xs.drop k = xs.getD k 0 :: xs.drop (k + 1) := by rw [List.drop_eq_getElem_cons (by omega)]; simp [List.getD, show k < xs.length by omega]
    have ey : ys.drop k = ys.getD k 0 :: ys.drop (k + 1) := by rw [List.drop_eq_getElem_cons (by omega)]; simp [List.getD, show k < ys.length by omega]
    by_cases e : xs.getD k 0 = ys.getD k 0
    · rw [e]
      simp only [beq_self_eq_true, Bool.not_true, Bool.false_eq_true, if_false]
      rw [items_eq d w xs ys n (k + 1) (by omega) (by omega), ex, ey, e]
      simp
    · have : (xs.getD k 0 == ys.getD k 0) = false := by simpa using e
      rw [this]
      simp only [Bool.not_false, if_true, Sem.run_pure]
      rw [ex, ey]
      simp only [List.cons.injEq, e, false_and, decide_false]
theorem arr_eq {t : TypeId} {n : Nat} (ht : Tryd.prog.underlying t = some (.array n 5)) (w : World) {xs ys : List Int} (hx : xs.length = n) (hy : ys.length = n) : (Op.equal t (av xs) (av ys)).run Tryd.prog w = .ok (decide (xs = ys)) w := by
  obtain ⟨i, hi, _, _, _⟩ := info_parts info_u8
  have h := run_equalIn_array (P := Tryd.prog) w 9999 (bv xs).toArray (bv ys).toArray ht hi
  rw [cellsByte, List.range_eq_range', items_eq 9998 w xs ys n 0 (by omega) (by omega)] at h
  simpa [Op.equal, Op.maxDepth] using h
theorem arr_eql {t : TypeId} {n : Nat} (ht : Tryd.prog.underlying t = some (.array n 5)) (w : World) {xs ys : List Int} (hx : xs.length = n) (hy : ys.length = n) {z : Bool} (hz : decide (xs = ys) = z) : (binOp .eql t (av xs) (av ys)).run Tryd.prog w = .ok (.bool z) w := by
  simp [binOp, arr_eq ht w hx hy, hz]
theorem arr_neq {t : TypeId} {n : Nat} (ht : Tryd.prog.underlying t = some (.array n 5)) (w : World) {xs ys : List Int} (hx : xs.length = n) (hy : ys.length = n) {z : Bool} (hz : decide (xs = ys) = z) : (binOp .neq t (av xs) (av ys)).run Tryd.prog w = .ok (.bool (!z)) w := by
  simp [binOp, arr_eq ht w hx hy, hz]
theorem bv_byte {xs : List Int} {v : Value} (h : v ∈ bv xs) : v.oneCell' = true := by
  simp only [bv, List.mem_map] at h
  obtain ⟨z, _, rfl⟩ := h
  rfl
theorem bv_append (a b : List Int) : bv (a ++ b) = bv a ++ bv b := by simp [bv]
theorem bv_len {xs : List Int} {n : Nat} (h : xs.length = n) : n = (bv xs).length := by rw [bv_length, h]

end Go.Proofs.YthkiamkhignchaaDoor
