/-
  The contract of package octets' Put: the bytes, and behind them the number in so many, in a block of its own without room behind.
  Conditions: the bytes are at most 16000000.
-/
import Derived.Test.YtddmjenhpbbocaaOctD
namespace Go.Proofs.Ytddmjenhpbbocaa
open Go.RowKit

/-- what Put has made behind i rounds -/
def half (zs : List Int) (n : Int) (k i : Nat) : List Value := bv (zs ++ (List.replicate (k - i) 0 ++ be n i))

theorem half_cell (zs : List Int) (n : Int) (k j m : Nat) (hl : zs.length = m) (h : j < k) : (half zs n k j)[m + k - 1 - j]? = some (.int .u8 0) := by
  have e : k - j = (k - 1 - j) + 1 := by omega
  simp only [half, bv, List.map_append, List.map_replicate]
  rw [List.getElem?_append_right (by simp; omega), List.getElem?_append_left (by simp; omega)]
  rw [List.getElem?_replicate, if_pos (by simp; omega)]
theorem half_step (zs : List Int) (n : Int) (k j m : Nat) (hl : zs.length = m) (h : j < k) : (half zs n k j).set (m + k - 1 - j) (.int .u8 (n / 256 ^ j % 256)) = half zs n k (j + 1) := by
  obtain ⟨q, rfl⟩ : ∃ q, k = j + 1 + q := ⟨k - (j + 1), by omega⟩
  have e1 : j + 1 + q - j = q + 1 := by omega
  have e2 : j + 1 + q - (j + 1) = q := by omega
  have e3 : m + (j + 1 + q) - 1 - j = (bv zs).length + q := by rw [bv_length]; omega
  simp only [half, bv, List.map_append, List.map_replicate, e1, e2, e3, be, List.map_cons]
  rw [List.set_append_right _ _ (by simp), List.set_append_left _ _ (by simp), List.replicate_succ']
  congr 1
  rw [show (List.map (Value.int IntKind.u8) zs).length = (bv zs).length from rfl, Nat.add_sub_cancel_left]
  rw [List.set_append_right _ _ (by simp)]
  simp

set_option maxHeartbeats 1000000 in
theorem put_yes (A : Option Addr) (m c : Nat) (zs : List Int) (n : Int) (k : Nat) (w : World) (hl : zs.length = m) (hm : m ≤ 16000000) (hr : Rd w A zs) (h1 : 1 ≤ k) (h8 : k ≤ 8) :
    Calls Try.prog 21 #[.slice A m c, .int .u64 n, .int .i64 k] w fun e w' => e = .returned (.slice (some ⟨w.heap.size, 0, none⟩) (m + k) (m + k)) ∧
      w.alloc (.cells (bv (zs ++ be n k)).toArray 5) = w' := by
  have hmk := run_make_u8 (m + k) (by omega) w
  simp only [Int.natCast_add] at hmk
  have hcp := run_copy_new m (m + k) c A zs (zeros (m + k)) w 3 hl hr (zeros_size _) (by omega)
  rw [show (bv zs ++ (zeros (m + k)).toList.drop m) = half zs n k 0 by rw [zeros_list]; simp [half, bv, be]] at hcp
  have HL := veil hl
  clear hl hr
  go_enter Try.func21, Try.ntmps21
  go_wp2_with fail
  refine (width_yes k _ (by omega) (by omega)).mono ?_
  rintro e w' ⟨rfl, rfl⟩
  go_wp2_with fail
  go_loopw [1, 21] (fun x i wr => ∃ j : Nat, j ≤ k ∧ i = .int .i64 j ∧ x = .int .u64 (n / 256 ^ j) ∧ wr = w.alloc (.cells (half zs n k j).toArray 5)) (fun _ i _ => k - (intOf i).toNat)
  case atStart => exact ⟨0, Nat.zero_le _, rfl, by simp, rfl⟩
  case round =>
    obtain ⟨j, hj, rfl, rfl, rfl⟩ := hrel
    by_cases hlt : j < k
    · have hc := half_cell zs n k j m HL.out hlt
      have E := veil (half_step zs n k j m HL.out hlt)
      go_wp2
      go_roundw
      case rel => exact ⟨j + 1, by omega, by go_num, by rw [Int.pow_succ, ← Int.ediv_ediv_of_nonneg (by exact Int.le_of_lt (Int.pow_pos (by omega)))], by rw [E.out]⟩
      case measure => simp [intOf]; omega
    · go_wp2
      go_ret
      have e : j = k := by omega
      subst e
      simp [half]

set_option maxHeartbeats 1000000 in
theorem put_no (A : Option Addr) (m c : Nat) (zs : List Int) (n many : Int) (w : World) (hl : zs.length = m) (hm : m ≤ 16000000) (hr : Rd w A zs) (hw : many < 1 ∨ 8 < many) :
    Calls Try.prog 21 #[.slice A m c, .int .u64 n, .int .i64 many] w fun e w' => e = .returned (.slice (some ⟨w.heap.size, 0, none⟩) (m + 8) (m + 8)) ∧
      w.alloc (.cells (bv (zs ++ be n 8)).toArray 5) = w' := by
  have hmk := run_make_u8 (m + 8) (by omega) w
  simp only [Int.natCast_add, Int.cast_ofNat_Int] at hmk
  have hcp := run_copy_new m (m + 8) c A zs (zeros (m + 8)) w 3 hl hr (zeros_size _) (by omega)
  rw [show (bv zs ++ (zeros (m + 8)).toList.drop m) = half zs n 8 0 by rw [zeros_list]; simp [half, bv, be]] at hcp
  have HL := veil hl
  have HW := veil hw
  clear hl hr hw
  go_enter Try.func21, Try.ntmps21
  go_wp2_with fail
  refine (width_no many _ HW.out).mono ?_
  rintro e w' ⟨rfl, rfl⟩
  go_wp2_with fail
  go_loopw [1, 21] (fun x i wr => ∃ j : Nat, j ≤ 8 ∧ i = .int .i64 j ∧ x = .int .u64 (n / 256 ^ j) ∧ wr = w.alloc (.cells (half zs n 8 j).toArray 5)) (fun _ i _ => 8 - (intOf i).toNat)
  case atStart => exact ⟨0, Nat.zero_le _, rfl, by simp, rfl⟩
  case round =>
    obtain ⟨j, hj, rfl, rfl, rfl⟩ := hrel
    by_cases hlt : j < 8
    · have hc := half_cell zs n 8 j m HL.out hlt
      have hs := half_step zs n 8 j m HL.out hlt
      rw [show m + 8 - 1 - j = m + 7 - j by omega] at hc hs
      have E := veil hs
      clear hs
      go_wp2
      go_roundw
      case rel => exact ⟨j + 1, by omega, by go_num, by rw [Int.pow_succ, ← Int.ediv_ediv_of_nonneg (by exact Int.le_of_lt (Int.pow_pos (by omega)))], by rw [E.out]⟩
      case measure => simp [intOf]; omega
    · go_wp2
      go_ret
      have e : j = 8 := by omega
      subst e
      simp [half]

end Go.Proofs.Ytddmjenhpbbocaa
