/-
  The reference's Of: the checksum of the bytes; the world stays.
  Conditions: at most 16000000 bytes.
-/
import Derived.Test.YtoadligcfecpfaaMem
import Derived.Test.YtoadligcfecpfaaSumNum
namespace Go.Proofs.Ytoadligcfecpfaa
open Go.RowKit

theorem tot_two (zs : List Int) (j : Nat) (hj : j % 2 = 0) (h : j + 1 < zs.length) : tot (zs.take (j + 2)) = tot (zs.take j) + (256 * zs.getD j 0 + zs.getD (j + 1) 0) := by
  rw [take_next zs (j + 1) h, tot_snoc, take_next zs j (by omega), tot_snoc]
  have e1 : (zs.take j).length = j := by simp; omega
  have e2 : (zs.take j ++ [zs.getD j 0]).length = j + 1 := by rw [List.length_append, e1]; rfl
  have w1 : wt j = 256 := by unfold wt; rw [if_pos hj]
  have w2 : wt (j + 1) = 1 := by unfold wt; rw [if_neg (by omega)]
  rw [e1, e2, w1, w2]
  omega
theorem tot_last (zs : List Int) (j : Nat) (hj : j % 2 = 0) (h : j + 1 = zs.length) : tot (zs.take (j + 2)) = tot (zs.take j) + 256 * zs.getD j 0 := by
  rw [List.take_of_length_le (by omega), ← List.take_of_length_le (l := zs) (i := j + 1) (by omega), take_next zs j (by omega), tot_snoc]
  have e1 : (zs.take j).length = j := by simp; omega
  have e3 : (zs.take j ++ [zs.getD j 0]).take j = zs.take j := by rw [List.take_append_of_le_length (by omega), List.take_take]; simp
  have e4 : (zs.take j ++ [zs.getD j 0]).getD j 0 = zs.getD j 0 := by
    simp only [List.getD_eq_getElem?_getD]
    rw [List.getElem?_append_right (by omega), e1]
    simp
  have w1 : wt j = 256 := by unfold wt; rw [if_pos hj]
  rw [e3, e4, e1, w1]

set_option maxHeartbeats 2000000 in
theorem refOf_any (A : Option Addr) (n c : Nat) (zs : List Int) (w : World) (hl : zs.length = n) (hn : n ≤ 16000000) (hr : Rd w A zs) (hy : Byt zs) :
    Calls Try.prog 11 #[.slice A n c] w fun e w' => e = .returned (.int .u16 (ck zs)) ∧ w = w' := by
  have HL := veil hl
  have HR := veil hr
  have HY := veil hy
  clear hl hr hy
  go_enter Try.func11, Try.ntmps11
  go_wp2_with fail
  go_loopw [3, 4] (fun s i wr => ∃ j : Nat, j % 2 = 0 ∧ j ≤ n + 1 ∧ i = .int .i64 j ∧ s = .int .u32 (rd (tot (zs.take j))) ∧ wr = w) (fun _ i _ => n + 1 - (intOf i).toNat)
  case atStart => exact ⟨0, rfl, Nat.zero_le _, rfl, by simp [tot, rd], rfl⟩
  case round =>
    obtain ⟨j, hj2, hj, rfl, rfl, rfl⟩ := hrel
    have hb := rd_bound (tot (zs.take j))
    have ht := tot_nonneg _ (HY.out.take j)
    have HU := veil (rd_up (tot (zs.take j)))
    have HW := veil (rd_low (tot (zs.take j)))
    have hck : Hid (n ≤ j → ck zs = 65535 - rd (tot (zs.take j))) := fun h => by unfold ck; rw [List.take_of_length_le (by rw [HL.out]; exact h)]
    by_cases hlt : j < n
    · obtain ⟨a, rfl, hca⟩ := HR.out j (by rw [HL.out]; exact hlt)
      have hza := HY.out.at_ j
      have hj3 : Hid ((j + 2) % 2 = 0 ∧ j + 2 ≤ n + 1) := ⟨by omega, by omega⟩
      by_cases h2 : j + 1 < n
      · obtain ⟨a', e, hcb⟩ := HR.out (j + 1) (by rw [HL.out]; exact h2)
        injection e with e
        subst e
        rw [show a.add (j + 1) = ⟨a.block, a.off + (j + 1), none⟩ by simp [Addr.add]] at hcb
        have hzb := HY.out.at_ (j + 1)
        have HT := veil (tot_two zs j hj2 (by rw [HL.out]; exact h2))
        generalize zs.getD j 0 = x at hca hza HT
        generalize zs.getD (j + 1) 0 = y at hcb hzb HT
        generalize rd (tot (zs.take j)) = s at hb HU HW hck ⊢
        by_cases hs : 65535 < s + (256 * x + y)
        · have HF := veil (HU.out (256 * x + y) ht (by omega) hs (by omega))
          rw [← HT.out] at HF
          clear HU HW hck HT
          go_wp2_with fail
          go_roundw
          case rel => exact ⟨j + 2, hj3.out.1, hj3.out.2, by go_num, by rw [← HF.out], by first | trivial | rfl⟩
          case measure => simp [intOf]; omega
        · have HF := veil (HW.out (256 * x + y) ht (by omega) hs)
          rw [← HT.out] at HF
          clear HU HW hck HT
          go_wp2_with fail
          go_roundw
          case rel => exact ⟨j + 2, hj3.out.1, hj3.out.2, by go_num, by rw [← HF.out], by first | trivial | rfl⟩
          case measure => simp [intOf]; omega
      · have HT := veil (tot_last zs j hj2 (by rw [HL.out]; omega))
        generalize zs.getD j 0 = x at hca hza HT
        generalize rd (tot (zs.take j)) = s at hb HU HW hck ⊢
        by_cases hs : 65535 < s + 256 * x
        · have HF := veil (HU.out (256 * x) ht (by omega) hs (by omega))
          rw [← HT.out] at HF
          clear HU HW hck HT
          go_wp2_with fail
          go_roundw
          case rel => exact ⟨j + 2, hj3.out.1, hj3.out.2, by go_num, by rw [← HF.out], by first | trivial | rfl⟩
          case measure => simp [intOf]; omega
        · have HF := veil (HW.out (256 * x) ht (by omega) hs)
          rw [← HT.out] at HF
          clear HU HW hck HT
          go_wp2_with fail
          go_roundw
          case rel => exact ⟨j + 2, hj3.out.1, hj3.out.2, by go_num, by rw [← HF.out], by first | trivial | rfl⟩
          case measure => simp [intOf]; omega
    · have E := veil (hck.out (by omega))
      generalize rd (tot (zs.take j)) = s at hb E ⊢
      clear HU HW hck
      go_wp2_with fail
      go_ret
      exact ⟨by rw [E.out]; rfl, rfl⟩

end Go.Proofs.Ytoadligcfecpfaa
