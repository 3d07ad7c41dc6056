/-
  What Masked answers, whatever address and number of bits it is handed.
  Conditions: none.
-/
import Derived.Test.YtdebifkefpclaaaDoorAdvM
import Derived.StillTailTactics
namespace Go.Proofs.YtdebifkefpclaaaDoor.Ad
set_option maxRecDepth 100000
open Go.RowKit

/-- the first j bytes are masked -/
def mpart (xs : List Int) (b j : Nat) : List Int := (msk xs b).take j ++ xs.drop j
theorem mpart_len {xs : List Int} (h : xs.length = 16) (b : Nat) {j : Nat} (hj : j ≤ 16) : (mpart xs b j).length = 16 := by simp [mpart, msk_len, h]; omega
theorem mpart_at (xs : List Int) (b : Nat) {j : Nat} (hj : j < 16) : (mpart xs b j).getD j 0 = xs.getD j 0 := by
  have e : ((msk xs b).take j).length = j := by simp [msk_len]; omega
  simp only [mpart, List.getD]
  rw [List.getElem?_append_right (by omega), e, Nat.sub_self, List.getElem?_drop]
  rfl
theorem mpart_set {xs : List Int} (h : xs.length = 16) (b : Nat) {j : Nat} (hj : j < 16) : (mpart xs b j).set j (mb (xs.getD j 0) (b - 8 * j)) = mpart xs b (j + 1) := by
  have e : ((msk xs b).take j).length = j := by simp [msk_len]; omega
  unfold mpart
  rw [List.set_append_right _ _ (by omega), e, Nat.sub_self, List.drop_eq_getElem_cons (by omega), List.set_cons_zero, List.take_add_one]
  rw [List.append_assoc]
  congr 1
  have := msk_at xs b hj
  rw [List.getD_eq_getElem?_getD, List.getElem?_eq_getElem (by rw [msk_len]; exact hj)] at this
  rw [List.getElem?_eq_getElem (by rw [msk_len]; exact hj)]
  simp only [Option.getD_some] at this
  rw [this]
  rfl
theorem mpart_end {xs : List Int} (h : xs.length = 16) (b : Nat) : mpart xs b 16 = msk xs b := by
  unfold mpart
  rw [List.take_of_length_le (by rw [msk_len]; omega), List.drop_of_length_le (by omega), List.append_nil]
theorem mb_min (x : Int) (b j : Nat) {k : Nat} (hk : k = min (b - 8 * j) 8) : mb x k = mb x (b - 8 * j) := by
  subst hk
  by_cases h : 8 ≤ b - 8 * j
  · rw [mb_big x h, mb_big x (by omega)]
  · rw [Nat.min_eq_left (by omega)]

set_option maxHeartbeats 2000000 in
theorem masked_any (xs : List Int) (b : Nat) (w : World) (hx : Ok xs) (hb : b ≤ 255) : Calls Tryd.prog 50 #[av xs, .int .u8 b] w fun e w' => e = .returned (av (msk xs b)) ∧ Below w.heap.size w w' := by
  go_enter Tryd.func50, Tryd.ntmps50
  obtain ⟨Z, hZ⟩ : ∃ Z : Array Value, Z = #[.int .u8 0, .int .u8 0, .int .u8 0, .int .u8 0, .int .u8 0, .int .u8 0, .int .u8 0, .int .u8 0, .int .u8 0, .int .u8 0, .int .u8 0, .int .u8 0, .int .u8 0, .int .u8 0, .int .u8 0, .int .u8 0] := ⟨_, rfl⟩
  have hs : Hid (Z.size = 16) := by rw [hZ]; rfl
  have q0 := below_new w (.cells (bv xs).toArray 49)
  have r0 := row_new (w := w) (g := w.heap.size) (cs := (bv xs).toArray) (t := 49) rfl
  have z0 : (w.alloc (.cells (bv xs).toArray 49)).heap.size = w.heap.size + 1 := by simp
  obtain ⟨w0, hw0⟩ : ∃ w0, w.alloc (.cells (bv xs).toArray 49) = w0 := ⟨_, rfl⟩
  rw [hw0] at q0 r0 z0
  have q1 := below_new w0 (.cells Z 49)
  have R1 := veil (row_new (w := w0) (g := w.heap.size + 1) (cs := Z) (t := 49) z0.symm)
  have R0 := veil (r0.keep q1)
  have Q := veil (q0.trans (q1.mono q0.size))
  have HX := veil hx
  clear q0 r0 z0 q1 hx
  obtain ⟨w1, hw1⟩ : ∃ w1, w0.alloc (.cells Z 49) = w1 := ⟨_, rfl⟩
  rw [hw1] at R1 R0 Q
  have HW : Hid (w0.alloc (.cells #[.int .u8 0, .int .u8 0, .int .u8 0, .int .u8 0, .int .u8 0, .int .u8 0, .int .u8 0, .int .u8 0, .int .u8 0, .int .u8 0, .int .u8 0, .int .u8 0, .int .u8 0, .int .u8 0, .int .u8 0, .int .u8 0] 49) = w1) := by rw [← hZ]; exact hw1
  clear hw1
  subst hw0
  go_wp2_with fail
  rw [HW.out]
  clear HW hZ
  go_loopw [7] (fun i wr => ∃ j : Nat, j ≤ 16 ∧ i = .int .i64 j ∧ Hid (Row wr w.heap.size 49 (bv (mpart xs b j)).toArray ∧ Row wr (w.heap.size + 1) 49 Z ∧ Below w.heap.size w wr)) (fun i _ => 16 - (intOf i).toNat)
  case atStart => exact ⟨0, by omega, rfl, by simpa [mpart] using R0.out, R1.out, Q.out⟩
  case round =>
    obtain ⟨j, hj, rfl, hR⟩ := hrel
    clear R0 R1 Q
    by_cases hlt : j < 16
    · have hL := mpart_len HX.out.len b hj
      have c0 : wr.cell? ⟨w.heap.size, j, none⟩ = some (.int .u8 (xs.getD j 0)) := by
        rw [← mpart_at xs b hlt]
        exact rng_at (rng_row hR.out.1) (by omega)
      have f0 : wr.frozen? ⟨w.heap.size, j, none⟩ = false := hR.out.1.frozen _
      have hB := HX.out.at j
      have R := veil (hR.out.1.set j (.int .u8 (mb (xs.getD j 0) (b - 8 * j))))
      rw [List.setIfInBounds_toArray, bv_set, mpart_set HX.out.len b hlt] at R
      have E0 : Hid ((b : Int) - 8 * j < 0 → bits .andNot .u8 (xs.getD j 0) 255 = mb (xs.getD j 0) (b - 8 * j)) := fun h => (clear_low hB (k := 0) (by omega)).trans (mb_min _ b j (by omega))
      have E1 : Hid (0 ≤ (b : Int) - 8 * j → (b : Int) - 8 * j ≤ 8 → bits .andNot .u8 (xs.getD j 0) (255 / 2 ^ (b - 8 * j)) = mb (xs.getD j 0) (b - 8 * j)) := fun h0 h1 => (clear_low hB (by omega)).trans (mb_min _ b j (by omega))
      have E2 : Hid (8 < (b : Int) - 8 * j → bits .andNot .u8 (xs.getD j 0) 0 = mb (xs.getD j 0) (b - 8 * j)) := fun h => (clear_low hB (k := 8) (by omega)).trans (mb_min _ b j (by omega))
      generalize mb (xs.getD j 0) (b - 8 * j) = y at *
      generalize xs.getD j 0 = x at *
      clear hL
      rcases (by omega : (b : Int) - 8 * j < 0 ∨ (0 ≤ (b : Int) - 8 * j ∧ (b : Int) - 8 * j ≤ 8) ∨ 8 < (b : Int) - 8 * j) with h | ⟨h0, h1⟩ | h
      · have E := veil (E0.out h)
        have Y : Hid (Row wr.drew w.heap.size 49 (bv (mpart xs b j)).toArray ∧ Row wr.drew (w.heap.size + 1) 49 Z ∧ Below w.heap.size w wr.drew) := ⟨hR.out.1, hR.out.2.1, still_below hR.out.2.2⟩
        clear E0 E1 E2
        go_wp2_with fail
        go_still_tail 7, (by kernel_rfl)
        change wpList _ _ _ _ _ wr.drew
        have R' : Hid (Row (wr.drew.setCell ⟨w.heap.size, j, none⟩ (.int .u8 y)) w.heap.size 49 (bv (mpart xs b (j + 1))).toArray) := R.out
        have c0 : wr.drew.cell? ⟨w.heap.size, j, none⟩ = some (.int .u8 x) := c0
        have f0 : wr.drew.frozen? ⟨w.heap.size, j, none⟩ = false := f0
        clear R hR
        generalize wr.drew = w2 at *
        go_wp2_with fail
        go_roundw
        case rel =>
          rw [E.out]
          exact ⟨j + 1, by omega, by go_num, R'.out, Y.out.2.1.far (by simp) _, Y.out.2.2.setCell (p := ⟨w.heap.size, j, none⟩) (by simp) _⟩
        case measure => simp [intOf]; omega
      · have E := veil (E1.out h0 h1)
        have Y : Hid (Row wr.drew w.heap.size 49 (bv (mpart xs b j)).toArray ∧ Row wr.drew (w.heap.size + 1) 49 Z ∧ Below w.heap.size w wr.drew) := ⟨hR.out.1, hR.out.2.1, still_below hR.out.2.2⟩
        clear E0 E1 E2
        go_wp2_with fail
        go_still_tail 7, (by kernel_rfl)
        change wpList _ _ _ _ _ wr.drew
        have R' : Hid (Row (wr.drew.setCell ⟨w.heap.size, j, none⟩ (.int .u8 y)) w.heap.size 49 (bv (mpart xs b (j + 1))).toArray) := R.out
        have c0 : wr.drew.cell? ⟨w.heap.size, j, none⟩ = some (.int .u8 x) := c0
        have f0 : wr.drew.frozen? ⟨w.heap.size, j, none⟩ = false := f0
        clear R hR
        generalize wr.drew = w2 at *
        go_wp2_with fail
        go_roundw
        case rel =>
          rw [E.out]
          exact ⟨j + 1, by omega, by go_num, R'.out, Y.out.2.1.far (by simp) _, Y.out.2.2.setCell (p := ⟨w.heap.size, j, none⟩) (by simp) _⟩
        case measure => simp [intOf]; omega
      · have E := veil (E2.out h)
        have Y : Hid (Row wr.drew w.heap.size 49 (bv (mpart xs b j)).toArray ∧ Row wr.drew (w.heap.size + 1) 49 Z ∧ Below w.heap.size w wr.drew) := ⟨hR.out.1, hR.out.2.1, still_below hR.out.2.2⟩
        clear E0 E1 E2
        go_wp2_with fail
        go_still_tail 7, (by kernel_rfl)
        change wpList _ _ _ _ _ wr.drew
        have R' : Hid (Row (wr.drew.setCell ⟨w.heap.size, j, none⟩ (.int .u8 y)) w.heap.size 49 (bv (mpart xs b (j + 1))).toArray) := R.out
        have c0 : wr.drew.cell? ⟨w.heap.size, j, none⟩ = some (.int .u8 x) := c0
        have f0 : wr.drew.frozen? ⟨w.heap.size, j, none⟩ = false := f0
        clear R hR
        generalize wr.drew = w2 at *
        go_wp2_with fail
        go_roundw
        case rel =>
          rw [E.out]
          exact ⟨j + 1, by omega, by go_num, R'.out, Y.out.2.1.far (by simp) _, Y.out.2.2.setCell (p := ⟨w.heap.size, j, none⟩) (by simp) _⟩
        case measure => simp [intOf]; omega
    · obtain rfl : j = 16 := by omega
      have r0 := hR.out.1
      rw [mpart_end HX.out.len b] at r0
      have L := veil (load_rng (rng_row r0) (msk_len xs b))
      have T := veil (store_row hR.out.2.1 hs.out (msk_len xs b))
      have R5 := veil (hR.out.2.1.setRow (bv (msk xs b)).toArray)
      have Q5 := veil (below_setRow hR.out.2.2 (w.heap.size + 1) (bv (msk xs b)).toArray (by omega))
      have hl := sizeOk (msk_len xs b)
      clear hR r0
      go_wp2_with (first
        | (refine wpList_load_of rfl _ rfl rfl L.out ?_)
        | (refine wpList_store_of rfl _ _ rfl rfl rfl T.out ?_))
      refine bodyPost_ret (results_cell_row rfl _ _ (w.heap.size + 1) _ _ (0, 0) _ rfl R5.out Tryd.underlying49 rfl (by simpa using hl)) rfl ?_
      exact ⟨rfl, Q5.out⟩

end Go.Proofs.YtdebifkefpclaaaDoor.Ad
