/-
  What Common answers, whatever two addresses it is handed.
  Conditions: none.
-/
import Derived.Test.YtcdcdnibligjnaaDoorAdrB
import Derived.Lib.BitFns
namespace Go.Proofs.YtcdcdnibligjnaaDoor.Ad
open Go.RowKit

set_option maxRecDepth 100000 in
theorem len8_any (x : Int) (w : World) (h0 : 0 ≤ x) (h1 : x ≤ 255) : Calls Tryd.prog 37 #[.int .u8 x] w fun e w' => e = .returned (.int .i64 (Lib.bitLen x.toNat)) ∧ w = w' := by
  have e : Hid (wrap64 (Lib.len8 x) = (Lib.bitLen x.toNat : Int)) := by
    unfold Hid wrap64
    exact Lib.len8_int x h0 h1
  go_enter Tryd.func37, Tryd.ntmps37
  go_wp2_with fail
  go_ret
  rw [e.out]
  clear e
  generalize (Lib.bitLen x.toNat : Int) = n
  generalize Lib.len8 x = l
  exact ⟨rfl, rfl⟩

theorem lead8_any (x : Int) (w : World) (h0 : 0 ≤ x) (h1 : x ≤ 255) : Calls Tryd.prog 35 #[.int .u8 x] w fun e w' => e = .returned (.int .i64 (8 - (Lib.bitLen x.toNat : Int))) ∧ w = w' := by
  have K := veil (len8_any x w h0 h1)
  have l := Lib.bitLen_le8' x h0 h1
  generalize Lib.bitLen x.toNat = n at *
  clear h0 h1
  go_enter Tryd.func35, Tryd.ntmps35
  go_wp2_with fail
  refine (K.out).mono ?_
  rintro e w1 ⟨rfl, rfl⟩
  go_wp2_with fail
  go_ret
  exact ⟨rfl, rfl⟩

/-- a callee that leaves the world as it is, in a region behind another one that draws its order -/
theorem quiet_add {P : Program} {f : FuncId} {args : Array Value} {w : World} {a n : Nat} {v : Value} (h : Calls P f args (w.drewN (a + n)) fun e w' => e = .returned v ∧ w.drewN (a + n) = w') :
    Calls P f args (w.drewN (a + n)) fun e w'' => e = .returned v ∧ ∃ m, w'' = w.drewN (a + m) := h.mono fun _ _ ⟨he, hm⟩ => ⟨he, n, hm.symm⟩

theorem bit_at (xs : List Int) (i j : Nat) (h : j < 8) : bit xs (8 * i + j) = bit8 (xs.getD i 0) j := by
  unfold bit
  rw [show (8 * i + j) / 8 = i by omega, show (8 * i + j) % 8 = j by omega]
/-- bytes alike up to here -/
theorem same_upto {xs ys : List Int} {i : Nat} (h : ∀ k, k < i → xs.getD k 0 = ys.getD k 0) {j : Nat} (hj : j < 8 * i) : bit xs j = bit ys j := by
  unfold bit
  rw [h (j / 8) (by omega)]
theorem com_byte {xs ys : List Int} (hx : Ok xs) (hy : Ok ys) {i : Nat} (hi : i < 16) (h : ∀ k, k < i → xs.getD k 0 = ys.getD k 0) (hne : xs.getD i 0 ≠ ys.getD i 0) :
    ∃ n : Nat, n < 8 ∧ (8 - (Lib.bitLen (bits .xor .u8 (xs.getD i 0) (ys.getD i 0)).toNat : Int)) = n ∧ com xs ys = 8 * i + n := by
  obtain ⟨n, h1, h2, h3, h4⟩ := lead (hx.at i) (hy.at i) hne
  refine ⟨n, h1, h2, com_of (by omega) (fun j hj => ?_) (fun _ => ?_)⟩
  · by_cases hk : j < 8 * i
    · exact same_upto h hk
    · obtain ⟨k, rfl⟩ : ∃ k, j = 8 * i + k := ⟨j - 8 * i, by omega⟩
      rw [bit_at _ _ _ (by omega), bit_at _ _ _ (by omega)]
      exact h3 k (by omega)
  · rw [bit_at _ _ _ h1, bit_at _ _ _ h1]
    exact h4
theorem com_end {xs ys : List Int} (h : ∀ k, k < 16 → xs.getD k 0 = ys.getD k 0) : com xs ys = 128 :=
  com_of (Nat.le_refl _) (fun _ hj => same_upto h (by omega)) (fun hlt => by omega)
theorem xor_byt (x y : Int) : 0 ≤ bits .xor .u8 x y ∧ bits .xor .u8 x y ≤ 255 := by
  unfold bits
  have := IntKind.wrap_u8 (((BitVec.ofInt IntKind.u8.bits x ^^^ BitVec.ofInt IntKind.u8.bits y).toNat : Nat) : Int)
  simp only
  rw [this]
  omega

set_option maxHeartbeats 2000000 in
theorem common_any (xs ys : List Int) (w : World) (hx : Ok xs) (hy : Ok ys) : Calls Tryd.prog 26 #[av xs, av ys] w fun e w' => e = .returned (.int .i64 (com xs ys)) ∧ Below w.heap.size w w' := by
  have q0 := below_new w (.cells (bv xs).toArray 23)
  have r0 := row_new (w := w) (g := w.heap.size) (cs := (bv xs).toArray) (t := 23) rfl
  have z0 : (w.alloc (.cells (bv xs).toArray 23)).heap.size = w.heap.size + 1 := by simp
  have q1 := below_new (w.alloc (.cells (bv xs).toArray 23)) (.cells (bv ys).toArray 23)
  have R0 := veil (rng_row (r0.keep q1))
  have R1 := veil (rng_row (row_new (w := w.alloc (.cells (bv xs).toArray 23)) (g := w.heap.size + 1) (cs := (bv ys).toArray) (t := 23) z0.symm))
  have Q := veil (q0.trans (q1.mono q0.size))
  have HX := veil hx
  have HY := veil hy
  clear q0 r0 z0 q1 hx hy
  go_enter Tryd.func26, Tryd.ntmps26
  go_wp2_with fail
  generalize (w.alloc (.cells (bv xs).toArray 23)).alloc (.cells (bv ys).toArray 23) = w1 at *
  go_loopw [6] (fun i wr => ∃ j q : Nat, j ≤ 16 ∧ i = .int .i64 j ∧ wr = w1.drewN q ∧ Hid (∀ k, k < j → xs.getD k 0 = ys.getD k 0)) (fun i _ => 16 - (intOf i).toNat)
  case atStart => exact ⟨0, 0, by omega, rfl, rfl, fun k hk => by omega⟩
  case round =>
    obtain ⟨j, q, hj, rfl, rfl, hR⟩ := hrel
    by_cases hlt : j < 16
    · have c0 : w1.cell? ⟨w.heap.size, j, none⟩ = some (.int .u8 (xs.getD j 0)) := rng_at R0.out (by rw [HX.out.len]; exact hlt)
      have c1 : w1.cell? ⟨w.heap.size + 1, j, none⟩ = some (.int .u8 (ys.getD j 0)) := rng_at R1.out (by rw [HY.out.len]; exact hlt)
      by_cases he : xs.getD j 0 = ys.getD j 0
      · have HE := veil he
        rw [he] at c0
        clear he
        generalize hy : ys.getD j 0 = y at c0 c1
        have hy := veil hy
        go_wp2_with fail
        go_quiet (fail)
        go_wp2_with fail
        go_roundw
        case rel =>
          refine ⟨j + 1, _, by omega, by go_num, rfl, fun k hk => ?_⟩
          by_cases e : k = j
          · subst e
            exact HE.out
          · exact hR.out k (by omega)
        case measure => simp [intOf]; omega
      · obtain ⟨n, n1, n2, n3⟩ := com_byte HX.out HY.out hlt hR.out he
        have hb := xor_byt (xs.getD j 0) (ys.getD j 0)
        have N3 := veil n3
        have K : ∀ v, Calls Tryd.prog 35 #[.int .u8 (bits .xor .u8 (xs.getD j 0) (ys.getD j 0))] v fun e w' => e = .returned (.int .i64 n) ∧ v = w' := fun v => by
          have := lead8_any (bits .xor .u8 (xs.getD j 0) (ys.getD j 0)) v hb.1 hb.2
          rwa [n2] at this
        have K := veil K
        have hne : (xs.getD j 0 == ys.getD j 0) = false := by simpa using he
        generalize xs.getD j 0 = x at *
        generalize ys.getD j 0 = y at *
        clear n2 n3 hR
        go_wp2_with fail
        go_quiet (fail)
        go_wp2_with fail
        go_quiet ((go_at_call 35; exact quiet_add (K.out _)))
        go_wp2_with fail
        go_ret
        rw [N3.out]
        exact ⟨by simp, below_still (below_still (below_still Q.out ⟨_, rfl⟩) ⟨_, rfl⟩) ⟨_, rfl⟩⟩
    · obtain rfl : j = 16 := by omega
      have N := veil (com_end hR.out)
      clear hR
      go_wp2_with fail
      go_ret
      rw [N.out]
      exact ⟨rfl, below_still Q.out ⟨_, rfl⟩⟩

end Go.Proofs.YtcdcdnibligjnaaDoor.Ad
