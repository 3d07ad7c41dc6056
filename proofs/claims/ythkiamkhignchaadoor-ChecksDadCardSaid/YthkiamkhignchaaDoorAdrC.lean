/-
  What Common answers, whatever two addresses it is handed.
  Conditions: none.
-/
import Derived.Test.YthkiamkhignchaaDoorAdrB
import Derived.Lib.BitFns
namespace Go.Proofs.YthkiamkhignchaaDoor.Ad
open Go.RowKit

/-- a callee that leaves the world as it is, in a region behind another one that draws its order -/
theorem quiet_add {P : Program} {f : FuncId} {args : Array Value} {w : World} {a n : Nat} {v : Value} (h : Calls P f args (w.drewN (a + n)) fun e w' => e = .returned v ∧ w.drewN (a + n) = w') :
    Calls P f args (w.drewN (a + n)) fun e w'' => e = .returned v ∧ ∃ m, w'' = w.drewN (a + m) := h.mono fun _ _ ⟨he, hm⟩ => ⟨he, n, hm.symm⟩

theorem bit_at (xs : List Int) (i j : Nat) (h : j < 8) : bit xs (8 * i + j) = bit8 (xs.getD i 0) j := by
  unfold bit
  rw [show (8 * i + j) / 8 = i by omega, show (8 * i + j) % 8 = j by omega]
/-- bytes alike up to here -/
theorem same_upto {xs ys : List Int} {i : Nat} (h : ∀ k, k < i → xs.getD k 0 = ys.getD k 0) {j : Nat} (hj : j < 8 * i) : bit xs j = bit ys j := by
  unfold bit
  rw [h (j / 8) (by omega)]
theorem com_byte {xs ys : List Int} (hx : Ok xs) (hy : Ok ys) {i : Nat} (hi : i < 16) (h : ∀ k, k < i → xs.getD k 0 = ys.getD k 0) (hne : xs.getD i 0 ≠ ys.getD i 0) :
    ∃ n : Nat, n < 8 ∧ (8 - (Lib.bitLen (bits .xor .u8 (xs.getD i 0) (ys.getD i 0)).toNat : Int)) = n ∧ com xs ys = 8 * i + n := by
  obtain ⟨n, h1, h2, h3, h4⟩ := lead (hx.at i) (hy.at i) hne
  refine ⟨n, h1, h2, com_of (by omega) (fun j hj => ?_) (fun _ => ?_)⟩
  · by_cases hk : j < 8 * i
    · exact same_upto h hk
    · obtain ⟨k, rfl⟩ : ∃ k, j = 8 * i + k := ⟨j - 8 * i, by omega⟩
      rw [bit_at _ _ _ (by omega), bit_at _ _ _ (by omega)]
      exact h3 k (by omega)
  · rw [bit_at _ _ _ h1, bit_at _ _ _ h1]
    exact h4
theorem com_end {xs ys : List Int} (h : ∀ k, k < 16 → xs.getD k 0 = ys.getD k 0) : com xs ys = 128 :=
  com_of (Nat.le_refl _) (fun _ hj => same_upto h (by omega)) (fun hlt => by omega)
theorem xor_byt (x y : Int) : 0 ≤ bits .xor .u8 x y ∧ bits .xor .u8 x y ≤ 255 := by
  unfold bits
  have := IntKind.wrap_u8 (((BitVec.ofInt IntKind.u8.bits x ^^^ BitVec.ofInt IntKind.u8.bits y).toNat : Nat) : Int)
  simp only
  rw [this]
  omega

end Go.Proofs.YthkiamkhignchaaDoor.Ad
