/-
  same at two slices that read as the same bytes: true; only the count of draws moves.
  Conditions: both slices read as the same bytes.
-/
import Derived.Test.YthkiamkhignchaaDoorMem
namespace Go.Proofs.YthkiamkhignchaaDoor
open Go.RowKit

set_option maxHeartbeats 1000000 in
theorem same_eq (A B : Option Addr) (n c d : Nat) (zs : List Int) (w : World) (hl : zs.length = n) (hn : n ≤ maxLen) (ha : Rd w A zs) (hb : Rd w B zs) :
    Calls Tryd.prog 49 #[.slice A n c, .slice B n d] w fun e w' => e = .returned (.bool true) ∧ Still w w' := by
  unfold maxLen at hn
  have HL := veil hl
  have HA := veil ha
  have HB := veil hb
  clear hl ha hb
  go_enter Tryd.func49, Tryd.ntmps49
  go_wp2_with fail
  go_loopw [5] (fun i wr => ∃ j q : Nat, j ≤ n ∧ i = .int .i64 j ∧ wr = w.drewN q) (fun i _ => n - (intOf i).toNat)
  case atStart => exact ⟨0, 0, Nat.zero_le _, rfl, rfl⟩
  case round =>
    obtain ⟨j, q, hj, rfl, rfl⟩ := hrel
    by_cases hlt : j < n
    · obtain ⟨a, rfl, hca⟩ := HA.out j (by rw [HL.out]; exact hlt)
      obtain ⟨b, rfl, hcb⟩ := HB.out j (by rw [HL.out]; exact hlt)
      go_wp2
      go_quiet (fail)
      go_wp2
      go_roundw
      case rel => exact ⟨j + 1, _, by omega, by go_num, rfl⟩
      case measure => simp [intOf]; omega
    · go_wp2
      go_ret
      exact ⟨rfl, q, rfl⟩

end Go.Proofs.YthkiamkhignchaaDoor
