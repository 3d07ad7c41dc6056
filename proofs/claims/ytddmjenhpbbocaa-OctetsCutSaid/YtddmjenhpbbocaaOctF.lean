/-
  The contract of same and SameBytes at two slices that read as the same bytes: true; only the tape's count moves.
  Conditions: both slices read as the same list of bytes.
-/
import Derived.Test.YtddmjenhpbbocaaOctC
import Derived.Deep.QuietTactic
import Derived.BigQuiet
import Derived.Deep.Draws
namespace Go.Proofs.Ytddmjenhpbbocaa
open Go.RowKit

theorem Rd.drewN {w : World} {A : Option Addr} {zs : List Int} (h : Rd w A zs) (q : Nat) : Rd (w.drewN q) A zs := h

/-- a callee that leaves the world as it is, in a region that draws its order -/
theorem quiet_as {P : Program} {f : FuncId} {args : Array Value} {w : World} {n : Nat} {v : Value} (h : Calls P f args (w.drewN n) fun e w' => e = .returned v ∧ w.drewN n = w') :
    Calls P f args (w.drewN n) fun e w'' => e = .returned v ∧ ∃ m, w'' = w.drewN m := h.mono fun _ _ ⟨he, hm⟩ => ⟨he, n, hm.symm⟩

/-- only the count of draws has moved -/
def Still (w w' : World) : Prop := ∃ q, w' = w.drewN q

set_option maxHeartbeats 1000000 in
theorem same_eq (A B : Option Addr) (n c d : Nat) (zs : List Int) (w : World) (hl : zs.length = n) (hn : n ≤ maxLen) (ha : Rd w A zs) (hb : Rd w B zs) :
    Calls Try.prog 30 #[.slice A n c, .slice B n d] w fun e w' => e = .returned (.bool true) ∧ Still w w' := by
  unfold maxLen at hn
  have HL := veil hl
  have HA := veil ha
  have HB := veil hb
  clear hl ha hb
  go_enter Try.func30, Try.ntmps30
  go_wp2_with fail
  go_loopw [5] (fun i wr => ∃ j q : Nat, j ≤ n ∧ i = .int .i64 j ∧ wr = w.drewN q) (fun i _ => n - (intOf i).toNat)
  case atStart => exact ⟨0, 0, Nat.zero_le _, rfl, rfl⟩
  case round =>
    obtain ⟨j, q, hj, rfl, rfl⟩ := hrel
    by_cases hlt : j < n
    · obtain ⟨a, rfl, hca⟩ := HA.out j (by rw [HL.out]; exact hlt)
      obtain ⟨b, rfl, hcb⟩ := HB.out j (by rw [HL.out]; exact hlt)
      go_wp2
      go_quiet (fail)
      go_wp2
      go_roundw
      case rel => exact ⟨j + 1, _, by omega, by go_num, rfl⟩
      case measure => simp [intOf]; omega
    · go_wp2
      go_ret
      exact ⟨rfl, q, rfl⟩

theorem sameBytes_eq (A B : Option Addr) (n c d : Nat) (zs : List Int) (w : World) (hl : zs.length = n) (hn : n ≤ maxLen) (ha : Rd w A zs) (hb : Rd w B zs) :
    Calls Try.prog 18 #[.slice A n c, .slice B n d] w fun e w' => e = .returned (.bool true) ∧ Still w w' := by
  have H := veil (same_eq A B n c d zs w hl hn ha hb)
  clear hl hn ha hb
  go_enter Try.func18, Try.ntmps18
  go_wp2_with fail
  refine (H.out).mono ?_
  rintro e w' ⟨rfl, hw⟩
  go_wp2_with fail
  go_ret
  exact ⟨rfl, hw⟩

end Go.Proofs.Ytddmjenhpbbocaa
