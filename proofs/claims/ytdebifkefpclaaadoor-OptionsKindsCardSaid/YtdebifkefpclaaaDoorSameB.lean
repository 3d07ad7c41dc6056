/-
  SameBytes at two slices that read as the same bytes: true; only the count of draws moves.
  Conditions: both slices read as the same bytes.
-/
import Derived.Test.YtdebifkefpclaaaDoorSame
namespace Go.Proofs.YtdebifkefpclaaaDoor
open Go.RowKit

theorem sameBytes_eq (A B : Option Addr) (n c d : Nat) (zs : List Int) (w : World) (hl : zs.length = n) (hn : n ≤ maxLen) (ha : Rd w A zs) (hb : Rd w B zs) :
    Calls Tryd.prog 15 #[.slice A n c, .slice B n d] w fun e w' => e = .returned (.bool true) ∧ Still w w' := by
  have H := veil (same_eq A B n c d zs w hl hn ha hb)
  clear hl hn ha hb
  go_enter Tryd.func15, Tryd.ntmps15
  go_wp2_with fail
  refine (H.out).mono ?_
  rintro e w' ⟨rfl, hw⟩
  go_wp2_with fail
  go_ret
  exact ⟨rfl, hw⟩

end Go.Proofs.YtdebifkefpclaaaDoor
