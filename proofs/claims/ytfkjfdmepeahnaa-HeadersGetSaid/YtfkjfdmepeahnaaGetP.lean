/-
  What a chain tells, in plain words: with a fault nothing but the alert and the fault; without one no fault.
  Conditions: none.
-/
import Derived.Test.YtfkjfdmepeahnaaHdrW
import Derived.Test.YtfkjfdmepeahnaaGetC
namespace Go.Proofs.Ytfkjfdmepeahnaa.Hd
set_option maxRecDepth 100000
open Go.RowKit

/-- a fault comes alone, and no fault but with 7 -/
def Alone (T : Tl) : Prop := (T.e = 7 → T.frag = {} ∧ T.last = 0 ∧ T.rest = []) ∧ (T.e ≠ 7 → T.code = 0 ∧ T.place = 0)
theorem alone_err {e : Int} (h : e ≠ 7) : Alone (errT e) := ⟨fun h7 => absurd h7 h, fun _ => ⟨rfl, rfl⟩⟩
theorem alone_fault (c p : Int) (al : Bool) : Alone (faulT c p al) := ⟨fun _ => ⟨rfl, rfl, rfl⟩, fun h => absurd rfl h⟩
theorem alone_none (l : Int) (r : List Int) (al : Bool) (f : Fg) : Alone { last := l, rest := r, alert := al, frag := f } := ⟨fun h => absurd h (show ¬ (0 : Int) = 7 by decide), fun _ => ⟨rfl, rfl⟩⟩
theorem opts_alone (h : List Int) (p : Int) (hop mc : Bool) (i : Nat) (al : Bool) : Alone (opts h p hop mc i al) := by
  fun_induction opts h p hop mc i al
  all_goals first
    | assumption
    | exact alone_fault _ _ _
    | exact alone_err (by decide)
    | exact alone_none _ _ _ _
theorem walk_alone (next : Int) (zs : List Int) (p told : Int) (first mc al : Bool) : Alone (walk next zs p told first mc al) := by
  fun_induction walk next zs p told first mc al
  all_goals first
    | assumption
    | exact alone_fault _ _ _
    | exact alone_err (by decide)
    | exact alone_none _ _ _ _
    | exact opts_alone _ _ _ _ _ _
theorem tell_alone (zs : List Int) : Alone (tellB zs) := walk_alone _ _ _ _ _ _ _

end Go.Proofs.Ytfkjfdmepeahnaa.Hd
