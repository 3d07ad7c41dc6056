/-
  What the laws of chains compare: parts and faults that are the same; parts of what a chain tells.
  Conditions: none.
-/
import Derived.Test.YtfkjfdmepeahnaaHdcL
import Derived.Test.YtfkjfdmepeahnaaOpnP
import Derived.Test.YtfkjfdmepeahnaaLaw
namespace Go.Proofs.Ytfkjfdmepeahnaa.Hd
set_option maxRecDepth 100000
open Go.RowKit Ops

theorem frag_neq (f : Fg) (w : World) : (binOp .neq 27 (.agg (fgc f).toArray) (.agg (fgc f).toArray)).run Try.prog w = .ok (.bool false) w := by
  unfold fgc
  go_simp
theorem flt_neq (c p : Int) (w : World) : (binOp .neq 45 (.agg (flc c p).toArray) (.agg (flc c p).toArray)).run Try.prog w = .ok (.bool false) w := by
  unfold flc
  go_simp
theorem tc_frag (T : Tl) (v : Value) : Part (tc T v) 3 (fgc T.frag) := fun j u hv => by
  match j, hv with
  | 0, hv => exact hv
  | 1, hv => exact hv
  | 2, hv => exact hv
  | 3, hv => exact hv
  | j + 4, hv => simp [fgc] at hv
theorem tc_flt (T : Tl) (v : Value) : Part (tc T v) 7 (flc T.code T.place) := fun j u hv => by
  match j, hv with
  | 0, hv => exact hv
  | 1, hv => exact hv
  | j + 2, hv => simp [flc] at hv
theorem walk_rest_le (next : Int) (zs : List Int) (p told : Int) (first mc al : Bool) : (walk next zs p told first mc al).rest.length ≤ zs.length := by
  fun_induction walk next zs p told first mc al
  case case3 => rw [show ∀ (o : Tl) (b : Bool), ({ o with alert := b } : Tl).rest = o.rest from fun _ _ => rfl, opts_rest]; simp
  all_goals first
    | (simp [errT, faulT]; done)
    | (refine Nat.le_trans (by assumption) ?_; simp; done)
    | (simp; done)
/-- a slice that reads as zs has as many -/
theorem slc_len {w : World} {A : Option Addr} {n c : Nat} {zs : List Int} (h : Slc w (.slice A n c) zs) : n = zs.length := (slc_of h).1.symm

end Go.Proofs.Ytfkjfdmepeahnaa.Hd
