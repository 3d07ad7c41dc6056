/-
  Two strings, one behind the other, as one operation: in a walk, and in a region that draws its order.
  Conditions: their lengths together are at most 9223372036854775807.
-/
import Derived.Test.YtfaaogidbpfelaaDoorTxtM
import Derived.Laws.Concat
import Derived.Deep.RegionHeld3
namespace Go.Proofs.YtfaaogidbpfelaaDoor.Tx
open Go.RowKit

/-- two strings that are not too long -/
def Fits (s t : Str) : Prop := s.length + t.length ≤ 1000000
theorem fits {s t : Str} (h : s.length + t.length ≤ 1000000) : Fits s t := h
theorem run_add (a b : Str) (h : a.length + b.length ≤ 1000000) (u : World) : (binOp .add 9 (.string (bs a)) (.string (bs b))).run Tryd.prog u = .ok (.string (bs (a ++ b))) u := by
  have h1 : ¬ (bs a).size + (bs b).size > 9223372036854775807 := by rw [bs_size, bs_size]; omega
  have h2 : bs a ++ bs b = bs (a ++ b) := bs_app a b
  first
    | (rw [run_concat, if_neg h1, h2])
    | (simp [binOp, go_sem, h1, h2])
theorem exec_add {op : Oper} {a : Act} {s t : Str} (x y : Operand) (ho : op.op = .binOp .add 9 x y 9) (hx : a.eval x = .string (bs s)) (hy : a.eval y = .string (bs t)) (h : Fits s t) (u : World) :
    (execOp a.eval op).run Tryd.prog u = .ok (.value (.string (bs (s ++ t)))) u := by
  unfold execOp
  simp only [ho, hx, hy, Sem.run_bind, Sem.run_pure, eqGuard, Bool.not_false, if_true, Result.andThen_ok, run_add s t h u]
theorem yields_add {ops : Array Oper} {S : World → Prop} {op : Oper} {a : Act} {s t : Str} (hw : Region.wanted op (yielded ops a.tmps) = true) (x y : Operand) (ho : op.op = .binOp .add 9 x y 9) (hx : a.eval x = .string (bs s)) (hy : a.eval y = .string (bs t)) (h : Fits s t) :
    YieldsIf Tryd.prog ops S op (.string (bs (s ++ t))) a :=
  .inl ⟨hw, fun w _ => exec_add x y ho hx hy h w⟩
theorem wpList_add_of {w : World} {ops : Array Oper} {rest : List Oper} {o : Oper} {a : Act} {Q : Exit → Act → World → Prop} (s t : Str) (hw : Region.wanted o (yielded ops a.tmps) = true) (x y : Operand) (ho : o.op = .binOp .add 9 x y 9) (hx : a.eval x = .string (bs s)) (hy : a.eval y = .string (bs t))
    (hl : Fits s t) (h : wpList Tryd.prog ops Q rest (a.put o.dst (.string (bs (s ++ t)))) w) : wpList Tryd.prog ops Q (o :: rest) a w := by
  refine wpList_step fun K hK => ?_
  rw [if_pos hw]
  have hK' := hK _ _ h
  unfold Oper.wp
  simp only [exec_add x y ho hx hy hl w]
  exact hK'
end Go.Proofs.YtfaaogidbpfelaaDoor.Tx
