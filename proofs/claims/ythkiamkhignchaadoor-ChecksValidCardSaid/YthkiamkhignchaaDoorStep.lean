/-
  One operation that makes a value, by what it comes to: of use where the walk would open a great value cell by cell.
  Conditions: none.
-/
import Derived.Test.YthkiamkhignchaaDoorRow
namespace Go.Proofs.YthkiamkhignchaaDoor
open Go.RowKit

theorem wpList_value_of {P : Program} {w w' : World} {ops : Array Oper} {rest : List Oper} {o : Oper} {a : Act} {Q : Exit → Act → World → Prop} {v : Value} (hw : Region.wanted o (yielded ops a.tmps) = true) (s : Sem Value)
    (ho : execOp a.eval o = (do pure (.value (← s)))) (hrun : s.run P w = .ok v w') (h : wpList P ops Q rest (a.put o.dst v) w') : wpList P ops Q (o :: rest) a w := by
  refine wpList_step fun K hK => ?_
  rw [if_pos hw]
  have hK' := hK _ _ h
  unfold Oper.wp
  simp only [ho, hrun, Sem.run_bind, Sem.run_pure, Result.andThen_ok]
  exact hK'

theorem wpList_build_of {P : Program} {w w' : World} {ops : Array Oper} {rest : List Oper} {o : Oper} {a : Act} {Q : Exit → Act → World → Prop} {v : Value} (hw : Region.wanted o (yielded ops a.tmps) = true) (t : TypeId) (ps : Array (Nat × Operand))
    (ho : o.op = .build t ps) (vs : Array (Nat × Value)) (hx : ps.map (fun p => (p.1, a.eval p.2)) = vs) (hrun : (Instr.build t vs).run P w = .ok v w') (h : wpList P ops Q rest (a.put o.dst v) w') : wpList P ops Q (o :: rest) a w :=
  wpList_value_of hw (Instr.build t vs) (by subst hx; unfold execOp; simp only [ho]) hrun h

theorem wpList_box_of {P : Program} {w w' : World} {ops : Array Oper} {rest : List Oper} {o : Oper} {a : Act} {Q : Exit → Act → World → Prop} {v u : Value} (hw : Region.wanted o (yielded ops a.tmps) = true) (t : TypeId) (x : Operand)
    (ho : o.op = .box t x) (hx : a.eval x = u) (hrun : (Instr.box t u).run P w = .ok v w') (h : wpList P ops Q rest (a.put o.dst v) w') : wpList P ops Q (o :: rest) a w :=
  wpList_value_of hw (Instr.box t u) (by subst hx; unfold execOp; simp only [ho]) hrun h

theorem wpList_alloc_of {P : Program} {w w' : World} {ops : Array Oper} {rest : List Oper} {o : Oper} {a : Act} {Q : Exit → Act → World → Prop} {v : Value} (hw : Region.wanted o (yielded ops a.tmps) = true) (t : TypeId)
    (ho : o.op = .alloc t) (hrun : (Instr.alloc t true (.tuple #[])).run P w = .ok v w') (h : wpList P ops Q rest (a.put o.dst v) w') : wpList P ops Q (o :: rest) a w :=
  wpList_value_of hw (Instr.alloc t true (.tuple #[])) (by unfold execOp; simp only [ho]) hrun h

end Go.Proofs.YthkiamkhignchaaDoor
