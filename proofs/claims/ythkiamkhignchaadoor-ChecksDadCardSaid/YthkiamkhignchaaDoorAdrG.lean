/-
  A prefix that a literal makes of an address and a number; addresses that lie behind one another, stored; loads of single bytes in regions that draw their order.
  Conditions: none.
-/
import Derived.Test.YthkiamkhignchaaDoorAdrL
namespace Go.Proofs.YthkiamkhignchaaDoor.Ad
open Go.ChangeShapes Go.WideShapes Go.ChangeAt Go.RowKit

theorem rng_tail {w : World} {g o : Nat} {b : Int} {zs : List Int} (h : w.rangeAt g o (bv (b :: zs))) : w.rangeAt g (o + 1) (bv zs) := fun j v hv => by
  have := h (j + 1) v (by simpa [bv] using hv)
  rwa [show o + (j + 1) = o + 1 + j by omega] at this
/-- a variable of sixteen bytes, made and filled -/
theorem At.fill {w0 w : World} {L : List (Nat × List Int)} (h : At w0 w L) (zs : List Int) {Z : Array Value} (t : TypeId) : At w0 ((w.alloc (.cells Z t)).setRow w.heap.size (bv zs).toArray) ((w.heap.size, zs) :: L) := by
  have q := below_setRow (below_new w (.cells Z t)) w.heap.size (bv zs).toArray (Nat.le_refl _)
  have k := h.keep q
  refine ⟨k.knw, fun x hx => ?_, k.below⟩
  rcases List.mem_cons.1 hx with rfl | hx
  · exact rng_row ((row_new rfl).setRow _)
  · exact k.rng x hx
theorem store_new (w : World) {Z : Array Value} (hs : Z.size = 16) {zs : List Int} (hz : zs.length = 16) : (Instr.storeAt 23 (.pointer (some ⟨w.heap.size, 0, none⟩)) (av zs)).run Tryd.prog (w.alloc (.cells Z 23)) = .ok () ((w.alloc (.cells Z 23)).setRow w.heap.size (bv zs).toArray) :=
  store_row (row_new rfl) hs hz
/-- a value that a literal makes, in a region that draws its order -/
theorem yieldsIf_build {P : Program} {ops : Array Oper} {S : World → Prop} {op : Oper} {a : Act} {v : Value} (hw : Region.wanted op (yielded ops a.tmps) = true) (t : TypeId) (ps : Array (Nat × Operand)) (ho : op.op = .build t ps) (vs : Array (Nat × Value)) (hx : ps.map (fun p => (p.1, a.eval p.2)) = vs)
    (hrun : ∀ w, (Instr.build t vs).run P w = .ok v w) : YieldsIf P ops S op v a :=
  .inl ⟨hw, fun w _ => by
    unfold execOp
    simp only [ho, hx, hrun, Sem.run_bind, Sem.run_pure, Result.andThen_ok]⟩
/-- a byte's load, likewise -/
theorem At.byte {w0 w : World} {L : List (Nat × List Int)} (h : At w0 w L) {g : Nat} {xs : List Int} (hm : (g, xs) ∈ L) {j : Nat} (hj : j < xs.length) : w.cell? ⟨g, j, none⟩ = some (.int .u8 (xs.getD j 0)) := rng_at (h.rng _ hm) hj

end Go.Proofs.YthkiamkhignchaaDoor.Ad
