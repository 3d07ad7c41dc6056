/-
  More single steps: copies, stores, literals in a region that draws its order; what stands behind a slice's first elements; a slice, where a whole row is written anew.
  Conditions: none.
-/
import Derived.Test.YthkiamkhignchaaDoorGrow
namespace Go.Proofs.YthkiamkhignchaaDoor
open Go.RowKit

/-- one copy as one step of a region that draws -/
theorem wp_copy_of {P : Program} {o : Oper} {a : Act} {w w' : World} {K : Act → World → Prop} {Q : Exit → Act → World → Prop} {t t' : TypeId} {v u r : Value} (s x : Operand)
    (ho : o.op = .call { callee := .builtin .copy, args := #[s, x], argTypes := #[t, t'] }) (hs : a.eval s = v) (hx : a.eval x = u)
    (hrun : (Builtin.copy_ #[t, t'] o.type #[v, u]).run P w = .ok r w') (h : K (a.put o.dst r) w') : Oper.wp P o a w K Q := by
  unfold Oper.wp execOp
  simp only [ho, resolve, invoke, builtin, Sem.run_bind, Sem.run_pure, Result.andThen_ok, List.map_toArray, List.map_cons, List.map_nil, hs, hx, hrun]
  exact h
/-- one store as one step of a region that draws -/
theorem wp_store_of {P : Program} {o : Oper} {a : Act} {w w' : World} {K : Act → World → Prop} {Q : Exit → Act → World → Prop} {t : TypeId} {v p : Value} (x y : Operand)
    (ho : o.op = .store t x y) (hx : a.eval x = p) (hy : a.eval y = v) (hrun : (Instr.storeAt t p v).run P w = .ok () w') (h : K (a.put o.dst undef) w') : Oper.wp P o a w K Q := by
  unfold Oper.wp execOp
  simp only [ho, hx, hy, hrun, Sem.run_bind, Sem.run_pure, Result.andThen_ok]
  simpa [Oper.upon] using h
/-- a value that a literal makes, in a region that draws its order -/
theorem yieldsIf_build {P : Program} {ops : Array Oper} {S : World → Prop} {op : Oper} {a : Act} {v : Value} (hw : Region.wanted op (yielded ops a.tmps) = true) (t : TypeId) (ps : Array (Nat × Operand)) (ho : op.op = .build t ps) (vs : Array (Nat × Value)) (hx : ps.map (fun p => (p.1, a.eval p.2)) = vs)
    (hrun : ∀ w, (Instr.build t vs).run P w = .ok v w) : YieldsIf P ops S op v a :=
  .inl ⟨hw, fun w _ => by
    unfold execOp
    simp only [ho, hx, hrun, Sem.run_bind, Sem.run_pure, Result.andThen_ok]⟩
/-- what stands behind the first k elements of a slice -/
theorem slc_drop {w : World} {A : Option Addr} {n c k : Nat} {zs : List Int} (h : Slc w (.slice A n c) zs) (hk : k ≤ n) : Slc w (.slice (cutA A c k) (n - k) (c - k)) (zs.drop k) := by
  rcases h with ⟨e, rfl⟩ | ⟨a, c', e, hr, hc⟩
  · injection e with e1 e2 e3
    subst e1 e2 e3
    obtain rfl : k = 0 := by omega
    exact .inl ⟨by simp [cutA], by simp⟩
  · injection e with e1 e2 e3
    subst e1 e2 e3
    refine .inr ?_
    by_cases e : c = k
    · refine ⟨a, 0, ?_, fun j hj => ?_, by simp; omega⟩
      · simp only [cutA, if_pos e, List.length_drop]
        congr 1
        omega
      · simp at hj
        omega
    · refine ⟨a.add k, c - k, ?_, fun j hj => ⟨_, rfl, ?_⟩, by simp; omega⟩
      · simp only [cutA, if_neg e, List.length_drop, Option.map_some]
      · obtain ⟨a', e', hcell⟩ := hr (k + j) (by simp at hj; omega)
        injection e' with e'
        subst e'
        have ea : (a.add k).add j = a.add (k + j) := by
          by_cases hk0 : k = 0
          · subst hk0
            simp [Addr.add]
          · by_cases hj0 : j = 0
            · subst hj0
              simp [Addr.add]
            · simp [Addr.add, hk0, hj0, Nat.add_assoc]
        rw [ea, hcell]
        simp [List.getD]
theorem Rd.setRow {w : World} {A : Option Addr} {zs : List Int} {g : Nat} (h : Rd w A zs) (ho : Off A g) (cs : Array Value) : Rd (w.setRow g cs) A zs := by
  intro j hj
  obtain ⟨a, rfl, hc⟩ := h j hj
  refine ⟨a, rfl, ?_⟩
  rw [← hc]
  refine World.cell?_of_block ?_
  unfold World.setRow
  rw [Array.getElem?_modify, if_neg (fun e => ho a rfl (by rw [block_add] at e; exact e.symm))]
theorem cell_setRow {w : World} {a : Addr} {g : Nat} {v : Value} (h : w.cell? a = some v) (hne : a.block ≠ g) (cs : Array Value) : (w.setRow g cs).cell? a = some v := by
  rw [← h]
  refine World.cell?_of_block ?_
  unfold World.setRow
  rw [Array.getElem?_modify, if_neg (fun e => hne e.symm)]
theorem Slc.setRow {w : World} {A : Option Addr} {n c g : Nat} {zs : List Int} (h : Slc w (.slice A n c) zs) (ho : Off A g) (cs : Array Value) : Slc (w.setRow g cs) (.slice A n c) zs := by
  rcases h with ⟨e1, e2⟩ | ⟨b, c', e1, hr, e3⟩
  · exact .inl ⟨e1, e2⟩
  · injection e1 with e4 e5 e6
    subst e4 e5 e6
    exact .inr ⟨b, c, rfl, hr.setRow ho cs, e3⟩

end Go.Proofs.YthkiamkhignchaaDoor
