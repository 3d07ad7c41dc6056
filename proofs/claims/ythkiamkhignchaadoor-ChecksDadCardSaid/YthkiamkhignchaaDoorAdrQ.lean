/-
  Variables of sixteen bytes that a call makes one behind the other: made, boxed, loaded, stored, whole and byte by byte; slices that a literal makes.
  Conditions: none.
-/
import Derived.Test.YthkiamkhignchaaDoorAdrG
namespace Go.Proofs.YthkiamkhignchaaDoor.Ad
open Go.RowKit

section
variable {P : Program} {w w' : World} {ops : Array Oper} {rest : List Oper} {o : Oper} {a : Act} {Q : Exit → Act → World → Prop}
/-- one operation by what it comes to, told by the slot that it writes: so that the facts of other operations are not tried at it -/
theorem alloc_at (d : Option Tmp) (hd : o.dst = d) {v : Value} (hw : Region.wanted o (yielded ops a.tmps) = true) (t : TypeId) (ho : o.op = .alloc t) (hrun : (Instr.alloc t true (.tuple #[])).run P w = .ok v w') (h : wpList P ops Q rest (a.put d v) w') : wpList P ops Q (o :: rest) a w := by
  subst hd
  exact wpList_alloc_of hw t ho hrun h
theorem load_at (d : Option Tmp) (hd : o.dst = d) {t : TypeId} {v p : Value} (hw : Region.wanted o (yielded ops a.tmps) = true) (x : Operand) (ho : o.op = .load t x) (hx : a.eval x = p) (hrun : (Instr.loadAt t p).run P w = .ok v w) (h : wpList P ops Q rest (a.put d v) w) : wpList P ops Q (o :: rest) a w := by
  subst hd
  exact wpList_load_of hw x ho hx hrun h
theorem slice_at (d : Option Tmp) (hd : o.dst = d) {v : Value} (hw : Region.wanted o (yielded ops a.tmps) = true) (t : TypeId) (n : Nat) (ps : Array (Nat × Operand)) (ho : o.op = .buildSlice t n ps) (vs : Array (Nat × Value)) (hx : ps.map (fun p => (p.1, a.eval p.2)) = vs) (hrun : (Instr.buildSlice t n vs).run P w = .ok v w') (h : wpList P ops Q rest (a.put d v) w') : wpList P ops Q (o :: rest) a w := by
  subst hd
  exact wpList_value_of hw (Instr.buildSlice t n vs) (by subst hx; unfold execOp; simp only [ho]) hrun h
end

/-- from block g on lie these addresses, one a block -/
structure Rws (w0 w : World) (g : Nat) (ls : List (List Int)) : Prop where
  row : ∀ k l, ls[k]? = some l → Row w (g + k) 23 (bv l).toArray ∧ l.length = 16
  size : w.heap.size = g + ls.length
  base : w0.heap.size ≤ g
  below : Below w0.heap.size w0 w

theorem Rws.begin (w : World) : Rws w w w.heap.size [] := ⟨fun k l h => by simp at h, by simp, Nat.le_refl _, Below.refl _ _⟩
theorem Rws.push {w0 w : World} {g : Nat} {ls : List (List Int)} (h : Rws w0 w g ls) (l : List Int) (hl : l.length = 16) : Rws w0 (w.alloc (.cells (bv l).toArray 23)) g (ls ++ [l]) := by
  have q := below_new w (.cells (bv l).toArray 23)
  refine ⟨fun k m hk => ?_, by simp [h.size]; omega, h.base, h.below.trans (q.mono h.below.size)⟩
  by_cases e : k < ls.length
  · rw [List.getElem?_append_left e] at hk
    obtain ⟨a, b⟩ := h.row k m hk
    exact ⟨a.keep q, b⟩
  · rw [List.getElem?_append_right (by omega)] at hk
    have e0 : k - ls.length = 0 := by
      have := (List.getElem?_eq_some_iff.1 hk).1
      simp at this
      omega
    rw [e0] at hk
    simp at hk
    subst hk
    exact ⟨row_new (by rw [h.size]; omega), hl⟩
theorem run_box16 {xs : List Int} (h : xs.length = 16) (w : World) : (Instr.box 23 (av xs)).run Tryd.prog w = .ok (.pointer (some ⟨w.heap.size, 0, none⟩)) (w.alloc (.cells (bv xs).toArray 23)) := by
  match xs, h with
  | [a0, a1, a2, a3, a4, a5, a6, a7, a8, a9, a10, a11, a12, a13, a14, a15], _ => rfl
theorem run_alloc16 (w : World) : (Instr.alloc 23 true (.tuple #[])).run Tryd.prog w = .ok (.pointer (some ⟨w.heap.size, 0, none⟩)) (w.alloc (.cells (bv nil).toArray 23)) := by kernel_rfl
theorem Rws.box {w0 w : World} {g : Nat} {ls : List (List Int)} (h : Rws w0 w g ls) {xs : List Int} (hx : xs.length = 16) : ∃ w', (Instr.box 23 (av xs)).run Tryd.prog w = .ok (.pointer (some ⟨g + ls.length, 0, none⟩)) w' ∧ Rws w0 w' g (ls ++ [xs]) :=
  ⟨_, by rw [run_box16 hx, h.size], h.push xs hx⟩
theorem Rws.alloc {w0 w : World} {g : Nat} {ls : List (List Int)} (h : Rws w0 w g ls) : ∃ w', (Instr.alloc 23 true (.tuple #[])).run Tryd.prog w = .ok (.pointer (some ⟨g + ls.length, 0, none⟩)) w' ∧ Rws w0 w' g (ls ++ [nil]) :=
  ⟨_, by rw [run_alloc16, h.size], h.push nil rfl⟩
theorem Rws.load {w0 w : World} {g : Nat} {ls : List (List Int)} (h : Rws w0 w g ls) (k : Nat) {l : List Int} (hk : ls[k]? = some l) : (Instr.loadAt 23 (.pointer (some ⟨g + k, 0, none⟩))).run Tryd.prog w = .ok (av l) w :=
  load_rng (rng_row (h.row k l hk).1) (h.row k l hk).2
theorem Rws.cell {w0 w : World} {g : Nat} {ls : List (List Int)} (h : Rws w0 w g ls) (k : Nat) {l : List Int} (hk : ls[k]? = some l) {i : Nat} (hi : i < 16) : w.cell? ⟨g + k, i, none⟩ = some (.int .u8 (l.getD i 0)) :=
  rng_at (rng_row (h.row k l hk).1) (by rw [(h.row k l hk).2]; exact hi)
theorem Rws.put {w0 w : World} {g : Nat} {ls : List (List Int)} (h : Rws w0 w g ls) (k : Nat) {l m : List Int} (hk : ls[k]? = some l) (hm : m.length = 16) :
    ∃ w', (Instr.storeAt 23 (.pointer (some ⟨g + k, 0, none⟩)) (av m)).run Tryd.prog w = .ok () w' ∧ Rws w0 w' g (ls.set k m) := by
  obtain ⟨a, b⟩ := h.row k l hk
  have hb := h.base
  refine ⟨_, store_row a (by simp [bv, b]) hm, fun j x hj => ?_, by simp [World.setRow, h.size], h.base, below_setRow h.below _ _ (by omega)⟩
  by_cases e : k = j
  · subst e
    rw [List.getElem?_set_self (List.getElem?_eq_some_iff.1 hk).1] at hj
    injection hj with hj
    subst hj
    exact ⟨a.setRow _, hm⟩
  · rw [List.getElem?_set_ne e] at hj
    obtain ⟨c, d⟩ := h.row j x hj
    exact ⟨row_setRow_far c _ (by omega), d⟩
theorem store_byte {w : World} {g : Nat} {t : TypeId} {l : List Int} (h : Row w g t (bv l).toArray) {i : Nat} (hi : i < l.length) (z : Int) : (Instr.storeAt 5 (.pointer (some ⟨g, i, none⟩)) (.int .u8 z)).run Tryd.prog w = .ok () (w.setCell ⟨g, i, none⟩ (.int .u8 z)) := by
  have c := rng_at (rng_row h) hi
  have f : w.frozen? ⟨g, i, none⟩ = false := h.frozen i
  obtain ⟨j, hj, hz0, hz1, hz2⟩ := info_parts info_u8
  have a0 : (⟨g, i, none⟩ : Addr).add 0 = ⟨g, i, none⟩ := by simp [Addr.add]
  simp [a0, Instr.storeAt, Instr.sureAddr, storeVar, sizeOf, typeInfo, hj, hz1, Value.cells, storeCells, run_store_int, stored, c, f]
theorem Rws.byte {w0 w : World} {g : Nat} {ls : List (List Int)} (h : Rws w0 w g ls) (k : Nat) {l : List Int} (hk : ls[k]? = some l) (i : Nat) (z : Int) : Rws w0 (w.setCell ⟨g + k, i, none⟩ (.int .u8 z)) g (ls.set k (l.set i z)) := by
  obtain ⟨a, b⟩ := h.row k l hk
  have hb := h.base
  refine ⟨fun j x hj => ?_, by simp [World.setCell, h.size], h.base, h.below.setCell (p := ⟨g + k, i, none⟩) (by simp; omega) _⟩
  by_cases e : k = j
  · subst e
    rw [List.getElem?_set_self (List.getElem?_eq_some_iff.1 hk).1] at hj
    injection hj with hj
    subst hj
    have r := a.set i (.int .u8 z)
    rw [List.setIfInBounds_toArray, bv_set] at r
    exact ⟨r, by simp [b]⟩
  · rw [List.getElem?_set_ne e] at hj
    obtain ⟨c, d⟩ := h.row j x hj
    exact ⟨c.far (by simp; omega) _, d⟩
theorem Rws.poke {w0 w : World} {g : Nat} {ls : List (List Int)} (h : Rws w0 w g ls) (k : Nat) {l : List Int} (hk : ls[k]? = some l) {i : Nat} (hi : i < 16) (z : Int) :
    ∃ w', (Instr.storeAt 5 (.pointer (some ⟨g + k, i, none⟩)) (.int .u8 z)).run Tryd.prog w = .ok () w' ∧ Rws w0 w' g (ls.set k (l.set i z)) :=
  ⟨_, store_byte (h.row k l hk).1 (by rw [(h.row k l hk).2]; exact hi) z, h.byte k hk i z⟩
theorem Rws.frozen {w0 w : World} {g : Nat} {ls : List (List Int)} (h : Rws w0 w g ls) (k : Nat) {l : List Int} (hk : ls[k]? = some l) (i : Nat) : w.frozen? ⟨g + k, i, none⟩ = false := (h.row k l hk).1.frozen i
theorem Rws.result {w0 w : World} {g : Nat} {ls : List (List Int)} (h : Rws w0 w g ls) (k : Nat) {l : List Int} (hk : ls[k]? = some l) : Row w (g + k) 23 (bv l).toArray ∧ (Tryd.prog.info? 23).map (·.size) = some (bv l).toArray.size :=
  ⟨(h.row k l hk).1, by simpa using sizeOk (h.row k l hk).2⟩
theorem Rws.drew {w0 w : World} {g : Nat} {ls : List (List Int)} (h : Rws w0 w g ls) : Rws w0 w.drew g ls := ⟨h.row, h.size, h.base, still_below h.below⟩

end Go.Proofs.YthkiamkhignchaaDoor.Ad
