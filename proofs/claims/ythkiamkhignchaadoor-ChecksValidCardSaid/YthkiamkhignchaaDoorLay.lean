/-
  Words for memory in which several blocks are known whole: made, kept, written in part or as a whole, loaded in part or as a whole; whatever the types.
  Conditions: none.
-/
import Derived.Test.YthkiamkhignchaaDoorRow
import Derived.Deep.MidRow
namespace Go.Proofs.YthkiamkhignchaaDoor
open Go.RowKit

/-- a block, its type, its cells -/
abbrev Blk := Nat × TypeId × List Value

/-- behind w0 these blocks are known whole, all of them made since; what was there at w0 is as it was -/
structure Lay (w0 w : World) (L : List Blk) : Prop where
  row : ∀ x ∈ L, Row w x.1 x.2.1 x.2.2.toArray
  own : ∀ x ∈ L, w0.heap.size ≤ x.1
  nd : (L.map (·.1)).Nodup
  below : Below w0.heap.size w0 w

section
variable {w0 w w' : World} {L L' : List Blk} {g : Nat} {t : TypeId} {cs : List Value}

theorem Lay.begin (w : World) : Lay w w [] := ⟨(fun _ h => by cases h), (fun _ h => by cases h), List.nodup_nil, Below.refl _ _⟩
theorem Lay.size (h : Lay w0 w L) : w0.heap.size ≤ w.heap.size := h.below.size
theorem Lay.keep (h : Lay w0 w L) (q : Below w.heap.size w w') : Lay w0 w' L := ⟨fun x hx => (h.row x hx).keep q, h.own, h.nd, h.below.trans (q.mono h.size)⟩
theorem Lay.drew (h : Lay w0 w L) : Lay w0 w.drew L := ⟨h.row, h.own, h.nd, still_below' h.below⟩
where still_below' {B : Nat} {a w : World} (h : Below B a w) : Below B a w.drew := ⟨h.os, h.tape, h.output, h.size, h.block⟩
theorem Lay.drewN (h : Lay w0 w L) (q : Nat) : Lay w0 (w.drewN q) L := ⟨h.row, h.own, h.nd, ⟨h.below.os, h.below.tape, h.below.output, h.below.size, h.below.block⟩⟩
theorem Lay.still (h : Lay w0 w L) (s : Still w w') : Lay w0 w' L := by obtain ⟨q, rfl⟩ := s; exact h.drewN q
theorem Lay.at (h : Lay w0 w L) (hm : (g, t, cs) ∈ L) : Row w g t cs.toArray := h.row _ hm
theorem Lay.lt (h : Lay w0 w L) (hm : (g, t, cs) ∈ L) : g < w.heap.size := (h.at hm).lt
theorem Lay.sub (h : Lay w0 w L) (s : L'.Sublist L) : Lay w0 w L' := ⟨fun x hx => h.row x (s.subset hx), fun x hx => h.own x (s.subset hx), (s.map _).nodup h.nd, h.below⟩
/-- one more block that is known whole, and was made since -/
theorem Lay.add (h : Lay w0 w L) (hr : Row w g t cs.toArray) (ho : w0.heap.size ≤ g) (hne : ∀ x ∈ L, x.1 ≠ g) : Lay w0 w ((g, t, cs) :: L) :=
  ⟨fun x hx => (List.mem_cons.1 hx).elim (fun e => by subst e; exact hr) (h.row x), fun x hx => (List.mem_cons.1 hx).elim (fun e => by subst e; exact ho) (h.own x),
   by simp only [List.map_cons, List.nodup_cons, List.mem_map, not_exists, not_and]; exact ⟨fun x hx => hne x hx, h.nd⟩, h.below⟩
theorem Lay.new (h : Lay w0 w L) (cs : List Value) (t : TypeId) (hg : g = w.heap.size) : Lay w0 (w.alloc (.cells cs.toArray t)) ((g, t, cs) :: L) := by
  subst hg
  exact (h.keep (below_new w _)).add (row_new rfl) h.size (fun x hx e => by have := (h.row x hx).lt; omega)
theorem Lay.newA (h : Lay w0 w L) (Z : Array Value) (t : TypeId) (hg : g = w.heap.size) : Lay w0 (w.alloc (.cells Z t)) ((g, t, Z.toList) :: L) := by
  have := h.new Z.toList t hg
  rwa [Array.toArray_toList] at this
/-- a block of a callee's own, which it handed out -/
theorem Lay.got (h : Lay w0 w L) (q : Below w.heap.size w w') (hr : Row w' g t cs.toArray) (ho : w.heap.size ≤ g) : Lay w0 w' ((g, t, cs) :: L) :=
  (h.keep q).add hr (Nat.le_trans h.size ho) (fun x hx e => by have := (h.row x hx).lt; omega)
/-- only block g has changed -/
theorem Lay.gb (h : Lay w0 w L) (q : w.grownBy w' (some g)) (ho : w0.heap.size ≤ g) (hne : ∀ x ∈ L, x.1 ≠ g) : Lay w0 w' L :=
  ⟨fun x hx => (h.row x hx).gb q (fun e => by injection e with e; exact hne x hx e), h.own, h.nd, h.below.grown q h.size (fun k e => by injection e with e; omega)⟩

theorem mem_put {L : List Blk} {i : Nat} {x : Blk} {y : Blk} (h : x ∈ L.set i y) : x = y ∨ ∃ j, j ≠ i ∧ L[j]? = some x := by
  obtain ⟨j, hj⟩ := List.getElem?_of_mem h
  rw [List.getElem?_set] at hj
  split at hj
  · split at hj
    · injection hj with hj; exact .inl hj.symm
    · cases hj
  · exact .inr ⟨j, by omega, hj⟩
theorem nd_put (h : (L.map (·.1)).Nodup) {i : Nat} (hi : L[i]? = some (g, t, cs)) (cs' : List Value) : ((L.set i (g, t, cs')).map (·.1)).Nodup := by
  have e : (L.set i (g, t, cs')).map (·.1) = L.map (·.1) := by
    rw [List.map_set]
    apply List.ext_getElem?
    intro k
    rw [List.getElem?_set]
    split
    · rename_i e
      subst e
      simp only [List.length_map, List.getElem?_map, hi, Option.map_some]
      rw [if_pos (List.getElem?_eq_some_iff.1 hi).1]
    · rfl
  rw [e]; exact h
theorem ne_put (h : (L.map (·.1)).Nodup) {i j : Nat} (hi : L[i]? = some (g, t, cs)) {x : Blk} (hj : L[j]? = some x) (hne : j ≠ i) : x.1 ≠ g := by
  intro e
  have h1 : (L.map (·.1))[i]? = some g := by rw [List.getElem?_map, hi]; rfl
  have h2 : (L.map (·.1))[j]? = some g := by rw [List.getElem?_map, hj, ← e]; rfl
  have hl : j < (L.map (·.1)).length := (List.getElem?_eq_some_iff.1 h2).1
  exact hne ((List.getElem?_inj hl h).1 (h2.trans h1.symm))
/-- a block written anew -/
theorem Lay.put (h : Lay w0 w L) (i : Nat) (hi : L[i]? = some (g, t, cs)) (cs' : List Value) : Lay w0 (w.setRow g cs'.toArray) (L.set i (g, t, cs')) := by
  have hm := List.mem_of_getElem? hi
  have hu : ∀ k, k ≠ g → (w.setRow g cs'.toArray).heap[k]? = w.heap[k]? := fun k hk => by
    unfold World.setRow
    rw [Array.getElem?_modify, if_neg (fun e => hk e.symm)]
  refine ⟨fun x hx => ?_, fun x hx => ?_, nd_put h.nd hi cs', h.below.trans ⟨rfl, rfl, rfl, by simp [World.setRow], fun k hk => hu k (by have := h.own _ hm; simp only at this; omega)⟩⟩
  · rcases mem_put hx with rfl | ⟨j, hj, e⟩
    · exact setRow_heap w g _ _ t _ (h.row _ hm)
    · have hne := ne_put h.nd hi e hj
      have := h.row x (List.mem_of_getElem? e)
      unfold Row at this ⊢
      rw [hu _ hne]; exact this
  · rcases mem_put hx with rfl | ⟨j, hj, e⟩
    · have ho : w0.heap.size ≤ g := h.own _ hm
      exact ho
    · exact h.own x (List.mem_of_getElem? e)
/-- one cell of a block written anew -/
theorem Lay.cell (h : Lay w0 w L) (i : Nat) (hi : L[i]? = some (g, t, cs)) (o : Nat) (u : Value) : Lay w0 (w.setCell ⟨g, o, none⟩ u) (L.set i (g, t, cs.set o u)) := by
  rw [setCell_eq_setRow w g o cs.toArray t (0, 0) u (h.row _ (List.mem_of_getElem? hi)), List.setIfInBounds_toArray]
  exact h.put i hi _
/-- a cell of a block -/
theorem Lay.look (h : Lay w0 w L) (hm : (g, t, cs) ∈ L) {o : Nat} {v : Value} (hv : cs[o]? = some v) : w.cell? ⟨g, o, none⟩ = some v := by
  rw [(h.at hm).cell]; simpa using hv
theorem Lay.free (h : Lay w0 w L) (hm : (g, t, cs) ∈ L) (o : Nat) : w.frozen? ⟨g, o, none⟩ = false := (h.at hm).frozen o

/-- cells from a place on -/
def Part (l : List Value) (o : Nat) (cs : List Value) : Prop := ∀ j v, cs[j]? = some v → l[o + j]? = some v
theorem Lay.range (h : Lay w0 w L) (hm : (g, t, cs) ∈ L) {o : Nat} {vs : List Value} (hp : Part cs o vs) : w.rangeAt g o vs := fun j v hv => h.look hm (hp j v hv)
theorem part_all (l : List Value) : Part l 0 l := fun j v h => by rwa [Nat.zero_add]
theorem part_mid (a b c : List Value) {o : Nat} (ho : o = a.length) : Part (a ++ (b ++ c)) o b := fun j v h => by
  have hj : j < b.length := (List.getElem?_eq_some_iff.1 h).1
  subst ho
  rw [List.getElem?_append_right (by omega), Nat.add_sub_cancel_left, List.getElem?_append_left hj]
  exact h
theorem part_head (b c : List Value) : Part (b ++ c) 0 b := fun j v h => by
  have hj : j < b.length := (List.getElem?_eq_some_iff.1 h).1
  rw [Nat.zero_add, List.getElem?_append_left hj]
  exact h
theorem part_tail (a b : List Value) {o : Nat} (ho : o = a.length) : Part (a ++ b) o b := fun j v h => by
  subst ho
  rw [List.getElem?_append_right (by omega), Nat.add_sub_cancel_left]
  exact h

theorem Lay.load (h : Lay w0 w L) {P : Program} {ty : TypeId} {d : TypeDesc} (hm : (g, t, cs) ∈ L) {o : Nat} {vs : List Value} (hp : Part cs o vs) (hu : P.underlying ty = some d) (hd : d.isRow = true) (hi : (P.info? ty).map (·.size) = some vs.length) :
    (Instr.loadAt ty (.pointer (some ⟨g, o, none⟩))).run P w = .ok (.agg vs.toArray) w :=
  run_loadAt_mid w g o ty vs d (h.range hm hp) hu hd hi
/-- a value of several cells goes into a block, from a place on -/
theorem store_part {P : Program} {o : Nat} {ty : TypeId} {vs : List Value} (h : Row w g t cs.toArray) (ho : o + vs.length ≤ cs.length) (hi : (P.info? ty).map (·.size) = some vs.length) (h1 : ∀ v ∈ vs, v.oneCell' = true) :
    (Instr.storeAt ty (.pointer (some ⟨g, o, none⟩)) (.agg vs.toArray)).run P w = .ok () (w.setRow g (cs.take o ++ vs ++ cs.drop (o + vs.length)).toArray) := by
  have hs := run_storeCells_at P g o t vs 0 cs.toArray w h (by simpa using ho) h1
  cases hq : P.info? ty with
  | none => simp [hq] at hi
  | some i =>
    have hz : i.size = vs.length := by simpa [hq] using hi
    simp only [Instr.storeAt, Instr.sureAddr, Sem.run_bind, Sem.run_pure, Result.andThen_ok]
    simp [storeVar, sizeOf, typeInfo, hq, Value.cells, hz]
    simpa using hs
theorem store_all {P : Program} {ty : TypeId} {vs : List Value} (h : Row w g t cs.toArray) (ho : vs.length = cs.length) (hi : (P.info? ty).map (·.size) = some vs.length) (h1 : ∀ v ∈ vs, v.oneCell' = true) :
    (Instr.storeAt ty (.pointer (some ⟨g, 0, none⟩)) (.agg vs.toArray)).run P w = .ok () (w.setRow g vs.toArray) := by
  have := store_part (P := P) (o := 0) h (by omega) hi h1
  rwa [List.take_zero, List.nil_append, Nat.zero_add, List.drop_of_length_le (by omega), List.append_nil] at this

theorem mem0 {α : Type} {a : α} {l : List α} : a ∈ a :: l := List.mem_cons_self
theorem mem1 {α : Type} {a b : α} {l : List α} : a ∈ b :: a :: l := List.mem_cons_of_mem _ List.mem_cons_self
theorem mem2 {α : Type} {a b c : α} {l : List α} : a ∈ b :: c :: a :: l := List.mem_cons_of_mem _ mem1
theorem mem3 {α : Type} {a b c d : α} {l : List α} : a ∈ b :: c :: d :: a :: l := List.mem_cons_of_mem _ mem2
theorem mem4 {α : Type} {a b c d e : α} {l : List α} : a ∈ b :: c :: d :: e :: a :: l := List.mem_cons_of_mem _ mem3
theorem mem5 {α : Type} {a b c d e f : α} {l : List α} : a ∈ b :: c :: d :: e :: f :: a :: l := List.mem_cons_of_mem _ mem4

/-- the call's end, where the result is a variable of several cells -/
theorem ret_row {P : Program} {fn : Func} {p : Tmp} {ty : TypeId} {tmps : Array Value} {vs : List Value} {d : TypeDesc} (hr : fn.results = #[.cell p ty]) (hp : tmps.getD p undef = .pointer (some ⟨g, 0, none⟩)) (h : w.rangeAt g 0 vs)
    (hu : P.underlying ty = some d) (hd : d.isRow = true) (hi : (P.info? ty).map (·.size) = some vs.length) : (results fn tmps).run P w = .ok (.agg vs.toArray) w := by
  have hp' : tmps[p]?.getD undef = .pointer (some ⟨g, 0, none⟩) := by simpa using hp
  simp [results, hr, hp', asAddr, run_loadVar_mid w g 0 ty vs d h hu hd hi]
/-- the same beside a plain one -/
theorem ret_row_tmp {P : Program} {fn : Func} {p u : Tmp} {ty : TypeId} {tmps : Array Value} {vs : List Value} {v : Value} {d : TypeDesc} (hr : fn.results = #[.cell p ty, .tmp u]) (hp : tmps.getD p undef = .pointer (some ⟨g, 0, none⟩)) (hv : tmps.getD u undef = v) (h : w.rangeAt g 0 vs)
    (hu : P.underlying ty = some d) (hd : d.isRow = true) (hi : (P.info? ty).map (·.size) = some vs.length) : (results fn tmps).run P w = .ok (.tuple #[.agg vs.toArray, v]) w := by
  have hp' : tmps[p]?.getD undef = .pointer (some ⟨g, 0, none⟩) := by simpa using hp
  have hv' : tmps[u]?.getD undef = v := by simpa using hv
  simp [results, hr, hp', hv', asAddr, run_loadVar_mid w g 0 ty vs d h hu hd hi]
end

end Go.Proofs.YthkiamkhignchaaDoor
