/-
  Blocks that are known whole, where of what was there before only some blocks (those of a set P) need be as they were.
  Conditions: none.
-/
import Derived.Test.YtfkjfdmepeahnaaLay
import Derived.Test.YtfkjfdmepeahnaaLayH
namespace Go.Proofs.Ytfkjfdmepeahnaa
set_option maxRecDepth 100000
open Go.RowKit

/-- behind w0 these blocks are known whole, none of them in P; what is in P is as it was -/
structure LayF (P : Nat → Prop) (w0 w : World) (L : List Blk) : Prop where
  row : ∀ x ∈ L, Row w x.1 x.2.1 x.2.2.toArray
  own : ∀ x ∈ L, ¬ P x.1
  nd : (L.map (·.1)).Nodup
  bnd : ∀ k, P k → k < w0.heap.size
  size : w0.heap.size ≤ w.heap.size
  os : w.os = w0.os
  tape : w.tape = w0.tape
  output : w.output = w0.output
  block : ∀ k, P k → w.heap[k]? = w0.heap[k]?

section
variable {P : Nat → Prop} {w0 w w' : World} {L L' : List Blk} {i g : Nat} {t : TypeId} {cs : List Value}

theorem LayF.of (h : Lay w0 w L) : LayF (fun k => k < w0.heap.size) w0 w L :=
  ⟨h.row, fun x hx q => by have := h.own x hx; omega, h.nd, fun _ h => h, h.size, h.below.os, h.below.tape, h.below.output, h.below.block⟩
/-- all that there is, but these blocks -/
theorem LayF.base (h : Lay w0 w L) : LayF (fun k => k < w.heap.size ∧ ∀ x ∈ L, x.1 ≠ k) w w L :=
  ⟨h.row, fun x hx q => q.2 x hx rfl, h.nd, fun _ h => h.1, Nat.le_refl _, rfl, rfl, rfl, fun _ _ => rfl⟩
theorem LayF.back (q : LayF P w w' L') (h : Lay w0 w L) (hP : ∀ k, k < w0.heap.size → P k) : Lay w0 w' L' :=
  ⟨q.row, fun x hx => Nat.le_of_not_lt fun hlt => q.own x hx (hP _ hlt), q.nd, ⟨q.os.trans h.below.os, q.tape.trans h.below.tape, q.output.trans h.below.output, Nat.le_trans h.size q.size, fun k hk => (q.block k (hP k hk)).trans (h.below.block k hk)⟩⟩
/-- all that there is, but these blocks -/
theorem LayF.rebase (h : LayF P w0 w L) : LayF (fun k => k < w.heap.size ∧ ∀ x ∈ L, x.1 ≠ k) w w L :=
  ⟨h.row, fun x hx q => q.2 x hx rfl, h.nd, fun _ h => h.1, Nat.le_refl _, rfl, rfl, rfl, fun _ _ => rfl⟩
theorem LayF.then {Q : Nat → Prop} (q : LayF Q w w' L') (h : LayF P w0 w L) (hP : ∀ k, P k → Q k) : LayF P w0 w' L' :=
  ⟨q.row, fun x hx p => q.own x hx (hP _ p), q.nd, h.bnd, Nat.le_trans h.size q.size, q.os.trans h.os, q.tape.trans h.tape, q.output.trans h.output, fun k hk => (q.block k (hP k hk)).trans (h.block k hk)⟩
theorem LayF.keep (h : LayF P w0 w L) (q : Below w.heap.size w w') : LayF P w0 w' L :=
  ⟨fun x hx => (h.row x hx).keep q, h.own, h.nd, h.bnd, Nat.le_trans h.size q.size, q.os.trans h.os, q.tape.trans h.tape, q.output.trans h.output, fun k hk => (q.block k (Nat.lt_of_lt_of_le (h.bnd k hk) h.size)).trans (h.block k hk)⟩
theorem LayF.drewN (h : LayF P w0 w L) (q : Nat) : LayF P w0 (w.drewN q) L := ⟨h.row, h.own, h.nd, h.bnd, h.size, h.os, h.tape, h.output, h.block⟩
theorem LayF.drew (h : LayF P w0 w L) : LayF P w0 w.drew L := ⟨h.row, h.own, h.nd, h.bnd, h.size, h.os, h.tape, h.output, h.block⟩
theorem LayF.still (h : LayF P w0 w L) (s : Still w w') : LayF P w0 w' L := by obtain ⟨q, rfl⟩ := s; exact h.drewN q
theorem LayF.at (h : LayF P w0 w L) (hm : (g, t, cs) ∈ L) : Row w g t cs.toArray := h.row _ hm
theorem LayF.lt (h : LayF P w0 w L) (hm : (g, t, cs) ∈ L) : g < w.heap.size := (h.at hm).lt
theorem LayF.sub (h : LayF P w0 w L) (s : L'.Sublist L) : LayF P w0 w L' := ⟨fun x hx => h.row x (s.subset hx), fun x hx => h.own x (s.subset hx), (s.map _).nodup h.nd, h.bnd, h.size, h.os, h.tape, h.output, h.block⟩
theorem LayF.add (h : LayF P w0 w L) (hr : Row w g t cs.toArray) (ho : w0.heap.size ≤ g) (hne : ∀ x ∈ L, x.1 ≠ g) : LayF P w0 w ((g, t, cs) :: L) :=
  ⟨fun x hx => (List.mem_cons.1 hx).elim (fun e => by subst e; exact hr) (h.row x), fun x hx => (List.mem_cons.1 hx).elim (fun e => by subst e; exact fun p => by have : g < w0.heap.size := h.bnd _ p; omega) (h.own x),
   by simp only [List.map_cons, List.nodup_cons, List.mem_map, not_exists, not_and]; exact ⟨fun x hx => hne x hx, h.nd⟩, h.bnd, h.size, h.os, h.tape, h.output, h.block⟩
theorem LayF.new (h : LayF P w0 w L) (cs : List Value) (t : TypeId) (hg : g = w.heap.size) : LayF P w0 (w.alloc (.cells cs.toArray t)) ((g, t, cs) :: L) := by
  subst hg
  exact (h.keep (below_new w _)).add (row_new rfl) h.size (fun x hx e => by have := (h.row x hx).lt; omega)
theorem LayF.newA (h : LayF P w0 w L) (Z : Array Value) (t : TypeId) (hg : g = w.heap.size) : LayF P w0 (w.alloc (.cells Z t)) ((g, t, Z.toList) :: L) := by
  have := h.new Z.toList t hg
  rwa [Array.toArray_toList] at this
theorem LayF.got (h : LayF P w0 w L) (q : Below w.heap.size w w') (hr : Row w' g t cs.toArray) (ho : w.heap.size ≤ g) : LayF P w0 w' ((g, t, cs) :: L) :=
  (h.keep q).add hr (Nat.le_trans h.size ho) (fun x hx e => by have := (h.row x hx).lt; omega)
theorem LayF.put (h : LayF P w0 w L) (i : Nat) (hi : L[i]? = some (g, t, cs)) (cs' : List Value) : LayF P w0 (w.setRow g cs'.toArray) (L.set i (g, t, cs')) := by
  have hm := List.mem_of_getElem? hi
  have hu : ∀ k, k ≠ g → (w.setRow g cs'.toArray).heap[k]? = w.heap[k]? := fun k hk => by
    unfold World.setRow
    rw [Array.getElem?_modify, if_neg (fun e => hk e.symm)]
  refine ⟨fun x hx => ?_, fun x hx => ?_, nd_put h.nd hi cs', h.bnd, by simpa [World.setRow] using h.size, h.os, h.tape, h.output, fun k hk => (hu k (fun e => h.own _ hm (by rw [← e]; exact hk))).trans (h.block k hk)⟩
  · rcases mem_put hx with rfl | ⟨j, hj, e⟩
    · exact setRow_heap w g _ _ t _ (h.row _ hm)
    · have hne := ne_put h.nd hi e hj
      have := h.row x (List.mem_of_getElem? e)
      unfold Row at this ⊢
      rw [hu _ hne]; exact this
  · rcases mem_put hx with rfl | ⟨j, hj, e⟩
    · exact h.own (g, t, cs) hm
    · exact h.own x (List.mem_of_getElem? e)
theorem LayF.cell (h : LayF P w0 w L) (i : Nat) (hi : L[i]? = some (g, t, cs)) (o : Nat) (u : Value) : LayF P w0 (w.setCell ⟨g, o, none⟩ u) (L.set i (g, t, cs.set o u)) := by
  rw [setCell_eq_setRow w g o cs.toArray t (0, 0) u (h.row _ (List.mem_of_getElem? hi)), List.setIfInBounds_toArray]
  exact h.put i hi _
/-- several cells of a block written anew -/
theorem LayF.cells : ∀ (us : List (Nat × Value)) {w : World} {L : List Blk} {cs : List Value}, LayF P w0 w L → L[i]? = some (g, t, cs) →
    LayF P w0 (us.foldl (fun u p => u.setCell ⟨g, p.1, none⟩ p.2) w) (L.set i (g, t, us.foldl (fun cs p => cs.set p.1 p.2) cs))
  | [], _, L, cs, h, hi => by
    have e : L.set i (g, t, cs) = L := by
      apply List.ext_getElem?
      intro k
      rw [List.getElem?_set]
      split
      · rename_i e; subst e; split
        · exact hi.symm
        · rw [List.getElem?_eq_none (by omega)]
      · rfl
    simp only [List.foldl_nil]
    rw [e]; exact h
  | p :: us, w, L, cs, h, hi => by
    have h1 := h.cell i hi p.1 p.2
    have h2 := LayF.cells us h1 (List.getElem?_set_self (List.getElem?_eq_some_iff.1 hi).1)
    rw [List.set_set] at h2
    exact h2
theorem LayF.look (h : LayF P w0 w L) (hm : (g, t, cs) ∈ L) {o : Nat} {v : Value} (hv : cs[o]? = some v) : w.cell? ⟨g, o, none⟩ = some v := by
  rw [(h.at hm).cell]; simpa using hv
theorem LayF.free (h : LayF P w0 w L) (hm : (g, t, cs) ∈ L) (o : Nat) : w.frozen? ⟨g, o, none⟩ = false := (h.at hm).frozen o
theorem LayF.range (h : LayF P w0 w L) (hm : (g, t, cs) ∈ L) {o : Nat} {vs : List Value} (hp : Part cs o vs) : w.rangeAt g o vs := fun j v hv => h.look hm (hp j v hv)
theorem LayF.load (h : LayF P w0 w L) {Q : Program} {ty : TypeId} {d : TypeDesc} (hm : (g, t, cs) ∈ L) {o : Nat} {vs : List Value} (hp : Part cs o vs) (hu : Q.underlying ty = some d) (hd : d.isRow = true) (hi : (Q.info? ty).map (·.size) = some vs.length) :
    (Instr.loadAt ty (.pointer (some ⟨g, o, none⟩))).run Q w = .ok (.agg vs.toArray) w :=
  run_loadAt_mid w g o ty vs d (h.range hm hp) hu hd hi
theorem LayF.ne (h : LayF P w0 w L) {j g' : Nat} {t' : TypeId} {cs' : List Value} (hi : L[i]? = some (g, t, cs)) (hj : L[j]? = some (g', t', cs')) (hij : j ≠ i) : g' ≠ g := ne_put h.nd hi hj hij
end

/-- what is known of some blocks holds beside a call that changes others alone -/
theorem LayF.join {P Q : Nat → Prop} {w w1 w2 : World} {L L' M : List Blk} (q : LayF Q w1 w2 L') (h : LayF P w w1 (L ++ M)) (hs : L'.map (·.1) = L.map (·.1)) (hQ : ∀ k, (k < w1.heap.size ∧ ∀ x ∈ L, x.1 ≠ k) → Q k) : LayF P w w2 (L' ++ M) := by
  have hin : ∀ x ∈ L', ∃ y ∈ L, y.1 = x.1 := fun x hx => by
    have : x.1 ∈ L'.map (·.1) := List.mem_map_of_mem hx
    rw [hs, List.mem_map] at this
    exact this
  have hnd := h.nd
  rw [List.map_append, List.nodup_append] at hnd
  have hPQ : ∀ k, P k → Q k := fun k hk => hQ k ⟨Nat.lt_of_lt_of_le (h.bnd k hk) h.size, fun x hx e => h.own x (List.mem_append_left _ hx) (by rw [e]; exact hk)⟩
  have hMQ : ∀ x ∈ M, Q x.1 := fun x hx => hQ _ ⟨(h.row x (List.mem_append_right _ hx)).lt, fun y hy e => hnd.2.2 y.1 (List.mem_map_of_mem hy) x.1 (List.mem_map_of_mem hx) e⟩
  refine ⟨fun x hx => ?_, fun x hx => ?_, ?_, h.bnd, Nat.le_trans h.size q.size, q.os.trans h.os, q.tape.trans h.tape, q.output.trans h.output, fun k hk => (q.block k (hPQ k hk)).trans (h.block k hk)⟩
  · rcases List.mem_append.1 hx with hx | hx
    · exact q.row x hx
    · exact (q.block x.1 (hMQ x hx)).trans (h.row x (List.mem_append_right _ hx))
  · rcases List.mem_append.1 hx with hx | hx
    · obtain ⟨y, hy, e⟩ := hin x hx
      rw [← e]
      exact h.own y (List.mem_append_left _ hy)
    · exact h.own x (List.mem_append_right _ hx)
  · rw [List.map_append, hs, ← List.map_append]
    exact h.nd
theorem LayF.lay {w w' : World} {L : List Blk} (h : LayF (fun k => k < w.heap.size) w w' L) : Lay w w' L := h.back (Lay.begin w) (fun _ h => h)

end Go.Proofs.Ytfkjfdmepeahnaa
