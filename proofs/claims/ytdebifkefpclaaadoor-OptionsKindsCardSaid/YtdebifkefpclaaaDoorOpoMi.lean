/-
  A list of bytes of one's own that grows by appends, beside blocks that are known whole, in whatever order these came.
  Conditions: at most 16777216 bytes.
-/
import Derived.Test.YtdebifkefpclaaaDoorGrow
namespace Go.Proofs.YtdebifkefpclaaaDoor
open Go.RowKit

/-- v is a list of one's own, of these bytes; none of the blocks of L is its -/
structure Mid (w0 w : World) (L : List Blk) (v : Value) (xs : List Int) : Prop where
  lay : Lay w0 w L
  own : Own w w0.heap.size v xs
  off : ∀ x ∈ L, v.ownBlock ≠ some x.1
theorem Mid.begin {w0 w : World} {L : List Blk} (h : Lay w0 w L) : Mid w0 w L (.slice none 0 0) [] := ⟨h, own_nil _ _, fun x _ e => by simp [Value.ownBlock] at e⟩
theorem Mid.new {w0 w : World} {L : List Blk} {v : Value} {xs : List Int} (h : Mid w0 w L v xs) (cs : List Value) (t : TypeId) : Mid w0 (w.alloc (.cells cs.toArray t)) ((w.heap.size, t, cs) :: L) v xs :=
  ⟨h.lay.new cs t rfl, h.own.keep (below_new w _), fun x hx e => by
    rcases List.mem_cons.1 hx with rfl | hx
    · have := (World.ownsRow.lt h.own _ e).2
      omega
    · exact h.off x hx e⟩
theorem Mid.newG {w0 w : World} {L : List Blk} {v : Value} {xs : List Int} {g : Nat} (h : Mid w0 w L v xs) (cs : List Value) (t : TypeId) (hg : g = w.heap.size) : Mid w0 (w.alloc (.cells cs.toArray t)) ((g, t, cs) :: L) v xs := by
  subst hg
  exact h.new cs t
theorem Mid.append {w0 w : World} {L : List Blk} {v u : Value} {xs zs : List Int} (h : Mid w0 w L v xs) (hu : Slc w u zs) (hn : xs.length + zs.length ≤ 16777216) (ty : TypeId) :
    ∃ v' w', (Builtin.append_ #[26, 26] ty #[v, u]).run Tryd.prog w = .ok v' w' ∧ Mid w0 w' L v' (xs ++ zs) := by
  obtain ⟨v', w', h1, h2, h3, h4⟩ := run_append_slc w w0.heap.size ty v u xs zs h.own hu hn h.lay.size
  have hb : ∀ k, v.ownBlock = some k → w0.heap.size ≤ k := fun k hk => (World.ownsRow.lt h.own k hk).1
  refine ⟨v', w', h1, ⟨fun x hx => (h.lay.row x hx).gb h3 (fun e => h.off x hx e.symm), h.lay.own, h.lay.nd, h.lay.below.grown h3 h.lay.size hb⟩, h2, fun x hx e => ?_⟩
  rcases h4 with h4 | h4
  · exact h.off x hx (h4 ▸ e)
  · have := (h.lay.row x hx).lt
    rw [h4] at e
    injection e with e
    omega
theorem Mid.put {w0 w : World} {L : List Blk} {v : Value} {xs : List Int} {g : Nat} {t : TypeId} {cs : List Value} (h : Mid w0 w L v xs) (i : Nat) (hi : L[i]? = some (g, t, cs)) (cs' : List Value) : Mid w0 (w.setRow g cs'.toArray) (L.set i (g, t, cs')) v xs := by
  have hm := List.mem_of_getElem? hi
  refine ⟨h.lay.put i hi cs', World.ownsRow.kept h.own (show w.grownBy (w.setRow g cs'.toArray) (some g) from ⟨rfl, rfl, rfl, by simp [World.setRow], fun k hk hne => by
    unfold World.setRow
    rw [Array.getElem?_modify, if_neg (fun e => hne (by rw [e]))]⟩) ?_, fun x hx e => ?_⟩
  · cases hb : v.ownBlock with
    | none => exact .inl rfl
    | some z => exact .inr (fun e => h.off _ hm (hb.trans e))
  · rcases mem_put hx with rfl | ⟨j, _, hj⟩
    · exact h.off _ hm e
    · exact h.off x (List.mem_of_getElem? hj) e
theorem Mid.sub {w0 w : World} {L L' : List Blk} {v : Value} {xs : List Int} (h : Mid w0 w L v xs) (s : L'.Sublist L) : Mid w0 w L' v xs := ⟨h.lay.sub s, h.own, fun x hx => h.off x (s.subset hx)⟩
theorem Mid.keep {w0 w w' : World} {L : List Blk} {v : Value} {xs : List Int} (h : Mid w0 w L v xs) (q : Below w.heap.size w w') : Mid w0 w' L v xs := ⟨h.lay.keep q, h.own.keep q, h.off⟩
theorem Mid.drew {w0 w : World} {L : List Blk} {v : Value} {xs : List Int} (h : Mid w0 w L v xs) : Mid w0 w.drew L v xs := ⟨h.lay.drew, h.own, h.off⟩

/-- a block of bytes that grows by appends from now on -/
theorem Mid.of {w0 w : World} {L : List Blk} {g n : Nat} {xs : List Int} (h : Lay w0 w ((g, 5, bv xs) :: L)) (hn : xs.length = n) (hm : n ≤ 16777216) : Mid w0 w L (.slice (some ⟨g, 0, none⟩) n n) xs := by
  refine ⟨h.sub (List.sublist_cons_self _ _), ?_, fun x hx e => ?_⟩
  · subst hn
    refine ⟨by simp [bv_length], .inr ⟨g, xs.length, (bv xs).toArray, rfl, h.own _ mem0, h.at mem0, Nat.le_refl _, by unfold maxLen; omega, by simp [bv_length], ?_⟩⟩
    rw [Nat.mul_one, List.take_of_length_le (by simp [bv_length])]
  · have hnd := h.nd
    simp only [List.map_cons, List.nodup_cons, List.mem_map, not_exists, not_and] at hnd
    simp only [Value.ownBlock, Option.some.injEq] at e
    exact hnd.1 x hx e.symm

end Go.Proofs.YtdebifkefpclaaaDoor
