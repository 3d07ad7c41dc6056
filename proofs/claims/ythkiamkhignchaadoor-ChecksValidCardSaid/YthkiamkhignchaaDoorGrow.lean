/-
  A list of bytes of one's own that grows by appends, beside blocks that are known whole.
  Conditions: at most 16777216 bytes.
-/
import Derived.Test.YthkiamkhignchaaDoorArr
namespace Go.Proofs.YthkiamkhignchaaDoor
open Go.RowKit

/-- v is a list of one's own, of these bytes, in a block from number base on; the blocks of L lie ahead of that -/
structure Grow (w0 w : World) (L : List Blk) (base : Nat) (v : Value) (xs : List Int) : Prop where
  lay : Lay w0 w L
  own : Own w base v xs
  lo : w0.heap.size ≤ base
  hi : base ≤ w.heap.size
  fore : ∀ x ∈ L, x.1 < base

theorem Own.mono {w : World} {base base' : Nat} {v : Value} {xs : List Int} (h : Own w base v xs) (hb : base' ≤ base) : Own w base' v xs := by
  unfold Own at h ⊢
  refine ⟨h.1, ?_⟩
  rcases h.2 with h | ⟨g, cap, cur, e, hg, r⟩
  · exact .inl h
  · exact .inr ⟨g, cap, cur, e, Nat.le_trans hb hg, r⟩
theorem Grow.begin {w0 w : World} {L : List Blk} (h : Lay w0 w L) : Grow w0 w L w.heap.size (.slice none 0 0) [] :=
  ⟨h, own_nil _ _, h.size, Nat.le_refl _, fun x hx => (h.row x hx).lt⟩
theorem Grow.append {w0 w : World} {L : List Blk} {base : Nat} {v u : Value} {xs zs : List Int} (h : Grow w0 w L base v xs) (hu : Slc w u zs) (hn : xs.length + zs.length ≤ 16777216) (ty : TypeId) :
    ∃ v' w', (Builtin.append_ #[28, 28] ty #[v, u]).run Tryd.prog w = .ok v' w' ∧ Grow w0 w' L base v' (xs ++ zs) := by
  obtain ⟨v', w', h1, h2, h3, _⟩ := run_append_slc w base ty v u xs zs h.own hu hn h.hi
  have hb : ∀ k, v.ownBlock = some k → base ≤ k := fun k hk => (World.ownsRow.lt h.own k hk).1
  refine ⟨v', w', h1, ⟨fun x hx => ?_, h.lay.own, h.lay.nd, h.lay.below.grown h3 h.lay.size (fun k hk => by have := hb k hk; have := h.lo; omega)⟩, h2, h.lo, Nat.le_trans h.hi h3.size, h.fore⟩
  exact (h.lay.row x hx).gb h3 (fun e => by have := hb _ e.symm; have := h.fore x hx; omega)
theorem Grow.keep {w0 w w' : World} {L : List Blk} {base : Nat} {v : Value} {xs : List Int} (h : Grow w0 w L base v xs) (q : Below w.heap.size w w') : Grow w0 w' L base v xs :=
  ⟨h.lay.keep q, h.own.keep q, h.lo, Nat.le_trans h.hi q.size, h.fore⟩
theorem Grow.drew {w0 w : World} {L : List Blk} {base : Nat} {v : Value} {xs : List Int} (h : Grow w0 w L base v xs) : Grow w0 w.drew L base v xs := ⟨h.lay.drew, h.own, h.lo, h.hi, h.fore⟩
theorem Grow.gives {w0 w : World} {L : List Blk} {base : Nat} {v : Value} {xs : List Int} (h : Grow w0 w L base v xs) : Gives w0 xs (.returned v) w := by
  obtain ⟨A, c, e, _, _⟩ := h.own.slc.slice
  subst e
  exact ⟨A, _, c, rfl, rfl, h.own.mono h.lo, h.lay.below⟩
/-- bytes that lie in a block, as a slice -/
theorem slc_part {w : World} {g o n c : Nat} {t : TypeId} {l : List Value} {xs : List Int} (h : Row w g t l.toArray) (hp : Part l o (bv xs)) (hn : xs.length = n) (hc : n ≤ c) : Slc w (.slice (some ⟨g, o, none⟩) n c) xs := by
  subst hn
  exact .inr ⟨_, c, rfl, rd_row h (fun j hj => hp j _ (bv_get xs j hj)), hc⟩
theorem slc_of {w : World} {A : Option Addr} {n c : Nat} {zs : List Int} (h : Slc w (.slice A n c) zs) : zs.length = n ∧ Rd w A zs ∧ n ≤ c := ⟨(slc_rd h).2, (slc_rd h).1, slc_cap h⟩

end Go.Proofs.YthkiamkhignchaaDoor
