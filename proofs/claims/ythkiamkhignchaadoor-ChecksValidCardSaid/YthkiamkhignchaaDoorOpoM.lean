/-
  Options in memory: lists of them that a call makes, one by one; lists that read as options; the loop's words for such lists beside blocks that are known whole.
  Conditions: none.
-/
import Derived.Test.YthkiamkhignchaaDoorLayC
import Derived.Test.YthkiamkhignchaaDoorLayH
import Derived.Test.YthkiamkhignchaaDoorOps
namespace Go.Proofs.YthkiamkhignchaaDoor.Oz
set_option maxRecDepth 100000
open Go.RowKit Ops

/-- an option: its kind, and the slice of its bytes -/
structure El where
  k : Int
  A : Option Addr
  n : Nat
  c : Nat
abbrev El.v (x : El) : Value := .slice x.A x.n x.c
abbrev tv (x : El) : List Value := [.int .u8 x.k, x.v]
def cv (l : List El) : List Value := l.flatMap tv
abbrev ov (x : El) : Value := .agg (tv x).toArray

theorem cv_append (l m : List El) : cv (l ++ m) = cv l ++ cv m := by simp [cv]
theorem cv_length (l : List El) : (cv l).length = l.length * 2 := by
  induction l with
  | nil => rfl
  | cons x l ih => simp only [cv, List.flatMap_cons, List.length_append, List.length_cons] at ih ⊢; rw [ih]; simp; omega
theorem cv_at {l : List El} {i : Nat} {x : El} (h : l[i]? = some x) : (cv l)[i * 2]? = some (.int .u8 x.k) ∧ (cv l)[i * 2 + 1]? = some x.v := by
  induction l generalizing i with
  | nil => simp at h
  | cons y l ih =>
    cases i with
    | zero => simp at h; subst h; exact ⟨rfl, rfl⟩
    | succ i =>
      have h' : l[i]? = some x := by simpa using h
      obtain ⟨h1, h2⟩ := ih h'
      refine ⟨?_, ?_⟩
      · rw [show (i + 1) * 2 = (i * 2) + 1 + 1 from by omega]
        simpa [cv] using h1
      · rw [show (i + 1) * 2 + 1 = (i * 2 + 1) + 1 + 1 from by omega]
        simpa [cv] using h2
theorem cv_one (l : List El) : ∀ v ∈ cv l, v.oneCell' = true := by
  intro v hv
  obtain ⟨x, _, hx⟩ := List.mem_flatMap.1 hv
  simp at hx
  rcases hx with rfl | rfl <;> rfl

/-- an option at an address -/
structure ElAt (w : World) (b : Addr) (x : El) : Prop where
  kind : w.cell? b = some (.int .u8 x.k)
  data : w.cell? ⟨b.block, b.off + 1, none⟩ = some x.v
theorem ElAt.load {w : World} {b : Addr} {x : El} (h : ElAt w b x) : (Instr.loadAt 46 (.pointer (some b))).run Tryd.prog w = .ok (ov x) w := by
  simp only [Instr.loadAt, Instr.sureAddr, Sem.run_bind, Sem.run_pure, Result.andThen]
  have hl : (loadCells b (tv x).length).run Tryd.prog w = .ok (tv x).toArray w :=
    run_loadCells_list (P := Tryd.prog) w b (tv x) (fun j v hv => by
      match j, hv with
      | 0, hv =>
        have : v = .int .u8 x.k := by simpa using hv.symm
        subst this
        simpa [Addr.add] using h.kind
      | 1, hv =>
        have : v = x.v := by simpa using hv.symm
        subst this
        simpa [Addr.add] using h.data
      | j + 2, hv => simp at hv)
  have hu := Tryd.underlying46
  have hty : (Tryd.prog.info? 46).map (·.size) = some 2 := by kernel_rfl
  cases hq : Tryd.prog.info? 46 with
  | none => simp [hq] at hty
  | some inf =>
    have hs : inf.size = 2 := by simpa [hq] using hty
    have hagg : (isAgg 46).run Tryd.prog w = .ok true w := by
      unfold isAgg
      rw [Sem.run_bind, run_underlying hu w]
      simp
    have h2 : (tv x).length = 2 := rfl
    rw [h2] at hl
    simp [loadVar, Sem.run_bind, hagg, sizeOf, typeInfo, hq, hs, hl]
theorem ElAt.keep {w w' : World} {b : Addr} {x : El} (h : ElAt w b x) (q : Below w.heap.size w w') : ElAt w' b x := by
  have hk : ∀ (a : Addr) (v : Value), w.cell? a = some v → w'.cell? a = some v := fun a v hv => by
    have hlt : a.block < w.heap.size := by
      unfold World.cell? at hv
      cases hb : w.heap[a.block]? with
      | none => simp [hb] at hv
      | some o => exact (Array.getElem?_eq_some_iff.1 hb).1
    unfold World.cell? at hv ⊢
    rw [q.block a.block hlt]
    exact hv
  exact ⟨hk _ _ h.kind, hk _ _ h.data⟩

/-- a slice that reads as options -/
def Reads (w : World) (A : Option Addr) (os : List (Int × List Int)) : Prop := ∀ i o, os[i]? = some o → ∃ a x, A = some a ∧ ElAt w (a.add (i * 2)) x ∧ x.k = o.1 ∧ Slc w x.v o.2
theorem Reads.keep {w w' : World} {A : Option Addr} {os : List (Int × List Int)} (h : Reads w A os) (q : Below w.heap.size w w') : Reads w' A os := fun i o ho => by
  obtain ⟨a, x, h1, h2, h3, h4⟩ := h i o ho
  exact ⟨a, x, h1, h2.keep q, h3, h4.keep q⟩
theorem reads_nil (w : World) (A : Option Addr) : Reads w A [] := fun i o ho => by simp at ho

/-- a list of one's own that grows, beside blocks that are known whole -/
structure Many (w0 w : World) (L : List Blk) (base : Nat) (v : Value) (l : List El) : Prop where
  lay : Lay w0 w L
  own : w.ownsRow base 46 2 v l.length (cv l)
  lo : w0.heap.size ≤ base
  hi : base ≤ w.heap.size
  fore : ∀ x ∈ L, x.1 < base
section
variable {w0 w w' : World} {L : List Blk} {base : Nat} {v : Value} {l : List El}
theorem Many.begin (h : Lay w0 w L) : Many w0 w L w.heap.size (.slice none 0 0) [] := ⟨h, World.ownsRow_nil w _ _ _, h.size, Nat.le_refl _, fun x hx => (h.row x hx).lt⟩
theorem Many.keep (h : Many w0 w L base v l) (q : Below w.heap.size w w') : Many w0 w' L base v l :=
  ⟨h.lay.keep q, World.ownsRow.kept (row := none) h.own ⟨q.os, q.tape, q.output, q.size, fun k hk _ => q.block k hk⟩ (by cases v.ownBlock <;> simp), h.lo, Nat.le_trans h.hi q.size, h.fore⟩
theorem Many.drew (h : Many w0 w L base v l) : Many w0 w.drew L base v l := ⟨h.lay.drew, h.own, h.lo, h.hi, h.fore⟩
theorem Many.cell {i g o : Nat} {t : TypeId} {cs : List Value} (h : Many w0 w L base v l) (hi : L[i]? = some (g, t, cs)) (u : Value) : Many w0 (w.setCell ⟨g, o, none⟩ u) (L.set i (g, t, cs.set o u)) base v l := by
  have hg : g < base := h.fore _ (List.mem_of_getElem? hi)
  refine ⟨h.lay.cell i hi o u, World.ownsRow.kept h.own (gb_set w g o u) (.inr ?_), h.lo, by simpa [World.setCell] using h.hi, fun x hx => ?_⟩
  · intro e
    have := (World.ownsRow.lt h.own g e).1
    omega
  · rcases List.mem_or_eq_of_mem_set hx with hx | rfl
    · exact h.fore x hx
    · exact hg
theorem Many.slice (h : Many w0 w L base v l) : ∃ A c, v = .slice A l.length c ∧ l.length ≤ c := by
  rcases h.own.2 with ⟨rfl, h0⟩ | ⟨g, cap, cur, rfl, _, hg, hc, _⟩
  · exact ⟨none, 0, by rw [h0], by omega⟩
  · exact ⟨_, cap, rfl, hc⟩
/-- one more -/
theorem Many.more (h : Many w0 w L base v l) (x : El) (hn : l.length ≤ 1000000) (ty : TypeId) :
    ∃ v' w', (Builtin.append_ #[31, 31] ty #[v, .slice (some ⟨w.heap.size, 0, none⟩) 1 1]).run Tryd.prog (w.alloc (.cells (tv x).toArray 46)) = .ok v' w' ∧ Many w0 w' L base v' (l ++ [x]) ∧ (w.alloc (.cells (tv x).toArray 46)).grownBy w' v.ownBlock ∧ (v'.ownBlock = v.ownBlock ∨ v'.ownBlock = some (w.heap.size + 1)) := by
  have hT : (Tryd.prog.info? 46).map (fun i => (i.zero, i.size, i.bytes)) = some (some (.agg #[.int .u8 0, .slice none 0 0]), 2, 32) := by kernel_rfl
  obtain ⟨i, hi, hz0, hz1, hz2⟩ := info_parts hT
  have k := h.keep (below_new w (.cells (tv x).toArray 46))
  have hr : Row (w.alloc (.cells (tv x).toArray 46)) w.heap.size 46 (tv x).toArray := row_new rfl
  obtain ⟨v', w', h1, h2, h3, _, h5⟩ := run_append_own_at (P := Tryd.prog) (w.alloc (.cells (tv x).toArray 46)) base 31 ty 46 i _ 2 32 Tryd.underlying31 hi hz0 hz1 hz2 rfl (by omega) v l.length (cv l) k.own ⟨w.heap.size, 0, none⟩ 1 1 (cv [x]) (cv_length [x]) (fun j u hu => by
    have hadd : (⟨w.heap.size, 0, none⟩ : Addr).add j = ⟨w.heap.size, 0 + j, none⟩ := by unfold Addr.add; split <;> simp_all
    rw [hadd, hr.cell, Nat.zero_add]
    simpa [cv] using hu) (cv_one [x]) (by unfold maxLen; omega) (by omega) k.hi
  have hb : ∀ q, v.ownBlock = some q → base ≤ q := fun q hq => (World.ownsRow.lt k.own q hq).1
  refine ⟨v', w', h1, ⟨⟨fun y hy => ?_, k.lay.own, k.lay.nd, k.lay.below.grown h3 k.lay.size (fun q hq => Nat.le_trans k.lo (hb q hq))⟩, ?_, h.lo, Nat.le_trans k.hi h3.size, h.fore⟩, h3, by simpa using h5⟩
  · exact (k.lay.row y hy).gb h3 (fun e => by have := hb _ e.symm; have := h.fore y hy; omega)
  · rw [List.length_append, cv_append]
    exact h2
end

end Go.Proofs.YthkiamkhignchaaDoor.Oz
