/-
  Options out of bytes, by the document's answer: whatever bytes there are; they are what the code tells.
  Conditions: at most 16000000 bytes.
-/
import Derived.Test.YthkiamkhignchaaDoorOpoG
import Derived.Deep.RegionHeld3
import Derived.BigRegion
import Derived.Deep.CutRange
namespace Go.Proofs.YthkiamkhignchaaDoor.Oz
set_option maxRecDepth 100000
open Go.RowKit Ops

theorem slice_lo {A : Option Addr} {n c k : Nat} (hk : k ≤ n) (u : World) : (Instr.sliceAt 28 (.slice A n c) (some (.int .i64 k)) none none).run Tryd.prog u = .ok (.slice (cutA A c k) (n - k) (c - k)) u := by
  have h1 : ¬ n < k := by omega
  simp [Instr.sliceAt, run_underlying Tryd.underlying28, go_sem, cutA, h1]
theorem slice_hi {A : Option Addr} {n c k : Nat} (hk : k ≤ c) (u : World) : (Instr.sliceAt 28 (.slice A n c) none (some (.int .i64 k)) none).run Tryd.prog u = .ok (.slice A k c) u := by
  have h1 : ¬ c < k := by omega
  simp [Instr.sliceAt, run_underlying Tryd.underlying28, go_sem, h1]
theorem slice_lohi {A : Option Addr} {n c j k : Nat} (hj : j ≤ k) (hk : k ≤ c) (u : World) : (Instr.sliceAt 28 (.slice A n c) (some (.int .i64 j)) (some (.int .i64 k)) none).run Tryd.prog u = .ok (.slice (cutA A c j) (k - j) (c - j)) u := by
  simp [Instr.sliceAt, run_underlying Tryd.underlying28, go_sem, cutA, hj, hk]
theorem slc_front {w : World} {A : Option Addr} {n c k : Nat} {zs : List Int} (h : Slc w (.slice A n c) zs) (hk : k ≤ n) : Slc w (.slice A k c) (zs.take k) := by
  obtain ⟨hl, hr, hc⟩ := slc_of h
  cases A with
  | none =>
    have hz : zs = [] := by
      rcases h with ⟨_, h⟩ | ⟨a, d, e, _⟩
      · exact h
      · cases e
    subst hz
    simp at hl
    obtain rfl : k = 0 := by omega
    rcases h with ⟨e, _⟩ | ⟨a, d, e, _⟩
    · injection e with e1 e2 e3
      subst e3
      exact .inl ⟨rfl, rfl⟩
    · cases e
  | some a => exact .inr ⟨a, c, by rw [List.length_take, Nat.min_eq_left (by omega)], hr.take k, by rw [List.length_take]; omega⟩

/-- a list that the document's answer makes: each option's bytes are its own -/
structure Made (w0 w : World) (base : Nat) (v : Value) (l : List El) (os : List (Int × List Int)) : Prop where
  many : Many w0 w [] base v l
  len : l.length = os.length
  each : ∀ (i : Nat) (x : El) (o : Int × List Int), l[i]? = some x → os[i]? = some o → x.k = o.1 ∧ Own w base x.v o.2 ∧ ∀ g, x.v.ownBlock = some g → v.ownBlock ≠ some g
section
variable {w0 w : World} {base : Nat} {v : Value} {l : List El} {os : List (Int × List Int)}
theorem Made.drew (h : Made w0 w base v l os) : Made w0 w.drew base v l os := ⟨h.many.drew, h.len, h.each⟩
theorem Made.begin (w : World) : Made w w w.heap.size (.slice none 0 0) [] [] := ⟨Many.begin (Lay.begin w), rfl, fun i x o h => by simp at h⟩
theorem Made.next (h : Made w0 w base v l os) (k : Int) (zs : List Int) (u : Value) (hu : Slc w u zs) (hz : zs.length ≤ 16000000) (hn : l.length ≤ 1000000) (ty ty2 : TypeId) :
    ∃ A1 n1 c1 w1 v2 w2, (Builtin.append_ #[28, 28] ty #[.slice none 0 0, u]).run Tryd.prog w = .ok (.slice A1 n1 c1) w1 ∧ Below w.heap.size w w1 ∧
      (Builtin.append_ #[31, 31] ty2 #[v, .slice (some ⟨w1.heap.size, 0, none⟩) 1 1]).run Tryd.prog (w1.alloc (.cells #[.int .u8 k, .slice A1 n1 c1] 46)) = .ok v2 w2 ∧ Made w0 w2 base v2 (l ++ [⟨k, A1, n1, c1⟩]) (os ++ [(k, zs)]) := by
  obtain ⟨v1, w1, h1, own1, hg1, hloc1⟩ := run_append_slc w base ty (.slice none 0 0) u [] zs (own_nil _ _) hu (by simp; omega) h.many.hi
  rw [List.nil_append] at own1
  obtain ⟨A1, c1, e1, _, _⟩ := own1.slc.slice
  subst e1
  have q1 : Below w.heap.size w w1 := ⟨hg1.os, hg1.tape, hg1.output, hg1.size, fun b hb => hg1.block b hb (by simp [Value.ownBlock])⟩
  have M1 := h.many.keep q1
  obtain ⟨v2, w2, h2, M2, hg2, hloc2⟩ := M1.more ⟨k, A1, zs.length, c1⟩ hn ty2
  refine ⟨A1, zs.length, c1, w1, v2, w2, h1, q1, h2, M2, by simp [h.len], fun i x o hx ho => ?_⟩
  have hvb : ∀ g, v.ownBlock = some g → g < w.heap.size := fun g hg => (World.ownsRow.lt h.many.own g hg).2
  by_cases hi : i < l.length
  · rw [List.getElem?_append_left hi] at hx
    rw [List.getElem?_append_left (by rw [← h.len]; exact hi)] at ho
    obtain ⟨e1, e2, e3⟩ := h.each i x o hx ho
    refine ⟨e1, World.ownsRow.kept (World.ownsRow.alloc (Own.keep e2 q1) _) hg2 ?_, fun g hg => ?_⟩
    · cases hb : x.v.ownBlock with
      | none => exact .inl rfl
      | some g => exact .inr (fun e => e3 g hb e.symm)
    · intro e
      rcases hloc2 with e' | e'
      · exact e3 g hg (e' ▸ e)
      · have := (World.ownsRow.lt e2 g hg).2
        rw [e'] at e
        injection e with e
        have := q1.size
        omega
  · have hil : i < l.length + 1 := by have := (List.getElem?_eq_some_iff.1 hx).1; simpa using this
    obtain rfl : i = l.length := by omega
    rw [List.getElem?_append_right (Nat.le_refl _), Nat.sub_self] at hx
    rw [List.getElem?_append_right (by rw [h.len]; exact Nat.le_refl _), h.len, Nat.sub_self] at ho
    simp only [List.getElem?_cons_zero, Option.some.injEq] at hx ho
    subst hx ho
    have hx1 : ∀ g, (Value.slice A1 zs.length c1).ownBlock = some g → w.heap.size ≤ g := fun g hg => by
      rcases hloc1 with e' | e'
      · rw [e'] at hg; simp [Value.ownBlock] at hg
      · rw [e'] at hg; injection hg with hg; omega
    refine ⟨rfl, World.ownsRow.kept (World.ownsRow.alloc own1 _) hg2 ?_, fun g hg e => ?_⟩
    · cases hb : (El.v ⟨k, A1, zs.length, c1⟩).ownBlock with
      | none => exact .inl rfl
      | some g =>
        refine .inr (fun e => ?_)
        have := hvb g e.symm
        have := hx1 g hb
        omega
    · have h3 := hx1 g hg
      have h4 := (World.ownsRow.lt own1 g hg).2
      rcases hloc2 with e' | e'
      · have := hvb g (e' ▸ e); omega
      · rw [e'] at e; injection e with e; omega
end
/-- what the document's answer is -/
def RefO (w : World) (zs : List Int) (R : Option (List Sp)) (e : Ending) (w' : World) : Prop := match R with
  | none => e = .returned (.tuple #[.slice none 0 0, .int .i64 4]) ∧ Below w.heap.size w w'
  | some ds => ∃ A c base l, e = .returned (.tuple #[.slice A ds.length c, .int .i64 0]) ∧ Made w w' base (.slice A ds.length c) l (plain zs ds)

theorem still_below0 {w w' : World} (h : Below w.drew.heap.size w.drew w') : Below w.heap.size w w' := ⟨h.os, h.tape, h.output, h.size, h.block⟩
theorem cell_keep {w w' : World} {a : Addr} {v : Value} (h : w.cell? a = some v) (q : Below w.heap.size w w') : w'.cell? a = some v := by
  have hlt : a.block < w.heap.size := by
    unfold World.cell? at h
    cases hb : w.heap[a.block]? with
    | none => simp [hb] at h
    | some o => exact (Array.getElem?_eq_some_iff.1 hb).1
  unfold World.cell? at h ⊢
  rw [q.block a.block hlt]
  exact h
def lenS (v : Value) : Nat := match v with
  | .slice _ n _ => n
  | _ => 0
theorem plain_next (zs : List Int) (acc : List Sp) (x : Sp) : plain zs (acc ++ [x]) = plain zs acc ++ [(x.k, (zs.drop x.o).take x.n)] := by simp [plain]

end Go.Proofs.YthkiamkhignchaaDoor.Oz
