/-
  Addresses that lie in a slice; rows of them made; what a call made, beside what was there.
  Conditions: none.
-/
import Derived.Test.YthkiamkhignchaaDoorOpoR
namespace Go.Proofs.YthkiamkhignchaaDoor.Oz
set_option maxRecDepth 100000
open Go.RowKit Ops

theorem set_at_same {α : Type} {L : List α} {i : Nat} {x : α} (h : L[i]? = some x) : L.set i x = L := by
  apply List.ext_getElem?
  intro j
  by_cases e : i = j
  · subst e
    rw [List.getElem?_set_self (List.getElem?_eq_some_iff.1 h).1, h]
  · rw [List.getElem?_set_ne e]
/-- addresses that lie in a slice -/
def ReadsA (w : World) (A : Option Addr) (ls : List (List Int)) : Prop := ∀ (i : Nat) (zs : List Int), ls[i]? = some zs → zs.length = 16 ∧ ∃ a, A = some a ∧ Rd w (some (a.add (i * 16))) zs
theorem ReadsA.keep {w w' : World} {A : Option Addr} {ls : List (List Int)} (h : ReadsA w A ls) (q : Below w.heap.size w w') : ReadsA w' A ls := fun i zs hi => by
  obtain ⟨h1, a, h2, h3⟩ := h i zs hi
  exact ⟨h1, a, h2, h3.keep q⟩
theorem load_addr {w : World} {a : Addr} {zs : List Int} (h : Rd w (some a) zs) (hz : zs.length = 16) : (Instr.loadAt 23 (.pointer (some a))).run Tryd.prog w = .ok (.agg (bv zs).toArray) w := by
  simp only [Instr.loadAt, Instr.sureAddr, Sem.run_bind, Sem.run_pure, Result.andThen]
  have hl : (loadCells a (bv zs).length).run Tryd.prog w = .ok (bv zs).toArray w := run_loadCells_list (P := Tryd.prog) w a (bv zs) (rd_list h)
  have hu := Tryd.underlying23
  have hty : (Tryd.prog.info? 23).map (·.size) = some 16 := by kernel_rfl
  cases hq : Tryd.prog.info? 23 with
  | none => simp [hq] at hty
  | some inf =>
    have hs : inf.size = 16 := by simpa [hq] using hty
    have hagg : (isAgg 23).run Tryd.prog w = .ok true w := by
      unfold isAgg
      rw [Sem.run_bind, run_underlying hu w]
      simp
    have h2 : (bv zs).length = 16 := by rw [bv_length, hz]
    rw [h2] at hl
    simp [loadVar, Sem.run_bind, hagg, sizeOf, typeInfo, hq, hs, hl]
theorem flat16 : ∀ {ls : List (List Int)} (_ : ∀ zs ∈ ls, zs.length = 16), ls.flatten.length = 16 * ls.length
  | [], _ => rfl
  | zs :: ls, h => by
    have h1 := h zs (by simp)
    have h2 := flat16 (ls := ls) (fun z hz => h z (by simp [hz]))
    rw [List.flatten_cons, List.length_append, h2, h1, List.length_cons]
    omega
theorem made_addrs (m : Nat) : madeCells #[.int .u8 0, .int .u8 0, .int .u8 0, .int .u8 0, .int .u8 0, .int .u8 0, .int .u8 0, .int .u8 0, .int .u8 0, .int .u8 0, .int .u8 0, .int .u8 0, .int .u8 0, .int .u8 0, .int .u8 0, .int .u8 0] (m * 16) = (bv (List.replicate (16 * m) 0)).toArray := by
  apply Array.ext_getElem?
  intro j
  by_cases hj : j < m * 16
  · have h0 : (#[.int .u8 0, .int .u8 0, .int .u8 0, .int .u8 0, .int .u8 0, .int .u8 0, .int .u8 0, .int .u8 0, .int .u8 0, .int .u8 0, .int .u8 0, .int .u8 0, .int .u8 0, .int .u8 0, .int .u8 0, .int .u8 0] : Array Value) = Array.replicate 16 (.int .u8 0) := rfl
    have h1 : (Array.replicate 16 (Value.int .u8 0))[j % 16]! = .int .u8 0 := by
      rw [getElem!_pos _ _ (by simp; omega)]
      simp
    have h2 : (bv (List.replicate (16 * m) 0)).toArray[j]? = some (.int .u8 0) := by
      rw [List.getElem?_toArray, bv, List.map_replicate, List.getElem?_replicate, if_pos (by omega)]
    rw [h2, h0]
    simp only [madeCells, Array.getElem?_map, Array.size_replicate]
    rw [Array.getElem?_range, if_pos hj]
    exact congrArg some h1
  · rw [Array.getElem?_eq_none (by rw [size_madeCells]; omega), Array.getElem?_eq_none (by simp [bv]; omega)]
theorem run_make_addr (n : Nat) (hn : n ≤ 1000000) (u : World) : (Instr.makeSlice 32 (.int .i64 n) (.int .i64 n)).run Tryd.prog u = .ok (.slice (some ⟨u.heap.size, 0, none⟩) n n) (u.alloc (.cells (bv (List.replicate (16 * n) 0)).toArray 23)) := by
  have hT : (Tryd.prog.info? 23).map (fun i => (i.zero, i.size, i.bytes)) = some (some (.agg #[.int .u8 0, .int .u8 0, .int .u8 0, .int .u8 0, .int .u8 0, .int .u8 0, .int .u8 0, .int .u8 0, .int .u8 0, .int .u8 0, .int .u8 0, .int .u8 0, .int .u8 0, .int .u8 0, .int .u8 0, .int .u8 0]), 16, 16) := by kernel_rfl
  obtain ⟨i, hi, hz0, hz1, hz2⟩ := info_parts hT
  have h := run_make (P := Tryd.prog) u 32 23 i _ Tryd.underlying32 hi hz0 .i64 .i64 n n (by omega) (by omega) (by rw [hz2]; omega) (by omega)
  rw [← made_addrs]
  simpa [hz1, Value.cells] using h
/-- what a call made, beside what was there -/
theorem _root_.Go.Proofs.YthkiamkhignchaaDoor.Lay.join {w0 w1 w2 : World} {L E : List Blk} (h : Lay w0 w1 L) (k : Lay w1 w2 E) : Lay w0 w2 (L ++ E) := by
  have h2 := h.keep k.below
  refine ⟨fun x hx => (List.mem_append.1 hx).elim (h2.row x) (k.row x), fun x hx => (List.mem_append.1 hx).elim (h2.own x) (fun e => Nat.le_trans h.size (k.own x e)), ?_, h2.below⟩
  rw [List.map_append, List.nodup_append]
  refine ⟨h2.nd, k.nd, fun a ha b hb e => ?_⟩
  obtain ⟨x, hx, rfl⟩ := List.mem_map.1 ha
  obtain ⟨y, hy, rfl⟩ := List.mem_map.1 hb
  have h1 := (h.row x hx).lt
  have h3 := k.own y hy
  omega

end Go.Proofs.YthkiamkhignchaaDoor.Oz
