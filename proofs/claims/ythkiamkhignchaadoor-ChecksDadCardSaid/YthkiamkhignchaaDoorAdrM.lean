/-
  Addresses in memory: an array of sixteen bytes by value, loaded, stored, compared; the table of the known ones.
  Conditions: none.
-/
import Derived.Test.YthkiamkhignchaaDoorMemB
import Derived.Test.YthkiamkhignchaaDoorStep
import Derived.Test.YthkiamkhignchaaDoorAdrP
import Derived.Deep.MidRow
import Derived.ChangeKeysEq
namespace Go.Proofs.YthkiamkhignchaaDoor.Ad
open Go.RowKit

/-- an address by value -/
abbrev av (xs : List Int) : Value := .agg (bv xs).toArray

theorem size16 : (Tryd.prog.info? 23).map (·.size) = some 16 := by kernel_rfl
theorem sizeOk {xs : List Int} (h : xs.length = 16) : (Tryd.prog.info? 23).map (·.size) = some (bv xs).length := by rw [size16, bv_length, h]

theorem rng_row {w : World} {g : Nat} {t : TypeId} {cs : List Value} (h : Row w g t cs.toArray) : w.rangeAt g 0 cs := fun j v hv => by
  rw [h.cell, Nat.zero_add]
  simpa using hv
theorem rng_keep {w w' : World} {g o : Nat} {cs : List Value} (h : w.rangeAt g o cs) (hb : Below w.heap.size w w') : w'.rangeAt g o cs := fun j v hv => by
  have hc := h j v hv
  rw [hb.cell (block_lt_of_cell hc), hc]
theorem rng_cell {w : World} {g o : Nat} {xs : List Int} (h : w.rangeAt g o (bv xs)) {j : Nat} (hj : j < xs.length) : w.cell? ⟨g, o + j, none⟩ = some (.int .u8 (xs.getD j 0)) := h j _ (bv_get xs j hj)
theorem rng_at {w : World} {g : Nat} {xs : List Int} (h : w.rangeAt g 0 (bv xs)) {j : Nat} (hj : j < xs.length) : w.cell? ⟨g, j, none⟩ = some (.int .u8 (xs.getD j 0)) := by
  have := rng_cell h hj
  rwa [Nat.zero_add] at this

theorem load_rng {w : World} {g o : Nat} {xs : List Int} (h : w.rangeAt g o (bv xs)) (hx : xs.length = 16) :
    (Instr.loadAt 23 (.pointer (some ⟨g, o, none⟩))).run Tryd.prog w = .ok (av xs) w :=
  run_loadAt_mid w g o 23 (bv xs) _ h Tryd.underlying23 rfl (sizeOk hx)
theorem store_row {w : World} {g : Nat} {t : TypeId} {cs : Array Value} {xs : List Int} (h : Row w g t cs) (hc : cs.size = 16) (hx : xs.length = 16) :
    (Instr.storeAt 23 (.pointer (some ⟨g, 0, none⟩)) (av xs)).run Tryd.prog w = .ok () (w.setRow g (bv xs).toArray) := by
  simp only [Instr.storeAt, Instr.sureAddr, Sem.run_bind, Sem.run_pure, Result.andThen]
  exact run_storeVar_row _ _ _ _ _ _ h (by rw [size16]; simp [bv, hx]) (by simp [bv, hx, hc]) (by simp [bv, Value.oneCell'])

/-- two addresses, compared -/
theorem items_eq (d : Nat) (w : World) (xs ys : List Int) (hc : Tryd.prog.cellsOf 5 = 1) : ∀ (n k : Nat), xs.length = k + n → ys.length = k + n →
    (Op.eqItems (d + 1) 5 1 (bv xs).toArray (bv ys).toArray (List.range' k n)).run Tryd.prog w = .ok (decide (xs.drop k = ys.drop k)) w
  | 0, k, hx, hy => by
    rw [List.drop_of_length_le (by omega), List.drop_of_length_le (by omega)]
    simp [Op.eqItems]
  | n + 1, k, hx, hy => by
    have px : (part 5 (bv xs).toArray (k * 1)).run Tryd.prog w = .ok (.int .u8 (xs.getD k 0)) w := run_part_plain w (by unfold Program.plainKey; rw [Tryd.underlying5]) (by rw [Nat.mul_one]; simpa using bv_get xs k (by omega))
    have py : (part 5 (bv ys).toArray (k * 1)).run Tryd.prog w = .ok (.int .u8 (ys.getD k 0)) w := run_part_plain w (by unfold Program.plainKey; rw [Tryd.underlying5]) (by rw [Nat.mul_one]; simpa using bv_get ys k (by omega))
    rw [List.range'_succ]
    simp only [Op.eqItems, Sem.run_bind, px, py, Result.andThen_ok, run_equalIn_int w d 5 .u8 .u8 _ _ Tryd.underlying5]
    have ex : xs.drop k = xs.getD k 0 :: xs.drop (k + 1) := by rw [List.drop_eq_getElem_cons (by omega)]; simp [List.getD, show k < xs.length by omega]
    have ey : ys.drop k = ys.getD k 0 :: ys.drop (k + 1) := by rw [List.drop_eq_getElem_cons (by omega)]; simp [List.getD, show k < ys.length by omega]
    by_cases e : xs.getD k 0 = ys.getD k 0
    · rw [e]
      simp only [beq_self_eq_true, Bool.not_true, Bool.false_eq_true, if_false]
      rw [items_eq d w xs ys hc n (k + 1) (by omega) (by omega), ex, ey, e]
      simp
    · have : (xs.getD k 0 == ys.getD k 0) = false := by simpa using e
      rw [this]
      simp only [Bool.not_false, if_true, Sem.run_pure]
      rw [ex, ey]
      simp only [List.cons.injEq, e, false_and, decide_false]
theorem eq_any (w : World) {xs ys : List Int} (hx : xs.length = 16) (hy : ys.length = 16) : (Op.equal 23 (av xs) (av ys)).run Tryd.prog w = .ok (decide (xs = ys)) w := by
  obtain ⟨i, hi, _, _, _⟩ := info_parts info_u8
  have hc : Tryd.prog.cellsOf 5 = 1 := by kernel_rfl
  have h := run_equalIn_array (P := Tryd.prog) w 9999 (bv xs).toArray (bv ys).toArray Tryd.underlying23 hi
  rw [hc, List.range_eq_range', items_eq 9998 w xs ys hc 16 0 (by omega) (by omega)] at h
  simpa [Op.equal, Op.maxDepth] using h
theorem eql_any (w : World) {xs ys : List Int} (hx : xs.length = 16) (hy : ys.length = 16) {z : Bool} (hz : decide (xs = ys) = z) : (binOp .eql 23 (av xs) (av ys)).run Tryd.prog w = .ok (.bool z) w := by
  simp [binOp, eq_any w hx hy, hz]
theorem neq_any (w : World) {xs ys : List Int} (hx : xs.length = 16) (hy : ys.length = 16) {z : Bool} (hz : decide (xs = ys) = z) : (binOp .neq 23 (av xs) (av ys)).run Tryd.prog w = .ok (.bool (!z)) w := by
  simp [binOp, eq_any w hx hy, hz]

/-- the table -/
def known : List Int := [0, 0, 0, 0, 0, 0, 0, 0, 0, 0, 0, 0, 0, 0, 0, 0,
  0, 0, 0, 0, 0, 0, 0, 0, 0, 0, 0, 0, 0, 0, 0, 1,
  255, 2, 0, 0, 0, 0, 0, 0, 0, 0, 0, 0, 0, 0, 0, 1,
  255, 2, 0, 0, 0, 0, 0, 0, 0, 0, 0, 0, 0, 0, 0, 2,
  255, 2, 0, 0, 0, 0, 0, 0, 0, 0, 0, 0, 0, 0, 0, 22,
  255, 2, 0, 0, 0, 0, 0, 0, 0, 0, 0, 0, 0, 1, 0, 2]
/-- the k-th known address -/
def kn (k : Nat) : List Int := (known.drop (16 * k)).take 16
theorem kn_len {k : Nat} (h : k < 6) : (kn k).length = 16 := by simp [kn, known]; omega
theorem kn_ok : ∀ k : Fin 6, Ok (kn k.1) := fun k => ⟨kn_len k.2, fun z hz => by
  have h : ∀ z ∈ known, 0 ≤ z ∧ z ≤ 255 := by decide
  exact h z (List.mem_of_mem_drop (List.mem_of_mem_take hz))⟩
/-- the known addresses lie in their table -/
def Knw (w : World) : Prop := w.rangeAt 0 0 (bv known)
theorem Knw.keep {w w' : World} (h : Knw w) (hb : Below w.heap.size w w') : Knw w' := rng_keep h hb
theorem Knw.drew {w : World} (h : Knw w) : Knw w.drew := h
theorem Knw.at {w : World} (h : Knw w) (k : Nat) (hk : k < 6) : w.rangeAt 0 (16 * k) (bv (kn k)) := fun j v hv => by
  have hj : j < 16 := by
    have := (List.getElem?_eq_some_iff.1 hv).1
    rw [bv_length, kn_len hk] at this
    exact this
  have := h (16 * k + j) v (by
    rw [← hv]
    simp [bv, kn, hj])
  rwa [Nat.zero_add] at this
theorem Knw.load {w : World} (h : Knw w) (k o : Nat) (hk : k < 6) (ho : o = 16 * k) : (Instr.loadAt 23 (.pointer (some ⟨0, o, none⟩))).run Tryd.prog w = .ok (av (kn k)) w := by
  subst ho
  exact load_rng (h.at k hk) (kn_len hk)

end Go.Proofs.YthkiamkhignchaaDoor.Ad
