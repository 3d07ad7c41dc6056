/-
  Arguments opened, whatever kind of whole number: a number by itself, and a slice of them, which reads as a list, nil as none.
  Conditions: none.
-/
import Derived.Test.YthkiamkhignchaaDoorRow
import Derived.Test.YthkiamkhignchaaDoorLaw
namespace Go.Proofs.YthkiamkhignchaaDoor
set_option maxRecDepth 100000
open Go.ChangeShapes Go.WideShapes Go.ChangeAt Go.RowKit

section
variable {H : Type} {enc : TypeId × Value → H} {W : World} {base : Nat} {sp : Nat → Bool} {held : Bool}

/-- bounds of a kind of whole number -/
theorem u64_of' {n : Int} (h : (Lit.int .u64 n).wf = true) : 0 ≤ n ∧ n ≤ 18446744073709551615 := by simpa [Lit.wf, IntKind.min, IntKind.max, IntKind.signed, IntKind.bits] using h
theorem u32_of' {n : Int} (h : (Lit.int .u32 n).wf = true) : 0 ≤ n ∧ n ≤ 4294967295 := by simpa [Lit.wf, IntKind.min, IntKind.max, IntKind.signed, IntKind.bits] using h

/-- an argument that is a slice of whole numbers -/
theorem open_slice_ints {t e : TypeId} {k : IntKind} {v : Value} {d : DataW H} {p : List MemPlace} {r : Reach} {b0 : Nat} (ht : Tryd.prog.underlying t = some (.slice e)) (he : Tryd.prog.underlying e = some (.int k)) (hc1 : Tryd.prog.cellsOf e = 1)
    (hv : Value.okWide Tryd.prog W r b0 t v) (h : DataW.Trod enc Tryd.prog W base sp held t v d p) :
    ∃ A n c zs, v = .slice A n c ∧ Rk k W A zs ∧ zs.length = n ∧ n ≤ c ∧ (∀ z ∈ zs, (Lit.int k z).wf = true) := by
  obtain ⟨fuel, hf⟩ := h
  obtain ⟨A, n, c, rfl⟩ := okWide_slice ht hv
  rcases open_ints ht he hc1 hf with ⟨h0, _⟩ | ⟨a, len, cap, zs, h0, _, hl, _, hz, _, hc, hw⟩
  · simp [Value.cells] at h0
    obtain ⟨rfl, rfl, rfl⟩ := h0
    exact ⟨none, 0, 0, [], rfl, (fun j hj => by simp at hj), rfl, Nat.le_refl _, by simp⟩
  · simp [Value.cells] at h0
    obtain ⟨rfl, rfl, rfl⟩ := h0
    have hlz : n ≤ zs.length := by rw [hz]; split <;> omega
    refine ⟨some a, n, c, zs.take n, rfl, ?_, by simp; omega, hl, fun z hz => hw z (List.mem_of_mem_take hz)⟩
    intro j hj
    refine ⟨a, rfl, ?_⟩
    rw [hc j (by simp at hj; omega)]
    have hj' : j < n := by simp at hj; omega
    simp [List.getD, hj']
end

end Go.Proofs.YthkiamkhignchaaDoor
