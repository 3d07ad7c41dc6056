/-
  An argument that is a slice of bytes, opened: it reads as a list of bytes, nil as none.
  Conditions: none.
-/
import Derived.Test.YthkiamkhignchaaDoorMem
import Derived.Test.YthkiamkhignchaaDoorLaw
namespace Go.Proofs.YthkiamkhignchaaDoor
open Go.ChangeShapes Go.WideShapes Go.ChangeAt Go.RowKit

theorem cells5 : Tryd.prog.cellsOf 5 = 1 := by kernel_rfl
section
variable {H : Type} {enc : TypeId × Value → H} {W : World} {base : Nat} {sp : Nat → Bool} {held : Bool}
theorem u8_of {n : Int} (h : (Lit.int .u8 n).wf = true) : 0 ≤ n ∧ n ≤ 255 := by simpa [Lit.wf, IntKind.min, IntKind.max, IntKind.signed, IntKind.bits] using h
theorem u64_of {n : Int} (h : (Lit.int .u64 n).wf = true) : 0 ≤ n ∧ n < 256 ^ 8 := by
  have : 0 ≤ n ∧ n ≤ 18446744073709551615 := by simpa [Lit.wf, IntKind.min, IntKind.max, IntKind.signed, IntKind.bits] using h
  have e : (256 : Int) ^ 8 = 18446744073709551616 := by decide
  omega
set_option maxRecDepth 100000 in
/-- an argument that is a slice of bytes -/
theorem open_bytes {v : Value} {d : DataW H} {p : List MemPlace} {r : Reach} {b0 : Nat} (hv : Value.okWide Tryd.prog W r b0 28 v) (h : DataW.Trod enc Tryd.prog W base sp held 28 v d p) :
    ∃ A n c zs, v = .slice A n c ∧ Slc W (.slice A n c) zs ∧ zs.length = n ∧ Byt zs := by
  obtain ⟨fuel, hf⟩ := h
  obtain ⟨A, n, c, rfl⟩ := okWide_slice Tryd.underlying28 hv
  rcases open_ints Tryd.underlying28 Tryd.underlying5 cells5 hf with ⟨h0, _⟩ | ⟨a, len, cap, zs, h0, _, hl, _, hz, _, hc, hw⟩
  · simp [Value.cells] at h0
    obtain ⟨rfl, rfl, rfl⟩ := h0
    exact ⟨none, 0, 0, [], rfl, .inl ⟨rfl, rfl⟩, rfl, by simp [Byt]⟩
  · simp [Value.cells] at h0
    obtain ⟨rfl, rfl, rfl⟩ := h0
    have hlz : n ≤ zs.length := by rw [hz]; split <;> omega
    refine ⟨some a, n, c, zs.take n, rfl, ?_, by simp; omega, fun z hz => u8_of (hw z (List.mem_of_mem_take hz))⟩
    have e : (zs.take n).length = n := by simp; omega
    refine .inr ⟨a, c, by rw [e], fun j hj => ⟨a, rfl, ?_⟩, by rw [e]; exact hl⟩
    rw [hc j (by simp at hj; omega)]
    have hj' : j < n := by omega
    simp [List.getD, hj']
end


end Go.Proofs.YthkiamkhignchaaDoor
