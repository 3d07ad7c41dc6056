/-
  A list of addresses, opened.
  Conditions: none.
-/
import Derived.Test.YthkiamkhignchaaDoorOpoAd
import Derived.Test.YthkiamkhignchaaDoorOpoU
namespace Go.Proofs.YthkiamkhignchaaDoor.Oz
set_option maxRecDepth 100000
open Go.RowKit Ops

theorem open_addrs {W : World} {cs : List Value} (h : Opens W 32 cs) : ∃ A n c az, cs = [.slice A n c] ∧ n ≤ c ∧ n ≤ 8796093022208 ∧ az.length = n ∧ ReadsA W A az ∧ ∀ a ∈ az, Byt a := by
  obtain ⟨A, n, c, rfl, h1, _, h3, _, hx⟩ := h.slice Tryd.underlying32
  have c16 : Tryd.prog.cellsOf 23 = 16 := by kernel_rfl
  rw [c16] at hx
  rw [show Tryd.prog.bytesOf 23 = 16 by kernel_rfl] at h3
  have h2 : n ≤ 8796093022208 := by unfold reachBytes at h3; omega
  obtain ⟨f, hf⟩ := Go.Deep.choose_lt (α := List Int) (p := fun i zs => zs.length = 16 ∧ Byt zs ∧ ∃ a, A = some a ∧ Rd W (some (a.add (i * 16))) zs) (fun i hi => by
    obtain ⟨a, cs', rfl, hlen, hc, ho⟩ := hx i hi
    obtain ⟨zs, rfl, hl, hw⟩ := ho.ints Tryd.underlying23 Tryd.underlying5 cells_u8 c16
    refine ⟨zs, hl, fun z hz => u8_of (hw z hz), a, rfl, fun j hj => ⟨_, rfl, ?_⟩⟩
    have := hc j (by omega)
    rw [show (a.add (i * 16)).add j = a.add (i * 16 + j) from Go.Deep.add_add a (i * 16) j]
    rw [this]
    simp [List.getD, hj])
  refine ⟨A, n, c, (List.range n).map f, rfl, h1, h2, by simp, fun i zs ho => ?_, fun a ha => ?_⟩
  · have hi : i < n := by have := (List.getElem?_eq_some_iff.1 ho).1; simpa using this
    simp [hi] at ho
    subst ho
    obtain ⟨e1, _, e3⟩ := hf i hi
    exact ⟨e1, e3⟩
  · simp at ha
    obtain ⟨i, hi, rfl⟩ := ha
    exact (hf i hi).2.1

end Go.Proofs.YthkiamkhignchaaDoor.Oz
