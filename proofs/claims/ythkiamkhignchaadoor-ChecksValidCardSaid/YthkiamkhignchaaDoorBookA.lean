/-
  What a list of bytes that is filled, or whose room is filled, comes to: its own cells have the sign, all others are as they were; and that a list that has its signs is told so.
  Conditions: the list lies in a block of bytes that may be written.
-/
import Derived.Test.YthkiamkhignchaaDoorMem
namespace Go.Proofs.YthkiamkhignchaaDoor
open Go.RowKit

/-- n cells, from place lo of the list at A on, were written: v -/
structure Wr (w w' : World) (A : Option Addr) (lo n : Nat) (v : Value) : Prop where
  os : w'.os = w.os
  tape : w'.tape = w.tape
  output : w'.output = w.output
  size : w.heap.size ≤ w'.heap.size
  inn : ∀ b o, A = some ⟨b, o, none⟩ → ∀ i, i < n → w'.cell? ⟨b, o + lo + i, none⟩ = some v
  out : ∀ g i, g < w.heap.size → (∀ b o, A = some ⟨b, o, none⟩ → g = b → ¬ (o + lo ≤ i ∧ i < o + lo + n)) → w'.cell? ⟨g, i, none⟩ = w.cell? ⟨g, i, none⟩
  rows : ∀ g t cs, Row w g t cs → ∃ cs', Row w' g t cs' ∧ cs'.size = cs.size
  far : ∀ g, g < w.heap.size → (∀ a, A = some a → g ≠ a.block) → w'.heap[g]? = w.heap[g]?

theorem Wr.none_ {w w' : World} (hb : Below w.heap.size w w') (A : Option Addr) (lo : Nat) (v : Value) : Wr w w' A lo 0 v :=
  ⟨hb.os, hb.tape, hb.output, hb.size, fun _ _ _ i hi => absurd hi (by omega), fun _ _ hg _ => hb.cell hg, fun _ _ cs h => ⟨cs, h.keep hb, rfl⟩, fun g hg _ => hb.block g hg⟩
theorem Wr.after {w w1 w' : World} {A : Option Addr} {lo n : Nat} {v : Value} (hb : Below w.heap.size w w1) (h : Wr w1 w' A lo n v) : Wr w w' A lo n v :=
  ⟨h.os.trans hb.os, h.tape.trans hb.tape, h.output.trans hb.output, Nat.le_trans hb.size h.size, h.inn,
   fun g i hg ho => (h.out g i (Nat.lt_of_lt_of_le hg hb.size) ho).trans (hb.cell (p := ⟨g, i, none⟩) hg), fun g t cs hr => h.rows g t cs (hr.keep hb), fun g hg ha => (h.far g (Nat.lt_of_lt_of_le hg hb.size) ha).trans (hb.block g hg)⟩
theorem Wr.still {w w1 w' : World} {A : Option Addr} {lo n : Nat} {v : Value} (h : Wr w w1 A lo n v) (hs : Still w1 w') : Wr w w' A lo n v := by
  obtain ⟨q, rfl⟩ := hs
  exact ⟨h.os, h.tape, h.output, h.size, h.inn, h.out, h.rows, h.far⟩
theorem Wr.step {w wr : World} {b o lo j : Nat} {v : Value} {t : TypeId} {cs : Array Value} (h : Wr w wr (some ⟨b, o, none⟩) lo j v) (hr : Row w b t cs) (hi : o + lo + j < cs.size) :
    Wr w (wr.setCell ⟨b, o + lo + j, none⟩ v) (some ⟨b, o, none⟩) lo (j + 1) v := by
  obtain ⟨cs', hr', hs'⟩ := h.rows b t cs hr
  refine ⟨h.os, h.tape, h.output, by simpa [World.setCell] using h.size, ?_, ?_, ?_, ?_⟩
  · intro b' o' e i hij
    injection e with e
    injection e with e1 e2
    subst e1 e2
    by_cases hij' : i = j
    · subst hij'
      rw [(hr'.set (o + lo + i) v).cell]
      simp [hs', hi]
    · rw [World.cell?_setCell_other _ _ _ _ (by intro e; injection e with _ e; omega)]
      exact h.inn _ _ rfl i (by omega)
  · intro g i hg ho
    have hne : (⟨g, i, none⟩ : Addr) ≠ ⟨b, o + lo + j, none⟩ := by
      intro e
      injection e with e1 e2
      exact ho b o rfl e1 (by omega)
    rw [World.cell?_setCell_other _ _ _ _ hne.symm]
    exact h.out g i hg (fun b' o' e hb hx => ho b' o' e hb (by omega))
  · intro g t' cs2 hr2
    obtain ⟨cs3, hr3, hs3⟩ := h.rows g t' cs2 hr2
    by_cases hg : g = b
    · subst hg
      exact ⟨_, hr3.set (o + lo + j) v, by simp [hs3]⟩
    · exact ⟨cs3, hr3.far (p := ⟨b, o + lo + j, none⟩) hg v, hs3⟩
  · intro g hg ha
    rw [Below.heap_setCell wr ⟨b, o + lo + j, none⟩ v g (ha ⟨b, o, none⟩ rfl)]
    exact h.far g hg ha

/-- a list, as the book has it -/
def stripV (A : Option Addr) (n c : Nat) (x y : Int) : Value := .agg #[.slice A n c, .int .u8 x, .int .u8 y]
/-- its cells may be written -/
def Wide (w : World) (A : Option Addr) (n c : Nat) : Prop := n ≤ c ∧ c ≤ 16777216 ∧ (0 < c → ∃ b o cs, A = some ⟨b, o, none⟩ ∧ Row w b 5 cs ∧ o + c ≤ cs.size)

/-- a list has its signs -/
def Has (w : World) (A : Option Addr) (n c : Nat) (x y : Int) : Prop :=
  ∀ b o, A = some ⟨b, o, none⟩ → (∀ i, i < n → w.cell? ⟨b, o + i, none⟩ = some (.int .u8 x)) ∧ ∀ i, i < c - n → w.cell? ⟨b, o + n + i, none⟩ = some (.int .u8 y)

end Go.Proofs.YthkiamkhignchaaDoor
