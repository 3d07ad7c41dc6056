/-
  A book of lists of bytes: a list more is noted; lists that share no cell, their room too, are told apart.
  Conditions: the book and its notes lie in blocks of their own; at most 100000 lists are asked of.
-/
import Derived.Test.YthkiamkhignchaaDoorBookA
namespace Go.Proofs.YthkiamkhignchaaDoor
open Go.RowKit

/-- a list of bytes, as it is noted: where, how long, with how much room, and its two signs -/
structure Leaf where
  A : Option Addr
  n : Nat
  c : Nat
  x : Int
  y : Int
theorem own_slice {w : World} {base : Nat} {e : TypeId} {v : Value} {n : Nat} {xs : List Value} (h : w.ownsRow base e 1 v n xs) : ∃ A c, v = .slice A n c ∧ n ≤ c := by
  rcases h.2 with ⟨rfl, rfl⟩ | ⟨g, cap, cur, rfl, _, _, hc, _⟩
  · exact ⟨none, 0, rfl, Nat.le_refl _⟩
  · exact ⟨_, cap, rfl, hc⟩
theorem own_ne {w : World} {base : Nat} {e t : TypeId} {v : Value} {n k : Nat} {xs : List Value} {cs : Array Value} (h : w.ownsRow base e 1 v n xs) (hr : Row w k t cs) (hne : e ≠ t) : some k ≠ v.ownBlock := by
  rcases h.2 with ⟨rfl, _⟩ | ⟨g, cap, cur, rfl, _, hg, _⟩
  · simp [Value.ownBlock]
  · intro e'
    have : k = g := by simpa [Value.ownBlock] using e'
    subst this
    unfold Row at hr
    rw [hr] at hg
    injection hg with hg
    injection hg with _ ht
    exact hne ht.symm

end Go.Proofs.YthkiamkhignchaaDoor
