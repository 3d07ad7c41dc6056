/-
  Words of draws beside two lists of the law's own: what each step does to all three.
  Conditions: at most 16777216 words in a list.
-/
import Derived.Test.YtmjpmagfbiocnaaDrwL
import Derived.Test.YtmjpmagfbiocnaaDrwG
namespace Go.Proofs.Ytmjpmagfbiocnaa.W32
open Go.RowKit

/-- words at g with q waiting, and two lists of one's own, each in a block of its own -/
structure Par (w0 w : World) (g : Nat) (v u : Value) (q xs ys : List Int) : Prop where
  wd : Wd w g q
  ov : Own w w0.heap.size v xs
  ou : Own w w0.heap.size u ys
  sep : Sep v u
  nv : v.ownBlock ≠ some g
  nu : u.ownBlock ≠ some g
  bel : Below w0.heap.size w0 w
  le : w0.heap.size ≤ g

theorem Par.size {w0 w : World} {g : Nat} {v u : Value} {q xs ys : List Int} (h : Par w0 w g v u q xs ys) : w0.heap.size ≤ w.heap.size := h.bel.size
theorem Par.swap {w0 w : World} {g : Nat} {v u : Value} {q xs ys : List Int} (h : Par w0 w g v u q xs ys) : Par w0 w g u v q ys xs := ⟨h.wd, h.ou, h.ov, h.sep.symm, h.nu, h.nv, h.bel, h.le⟩
theorem Par.turn {w0 w w1 : World} {g : Nat} {v u : Value} {q q1 xs ys : List Int} (h : Par w0 w g v u q xs ys) (hw : Wd w1 g q1) (hg : w.grownBy w1 (some g)) : Par w0 w1 g v u q1 xs ys :=
  ⟨hw, h.ov.gb hg h.nv, h.ou.gb hg h.nu, h.sep, h.nv, h.nu, below_gb h.bel hg h.size h.le, h.le⟩
theorem Par.keep {w0 w w1 : World} {g : Nat} {v u : Value} {q xs ys : List Int} (h : Par w0 w g v u q xs ys) (hb : Below w.heap.size w w1) : Par w0 w1 g v u q xs ys :=
  ⟨h.wd.keep hb, h.ov.keep hb, h.ou.keep hb, h.sep, h.nv, h.nu, h.bel.trans (hb.mono h.size), h.le⟩
theorem Par.add {w0 w : World} {g : Nat} {v u : Value} {q xs ys : List Int} (h : Par w0 w g v u q xs ys) (ty : TypeId) (x : Value) (zs : List Int) (hx : Slc w x zs) (hn : xs.length + zs.length ≤ 16777216) :
    ∃ v' w', (Builtin.append_ #[28, 28] ty #[v, x]).run Try.prog w = .ok v' w' ∧ Par w0 w' g v' u q (xs ++ zs) ys := by
  obtain ⟨v', w', h1, h2, h3, h4⟩ := run_append_slc w w0.heap.size ty v x xs zs h.ov hx hn h.size
  refine ⟨v', w', h1, ⟨?_, h2, ?_, ?_, ?_, h.nu, own_below h.ov h3 h.bel h.size, h.le⟩⟩
  · exact h.wd.gb h3 (fun e => h.nv e.symm)
  · refine World.ownsRow.kept h.ou h3 ?_
    cases hu : u.ownBlock with
    | none => exact .inl rfl
    | some k => exact .inr (fun e => h.sep k e.symm hu)
  · intro k hk
    rcases h4 with h4 | h4
    · rw [h4] at hk
      exact h.sep k hk
    · intro e
      have := World.ownsRow.lt h.ou k e
      rw [h4] at hk
      injection hk with hk
      omega
  · rcases h4 with h4 | h4
    · rw [h4]; exact h.nv
    · rw [h4]
      intro e
      injection e with e
      have := h.wd.lt
      omega
theorem par_new {w0 w : World} {g : Nat} (hw : Wd w g []) (hb : Below w0.heap.size w0 w) (hg : w0.heap.size ≤ g) : Par w0 w g (.slice none 0 0) (.slice none 0 0) [] [] [] :=
  ⟨hw, own_nil _ _, own_nil _ _, (fun k h => by simp [Value.ownBlock] at h), by simp [Value.ownBlock], by simp [Value.ownBlock], hb, hg⟩
theorem own_is {w : World} {b : Nat} {v : Value} {xs : List Int} (h : Own w b v xs) : ∃ A c, v = .slice A xs.length c := by
  obtain ⟨A, c, e, _⟩ := h.slc.slice
  exact ⟨A, c, e⟩
theorem lit_slc {w : World} {z : Int} : Slc (w.alloc (.cells #[.int .u32 z] 31)) (.slice (some ⟨w.heap.size, 0, none⟩) 1 1) [z] :=
  .inr ⟨_, 1, rfl, rd_lit (row_new rfl) rfl, by simp⟩

end Go.Proofs.Ytmjpmagfbiocnaa.W32
