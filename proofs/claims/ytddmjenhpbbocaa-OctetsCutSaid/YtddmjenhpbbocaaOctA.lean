/-
  Contracts of package octets' small functions (isWidth, Bad, Left, spoil, Bytes, Rest), for every cutter, that is not there, that is spoilt, or that is sound.
  Conditions: a cutter lies in a block of its own; what is left lies in a slice of at most its capacity.
-/
import Derived.Test.YtddmjenhpbbocaaProg
import Derived.WalkKit
import Derived.KernelRfl
namespace Go.Proofs.Ytddmjenhpbbocaa
open Go.RowKit

theorem veil {p : Prop} (h : p) : Hid p := h

/-- block g is just these cells, none of them frozen -/
def Row (w : World) (g : Nat) (t : TypeId) (cs : Array Value) : Prop := w.heap[g]? = some (.cells cs t (0, 0))
theorem Row.cell {w : World} {g : Nat} {t : TypeId} {cs : Array Value} (h : Row w g t cs) (i : Nat) : w.cell? ⟨g, i, none⟩ = cs[i]? := cell_of_row w g i cs t (0, 0) h
theorem Row.frozen {w : World} {g : Nat} {t : TypeId} {cs : Array Value} (h : Row w g t cs) (i : Nat) : w.frozen? ⟨g, i, none⟩ = false := frozen_of_row w g i cs t h
theorem Row.lt {w : World} {g : Nat} {t : TypeId} {cs : Array Value} (h : Row w g t cs) : g < w.heap.size := (Array.getElem?_eq_some_iff.1 h).1

theorem width_yes (n : Int) (w : World) (h1 : 1 ≤ n) (h2 : n ≤ 8) : Calls Try.prog 32 #[.int .i64 n] w fun e w' => e = .returned (.bool true) ∧ w = w' := by
  go_enter Try.func32, Try.ntmps32
  go_wp2
  all_goals go_ret
  all_goals (first | exact ⟨rfl, rfl⟩ | (exfalso; omega))

theorem width_no (n : Int) (w : World) (h : n < 1 ∨ 8 < n) : Calls Try.prog 32 #[.int .i64 n] w fun e w' => e = .returned (.bool false) ∧ w = w' := by
  rcases h with h | h
  · go_enter Try.func32, Try.ntmps32
    go_wp2
    all_goals go_ret
    all_goals (first | exact ⟨rfl, rfl⟩ | (exfalso; omega))
  · have h' : 1 ≤ n := by omega
    go_enter Try.func32, Try.ntmps32
    go_wp2
    all_goals go_ret
    all_goals (first | exact ⟨rfl, rfl⟩ | (refine ⟨?_, rfl⟩; simp; omega))

theorem bad_nil (w : World) : Calls Try.prog 15 #[.pointer none] w fun e w' => e = .returned (.bool true) ∧ w = w' := by
  go_enter Try.func15, Try.ntmps15
  go_wp2
  all_goals go_ret
  all_goals exact ⟨rfl, rfl⟩

theorem bad_at (g : Nat) (s : Bool) (x : Value) (w : World) (h : Row w g 48 #[x, .bool s]) : Calls Try.prog 15 #[.pointer (some ⟨g, 0, none⟩)] w fun e w' => e = .returned (.bool (!s)) ∧ w = w' := by
  have h1 : w.cell? ⟨g, 1, none⟩ = some (.bool s) := h.cell 1
  clear h
  go_enter Try.func15, Try.ntmps15
  go_wp2
  all_goals go_ret
  all_goals exact ⟨rfl, rfl⟩

theorem left_nil (w : World) : Calls Try.prog 14 #[.pointer none] w fun e w' => e = .returned (.int .i64 0) ∧ w = w' := by
  go_enter Try.func14, Try.ntmps14
  go_wp2
  all_goals go_ret
  all_goals exact ⟨rfl, rfl⟩

theorem left_at (g : Nat) (s : Bool) (A : Option Addr) (n c : Nat) (w : World) (h : Row w g 48 #[.slice A n c, .bool s]) : Calls Try.prog 14 #[.pointer (some ⟨g, 0, none⟩)] w fun e w' => e = .returned (.int .i64 n) ∧ w = w' := by
  have h0 : w.cell? ⟨g, 0, none⟩ = some (.slice A n c) := h.cell 0
  clear h
  go_enter Try.func14, Try.ntmps14
  go_wp2
  all_goals go_ret
  all_goals exact ⟨rfl, rfl⟩

theorem spoil_nil (w : World) : Calls Try.prog 33 #[.pointer none] w fun e w' => e = .returned (.tuple #[]) ∧ w = w' := by
  go_enter Try.func33, Try.ntmps33
  go_wp2
  all_goals go_end0
  all_goals exact ⟨rfl, rfl⟩

theorem spoil_at (g : Nat) (x y : Value) (w : World) (h : Row w g 48 #[x, y]) : Calls Try.prog 33 #[.pointer (some ⟨g, 0, none⟩)] w fun e w' => e = .returned (.tuple #[]) ∧ (w.setCell ⟨g, 0, none⟩ (.slice none 0 0)).setCell ⟨g, 1, none⟩ (.bool false) = w' := by
  have h0 : w.cell? ⟨g, 0, none⟩ = some x := h.cell 0
  have h1 : w.cell? ⟨g, 1, none⟩ = some y := h.cell 1
  have f0 := h.frozen 0
  have f1 := h.frozen 1
  clear h
  go_enter Try.func33, Try.ntmps33
  go_wp2
  all_goals go_end0
  all_goals exact ⟨rfl, rfl⟩

end Go.Proofs.Ytddmjenhpbbocaa
