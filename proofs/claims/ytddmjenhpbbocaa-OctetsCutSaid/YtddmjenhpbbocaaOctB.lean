/-
  Contracts of package octets' Bytes and Rest, for every cutter that is not there, that is spoilt, or that is sound.
  Conditions: a cutter lies in a block of its own; what is left lies in a slice of at most its capacity.
-/
import Derived.Test.YtddmjenhpbbocaaOctA
namespace Go.Proofs.Ytddmjenhpbbocaa
open Go.RowKit

theorem row_new {w : World} {g : Nat} {t : TypeId} {cs : Array Value} (h : g = w.heap.size) : Row (w.alloc (.cells cs t)) g t cs := by subst h; exact heap_alloc_new w _
theorem Row.set {w : World} {g : Nat} {t : TypeId} {cs : Array Value} (h : Row w g t cs) (i : Nat) (u : Value) : Row (w.setCell ⟨g, i, none⟩ u) g t (cs.setIfInBounds i u) := by
  unfold Row at h ⊢
  simp [World.setCell, Array.getElem?_modify, h]
theorem Row.far {w : World} {g : Nat} {t : TypeId} {cs : Array Value} (h : Row w g t cs) {p : Addr} (hp : g ≠ p.block) (u : Value) : Row (w.setCell p u) g t cs :=
  (Below.heap_setCell w p u g hp).trans h

/-- where a slice stands behind its first k elements: one that has no room left keeps its place -/
def cutA (A : Option Addr) (c k : Nat) : Option Addr := if c = k then A else A.map (·.add k)

theorem bytes_nil (k : Int) (w : World) : Calls Try.prog 24 #[.pointer none, .int .i64 k] w fun e w' => e = .returned (.slice none 0 0) ∧ w = w' := by
  go_enter Try.func24, Try.ntmps24
  go_wp2_with fail
  refine (bad_nil _).mono ?_
  rintro e w' ⟨rfl, rfl⟩
  go_wp2_with fail
  go_ret
  exact ⟨rfl, rfl⟩

theorem bytes_bad (g : Nat) (x : Value) (k : Int) (w : World) (h : Row w g 48 #[x, .bool false]) : Calls Try.prog 24 #[.pointer (some ⟨g, 0, none⟩), .int .i64 k] w fun e w' => e = .returned (.slice none 0 0) ∧ w = w' := by
  go_enter Try.func24, Try.ntmps24
  go_wp2_with fail
  refine (bad_at g _ _ _ h).mono ?_
  rintro e w' ⟨rfl, rfl⟩
  go_wp2_with fail
  go_ret
  exact ⟨rfl, rfl⟩

theorem bytes_over (g n c : Nat) (A : Option Addr) (k : Int) (w : World) (h : Row w g 48 #[.slice A n c, .bool true]) (hk : k < 0 ∨ (n : Int) < k) :
    Calls Try.prog 24 #[.pointer (some ⟨g, 0, none⟩), .int .i64 k] w fun e w' => e = .returned (.slice none 0 0) ∧ (w.setCell ⟨g, 0, none⟩ (.slice none 0 0)).setCell ⟨g, 1, none⟩ (.bool false) = w' := by
  have h0 : w.cell? ⟨g, 0, none⟩ = some (.slice A n c) := h.cell 0
  rcases hk with hk | hk
  · go_enter Try.func24, Try.ntmps24
    go_wp2_with fail
    refine (bad_at g _ _ _ h).mono ?_
    rintro e w' ⟨rfl, rfl⟩
    go_wp2_with fail
    refine (spoil_at g _ _ _ h).mono ?_
    rintro e w' ⟨rfl, rfl⟩
    go_wp2_with fail
    go_ret
    exact ⟨rfl, rfl⟩
  · have hk0 : ¬ k < 0 := by omega
    go_enter Try.func24, Try.ntmps24
    go_wp2_with fail
    refine (bad_at g _ _ _ h).mono ?_
    rintro e w' ⟨rfl, rfl⟩
    go_wp2_with fail
    refine (spoil_at g _ _ _ h).mono ?_
    rintro e w' ⟨rfl, rfl⟩
    go_wp2_with fail
    go_ret
    exact ⟨rfl, rfl⟩

theorem bytes_in (g n c k : Nat) (A : Option Addr) (w : World) (h : Row w g 48 #[.slice A n c, .bool true]) (hk : k ≤ n) (hc : n ≤ c) :
    Calls Try.prog 24 #[.pointer (some ⟨g, 0, none⟩), .int .i64 k] w fun e w' => e = .returned (.slice A k k) ∧ w.setCell ⟨g, 0, none⟩ (.slice (cutA A c k) (n - k) (c - k)) = w' := by
  have h0 : w.cell? ⟨g, 0, none⟩ = some (.slice A n c) := h.cell 0
  have f0 := h.frozen 0
  go_enter Try.func24, Try.ntmps24
  go_wp2_with fail
  refine (bad_at g _ _ _ h).mono ?_
  rintro e w' ⟨rfl, rfl⟩
  go_wp2_with fail
  all_goals go_ret
  all_goals (refine ⟨rfl, ?_⟩; simp [cutA, *])

theorem rest_nil (w : World) : Calls Try.prog 17 #[.pointer none] w fun e w' => e = .returned (.slice none 0 0) ∧ w = w' := by
  go_enter Try.func17, Try.ntmps17
  go_wp2_with fail
  refine (left_nil _).mono ?_
  rintro e w' ⟨rfl, rfl⟩
  go_wp2_with fail
  refine (bytes_nil _ _).mono ?_
  rintro e w' ⟨rfl, rfl⟩
  go_wp2_with fail
  go_ret
  exact ⟨rfl, rfl⟩

theorem rest_bad (g n c : Nat) (A : Option Addr) (w : World) (h : Row w g 48 #[.slice A n c, .bool false]) :
    Calls Try.prog 17 #[.pointer (some ⟨g, 0, none⟩)] w fun e w' => e = .returned (.slice none 0 0) ∧ w = w' := by
  go_enter Try.func17, Try.ntmps17
  go_wp2_with fail
  refine (left_at g _ _ _ _ _ h).mono ?_
  rintro e w' ⟨rfl, rfl⟩
  go_wp2_with fail
  refine (bytes_bad g _ _ _ h).mono ?_
  rintro e w' ⟨rfl, rfl⟩
  go_wp2_with fail
  go_ret
  exact ⟨rfl, rfl⟩

theorem rest_at (g n c : Nat) (A : Option Addr) (w : World) (h : Row w g 48 #[.slice A n c, .bool true]) (hc : n ≤ c) :
    Calls Try.prog 17 #[.pointer (some ⟨g, 0, none⟩)] w fun e w' => e = .returned (.slice A n n) ∧ w.setCell ⟨g, 0, none⟩ (.slice (cutA A c n) (n - n) (c - n)) = w' := by
  go_enter Try.func17, Try.ntmps17
  go_wp2_with fail
  refine (left_at g _ _ _ _ _ h).mono ?_
  rintro e w' ⟨rfl, rfl⟩
  go_wp2_with fail
  refine (bytes_in g n c n A _ h (Nat.le_refl _) hc).mono ?_
  rintro e w' ⟨rfl, rfl⟩
  go_wp2_with fail
  go_ret
  simp

end Go.Proofs.Ytddmjenhpbbocaa
