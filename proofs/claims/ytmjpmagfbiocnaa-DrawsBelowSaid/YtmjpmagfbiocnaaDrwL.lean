/-
  The chapter's examples come out as they say.
  Conditions: none.
-/
import Derived.Test.YtmjpmagfbiocnaaDrwF
namespace Go.Proofs.Ytmjpmagfbiocnaa.W32
open Go.RowKit

/-- a list of words that was made just now -/
theorem lit_new {w : World} {g : Nat} {q zs : List Int} {cs : Array Value} (h : Wd w g q) (hz : cs.toList = bv zs) : Wd (w.alloc (.cells cs 31)) g q ∧ Rd (w.alloc (.cells cs 31)) (some ⟨w.heap.size, 0, none⟩) zs ∧ Off (some ⟨w.heap.size, 0, none⟩) g := by
  refine ⟨h.keep (below_new _ _), rd_lit (row_new rfl) hz, fun a e => ?_⟩
  injection e with e
  subst e
  exact Nat.ne_of_gt h.lt
theorem below_lit {B : Nat} {a w : World} (h : Below B a w) (hB : B ≤ a.heap.size) (o : Obj) : Below B a (w.alloc o) := h.alloc (Nat.le_trans hB h.size) o

theorem next_cons {w : World} {g : Nat} {x : Int} {q : List Int} (h : Wd w g (x :: q)) : Calls Try.prog 14 #[.pointer (some ⟨g, 0, none⟩)] w
    fun e w' => e = .returned (.int .u32 x) ∧ Wd w' g q ∧ w.grownBy w' (some g) := next_any h
theorem below_eq {w : World} {g : Nat} {x n X : Int} {q : List Int} (hX : low x n = X) (hn : 0 ≤ n ∧ n ≤ 4294967295) (h : Wd w g (x :: q)) : Calls Try.prog 16 #[.pointer (some ⟨g, 0, none⟩), .int .u32 n] w
    fun e w' => e = .returned (.int .u32 X) ∧ Wd w' g q ∧ w.grownBy w' (some g) := by
  subst hX
  exact below_any n hn h

theorem len_eq {w : World} {g L : Nat} {q : List Int} (h : Wd w g q) (hq : q.length = L) : Calls Try.prog 18 #[.pointer (some ⟨g, 0, none⟩)] w fun e w' => e = .returned (.int .i64 L) ∧ w = w' := by
  subst hq
  exact len_any h

set_option maxHeartbeats 1000000 in
theorem lives_true (w : World) : Calls Try.prog 8 #[] w fun e w' => e = .returned (.bool true) ∧ Below w.heap.size w w' := by
  have Y : Hid (Byt [5, 2147483648, 4294967295]) := by unfold Byt; show ∀ z ∈ _, _; simp
  go_enter Try.func8, Try.ntmps8
  go_wp2_with fail
  have W0 := veil (wd_new w)
  have B0 := veil (below_new w (.cells (fresh true) 43))
  have Z0 : Hid ((w.alloc (.cells (fresh true) 43)).heap.size = w.heap.size + 1) := by show _ = _; simp
  refine (new_any w).mono ?_
  rintro e w0 ⟨rfl, h0⟩
  rw [h0] at W0 B0 Z0
  clear h0
  go_wp2_with fail
  have W1 := veil (lit_new (zs := [5, 2147483648, 4294967295]) (cs := #[.int .u32 5, .int .u32 2147483648, .int .u32 4294967295]) W0.out rfl)
  have B1 := veil (below_lit B0.out (Nat.le_refl _) (.cells #[.int .u32 5, .int .u32 2147483648, .int .u32 4294967295] 31))
  clear W0 B0
  generalize w0.alloc (.cells #[.int .u32 5, .int .u32 2147483648, .int .u32 4294967295] 31) = w1 at *
  refine (feed_any _ 3 3 W1.out.1 W1.out.2.1 (fun _ => W1.out.2.2) Y.out rfl (by omega)).mono ?_
  rintro e w2 ⟨rfl, h2, g2⟩
  have W2 := veil h2
  have B2 := veil (below_gb B1.out g2 B1.out.size (Nat.le_refl _))
  clear h2 g2 W1 B1
  go_wp2_with fail
  refine (len_any W2.out).mono ?_
  rintro e w9 ⟨rfl, rfl⟩
  go_wp2_with fail
  refine (next_any W2.out).mono ?_
  rintro e w3 ⟨rfl, h3, g3⟩
  have W3 := veil h3
  have B3 := veil (below_gb B2.out g3 B2.out.size (Nat.le_refl _))
  clear h3 g3 W2 B2
  go_wp2_with fail
  refine (below_any 10 (by omega) W3.out).mono ?_
  rintro e w4 ⟨rfl, h4, g4⟩
  have W4 := veil h4
  have B4 := veil (below_gb B3.out g4 B3.out.size (Nat.le_refl _))
  clear h4 g4 W3 B3
  go_wp2_with fail
  refine (below_any 10 (by omega) W4.out).mono ?_
  rintro e w5 ⟨rfl, h5, g5⟩
  have W5 := veil h5
  have B5 := veil (below_gb B4.out g5 B4.out.size (Nat.le_refl _))
  clear h5 g5 W4 B4
  go_wp2_with fail
  refine (next_any W5.out).mono ?_
  rintro e w6 ⟨rfl, h6, g6⟩
  have W6 := veil h6
  have B6 := veil (below_gb B5.out g6 B5.out.size (Nat.le_refl _))
  clear h6 g6 W5 B5
  go_wp2_with fail
  refine (below_any 10 (by omega) W6.out).mono ?_
  rintro e w7 ⟨rfl, h7, g7⟩
  have W7 := veil h7
  have B7 := veil (below_gb B6.out g7 B6.out.size (Nat.le_refl _))
  clear h7 g7 W6 B6
  go_wp2_with fail
  refine (len_any W7.out).mono ?_
  rintro e w9 ⟨rfl, rfl⟩
  go_wp2_with fail
  go_ret
  exact ⟨rfl, B7.out⟩

end Go.Proofs.Ytmjpmagfbiocnaa.W32
