/-
  DrawsBelow: a number below n is below n, of a greater word no less, and of powers of 2 the highest bits: the law returns true for every input, and its arguments read as before.
  Conditions: none.
-/
import Derived.Test.YtmjpmagfbiocnaaDrwL
import Derived.Test.YtmjpmagfbiocnaaOpenG
namespace Go.Proofs.Ytmjpmagfbiocnaa.drawsBelow
open Go.ChangeShapes Go.WideShapes Go.ChangeAt Go.RowKit Go.Proofs.Ytmjpmagfbiocnaa.W32

theorem low_nil (x : Int) : low x 0 = 0 := by simp [low]
theorem low_ge {x n : Int} (hx : 0 ≤ x) (hn : 0 ≤ n) : 0 ≤ low x n := Int.ediv_nonneg (Int.mul_nonneg hx hn) (by omega)
theorem low_lt {x n : Int} (hx : x ≤ 4294967295) (hn : 0 < n) : low x n < n := by
  unfold low
  apply Int.ediv_lt_of_lt_mul (by omega)
  have : x * n ≤ 4294967295 * n := Int.mul_le_mul_of_nonneg_right hx (by omega)
  omega
theorem low_mono {x y n : Int} (h : x ≤ y) (hn : 0 ≤ n) : low x n ≤ low y n := by
  unfold low
  exact Int.ediv_le_ediv (by omega) (Int.mul_le_mul_of_nonneg_right h hn)
theorem low_pow (x : Int) (k : Nat) (h : k < 32) : low x (2 ^ k) = x / 2 ^ (32 - k) := by
  unfold low
  have e : (4294967296 : Int) = 2 ^ (32 - k) * 2 ^ k := by rw [← Int.pow_add, show 32 - k + k = 32 by omega]; rfl
  rw [e, Int.mul_ediv_mul_of_pos_left _ _ (Int.pow_pos (by omega))]

set_option maxHeartbeats 1000000 in
theorem walk_lt0 (a b y : Int) (w : World) (ha : 0 ≤ a ∧ a ≤ 4294967295) (hb : 0 ≤ b ∧ b ≤ 4294967295) (hy : 0 ≤ y ∧ y ≤ 4294967295) (hlt : a < b) :
    Calls Try.prog 6 #[.int .u32 a, .int .u32 b, .agg #[.int .u32 0, .int .u32 y]] w fun e w' => e = .returned (.bool true) ∧ Below w.heap.size w w' := by
  obtain ⟨k, hk⟩ : ∃ k : Nat, y % 32 = k := ⟨(y % 32).toNat, by omega⟩
  have hk1 : k < 32 := by omega
  have hw0 := veil (below_new w (.cells #[.int .u32 0, .int .u32 y] 46))
  have hw1 : Hid ((w.alloc (.cells #[.int .u32 0, .int .u32 y] 46)).heap.size = w.heap.size + 1) := by show _ = _; simp
  have hy0 := hy.1
  have HN := veil ((by omega : (0 : Int) ≤ 0 ∧ (0 : Int) ≤ 4294967295))
  have Y : Hid (Byt [a, b, a, a]) := by unfold Byt; show ∀ z ∈ _, _; simp [ha, hb]
  obtain ⟨X1, E1⟩ : ∃ X, Hid (low a 0 = X) := ⟨_, rfl⟩
  obtain ⟨X2, E2⟩ : ∃ X, Hid (low b 0 = X) := ⟨_, rfl⟩
  have x1 : X1 = 0 := by rw [← E1.out]; exact low_nil _
  have x2 : X2 = 0 := by rw [← E2.out]; exact low_nil _
  have EP : Hid (low a (2 ^ k % 4294967296) = a / 2 ^ (32 - k)) := by
    show _ = _
    rw [Int.emod_eq_of_lt (Int.le_of_lt (Int.pow_pos (by omega))) (by
      have : (2 : Int) ^ k < 2 ^ 32 := Int.pow_lt_pow_of_lt (by omega) hk1
      omega)]
    exact low_pow a k hk1
  have ha0 := ha.1
  clear ha hb hy
  go_enter Try.func6, Try.ntmps6
  go_wp2_with fail
  generalize w.alloc (.cells #[.int .u32 0, .int .u32 y] 46) = wb at *
  have W0 := veil (wd_new wb)
  have B0 := veil (below_lit hw0.out (Nat.le_refl _) (.cells (fresh true) 43))
  refine (new_any wb).mono ?_
  rintro e w0 ⟨rfl, h0⟩
  rw [h0] at W0 B0
  have HG : Hid (w.heap.size ≤ wb.heap.size) := veil hw0.out.size
  generalize wb.heap.size = g at *
  clear h0 hw0 hw1
  go_wp2_with fail
  have W1 := veil (lit_new (zs := [a, b, a, a]) (cs := #[.int .u32 a, .int .u32 b, .int .u32 a, .int .u32 a]) W0.out rfl)
  have B1 := veil (below_lit B0.out (Nat.le_refl _) (.cells #[.int .u32 a, .int .u32 b, .int .u32 a, .int .u32 a] 31))
  clear W0 B0
  generalize w0.alloc (.cells #[.int .u32 a, .int .u32 b, .int .u32 a, .int .u32 a] 31) = w1 at *
  refine (feed_any _ 4 4 W1.out.1 W1.out.2.1 (fun _ => W1.out.2.2) Y.out rfl (by omega)).mono ?_
  rintro e w2 ⟨rfl, h2, g2⟩
  have W2 : Hid (Wd w2 g [a, b, a, a]) := veil h2
  have B2 := veil (below_gb B1.out g2 B1.out.size HG.out)
  clear h2 g2 W1 B1
  go_wp2_with fail
  refine (below_eq E1.out HN.out W2.out).mono ?_
  rintro e w3 ⟨rfl, h3, g3⟩
  have W3 : Hid (Wd w3 g [b, a, a]) := veil h3
  have B3 := veil (below_gb B2.out g3 B2.out.size HG.out)
  clear h3 g3 W2 B2
  go_wp2_with fail
  refine (below_eq E2.out HN.out W3.out).mono ?_
  rintro e w4 ⟨rfl, h4, g4⟩
  have W4 : Hid (Wd w4 g [a, a]) := veil h4
  have B4 := veil (below_gb B3.out g4 B3.out.size HG.out)
  clear h4 g4 W3 B3
  go_wp2_with fail
  refine (below_eq EP.out (by omega) W4.out).mono ?_
  rintro e w5 ⟨rfl, h5, g5⟩
  have W5 : Hid (Wd w5 g [a]) := veil h5
  have B5 := veil (below_gb B4.out g5 B4.out.size HG.out)
  clear h5 g5 W4 B4
  go_wp2_with fail
  refine (len_any W5.out).mono ?_
  rintro e w9 ⟨rfl, rfl⟩
  go_wp2_with fail
  refine (below_eq (low_nil a) (by omega) W5.out).mono ?_
  rintro e w6 ⟨rfl, h6, g6⟩
  have W6 : Hid (Wd w6 g []) := veil h6
  have B6 := veil (below_gb B5.out g6 B5.out.size HG.out)
  clear h6 g6 W5 B5
  go_wp2_with fail
  refine (len_any W6.out).mono ?_
  rintro e w9 ⟨rfl, rfl⟩
  go_wp2_with fail
  refine (lives_true _).mono ?_
  rintro e w9 ⟨rfl, q9⟩
  have b9 := B6.out.trans (q9.mono B6.out.size)
  go_wp2_with fail
  go_ret
  exact ⟨rfl, b9⟩

set_option maxHeartbeats 1000000 in
theorem walk_gt0 (a b y : Int) (w : World) (ha : 0 ≤ a ∧ a ≤ 4294967295) (hb : 0 ≤ b ∧ b ≤ 4294967295) (hy : 0 ≤ y ∧ y ≤ 4294967295) (hlt : b < a) :
    Calls Try.prog 6 #[.int .u32 a, .int .u32 b, .agg #[.int .u32 0, .int .u32 y]] w fun e w' => e = .returned (.bool true) ∧ Below w.heap.size w w' := by
  obtain ⟨k, hk⟩ : ∃ k : Nat, y % 32 = k := ⟨(y % 32).toNat, by omega⟩
  have hk1 : k < 32 := by omega
  have hw0 := veil (below_new w (.cells #[.int .u32 0, .int .u32 y] 46))
  have hw1 : Hid ((w.alloc (.cells #[.int .u32 0, .int .u32 y] 46)).heap.size = w.heap.size + 1) := by show _ = _; simp
  have hy0 := hy.1
  have HN := veil ((by omega : (0 : Int) ≤ 0 ∧ (0 : Int) ≤ 4294967295))
  have Y : Hid (Byt [b, a, a, a]) := by unfold Byt; show ∀ z ∈ _, _; simp [ha, hb]
  obtain ⟨X1, E1⟩ : ∃ X, Hid (low b 0 = X) := ⟨_, rfl⟩
  obtain ⟨X2, E2⟩ : ∃ X, Hid (low a 0 = X) := ⟨_, rfl⟩
  have x1 : X1 = 0 := by rw [← E1.out]; exact low_nil _
  have x2 : X2 = 0 := by rw [← E2.out]; exact low_nil _
  have EP : Hid (low a (2 ^ k % 4294967296) = a / 2 ^ (32 - k)) := by
    show _ = _
    rw [Int.emod_eq_of_lt (Int.le_of_lt (Int.pow_pos (by omega))) (by
      have : (2 : Int) ^ k < 2 ^ 32 := Int.pow_lt_pow_of_lt (by omega) hk1
      omega)]
    exact low_pow a k hk1
  have ha0 := ha.1
  clear ha hb hy
  go_enter Try.func6, Try.ntmps6
  go_wp2_with fail
  generalize w.alloc (.cells #[.int .u32 0, .int .u32 y] 46) = wb at *
  have W0 := veil (wd_new wb)
  have B0 := veil (below_lit hw0.out (Nat.le_refl _) (.cells (fresh true) 43))
  refine (new_any wb).mono ?_
  rintro e w0 ⟨rfl, h0⟩
  rw [h0] at W0 B0
  have HG : Hid (w.heap.size ≤ wb.heap.size) := veil hw0.out.size
  generalize wb.heap.size = g at *
  clear h0 hw0 hw1
  go_wp2_with fail
  have W1 := veil (lit_new (zs := [b, a, a, a]) (cs := #[.int .u32 b, .int .u32 a, .int .u32 a, .int .u32 a]) W0.out rfl)
  have B1 := veil (below_lit B0.out (Nat.le_refl _) (.cells #[.int .u32 b, .int .u32 a, .int .u32 a, .int .u32 a] 31))
  clear W0 B0
  generalize w0.alloc (.cells #[.int .u32 b, .int .u32 a, .int .u32 a, .int .u32 a] 31) = w1 at *
  refine (feed_any _ 4 4 W1.out.1 W1.out.2.1 (fun _ => W1.out.2.2) Y.out rfl (by omega)).mono ?_
  rintro e w2 ⟨rfl, h2, g2⟩
  have W2 : Hid (Wd w2 g [b, a, a, a]) := veil h2
  have B2 := veil (below_gb B1.out g2 B1.out.size HG.out)
  clear h2 g2 W1 B1
  go_wp2_with fail
  refine (below_eq E1.out HN.out W2.out).mono ?_
  rintro e w3 ⟨rfl, h3, g3⟩
  have W3 : Hid (Wd w3 g [a, a, a]) := veil h3
  have B3 := veil (below_gb B2.out g3 B2.out.size HG.out)
  clear h3 g3 W2 B2
  go_wp2_with fail
  refine (below_eq E2.out HN.out W3.out).mono ?_
  rintro e w4 ⟨rfl, h4, g4⟩
  have W4 : Hid (Wd w4 g [a, a]) := veil h4
  have B4 := veil (below_gb B3.out g4 B3.out.size HG.out)
  clear h4 g4 W3 B3
  go_wp2_with fail
  refine (below_eq EP.out (by omega) W4.out).mono ?_
  rintro e w5 ⟨rfl, h5, g5⟩
  have W5 : Hid (Wd w5 g [a]) := veil h5
  have B5 := veil (below_gb B4.out g5 B4.out.size HG.out)
  clear h5 g5 W4 B4
  go_wp2_with fail
  refine (len_any W5.out).mono ?_
  rintro e w9 ⟨rfl, rfl⟩
  go_wp2_with fail
  refine (below_eq (low_nil a) (by omega) W5.out).mono ?_
  rintro e w6 ⟨rfl, h6, g6⟩
  have W6 : Hid (Wd w6 g []) := veil h6
  have B6 := veil (below_gb B5.out g6 B5.out.size HG.out)
  clear h6 g6 W5 B5
  go_wp2_with fail
  refine (len_any W6.out).mono ?_
  rintro e w9 ⟨rfl, rfl⟩
  go_wp2_with fail
  refine (lives_true _).mono ?_
  rintro e w9 ⟨rfl, q9⟩
  have b9 := B6.out.trans (q9.mono B6.out.size)
  go_wp2_with fail
  go_ret
  exact ⟨rfl, b9⟩

set_option maxHeartbeats 1000000 in
theorem walk_eq0 (a y : Int) (w : World) (ha : 0 ≤ a ∧ a ≤ 4294967295) (hy : 0 ≤ y ∧ y ≤ 4294967295) :
    Calls Try.prog 6 #[.int .u32 a, .int .u32 a, .agg #[.int .u32 0, .int .u32 y]] w fun e w' => e = .returned (.bool true) ∧ Below w.heap.size w w' := by
  obtain ⟨k, hk⟩ : ∃ k : Nat, y % 32 = k := ⟨(y % 32).toNat, by omega⟩
  have hk1 : k < 32 := by omega
  have hw0 := veil (below_new w (.cells #[.int .u32 0, .int .u32 y] 46))
  have hw1 : Hid ((w.alloc (.cells #[.int .u32 0, .int .u32 y] 46)).heap.size = w.heap.size + 1) := by show _ = _; simp
  have hy0 := hy.1
  have HN := veil ((by omega : (0 : Int) ≤ 0 ∧ (0 : Int) ≤ 4294967295))
  have Y : Hid (Byt [a, a, a, a]) := by unfold Byt; show ∀ z ∈ _, _; simp [ha]
  obtain ⟨X1, E1⟩ : ∃ X, Hid (low a 0 = X) := ⟨_, rfl⟩
  obtain ⟨X2, E2⟩ : ∃ X, Hid (low a 0 = X) := ⟨_, rfl⟩
  have x1 : X1 = 0 := by rw [← E1.out]; exact low_nil _
  have x2 : X2 = 0 := by rw [← E2.out]; exact low_nil _
  have EP : Hid (low a (2 ^ k % 4294967296) = a / 2 ^ (32 - k)) := by
    show _ = _
    rw [Int.emod_eq_of_lt (Int.le_of_lt (Int.pow_pos (by omega))) (by
      have : (2 : Int) ^ k < 2 ^ 32 := Int.pow_lt_pow_of_lt (by omega) hk1
      omega)]
    exact low_pow a k hk1
  have ha0 := ha.1
  clear ha hy
  go_enter Try.func6, Try.ntmps6
  go_wp2_with fail
  generalize w.alloc (.cells #[.int .u32 0, .int .u32 y] 46) = wb at *
  have W0 := veil (wd_new wb)
  have B0 := veil (below_lit hw0.out (Nat.le_refl _) (.cells (fresh true) 43))
  refine (new_any wb).mono ?_
  rintro e w0 ⟨rfl, h0⟩
  rw [h0] at W0 B0
  have HG : Hid (w.heap.size ≤ wb.heap.size) := veil hw0.out.size
  generalize wb.heap.size = g at *
  clear h0 hw0 hw1
  go_wp2_with fail
  have W1 := veil (lit_new (zs := [a, a, a, a]) (cs := #[.int .u32 a, .int .u32 a, .int .u32 a, .int .u32 a]) W0.out rfl)
  have B1 := veil (below_lit B0.out (Nat.le_refl _) (.cells #[.int .u32 a, .int .u32 a, .int .u32 a, .int .u32 a] 31))
  clear W0 B0
  generalize w0.alloc (.cells #[.int .u32 a, .int .u32 a, .int .u32 a, .int .u32 a] 31) = w1 at *
  refine (feed_any _ 4 4 W1.out.1 W1.out.2.1 (fun _ => W1.out.2.2) Y.out rfl (by omega)).mono ?_
  rintro e w2 ⟨rfl, h2, g2⟩
  have W2 : Hid (Wd w2 g [a, a, a, a]) := veil h2
  have B2 := veil (below_gb B1.out g2 B1.out.size HG.out)
  clear h2 g2 W1 B1
  go_wp2_with fail
  refine (below_eq E1.out HN.out W2.out).mono ?_
  rintro e w3 ⟨rfl, h3, g3⟩
  have W3 : Hid (Wd w3 g [a, a, a]) := veil h3
  have B3 := veil (below_gb B2.out g3 B2.out.size HG.out)
  clear h3 g3 W2 B2
  go_wp2_with fail
  refine (below_eq E2.out HN.out W3.out).mono ?_
  rintro e w4 ⟨rfl, h4, g4⟩
  have W4 : Hid (Wd w4 g [a, a]) := veil h4
  have B4 := veil (below_gb B3.out g4 B3.out.size HG.out)
  clear h4 g4 W3 B3
  go_wp2_with fail
  refine (below_eq EP.out (by omega) W4.out).mono ?_
  rintro e w5 ⟨rfl, h5, g5⟩
  have W5 : Hid (Wd w5 g [a]) := veil h5
  have B5 := veil (below_gb B4.out g5 B4.out.size HG.out)
  clear h5 g5 W4 B4
  go_wp2_with fail
  refine (len_any W5.out).mono ?_
  rintro e w9 ⟨rfl, rfl⟩
  go_wp2_with fail
  refine (below_eq (low_nil a) (by omega) W5.out).mono ?_
  rintro e w6 ⟨rfl, h6, g6⟩
  have W6 : Hid (Wd w6 g []) := veil h6
  have B6 := veil (below_gb B5.out g6 B5.out.size HG.out)
  clear h6 g6 W5 B5
  go_wp2_with fail
  refine (len_any W6.out).mono ?_
  rintro e w9 ⟨rfl, rfl⟩
  go_wp2_with fail
  refine (lives_true _).mono ?_
  rintro e w9 ⟨rfl, q9⟩
  have b9 := B6.out.trans (q9.mono B6.out.size)
  go_wp2_with fail
  go_ret
  exact ⟨rfl, b9⟩

set_option maxHeartbeats 1000000 in
theorem walk_lt1 (a b n y : Int) (w : World) (ha : 0 ≤ a ∧ a ≤ 4294967295) (hb : 0 ≤ b ∧ b ≤ 4294967295) (hn : 0 ≤ n ∧ n ≤ 4294967295) (hy : 0 ≤ y ∧ y ≤ 4294967295) (hlt : a < b) (hz : 0 < n) :
    Calls Try.prog 6 #[.int .u32 a, .int .u32 b, .agg #[.int .u32 n, .int .u32 y]] w fun e w' => e = .returned (.bool true) ∧ Below w.heap.size w w' := by
  obtain ⟨k, hk⟩ : ∃ k : Nat, y % 32 = k := ⟨(y % 32).toNat, by omega⟩
  have hk1 : k < 32 := by omega
  have hw0 := veil (below_new w (.cells #[.int .u32 n, .int .u32 y] 46))
  have hw1 : Hid ((w.alloc (.cells #[.int .u32 n, .int .u32 y] 46)).heap.size = w.heap.size + 1) := by show _ = _; simp
  have hy0 := hy.1
  have hn0 := hn.1
  have hn1 := hn.2
  have HN := veil (hn)
  have Y : Hid (Byt [a, b, a, a]) := by unfold Byt; show ∀ z ∈ _, _; simp [ha, hb]
  obtain ⟨X1, E1⟩ : ∃ X, Hid (low a n = X) := ⟨_, rfl⟩
  obtain ⟨X2, E2⟩ : ∃ X, Hid (low b n = X) := ⟨_, rfl⟩
  have x1 : X1 < n := by rw [← E1.out]; exact low_lt (by omega) hz
  have x2 : X2 < n := by rw [← E2.out]; exact low_lt (by omega) hz
  have x3 : X1 ≤ X2 := by rw [← E1.out, ← E2.out]; exact low_mono (by omega) hn.1
  have x4 : 0 ≤ X1 := by rw [← E1.out]; exact low_ge (by omega) hn.1
  have EP : Hid (low a (2 ^ k % 4294967296) = a / 2 ^ (32 - k)) := by
    show _ = _
    rw [Int.emod_eq_of_lt (Int.le_of_lt (Int.pow_pos (by omega))) (by
      have : (2 : Int) ^ k < 2 ^ 32 := Int.pow_lt_pow_of_lt (by omega) hk1
      omega)]
    exact low_pow a k hk1
  have ha0 := ha.1
  clear ha hb hn hy
  go_enter Try.func6, Try.ntmps6
  go_wp2_with fail
  generalize w.alloc (.cells #[.int .u32 n, .int .u32 y] 46) = wb at *
  have W0 := veil (wd_new wb)
  have B0 := veil (below_lit hw0.out (Nat.le_refl _) (.cells (fresh true) 43))
  refine (new_any wb).mono ?_
  rintro e w0 ⟨rfl, h0⟩
  rw [h0] at W0 B0
  have HG : Hid (w.heap.size ≤ wb.heap.size) := veil hw0.out.size
  generalize wb.heap.size = g at *
  clear h0 hw0 hw1
  go_wp2_with fail
  have W1 := veil (lit_new (zs := [a, b, a, a]) (cs := #[.int .u32 a, .int .u32 b, .int .u32 a, .int .u32 a]) W0.out rfl)
  have B1 := veil (below_lit B0.out (Nat.le_refl _) (.cells #[.int .u32 a, .int .u32 b, .int .u32 a, .int .u32 a] 31))
  clear W0 B0
  generalize w0.alloc (.cells #[.int .u32 a, .int .u32 b, .int .u32 a, .int .u32 a] 31) = w1 at *
  refine (feed_any _ 4 4 W1.out.1 W1.out.2.1 (fun _ => W1.out.2.2) Y.out rfl (by omega)).mono ?_
  rintro e w2 ⟨rfl, h2, g2⟩
  have W2 : Hid (Wd w2 g [a, b, a, a]) := veil h2
  have B2 := veil (below_gb B1.out g2 B1.out.size HG.out)
  clear h2 g2 W1 B1
  go_wp2_with fail
  refine (below_eq E1.out HN.out W2.out).mono ?_
  rintro e w3 ⟨rfl, h3, g3⟩
  have W3 : Hid (Wd w3 g [b, a, a]) := veil h3
  have B3 := veil (below_gb B2.out g3 B2.out.size HG.out)
  clear h3 g3 W2 B2
  go_wp2_with fail
  refine (below_eq E2.out HN.out W3.out).mono ?_
  rintro e w4 ⟨rfl, h4, g4⟩
  have W4 : Hid (Wd w4 g [a, a]) := veil h4
  have B4 := veil (below_gb B3.out g4 B3.out.size HG.out)
  clear h4 g4 W3 B3
  go_wp2_with fail
  refine (below_eq EP.out (by omega) W4.out).mono ?_
  rintro e w5 ⟨rfl, h5, g5⟩
  have W5 : Hid (Wd w5 g [a]) := veil h5
  have B5 := veil (below_gb B4.out g5 B4.out.size HG.out)
  clear h5 g5 W4 B4
  go_wp2_with fail
  refine (len_any W5.out).mono ?_
  rintro e w9 ⟨rfl, rfl⟩
  go_wp2_with fail
  refine (below_eq (low_nil a) (by omega) W5.out).mono ?_
  rintro e w6 ⟨rfl, h6, g6⟩
  have W6 : Hid (Wd w6 g []) := veil h6
  have B6 := veil (below_gb B5.out g6 B5.out.size HG.out)
  clear h6 g6 W5 B5
  go_wp2_with fail
  refine (len_any W6.out).mono ?_
  rintro e w9 ⟨rfl, rfl⟩
  go_wp2_with fail
  refine (lives_true _).mono ?_
  rintro e w9 ⟨rfl, q9⟩
  have b9 := B6.out.trans (q9.mono B6.out.size)
  go_wp2_with fail
  go_ret
  exact ⟨rfl, b9⟩

set_option maxHeartbeats 1000000 in
theorem walk_gt1 (a b n y : Int) (w : World) (ha : 0 ≤ a ∧ a ≤ 4294967295) (hb : 0 ≤ b ∧ b ≤ 4294967295) (hn : 0 ≤ n ∧ n ≤ 4294967295) (hy : 0 ≤ y ∧ y ≤ 4294967295) (hlt : b < a) (hz : 0 < n) :
    Calls Try.prog 6 #[.int .u32 a, .int .u32 b, .agg #[.int .u32 n, .int .u32 y]] w fun e w' => e = .returned (.bool true) ∧ Below w.heap.size w w' := by
  obtain ⟨k, hk⟩ : ∃ k : Nat, y % 32 = k := ⟨(y % 32).toNat, by omega⟩
  have hk1 : k < 32 := by omega
  have hw0 := veil (below_new w (.cells #[.int .u32 n, .int .u32 y] 46))
  have hw1 : Hid ((w.alloc (.cells #[.int .u32 n, .int .u32 y] 46)).heap.size = w.heap.size + 1) := by show _ = _; simp
  have hy0 := hy.1
  have hn0 := hn.1
  have hn1 := hn.2
  have HN := veil (hn)
  have Y : Hid (Byt [b, a, a, a]) := by unfold Byt; show ∀ z ∈ _, _; simp [ha, hb]
  obtain ⟨X1, E1⟩ : ∃ X, Hid (low b n = X) := ⟨_, rfl⟩
  obtain ⟨X2, E2⟩ : ∃ X, Hid (low a n = X) := ⟨_, rfl⟩
  have x1 : X1 < n := by rw [← E1.out]; exact low_lt (by omega) hz
  have x2 : X2 < n := by rw [← E2.out]; exact low_lt (by omega) hz
  have x3 : X1 ≤ X2 := by rw [← E1.out, ← E2.out]; exact low_mono (by omega) hn.1
  have x4 : 0 ≤ X1 := by rw [← E1.out]; exact low_ge (by omega) hn.1
  have EP : Hid (low a (2 ^ k % 4294967296) = a / 2 ^ (32 - k)) := by
    show _ = _
    rw [Int.emod_eq_of_lt (Int.le_of_lt (Int.pow_pos (by omega))) (by
      have : (2 : Int) ^ k < 2 ^ 32 := Int.pow_lt_pow_of_lt (by omega) hk1
      omega)]
    exact low_pow a k hk1
  have ha0 := ha.1
  clear ha hb hn hy
  go_enter Try.func6, Try.ntmps6
  go_wp2_with fail
  generalize w.alloc (.cells #[.int .u32 n, .int .u32 y] 46) = wb at *
  have W0 := veil (wd_new wb)
  have B0 := veil (below_lit hw0.out (Nat.le_refl _) (.cells (fresh true) 43))
  refine (new_any wb).mono ?_
  rintro e w0 ⟨rfl, h0⟩
  rw [h0] at W0 B0
  have HG : Hid (w.heap.size ≤ wb.heap.size) := veil hw0.out.size
  generalize wb.heap.size = g at *
  clear h0 hw0 hw1
  go_wp2_with fail
  have W1 := veil (lit_new (zs := [b, a, a, a]) (cs := #[.int .u32 b, .int .u32 a, .int .u32 a, .int .u32 a]) W0.out rfl)
  have B1 := veil (below_lit B0.out (Nat.le_refl _) (.cells #[.int .u32 b, .int .u32 a, .int .u32 a, .int .u32 a] 31))
  clear W0 B0
  generalize w0.alloc (.cells #[.int .u32 b, .int .u32 a, .int .u32 a, .int .u32 a] 31) = w1 at *
  refine (feed_any _ 4 4 W1.out.1 W1.out.2.1 (fun _ => W1.out.2.2) Y.out rfl (by omega)).mono ?_
  rintro e w2 ⟨rfl, h2, g2⟩
  have W2 : Hid (Wd w2 g [b, a, a, a]) := veil h2
  have B2 := veil (below_gb B1.out g2 B1.out.size HG.out)
  clear h2 g2 W1 B1
  go_wp2_with fail
  refine (below_eq E1.out HN.out W2.out).mono ?_
  rintro e w3 ⟨rfl, h3, g3⟩
  have W3 : Hid (Wd w3 g [a, a, a]) := veil h3
  have B3 := veil (below_gb B2.out g3 B2.out.size HG.out)
  clear h3 g3 W2 B2
  go_wp2_with fail
  refine (below_eq E2.out HN.out W3.out).mono ?_
  rintro e w4 ⟨rfl, h4, g4⟩
  have W4 : Hid (Wd w4 g [a, a]) := veil h4
  have B4 := veil (below_gb B3.out g4 B3.out.size HG.out)
  clear h4 g4 W3 B3
  go_wp2_with fail
  refine (below_eq EP.out (by omega) W4.out).mono ?_
  rintro e w5 ⟨rfl, h5, g5⟩
  have W5 : Hid (Wd w5 g [a]) := veil h5
  have B5 := veil (below_gb B4.out g5 B4.out.size HG.out)
  clear h5 g5 W4 B4
  go_wp2_with fail
  refine (len_any W5.out).mono ?_
  rintro e w9 ⟨rfl, rfl⟩
  go_wp2_with fail
  refine (below_eq (low_nil a) (by omega) W5.out).mono ?_
  rintro e w6 ⟨rfl, h6, g6⟩
  have W6 : Hid (Wd w6 g []) := veil h6
  have B6 := veil (below_gb B5.out g6 B5.out.size HG.out)
  clear h6 g6 W5 B5
  go_wp2_with fail
  refine (len_any W6.out).mono ?_
  rintro e w9 ⟨rfl, rfl⟩
  go_wp2_with fail
  refine (lives_true _).mono ?_
  rintro e w9 ⟨rfl, q9⟩
  have b9 := B6.out.trans (q9.mono B6.out.size)
  go_wp2_with fail
  go_ret
  exact ⟨rfl, b9⟩

set_option maxHeartbeats 1000000 in
theorem walk_eq1 (a n y : Int) (w : World) (ha : 0 ≤ a ∧ a ≤ 4294967295) (hn : 0 ≤ n ∧ n ≤ 4294967295) (hy : 0 ≤ y ∧ y ≤ 4294967295) (hz : 0 < n) :
    Calls Try.prog 6 #[.int .u32 a, .int .u32 a, .agg #[.int .u32 n, .int .u32 y]] w fun e w' => e = .returned (.bool true) ∧ Below w.heap.size w w' := by
  obtain ⟨k, hk⟩ : ∃ k : Nat, y % 32 = k := ⟨(y % 32).toNat, by omega⟩
  have hk1 : k < 32 := by omega
  have hw0 := veil (below_new w (.cells #[.int .u32 n, .int .u32 y] 46))
  have hw1 : Hid ((w.alloc (.cells #[.int .u32 n, .int .u32 y] 46)).heap.size = w.heap.size + 1) := by show _ = _; simp
  have hy0 := hy.1
  have hn0 := hn.1
  have hn1 := hn.2
  have HN := veil (hn)
  have Y : Hid (Byt [a, a, a, a]) := by unfold Byt; show ∀ z ∈ _, _; simp [ha]
  obtain ⟨X1, E1⟩ : ∃ X, Hid (low a n = X) := ⟨_, rfl⟩
  obtain ⟨X2, E2⟩ : ∃ X, Hid (low a n = X) := ⟨_, rfl⟩
  have x1 : X1 < n := by rw [← E1.out]; exact low_lt (by omega) hz
  have x2 : X2 < n := by rw [← E2.out]; exact low_lt (by omega) hz
  have x3 : X1 ≤ X2 := by rw [← E1.out, ← E2.out]; exact low_mono (by omega) hn.1
  have x4 : 0 ≤ X1 := by rw [← E1.out]; exact low_ge (by omega) hn.1
  have EP : Hid (low a (2 ^ k % 4294967296) = a / 2 ^ (32 - k)) := by
    show _ = _
    rw [Int.emod_eq_of_lt (Int.le_of_lt (Int.pow_pos (by omega))) (by
      have : (2 : Int) ^ k < 2 ^ 32 := Int.pow_lt_pow_of_lt (by omega) hk1
      omega)]
    exact low_pow a k hk1
  have ha0 := ha.1
  clear ha hn hy
  go_enter Try.func6, Try.ntmps6
  go_wp2_with fail
  generalize w.alloc (.cells #[.int .u32 n, .int .u32 y] 46) = wb at *
  have W0 := veil (wd_new wb)
  have B0 := veil (below_lit hw0.out (Nat.le_refl _) (.cells (fresh true) 43))
  refine (new_any wb).mono ?_
  rintro e w0 ⟨rfl, h0⟩
  rw [h0] at W0 B0
  have HG : Hid (w.heap.size ≤ wb.heap.size) := veil hw0.out.size
  generalize wb.heap.size = g at *
  clear h0 hw0 hw1
  go_wp2_with fail
  have W1 := veil (lit_new (zs := [a, a, a, a]) (cs := #[.int .u32 a, .int .u32 a, .int .u32 a, .int .u32 a]) W0.out rfl)
  have B1 := veil (below_lit B0.out (Nat.le_refl _) (.cells #[.int .u32 a, .int .u32 a, .int .u32 a, .int .u32 a] 31))
  clear W0 B0
  generalize w0.alloc (.cells #[.int .u32 a, .int .u32 a, .int .u32 a, .int .u32 a] 31) = w1 at *
  refine (feed_any _ 4 4 W1.out.1 W1.out.2.1 (fun _ => W1.out.2.2) Y.out rfl (by omega)).mono ?_
  rintro e w2 ⟨rfl, h2, g2⟩
  have W2 : Hid (Wd w2 g [a, a, a, a]) := veil h2
  have B2 := veil (below_gb B1.out g2 B1.out.size HG.out)
  clear h2 g2 W1 B1
  go_wp2_with fail
  refine (below_eq E1.out HN.out W2.out).mono ?_
  rintro e w3 ⟨rfl, h3, g3⟩
  have W3 : Hid (Wd w3 g [a, a, a]) := veil h3
  have B3 := veil (below_gb B2.out g3 B2.out.size HG.out)
  clear h3 g3 W2 B2
  go_wp2_with fail
  refine (below_eq E2.out HN.out W3.out).mono ?_
  rintro e w4 ⟨rfl, h4, g4⟩
  have W4 : Hid (Wd w4 g [a, a]) := veil h4
  have B4 := veil (below_gb B3.out g4 B3.out.size HG.out)
  clear h4 g4 W3 B3
  go_wp2_with fail
  refine (below_eq EP.out (by omega) W4.out).mono ?_
  rintro e w5 ⟨rfl, h5, g5⟩
  have W5 : Hid (Wd w5 g [a]) := veil h5
  have B5 := veil (below_gb B4.out g5 B4.out.size HG.out)
  clear h5 g5 W4 B4
  go_wp2_with fail
  refine (len_any W5.out).mono ?_
  rintro e w9 ⟨rfl, rfl⟩
  go_wp2_with fail
  refine (below_eq (low_nil a) (by omega) W5.out).mono ?_
  rintro e w6 ⟨rfl, h6, g6⟩
  have W6 : Hid (Wd w6 g []) := veil h6
  have B6 := veil (below_gb B5.out g6 B5.out.size HG.out)
  clear h6 g6 W5 B5
  go_wp2_with fail
  refine (len_any W6.out).mono ?_
  rintro e w9 ⟨rfl, rfl⟩
  go_wp2_with fail
  refine (lives_true _).mono ?_
  rintro e w9 ⟨rfl, q9⟩
  have b9 := B6.out.trans (q9.mono B6.out.size)
  go_wp2_with fail
  go_ret
  exact ⟨rfl, b9⟩

theorem own : ownKnob Try.prog.godebug = none := by kernel_rfl
theorem readable : ∀ t ∈ Try.f6.params.toList, Try.prog.readableRec t = true ∧ t < Try.prog.types.size := by
  rw [Try.params6]
  intro t ht
  simp at ht
  rcases ht with rfl | rfl
  · exact ⟨by kernel_rfl, of_decide_eq_true (by kernel_rfl)⟩
  · exact ⟨by kernel_rfl, of_decide_eq_true (by kernel_rfl)⟩

set_option maxRecDepth 100000 in
theorem lifted (os : Os) (started : os.Started) (H : Type) (enc : TypeId × Value → H) :
    ReturnsInHanded {} Try.checked os 6 .any (Rows.drawsBelowSpec.pre6 enc Try.prog Try.f6 Rows.drawsBelowRow.domain false) (Rows.drawsBelowSpec.post enc Try.prog Try.f6 false true false false) := by
  refine returnsInHanded_of_change_sized (C := Try.checked) own started (by kernel_rfl) Try.func6
    (ChangeSpec.witness6 (enc := enc) (C := Try.checked) false ⟨#[], #[.int .u32 0, .int .u32 0, .agg #[.int .u32 0, .int .u32 0]], []⟩ 8 (by kernel_rfl) (by kernel_rfl) (by kernel_rfl) (by kernel_rfl)) ?_
  intro W base args ds gs before hval0 hW _ hsz0 _
  have hval : ∀ (j : Nat) t v, Try.f6.params[j]? = some t → args[j]? = some v → Value.okWide Try.prog W .any base t v := hval0
  have hW' := hW
  obtain ⟨p, q, hA0, hV, rfl, _, _⟩ := hW
  have hA : DataW.TrodAll enc Try.prog W 0 (fun _ => true) true Try.f6.params.toList args.toList ds p := hA0
  rw [Try.params6] at hA hval
  obtain ⟨v0, vs0, d0, ds0, p0, q0, hargs, rfl, rfl, h0, r0⟩ := trodAll_cons hA
  obtain ⟨v1, vs1, d1, ds1, p1, q1, rfl, rfl, rfl, h1, r1⟩ := trodAll_cons r0
  obtain ⟨v2, vs2, d2, ds2, p2, q2, rfl, rfl, rfl, h2, r2⟩ := trodAll_cons r1
  obtain ⟨rfl, rfl, rfl⟩ := trodAll_nil r2
  obtain rfl : args = #[v0, v1, v2] := by cases args; simp_all
  obtain ⟨rfl, rfl⟩ := trodVars_none hV
  obtain ⟨a, rfl, rfl, rfl, w0⟩ := open_int Try.underlying31 (hval 0 31 v0 rfl rfl) h0
  have u0 := u32_of' w0
  obtain ⟨b, rfl, rfl, rfl, w1⟩ := open_int Try.underlying31 (hval 1 31 v1 rfl rfl) h1
  have u1 := u32_of' w1
  obtain ⟨cs, rfl, _⟩ := okWide_array2 Try.underlying46 (hval 2 46 v2 rfl rfl)
  obtain ⟨zs, e, hl, hz⟩ := (opens_arg h2 (slim_of hsz0 (j := 2) (by rw [Try.params6]; rfl) rfl)).ints Try.underlying46 Try.underlying31 (by kernel_rfl) (by kernel_rfl)
  match zs, hl with
  | [n, y], _ =>
  obtain rfl : cs = #[.int .u32 n, .int .u32 y] := by cases cs; simpa [Value.cells] using e
  have u2 := u32_of' (hz n (by simp))
  have u3 := u32_of' (hz y (by simp))
  have hw : Calls Try.prog 6 #[.int .u32 a, .int .u32 b, .agg #[.int .u32 n, .int .u32 y]] W fun e w' => e = .returned (.bool true) ∧ Below W.heap.size W w' := by
    by_cases hz : n = 0
    · subst hz
      rcases Int.lt_trichotomy a b with h | h | h
      · exact walk_lt0 a b y W u0 u1 u3 h
      · subst h; exact walk_eq0 a y W u0 u3
      · exact walk_gt0 a b y W u0 u1 u3 h
    · rcases Int.lt_trichotomy a b with h | h | h
      · exact walk_lt1 a b n y W u0 u1 u2 u3 h (by omega)
      · subst h; exact walk_eq1 a n y W u0 u2 u3 (by omega)
      · exact walk_gt1 a b n y W u0 u1 u2 u3 h (by omega)
  refine hw.mono fun e W' ⟨he, hb⟩ => ?_
  subst he
  exact ⟨_, rfl, law_post (by kernel_rfl) rfl rfl Try.underlying4 readable hW' rfl hb⟩

/-- DrawsBelow, as given -/
theorem holds : Rows.DrawsBelowSaid :=
  OpenClaim.holds_of_wide 6 Try.f6 rfl rfl rfl rfl rfl rfl rfl ⟨rfl, rfl, rfl, rfl, rfl⟩ rfl rfl rfl rfl rfl (by kernel_rfl) Try.func6 (by kernel_rfl)
    (of_decide_eq_true (by kernel_rfl)) (by unfold Func.isWrapper; first | (rw [if_pos (by decide +kernel)]; kernel_rfl) | (rw [if_neg (by decide +kernel)]; exact ⟨rfl, rfl⟩))
    (fun os started H enc _ => lifted os started H enc)

#print axioms holds
end Go.Proofs.Ytmjpmagfbiocnaa.drawsBelow
