/-
  What each function of clocks, and of the reference, answers, for whatever it is handed.
  Conditions: times are numbers of 64 bits; a clock lies in a block of its own.
-/
import Derived.Test.YtecmcbnomcocoaaRow
namespace Go.Proofs.Ytecmcbnomcocoaa
open Go.RowKit

/-- no more than never -/
def hold (t : Int) : Int := if t ≤ 9223372036854775807 then t else 9223372036854775807
/-- both together, no more than never -/
def both (a b : Int) : Int := hold (a + b)
/-- seconds as a time -/
def secs (n : Int) : Int := if n = 4294967295 then 9223372036854775807 else n * 1000
/-- a number of 64 bits -/
def U (a : Int) : Prop := 0 ≤ a ∧ a ≤ 18446744073709551615

theorem hold_lo {t : Int} (h : t ≤ 9223372036854775807) : hold t = t := by unfold hold; rw [if_pos h]
theorem hold_hi {t : Int} (h : 9223372036854775807 < t) : hold t = 9223372036854775807 := by unfold hold; rw [if_neg (by omega)]
theorem hold_le (t : Int) : hold t ≤ 9223372036854775807 := by unfold hold; split <;> omega
theorem hold_ge {t : Int} (h : 0 ≤ t) : 0 ≤ hold t := by unfold hold; split <;> omega
theorem both_u {a b : Int} (ha : 0 ≤ a) (hb : 0 ≤ b) : 0 ≤ both a b ∧ both a b ≤ 9223372036854775807 := ⟨hold_ge (by omega), hold_le _⟩
theorem both_two {a b : Int} (ha : 0 ≤ a) (hb : 0 ≤ b) : hold (hold a + hold b) = both a b := by unfold both hold; split <;> split <;> split <;> omega

theorem held_any (t : Int) (w : World) : Calls Try.prog 18 #[.int .u64 t] w fun e w' => e = .returned (.int .u64 (hold t)) ∧ w = w' := by
  go_enter Try.func18, Try.ntmps18
  go_wp2_with fail
  all_goals go_ret
  · rw [hold_hi (by omega)]
    exact ⟨rfl, rfl⟩
  · rw [hold_lo (by omega)]
    exact ⟨rfl, rfl⟩

theorem add_any (a b : Int) (w : World) (ha : U a) (hb : U b) :
    Calls Try.prog 9 #[.int .u64 a, .int .u64 b] w fun e w' => e = .returned (.int .u64 (both a b)) ∧ w = w' := by
  have h := both_two ha.1 hb.1
  have a1 := hold_le a
  have b1 := hold_le b
  have a0 := hold_ge ha.1
  have b0 := hold_ge hb.1
  have HA := held_any a
  have HB := held_any b
  have HC := held_any (hold a + hold b)
  rw [h] at HC
  generalize hold a = x at *
  generalize hold b = y at *
  generalize both a b = z at *
  clear h ha hb
  go_enter Try.func9, Try.ntmps9
  go_wp2_with fail
  refine (HA w).mono ?_
  rintro e w1 ⟨rfl, rfl⟩
  go_wp2_with fail
  refine (HB w).mono ?_
  rintro e w1 ⟨rfl, rfl⟩
  go_wp2_with fail
  refine (HC w).mono ?_
  rintro e w1 ⟨rfl, rfl⟩
  go_wp2_with fail
  go_ret
  exact ⟨rfl, rfl⟩

theorem secs_any (n : Int) (w : World) (h0 : 0 ≤ n) (h1 : n ≤ 4294967295) :
    Calls Try.prog 11 #[.int .u32 n] w fun e w' => e = .returned (.int .u64 (secs n)) ∧ w = w' := by
  by_cases h : n = 4294967295
  · subst h
    go_enter Try.func11, Try.ntmps11
    go_wp2_with fail
    go_ret
    exact ⟨rfl, rfl⟩
  · have e : secs n = n * 1000 := by unfold secs; rw [if_neg h]
    rw [e]
    go_enter Try.func11, Try.ntmps11
    go_wp2_with fail
    go_ret
    exact ⟨rfl, rfl⟩

theorem refAdd_any (a b : Int) (w : World) (ha : U a) (hb : U b) :
    Calls Try.prog 10 #[.int .u64 a, .int .u64 b] w fun e w' => e = .returned (.int .u64 (both a b)) ∧ w = w' := by
  have ha0 := ha.1
  have ha1 := ha.2
  have hb0 := hb.1
  have hb1 := hb.2
  clear ha hb
  by_cases h : a + b < 9223372036854775807
  · have e : both a b = a + b := hold_lo (by omega)
    rw [e]
    go_enter Try.func10, Try.ntmps10
    go_wp2_with fail
    go_ret
    exact ⟨rfl, rfl⟩
  · have e : both a b = 9223372036854775807 := by unfold both hold; split <;> omega
    rw [e]
    by_cases h1 : 9223372036854775807 ≤ a
    · go_enter Try.func10, Try.ntmps10
      go_wp2_with fail
      go_ret
      exact ⟨rfl, rfl⟩
    · by_cases h2 : 9223372036854775807 ≤ b
      · go_enter Try.func10, Try.ntmps10
        go_wp2_with fail
        go_ret
        exact ⟨rfl, rfl⟩
      · go_enter Try.func10, Try.ntmps10
        go_wp2_with fail
        go_ret
        exact ⟨rfl, rfl⟩

theorem refSecs_any (n : Int) (w : World) (h0 : 0 ≤ n) (h1 : n ≤ 4294967295) :
    Calls Try.prog 12 #[.int .u32 n] w fun e w' => e = .returned (.int .u64 (secs n)) ∧ w = w' := by
  by_cases h : n = 4294967295
  · subst h
    go_enter Try.func12, Try.ntmps12
    go_wp2_with fail
    go_ret
    exact ⟨rfl, rfl⟩
  · have e : secs n = 1000 * n := by unfold secs; rw [if_neg h]; omega
    rw [e]
    go_enter Try.func12, Try.ntmps12
    go_wp2_with fail
    go_ret
    exact ⟨rfl, rfl⟩

theorem refLater_any (a b : Int) (w : World) (ha : U a) (hb : U b) :
    Calls Try.prog 16 #[.int .u64 a, .int .u64 b] w fun e w' => e = .returned (.tuple #[.int .u64 (if a + b < 9223372036854775807 then a + b else a), .bool (decide (a + b < 9223372036854775807))]) ∧ w = w' := by
  by_cases h : a + b < 9223372036854775807
  · have e : both a b = a + b := hold_lo (by omega)
    have K := refAdd_any a b w ha hb
    rw [e] at K
    rw [if_pos h, decide_eq_true h]
    go_enter Try.func16, Try.ntmps16
    go_wp2_with fail
    refine K.mono ?_
    rintro e w1 ⟨rfl, rfl⟩
    go_wp2_with fail
    go_ret2
    exact ⟨rfl, rfl⟩
  · have e : both a b = 9223372036854775807 := by unfold both hold; split <;> omega
    have K := refAdd_any a b w ha hb
    rw [e] at K
    rw [if_neg h, decide_eq_false h]
    go_enter Try.func16, Try.ntmps16
    go_wp2_with fail
    refine K.mono ?_
    rintro e w1 ⟨rfl, rfl⟩
    go_wp2_with fail
    go_ret2
    exact ⟨rfl, rfl⟩

/-- a clock that New made, at t -/
def Clk (w : World) (g : Nat) (t : Int) : Prop := Row w g 39 #[.int .u64 t, .int .u8 1]
/-- one that no call made -/
def Raw (w : World) (g : Nat) : Prop := Row w g 39 #[.int .u64 0, .int .u8 0]

theorem new_any (w : World) : Calls Try.prog 14 #[] w fun e w' => e = .returned (.pointer (some ⟨w.heap.size, 0, none⟩)) ∧ w.alloc (.cells #[.int .u64 0, .int .u8 1] 39) = w' := by
  go_enter Try.func14, Try.ntmps14
  go_wp2_with fail
  go_ret
  exact ⟨rfl, rfl⟩

theorem missing_nil (w : World) : Calls Try.prog 19 #[.pointer none] w fun e w' => e = .returned (.bool true) ∧ w = w' := by
  go_enter Try.func19, Try.ntmps19
  go_wp2_with fail
  go_ret
  exact ⟨rfl, rfl⟩

theorem missing_raw {w : World} {g : Nat} (h : Raw w g) : Calls Try.prog 19 #[.pointer (some ⟨g, 0, none⟩)] w fun e w' => e = .returned (.bool true) ∧ w = w' := by
  have h1 : w.cell? ⟨g, 1, none⟩ = some (.int .u8 0) := Row.cell h 1
  go_enter Try.func19, Try.ntmps19
  go_wp2_with fail
  go_ret
  exact ⟨rfl, rfl⟩

theorem missing_clk {w : World} {g : Nat} {t : Int} (h : Clk w g t) : Calls Try.prog 19 #[.pointer (some ⟨g, 0, none⟩)] w fun e w' => e = .returned (.bool false) ∧ w = w' := by
  have h1 : w.cell? ⟨g, 1, none⟩ = some (.int .u8 1) := Row.cell h 1
  go_enter Try.func19, Try.ntmps19
  go_wp2_with fail
  go_ret
  exact ⟨rfl, rfl⟩

theorem now_nil (w : World) : Calls Try.prog 17 #[.pointer none] w fun e w' => e = .returned (.int .u64 0) ∧ w = w' := by
  go_enter Try.func17, Try.ntmps17
  go_wp2_with fail
  refine (missing_nil w).mono ?_
  rintro e w1 ⟨rfl, rfl⟩
  go_wp2_with fail
  go_ret
  exact ⟨rfl, rfl⟩

theorem now_raw {w : World} {g : Nat} (h : Raw w g) : Calls Try.prog 17 #[.pointer (some ⟨g, 0, none⟩)] w fun e w' => e = .returned (.int .u64 0) ∧ w = w' := by
  go_enter Try.func17, Try.ntmps17
  go_wp2_with fail
  refine (missing_raw h).mono ?_
  rintro e w1 ⟨rfl, rfl⟩
  go_wp2_with fail
  go_ret
  exact ⟨rfl, rfl⟩

theorem now_clk {w : World} {g : Nat} {t : Int} (h : Clk w g t) : Calls Try.prog 17 #[.pointer (some ⟨g, 0, none⟩)] w fun e w' => e = .returned (.int .u64 t) ∧ w = w' := by
  have h0 : w.cell? ⟨g, 0, none⟩ = some (.int .u64 t) := Row.cell h 0
  go_enter Try.func17, Try.ntmps17
  go_wp2_with fail
  refine (missing_clk h).mono ?_
  rintro e w1 ⟨rfl, rfl⟩
  go_wp2_with fail
  go_ret
  exact ⟨rfl, rfl⟩

theorem adv_nil (ms : Int) (w : World) : Calls Try.prog 15 #[.pointer none, .int .u64 ms] w fun e w' => e = .returned (.int .i64 2) ∧ w = w' := by
  go_enter Try.func15, Try.ntmps15
  go_wp2_with fail
  refine (missing_nil w).mono ?_
  rintro e w1 ⟨rfl, rfl⟩
  go_wp2_with fail
  go_ret
  exact ⟨rfl, rfl⟩

theorem adv_raw {w : World} {g : Nat} (ms : Int) (h : Raw w g) : Calls Try.prog 15 #[.pointer (some ⟨g, 0, none⟩), .int .u64 ms] w fun e w' => e = .returned (.int .i64 2) ∧ w = w' := by
  go_enter Try.func15, Try.ntmps15
  go_wp2_with fail
  refine (missing_raw h).mono ?_
  rintro e w1 ⟨rfl, rfl⟩
  go_wp2_with fail
  go_ret
  exact ⟨rfl, rfl⟩

theorem adv_yes {w : World} {g : Nat} {t ms : Int} (h : Clk w g t) (ht : U t) (hm : U ms) (hs : t + ms < 9223372036854775807) :
    Calls Try.prog 15 #[.pointer (some ⟨g, 0, none⟩), .int .u64 ms] w fun e w' => e = .returned (.int .i64 0) ∧ w.setCell ⟨g, 0, none⟩ (.int .u64 (t + ms)) = w' := by
  have h0 : w.cell? ⟨g, 0, none⟩ = some (.int .u64 t) := Row.cell h 0
  have hf : w.frozen? ⟨g, 0, none⟩ = false := Row.frozen h 0
  have e : both t ms = t + ms := hold_lo (by omega)
  have K := add_any t ms w ht hm
  rw [e] at K
  have HK := veil K
  have HT := veil ht
  have HM := veil hm
  clear K e ht hm
  go_enter Try.func15, Try.ntmps15
  go_wp2_with fail
  refine (missing_clk h).mono ?_
  rintro e w1 ⟨rfl, rfl⟩
  go_wp2_with fail
  refine (HK.out).mono ?_
  rintro e w1 ⟨rfl, rfl⟩
  go_wp2_with fail
  go_ret
  exact ⟨rfl, rfl⟩

theorem adv_no {w : World} {g : Nat} {t ms : Int} (h : Clk w g t) (ht : U t) (hm : U ms) (hs : 9223372036854775807 ≤ t + ms) :
    Calls Try.prog 15 #[.pointer (some ⟨g, 0, none⟩), .int .u64 ms] w fun e w' => e = .returned (.int .i64 1) ∧ w = w' := by
  have h0 : w.cell? ⟨g, 0, none⟩ = some (.int .u64 t) := Row.cell h 0
  have e : both t ms = 9223372036854775807 := by unfold both hold; split <;> omega
  have K := add_any t ms w ht hm
  rw [e] at K
  have HK := veil K
  clear K e ht hm hs
  go_enter Try.func15, Try.ntmps15
  go_wp2_with fail
  refine (missing_clk h).mono ?_
  rintro e w1 ⟨rfl, rfl⟩
  go_wp2_with fail
  refine (HK.out).mono ?_
  rintro e w1 ⟨rfl, rfl⟩
  go_wp2_with fail
  go_ret
  exact ⟨rfl, rfl⟩

theorem Clk.set {w : World} {g : Nat} {t : Int} (h : Clk w g t) (u : Int) : Clk (w.setCell ⟨g, 0, none⟩ (.int .u64 u)) g u := by
  have := Row.set h 0 (.int .u64 u)
  simpa [Clk] using this
theorem clk_new (w : World) : Clk (w.alloc (.cells #[.int .u64 0, .int .u8 1] 39)) w.heap.size 0 := row_new rfl

theorem Clk.keep {w w' : World} {g : Nat} {t : Int} (h : Clk w g t) (hb : Below w.heap.size w w') : Clk w' g t := Row.keep h hb
theorem Clk.gb {w w' : World} {g : Nat} {t : Int} {r : Option Nat} (h : Clk w g t) (hg : w.grownBy w' r) (hne : some g ≠ r) : Clk w' g t := Row.gb h hg hne
theorem Clk.set_far {w : World} {g g' : Nat} {t : Int} (h : Clk w g t) (hne : g ≠ g') (u : Value) : Clk (w.setCell ⟨g', 0, none⟩ u) g t := Row.far h (p := ⟨g', 0, none⟩) hne u
theorem below_set {B : Nat} {a w : World} (h : Below B a w) {g : Nat} (hg : B ≤ g) (hB : B ≤ w.heap.size) (u : Value) : Below B a (w.setCell ⟨g, 0, none⟩ u) := below_gb h (gb_set w g 0 u) hB hg

set_option maxHeartbeats 2000000 in
theorem lives_true (w : World) : Calls Try.prog 13 #[] w fun e w' => e = .returned (.bool true) ∧ Below w.heap.size w w' := by
  have A1 := veil (add_any 3 4 w (by unfold U; omega) (by unfold U; omega))
  have A2 := veil (add_any 9223372036854775807 1 w (by unfold U; omega) (by unfold U; omega))
  have A3 := veil (add_any 9223372036854775806 1 w (by unfold U; omega) (by unfold U; omega))
  have A4 := veil (add_any 18446744073709551615 0 w (by unfold U; omega) (by unfold U; omega))
  have S1 := veil (secs_any 7 w (by omega) (by omega))
  have S2 := veil (secs_any 4294967295 w (by omega) (by omega))
  rw [show both 3 4 = 7 from rfl] at A1
  rw [show both 9223372036854775807 1 = 9223372036854775807 from rfl] at A2
  rw [show both 9223372036854775806 1 = 9223372036854775807 from rfl] at A3
  rw [show both 18446744073709551615 0 = 9223372036854775807 from rfl] at A4
  rw [show secs 7 = 7000 from rfl] at S1
  rw [show secs 4294967295 = 9223372036854775807 from rfl] at S2
  have hc := veil (clk_new w)
  have hb := below_new w (.cells #[.int .u64 0, .int .u8 1] 39)
  have hz : w.heap.size ≤ (w.alloc (.cells #[.int .u64 0, .int .u8 1] 39)).heap.size := hb.size
  have hn := veil (new_any w)
  go_enter Try.func13, Try.ntmps13
  go_wp2_with fail
  refine (A1.out).mono ?_
  rintro e w1 ⟨rfl, rfl⟩
  go_wp2_with fail
  refine (A2.out).mono ?_
  rintro e w1 ⟨rfl, rfl⟩
  go_wp2_with fail
  refine (A3.out).mono ?_
  rintro e w1 ⟨rfl, rfl⟩
  go_wp2_with fail
  refine (A4.out).mono ?_
  rintro e w1 ⟨rfl, rfl⟩
  go_wp2_with fail
  refine (S1.out).mono ?_
  rintro e w1 ⟨rfl, rfl⟩
  go_wp2_with fail
  refine (S2.out).mono ?_
  rintro e w1 ⟨rfl, rfl⟩
  go_wp2_with fail
  refine (hn.out).mono ?_
  rintro e w1 ⟨rfl, rfl⟩
  generalize w.alloc (.cells #[.int .u64 0, .int .u8 1] 39) = w1 at *
  clear A1 A2 A3 A4 S1 S2 hn
  go_wp2_with fail
  refine (adv_yes hc.out (by unfold U; omega) (by unfold U; omega) (by omega)).mono ?_
  rintro e w2 ⟨rfl, h2⟩
  have c2 : Hid (Clk w2 w.heap.size 5) := by subst h2; exact hc.out.set _
  have b2 : Below w.heap.size w w2 := by subst h2; exact below_set hb (Nat.le_refl _) hz _
  clear h2 hc hb hz
  go_wp2_with fail
  refine (now_clk c2.out).mono ?_
  rintro e w3 ⟨rfl, rfl⟩
  go_wp2_with fail
  refine (adv_no c2.out (by unfold U; omega) (by unfold U; omega) (by omega)).mono ?_
  rintro e w3 ⟨rfl, rfl⟩
  go_wp2_with fail
  refine (adv_yes c2.out (by unfold U; omega) (by unfold U; omega) (by omega)).mono ?_
  rintro e w3 ⟨rfl, h3⟩
  have c3 : Hid (Clk w3 w.heap.size 9223372036854775806) := by subst h3; exact c2.out.set _
  have b3 : Below w.heap.size w w3 := by subst h3; exact below_set b2 (Nat.le_refl _) b2.size _
  clear h3 c2 b2
  go_wp2_with fail
  refine (now_clk c3.out).mono ?_
  rintro e w4 ⟨rfl, rfl⟩
  go_wp2_with fail
  go_ret
  exact ⟨rfl, b3⟩

end Go.Proofs.Ytecmcbnomcocoaa
