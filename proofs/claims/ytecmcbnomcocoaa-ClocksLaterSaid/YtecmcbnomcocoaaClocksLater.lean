/-
  ClocksLater: a clock never goes back; moved by two steps it is where it is by both at once; one that may not be changes nothing: the law returns true for every input, and its arguments read as before.
  Conditions: none.
-/
import Derived.Test.YtecmcbnomcocoaaClkFn
import Derived.Test.YtecmcbnomcocoaaOpenK
namespace Go.Proofs.Ytecmcbnomcocoaa.clocksLater
open Go.ChangeShapes Go.WideShapes Go.ChangeAt Go.RowKit

set_option maxHeartbeats 1000000 in
theorem walk_both (a b : Int) (w : World) (ha0 : 0 ≤ a) (hb0 : 0 ≤ b) (h : a + b < 9223372036854775807) :
    Calls Try.prog 7 #[.int .u64 a, .int .u64 b] w fun e w' => e = .returned (.bool true) ∧ Below w.heap.size w w' := by
  go_enter Try.func7, Try.ntmps7
  go_wp2_with fail
  refine (new_any w).mono ?_
  rintro e w1 ⟨rfl, h1⟩
  have c1 : Clk w1 w.heap.size 0 := by subst h1; exact clk_new w
  have b1 : Below w.heap.size w w1 := by subst h1; exact below_new w _
  have l1 : w.heap.size < w1.heap.size := c1.lt
  clear h1
  go_wp2_with fail
  refine (new_any w1).mono ?_
  rintro e w2 ⟨rfl, h2⟩
  have d2 : Hid (Clk w2 w1.heap.size 0) := by subst h2; exact clk_new w1
  have q2 : Below w1.heap.size w1 w2 := by subst h2; exact below_new w1 _
  have c2 := veil (c1.keep q2)
  have b2 := b1.trans (q2.mono b1.size)
  have hne : w.heap.size ≠ w1.heap.size := by omega
  have hz : w.heap.size ≤ w1.heap.size := by omega
  generalize w1.heap.size = y at *
  clear h2 q2 c1 b1 l1
  go_wp2_with fail
  refine (adv_yes c2.out (by unfold U; omega) (by unfold U; omega) (by omega)).mono ?_
  rintro e w3 ⟨rfl, h3⟩
  have b3 : Below w.heap.size w w3 := by subst h3; exact below_set b2 (Nat.le_refl _) b2.size _
  have c3 : Hid (Clk w3 w.heap.size (0 + a)) := by subst h3; exact c2.out.set _
  rw [Int.zero_add] at c3
  have d3 : Hid (Clk w3 y 0) := by subst h3; exact d2.out.set_far (Ne.symm hne) _
  clear h3 c2 d2 b2
  go_wp2_with fail
  refine (now_clk c3.out).mono ?_
  rintro e w9 ⟨rfl, rfl⟩
  go_wp2_with fail
  refine (adv_yes c3.out (by unfold U; omega) (by unfold U; omega) (by omega)).mono ?_
  rintro e w4 ⟨rfl, h4⟩
  have b4 : Below w.heap.size w w4 := by subst h4; exact below_set b3 (Nat.le_refl _) b3.size _
  have c4 : Hid (Clk w4 w.heap.size (a + b)) := by subst h4; exact c3.out.set _
  have d4 : Hid (Clk w4 y 0) := by subst h4; exact d3.out.set_far (Ne.symm hne) _
  clear h4 c3 d3 b3
  go_wp2_with fail
  refine (now_clk c4.out).mono ?_
  rintro e w9 ⟨rfl, rfl⟩
  go_wp2_with fail
  refine (adv_yes d4.out (by unfold U; omega) (by unfold U; omega) (by omega)).mono ?_
  rintro e w5 ⟨rfl, h5⟩
  have b5 : Below w.heap.size w w5 := by subst h5; exact below_set b4 (hz) b4.size _
  have d5 : Hid (Clk w5 y (0 + (a + b))) := by subst h5; exact d4.out.set _
  rw [Int.zero_add] at d5
  have c5 : Hid (Clk w5 w.heap.size (a + b)) := by subst h5; exact c4.out.set_far hne _
  clear h5 c4 d4 b4
  go_wp2_with fail
  refine (now_clk d5.out).mono ?_
  rintro e w9 ⟨rfl, rfl⟩
  go_wp2_with fail
  refine (now_clk c5.out).mono ?_
  rintro e w9 ⟨rfl, rfl⟩
  go_wp2_with fail
  refine (now_clk d5.out).mono ?_
  rintro e w9 ⟨rfl, rfl⟩
  go_wp2_with fail
  refine (lives_true _).mono ?_
  rintro e w9 ⟨rfl, q9⟩
  have b9 := b5.trans (q9.mono b5.size)
  go_wp2_with fail
  go_ret
  exact ⟨rfl, b9⟩

set_option maxHeartbeats 1000000 in
theorem walk_first (a b : Int) (w : World) (ha0 : 0 ≤ a) (hb0 : 0 ≤ b) (hb1 : b ≤ 18446744073709551615) (ha : a < 9223372036854775807) (h : 9223372036854775807 ≤ a + b) :
    Calls Try.prog 7 #[.int .u64 a, .int .u64 b] w fun e w' => e = .returned (.bool true) ∧ Below w.heap.size w w' := by
  go_enter Try.func7, Try.ntmps7
  go_wp2_with fail
  refine (new_any w).mono ?_
  rintro e w1 ⟨rfl, h1⟩
  have c1 : Clk w1 w.heap.size 0 := by subst h1; exact clk_new w
  have b1 : Below w.heap.size w w1 := by subst h1; exact below_new w _
  have l1 : w.heap.size < w1.heap.size := c1.lt
  clear h1
  go_wp2_with fail
  refine (new_any w1).mono ?_
  rintro e w2 ⟨rfl, h2⟩
  have d2 : Hid (Clk w2 w1.heap.size 0) := by subst h2; exact clk_new w1
  have q2 : Below w1.heap.size w1 w2 := by subst h2; exact below_new w1 _
  have c2 := veil (c1.keep q2)
  have b2 := b1.trans (q2.mono b1.size)
  have hne : w.heap.size ≠ w1.heap.size := by omega
  have hz : w.heap.size ≤ w1.heap.size := by omega
  generalize w1.heap.size = y at *
  clear h2 q2 c1 b1 l1
  go_wp2_with fail
  refine (adv_yes c2.out (by unfold U; omega) (by unfold U; omega) (by omega)).mono ?_
  rintro e w3 ⟨rfl, h3⟩
  have b3 : Below w.heap.size w w3 := by subst h3; exact below_set b2 (Nat.le_refl _) b2.size _
  have c3 : Hid (Clk w3 w.heap.size (0 + a)) := by subst h3; exact c2.out.set _
  rw [Int.zero_add] at c3
  have d3 : Hid (Clk w3 y 0) := by subst h3; exact d2.out.set_far (Ne.symm hne) _
  clear h3 c2 d2 b2
  go_wp2_with fail
  refine (now_clk c3.out).mono ?_
  rintro e w9 ⟨rfl, rfl⟩
  go_wp2_with fail
  refine (adv_no c3.out (by unfold U; omega) (by unfold U; omega) (by omega)).mono ?_
  rintro e w9 ⟨rfl, rfl⟩
  go_wp2_with fail
  refine (now_clk c3.out).mono ?_
  rintro e w9 ⟨rfl, rfl⟩
  go_wp2_with fail
  refine (now_clk c3.out).mono ?_
  rintro e w9 ⟨rfl, rfl⟩
  go_wp2_with fail
  refine (lives_true _).mono ?_
  rintro e w9 ⟨rfl, q9⟩
  have b9 := b3.trans (q9.mono b3.size)
  go_wp2_with fail
  go_ret
  exact ⟨rfl, b9⟩

set_option maxHeartbeats 1000000 in
theorem walk_second (a b : Int) (w : World) (hb0 : 0 ≤ b) (ha1 : a ≤ 18446744073709551615) (ha : 9223372036854775807 ≤ a) (h : b < 9223372036854775807) :
    Calls Try.prog 7 #[.int .u64 a, .int .u64 b] w fun e w' => e = .returned (.bool true) ∧ Below w.heap.size w w' := by
  go_enter Try.func7, Try.ntmps7
  go_wp2_with fail
  refine (new_any w).mono ?_
  rintro e w1 ⟨rfl, h1⟩
  have c1 : Clk w1 w.heap.size 0 := by subst h1; exact clk_new w
  have b1 : Below w.heap.size w w1 := by subst h1; exact below_new w _
  have l1 : w.heap.size < w1.heap.size := c1.lt
  clear h1
  go_wp2_with fail
  refine (new_any w1).mono ?_
  rintro e w2 ⟨rfl, h2⟩
  have d2 : Hid (Clk w2 w1.heap.size 0) := by subst h2; exact clk_new w1
  have q2 : Below w1.heap.size w1 w2 := by subst h2; exact below_new w1 _
  have c2 := veil (c1.keep q2)
  have b2 := b1.trans (q2.mono b1.size)
  have hne : w.heap.size ≠ w1.heap.size := by omega
  have hz : w.heap.size ≤ w1.heap.size := by omega
  generalize w1.heap.size = y at *
  clear h2 q2 c1 b1 l1
  go_wp2_with fail
  refine (adv_no c2.out (by unfold U; omega) (by unfold U; omega) (by omega)).mono ?_
  rintro e w9 ⟨rfl, rfl⟩
  go_wp2_with fail
  refine (now_clk c2.out).mono ?_
  rintro e w9 ⟨rfl, rfl⟩
  go_wp2_with fail
  refine (adv_yes c2.out (by unfold U; omega) (by unfold U; omega) (by omega)).mono ?_
  rintro e w3 ⟨rfl, h3⟩
  have b3 : Below w.heap.size w w3 := by subst h3; exact below_set b2 (Nat.le_refl _) b2.size _
  have c3 : Hid (Clk w3 w.heap.size (0 + b)) := by subst h3; exact c2.out.set _
  rw [Int.zero_add] at c3
  have d3 : Hid (Clk w3 y 0) := by subst h3; exact d2.out.set_far (Ne.symm hne) _
  clear h3 c2 d2 b2
  go_wp2_with fail
  refine (now_clk c3.out).mono ?_
  rintro e w9 ⟨rfl, rfl⟩
  go_wp2_with fail
  refine (lives_true _).mono ?_
  rintro e w9 ⟨rfl, q9⟩
  have b9 := b3.trans (q9.mono b3.size)
  go_wp2_with fail
  go_ret
  exact ⟨rfl, b9⟩

set_option maxHeartbeats 1000000 in
theorem walk_none (a b : Int) (w : World) (ha1 : a ≤ 18446744073709551615) (hb1 : b ≤ 18446744073709551615) (ha : 9223372036854775807 ≤ a) (h : 9223372036854775807 ≤ b) :
    Calls Try.prog 7 #[.int .u64 a, .int .u64 b] w fun e w' => e = .returned (.bool true) ∧ Below w.heap.size w w' := by
  go_enter Try.func7, Try.ntmps7
  go_wp2_with fail
  refine (new_any w).mono ?_
  rintro e w1 ⟨rfl, h1⟩
  have c1 : Clk w1 w.heap.size 0 := by subst h1; exact clk_new w
  have b1 : Below w.heap.size w w1 := by subst h1; exact below_new w _
  have l1 : w.heap.size < w1.heap.size := c1.lt
  clear h1
  go_wp2_with fail
  refine (new_any w1).mono ?_
  rintro e w2 ⟨rfl, h2⟩
  have d2 : Hid (Clk w2 w1.heap.size 0) := by subst h2; exact clk_new w1
  have q2 : Below w1.heap.size w1 w2 := by subst h2; exact below_new w1 _
  have c2 := veil (c1.keep q2)
  have b2 := b1.trans (q2.mono b1.size)
  have hne : w.heap.size ≠ w1.heap.size := by omega
  have hz : w.heap.size ≤ w1.heap.size := by omega
  generalize w1.heap.size = y at *
  clear h2 q2 c1 b1 l1
  go_wp2_with fail
  refine (adv_no c2.out (by unfold U; omega) (by unfold U; omega) (by omega)).mono ?_
  rintro e w9 ⟨rfl, rfl⟩
  go_wp2_with fail
  refine (now_clk c2.out).mono ?_
  rintro e w9 ⟨rfl, rfl⟩
  go_wp2_with fail
  refine (adv_no c2.out (by unfold U; omega) (by unfold U; omega) (by omega)).mono ?_
  rintro e w9 ⟨rfl, rfl⟩
  go_wp2_with fail
  refine (now_clk c2.out).mono ?_
  rintro e w9 ⟨rfl, rfl⟩
  go_wp2_with fail
  refine (now_clk c2.out).mono ?_
  rintro e w9 ⟨rfl, rfl⟩
  go_wp2_with fail
  refine (lives_true _).mono ?_
  rintro e w9 ⟨rfl, q9⟩
  have b9 := b2.trans (q9.mono b2.size)
  go_wp2_with fail
  go_ret
  exact ⟨rfl, b9⟩

theorem own : ownKnob Try.prog.godebug = none := by kernel_rfl
theorem readable : ∀ t ∈ Try.f7.params.toList, Try.prog.readableRec t = true ∧ t < Try.prog.types.size := by
  rw [Try.params7]
  intro t ht
  simp at ht
  subst ht
  exact ⟨by kernel_rfl, of_decide_eq_true (by kernel_rfl)⟩

set_option maxRecDepth 100000 in
theorem lifted (os : Os) (started : os.Started) (H : Type) (enc : TypeId × Value → H) :
    ReturnsInHanded {} Try.checked os 7 .any (Rows.clocksLaterSpec.pre6 enc Try.prog Try.f7 Rows.clocksLaterRow.domain false) (Rows.clocksLaterSpec.post enc Try.prog Try.f7 false true false false) := by
  refine returnsInHanded_of_change (C := Try.checked) own started (by kernel_rfl) Try.func7
    (ChangeSpec.witness6 (enc := enc) (C := Try.checked) false ⟨#[], #[.int .u64 0, .int .u64 0], []⟩ 8 (by kernel_rfl) (by kernel_rfl) (by kernel_rfl) (by kernel_rfl)) ?_
  intro W base args ds gs before hval0 hW _ _
  have hval : ∀ (j : Nat) t v, Try.f7.params[j]? = some t → args[j]? = some v → Value.okWide Try.prog W .any base t v := hval0
  have hW' := hW
  obtain ⟨p, q, hA0, hV, rfl, _, _⟩ := hW
  have hA : DataW.TrodAll enc Try.prog W 0 (fun _ => true) true Try.f7.params.toList args.toList ds p := hA0
  rw [Try.params7] at hA hval
  obtain ⟨v0, vs0, d0, ds0, p0, q0, hargs, rfl, rfl, h0, r0⟩ := trodAll_cons hA
  obtain ⟨v1, vs1, d1, ds1, p1, q1, rfl, rfl, rfl, h1, r1⟩ := trodAll_cons r0
  obtain ⟨rfl, rfl, rfl⟩ := trodAll_nil r1
  obtain rfl : args = #[v0, v1] := by cases args; simp_all
  obtain ⟨rfl, rfl⟩ := trodVars_none hV
  obtain ⟨a, rfl, rfl, rfl, w0⟩ := open_int Try.underlying22 (hval 0 22 v0 rfl rfl) h0
  have u0 := u64_of' w0
  obtain ⟨b, rfl, rfl, rfl, w1⟩ := open_int Try.underlying22 (hval 1 22 v1 rfl rfl) h1
  have u1 := u64_of' w1
  have hw : Calls Try.prog 7 #[.int .u64 a, .int .u64 b] W fun e w' => e = .returned (.bool true) ∧ Below W.heap.size W w' := by
    by_cases ha : a < 9223372036854775807
    · by_cases h : a + b < 9223372036854775807
      · exact walk_both a b W u0.1 u1.1 h
      · exact walk_first a b W u0.1 u1.1 u1.2 ha (by omega)
    · by_cases h : b < 9223372036854775807
      · exact walk_second a b W u1.1 u0.2 (by omega) h
      · exact walk_none a b W u0.2 u1.2 (by omega) (by omega)
  refine hw.mono fun e W' ⟨he, hb⟩ => ?_
  subst he
  exact ⟨_, rfl, law_post (by kernel_rfl) rfl rfl Try.underlying4 readable hW' rfl hb⟩

/-- ClocksLater, as given -/
theorem holds : Rows.ClocksLaterSaid :=
  OpenClaim.holds_of_wide 7 Try.f7 rfl rfl rfl rfl rfl rfl rfl ⟨rfl, rfl, rfl, rfl, rfl⟩ rfl rfl rfl rfl rfl (by kernel_rfl) Try.func7 (by kernel_rfl)
    (of_decide_eq_true (by kernel_rfl)) (by unfold Func.isWrapper; first | (rw [if_pos (by decide +kernel)]; kernel_rfl) | (rw [if_neg (by decide +kernel)]; exact ⟨rfl, rfl⟩))
    (fun os started H enc _ => lifted os started H enc)

#print axioms holds
end Go.Proofs.Ytecmcbnomcocoaa.clocksLater
