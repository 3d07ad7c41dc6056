/-
  ClocksSecs: a second more is a thousand more, up to the greatest, which is never: the law returns true for every input, and its arguments read as before.
  Conditions: none.
-/
import Derived.Test.YtecmcbnomcocoaaClkFn
import Derived.Test.YtecmcbnomcocoaaOpenK
namespace Go.Proofs.Ytecmcbnomcocoaa.clocksSecs
open Go.ChangeShapes Go.WideShapes Go.ChangeAt Go.RowKit

theorem walk_hi (n : Int) (w : World) (h0 : 4294967294 ≤ n) :
    Calls Try.prog 8 #[.int .u32 n] w fun e w' => e = .returned (.bool true) ∧ Below w.heap.size w w' := by
  have K1 := veil (secs_any 4294967294 w (by omega) (by omega))
  have K2 := veil (secs_any 4294967295 w (by omega) (by omega))
  rw [show secs 4294967294 = 4294967294000 from rfl] at K1
  rw [show secs 4294967295 = 9223372036854775807 from rfl] at K2
  go_enter Try.func8, Try.ntmps8
  go_wp2_with fail
  refine (K1.out).mono ?_
  rintro e w1 ⟨rfl, rfl⟩
  go_wp2_with fail
  refine (K2.out).mono ?_
  rintro e w1 ⟨rfl, rfl⟩
  go_wp2_with fail
  refine (lives_true _).mono ?_
  rintro e w9 ⟨rfl, q9⟩
  go_wp2_with fail
  go_ret
  exact ⟨rfl, q9⟩

theorem walk_lo (n : Int) (w : World) (h0 : 0 ≤ n) (h1 : n < 4294967294) :
    Calls Try.prog 8 #[.int .u32 n] w fun e w' => e = .returned (.bool true) ∧ Below w.heap.size w w' := by
  have K1 := veil (secs_any (n + 1) w (by omega) (by omega))
  have K2 := veil (secs_any n w (by omega) (by omega))
  have K3 := veil (secs_any 0 w (by omega) (by omega))
  rw [show secs 0 = 0 from rfl] at K3
  rw [show secs (n + 1) = n * 1000 + 1000 by unfold secs; rw [if_neg (by omega)]; omega] at K1
  rw [show secs n = n * 1000 by unfold secs; rw [if_neg (by omega)]] at K2
  go_enter Try.func8, Try.ntmps8
  go_wp2_with fail
  refine (K1.out).mono ?_
  rintro e w1 ⟨rfl, rfl⟩
  go_wp2_with fail
  refine (K2.out).mono ?_
  rintro e w1 ⟨rfl, rfl⟩
  go_wp2_with fail
  refine (K3.out).mono ?_
  rintro e w1 ⟨rfl, rfl⟩
  go_wp2_with fail
  refine (lives_true _).mono ?_
  rintro e w9 ⟨rfl, q9⟩
  go_wp2_with fail
  go_ret
  exact ⟨rfl, q9⟩

theorem own : ownKnob Try.prog.godebug = none := by kernel_rfl
theorem readable : ∀ t ∈ Try.f8.params.toList, Try.prog.readableRec t = true ∧ t < Try.prog.types.size := by
  rw [Try.params8]
  intro t ht
  simp at ht
  subst ht
  exact ⟨by kernel_rfl, of_decide_eq_true (by kernel_rfl)⟩

set_option maxRecDepth 100000 in
theorem lifted (os : Os) (started : os.Started) (H : Type) (enc : TypeId × Value → H) :
    ReturnsInHanded {} Try.checked os 8 .any (Rows.clocksSecsSpec.pre6 enc Try.prog Try.f8 Rows.clocksSecsRow.domain false) (Rows.clocksSecsSpec.post enc Try.prog Try.f8 false true false false) := by
  refine returnsInHanded_of_change (C := Try.checked) own started (by kernel_rfl) Try.func8
    (ChangeSpec.witness6 (enc := enc) (C := Try.checked) false ⟨#[], #[.int .u32 0], []⟩ 8 (by kernel_rfl) (by kernel_rfl) (by kernel_rfl) (by kernel_rfl)) ?_
  intro W base args ds gs before hval0 hW _ _
  have hval : ∀ (j : Nat) t v, Try.f8.params[j]? = some t → args[j]? = some v → Value.okWide Try.prog W .any base t v := hval0
  have hW' := hW
  obtain ⟨p, q, hA0, hV, rfl, _, _⟩ := hW
  have hA : DataW.TrodAll enc Try.prog W 0 (fun _ => true) true Try.f8.params.toList args.toList ds p := hA0
  rw [Try.params8] at hA hval
  obtain ⟨v0, vs0, d0, ds0, p0, q0, hargs, rfl, rfl, h0, r0⟩ := trodAll_cons hA
  obtain ⟨rfl, rfl, rfl⟩ := trodAll_nil r0
  obtain rfl : args = #[v0] := by cases args; simp_all
  obtain ⟨rfl, rfl⟩ := trodVars_none hV
  obtain ⟨n, rfl, rfl, rfl, w0⟩ := open_int Try.underlying23 (hval 0 23 v0 rfl rfl) h0
  have u0 := u32_of' w0
  have hw : Calls Try.prog 8 #[.int .u32 n] W fun e w' => e = .returned (.bool true) ∧ Below W.heap.size W w' := by
    by_cases h : 4294967294 ≤ n
    · exact walk_hi n W h
    · exact walk_lo n W u0.1 (by omega)
  refine hw.mono fun e W' ⟨he, hb⟩ => ?_
  subst he
  exact ⟨_, rfl, law_post (by kernel_rfl) rfl rfl Try.underlying4 readable hW' rfl hb⟩

/-- ClocksSecs, as given -/
theorem holds : Rows.ClocksSecsSaid :=
  OpenClaim.holds_of_wide 8 Try.f8 rfl rfl rfl rfl rfl rfl rfl ⟨rfl, rfl, rfl, rfl, rfl⟩ rfl rfl rfl rfl rfl (by kernel_rfl) Try.func8 (by kernel_rfl)
    (of_decide_eq_true (by kernel_rfl)) (by unfold Func.isWrapper; first | (rw [if_pos (by decide +kernel)]; kernel_rfl) | (rw [if_neg (by decide +kernel)]; exact ⟨rfl, rfl⟩))
    (fun os started H enc _ => lifted os started H enc)

#print axioms holds
end Go.Proofs.Ytecmcbnomcocoaa.clocksSecs
