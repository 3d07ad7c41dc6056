/-
  ClocksVoid: a clock that is not there, or that no call made, is at 0, and stays: the law returns true for every input, and its arguments read as before.
  Conditions: none.
-/
import Derived.Test.YtecmcbnomcocoaaClkFn
import Derived.Test.YtecmcbnomcocoaaOpenK
namespace Go.Proofs.Ytecmcbnomcocoaa.clocksVoid
open Go.ChangeShapes Go.WideShapes Go.ChangeAt Go.RowKit

/-- the law's own memory: the clock that no call made at g, the list of both at l -/
def Scene (w : World) (g l : Nat) : Prop := w.cell? ⟨l, 0, none⟩ = some (.pointer none) ∧ w.cell? ⟨l, 1, none⟩ = some (.pointer (some ⟨g, 0, none⟩)) ∧ Raw w g
theorem scene (w : World) : Scene ((w.alloc (.cells #[.int .u64 0, .int .u8 0] 39)).alloc (.cells #[.pointer none, .pointer (some ⟨w.heap.size, 0, none⟩)] 29)) w.heap.size (w.heap.size + 1) := by
  refine ⟨?_, ?_, ?_⟩
  · exact (row_new (by simp)).cell 0
  · exact (row_new (by simp)).cell 1
  · have h : Row (w.alloc (.cells #[.int .u64 0, .int .u8 0] 39)) w.heap.size 39 #[.int .u64 0, .int .u8 0] := heap_alloc_new w _
    exact h.keep (below_new _ _)

theorem walk (ms : Int) (w : World) : Calls Try.prog 5 #[.int .u64 ms] w fun e w' => e = .returned (.bool true) ∧ Below w.heap.size w w' := by
  go_enter Try.func5, Try.ntmps5
  go_wp2_with fail
  have hS := scene w
  have hb := (below_new w (.cells #[.int .u64 0, .int .u8 0] 39)).alloc (by simp) (.cells #[.pointer none, .pointer (some ⟨w.heap.size, 0, none⟩)] 29)
  generalize (w.alloc (.cells #[.int .u64 0, .int .u8 0] 39)).alloc (.cells #[.pointer none, .pointer (some ⟨w.heap.size, 0, none⟩)] 29) = W at hS hb ⊢
  generalize w.heap.size + 1 = l at hS ⊢
  have HS := veil hS
  clear hS
  go_loopw [5] (fun i wr => ∃ j : Nat, j ≤ 2 ∧ i = .int .i64 j ∧ wr = W) (fun i _ => 2 - (intOf i).toNat)
  case atStart => exact ⟨0, Nat.zero_le _, rfl, rfl⟩
  case round =>
    obtain ⟨j, hj, rfl, rfl⟩ := hrel
    obtain ⟨h0, h1, hs⟩ := HS.out
    match j, hj with
    | 0, _ =>
      clear h1
      go_wp2_with fail
      refine (adv_nil ms _).mono ?_
      rintro e w1 ⟨rfl, rfl⟩
      go_wp2_with fail
      refine (now_nil _).mono ?_
      rintro e w1 ⟨rfl, rfl⟩
      go_wp2_with fail
      go_roundw
      case rel => exact ⟨1, by omega, by go_num, trivial⟩
      case measure => simp [intOf]
    | 1, _ =>
      clear h0
      go_wp2_with fail
      refine (adv_raw ms hs).mono ?_
      rintro e w1 ⟨rfl, rfl⟩
      go_wp2_with fail
      refine (now_raw hs).mono ?_
      rintro e w1 ⟨rfl, rfl⟩
      go_wp2_with fail
      go_roundw
      case rel => exact ⟨2, by omega, by go_num, trivial⟩
      case measure => simp [intOf]
    | 2, _ =>
      clear h0 h1 hs HS
      go_wp2_with fail
      refine (lives_true _).mono ?_
      rintro e w9 ⟨rfl, q9⟩
      have b9 := hb.trans (q9.mono hb.size)
      go_wp2_with fail
      go_ret
      exact ⟨rfl, b9⟩

theorem own : ownKnob Try.prog.godebug = none := by kernel_rfl
theorem readable : ∀ t ∈ Try.f5.params.toList, Try.prog.readableRec t = true ∧ t < Try.prog.types.size := by
  rw [Try.params5]
  intro t ht
  simp at ht
  subst ht
  exact ⟨by kernel_rfl, of_decide_eq_true (by kernel_rfl)⟩

set_option maxRecDepth 100000 in
theorem lifted (os : Os) (started : os.Started) (H : Type) (enc : TypeId × Value → H) :
    ReturnsInHanded {} Try.checked os 5 .any (Rows.clocksVoidSpec.pre6 enc Try.prog Try.f5 Rows.clocksVoidRow.domain false) (Rows.clocksVoidSpec.post enc Try.prog Try.f5 false true false false) := by
  refine returnsInHanded_of_change (C := Try.checked) own started (by kernel_rfl) Try.func5
    (ChangeSpec.witness6 (enc := enc) (C := Try.checked) false ⟨#[], #[.int .u64 0], []⟩ 8 (by kernel_rfl) (by kernel_rfl) (by kernel_rfl) (by kernel_rfl)) ?_
  intro W base args ds gs before hval0 hW _ _
  have hval : ∀ (j : Nat) t v, Try.f5.params[j]? = some t → args[j]? = some v → Value.okWide Try.prog W .any base t v := hval0
  have hW' := hW
  obtain ⟨p, q, hA0, hV, rfl, _, _⟩ := hW
  have hA : DataW.TrodAll enc Try.prog W 0 (fun _ => true) true Try.f5.params.toList args.toList ds p := hA0
  rw [Try.params5] at hA hval
  obtain ⟨v0, vs0, d0, ds0, p0, q0, hargs, rfl, rfl, h0, r0⟩ := trodAll_cons hA
  obtain ⟨rfl, rfl, rfl⟩ := trodAll_nil r0
  obtain rfl : args = #[v0] := by cases args; simp_all
  obtain ⟨rfl, rfl⟩ := trodVars_none hV
  obtain ⟨n, rfl, rfl, rfl, w0⟩ := open_int Try.underlying22 (hval 0 22 v0 rfl rfl) h0
  have hw : Calls Try.prog 5 #[.int .u64 n] W fun e w' => e = .returned (.bool true) ∧ Below W.heap.size W w' := by
    exact walk n W
  refine hw.mono fun e W' ⟨he, hb⟩ => ?_
  subst he
  exact ⟨_, rfl, law_post (by kernel_rfl) rfl rfl Try.underlying4 readable hW' rfl hb⟩

/-- ClocksVoid, as given -/
theorem holds : Rows.ClocksVoidSaid :=
  OpenClaim.holds_of_wide 5 Try.f5 rfl rfl rfl rfl rfl rfl rfl ⟨rfl, rfl, rfl, rfl, rfl⟩ rfl rfl rfl rfl rfl (by kernel_rfl) Try.func5 (by kernel_rfl)
    (of_decide_eq_true (by kernel_rfl)) (by unfold Func.isWrapper; first | (rw [if_pos (by decide +kernel)]; kernel_rfl) | (rw [if_neg (by decide +kernel)]; exact ⟨rfl, rfl⟩))
    (fun os started H enc _ => lifted os started H enc)

#print axioms holds
end Go.Proofs.Ytecmcbnomcocoaa.clocksVoid
