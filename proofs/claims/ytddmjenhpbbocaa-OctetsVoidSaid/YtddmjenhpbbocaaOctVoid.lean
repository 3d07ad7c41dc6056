/-
  OctetsVoid: a cutter that is not there, or that no call made, is spoilt, and has nothing: for every ask the law returns true, and its argument reads as before.
  Conditions: none.
-/
import Derived.Test.YtddmjenhpbbocaaOctH
import Derived.Test.YtddmjenhpbbocaaLaw
import Derived.Lib.SmallJoins
namespace Go.Proofs.Ytddmjenhpbbocaa.octetsVoid
open Go.ChangeShapes Go.WideShapes Go.ChangeAt Go.RowKit

/-- the law's own memory: the ask at a, the cutter that no call made at g, the list of both at l -/
def Scene (w : World) (a g l : Nat) (n : Int) : Prop :=
  w.cell? ⟨a, 1, none⟩ = some (.int .i64 n) ∧ w.cell? ⟨l, 0, none⟩ = some (.pointer none) ∧ w.cell? ⟨l, 1, none⟩ = some (.pointer (some ⟨g, 0, none⟩)) ∧ Spoilt w g
theorem Scene.drewN {w : World} {a g l : Nat} {n : Int} (h : Scene w a g l n) (q : Nat) : Scene (w.drewN q) a g l n := h
theorem scene (w : World) (kd n : Int) : Scene (((w.alloc (.cells #[.int .u8 kd, .int .i64 n] 35)).alloc (.cells #[.slice none 0 0, .bool false] 48)).alloc
    (.cells #[.pointer none, .pointer (some ⟨w.heap.size + 1, 0, none⟩)] 26)) w.heap.size (w.heap.size + 1) (w.heap.size + 1 + 1) n := by
  refine ⟨?_, ?_, ?_, ?_⟩
  · have h : Row (w.alloc (.cells #[.int .u8 kd, .int .i64 n] 35)) w.heap.size 35 #[.int .u8 kd, .int .i64 n] := heap_alloc_new w _
    exact ((h.keep (below_new _ _)).keep (below_new _ _)).cell 1
  · exact (row_new (by simp)).cell 0
  · exact (row_new (by simp)).cell 1
  · have h : Row ((w.alloc (.cells #[.int .u8 kd, .int .i64 n] 35)).alloc (.cells #[.slice none 0 0, .bool false] 48)) (w.heap.size + 1) 48 #[.slice none 0 0, .bool false] := heap_alloc2_new w _ _
    exact h.keep (below_new _ _)

set_option maxHeartbeats 1000000 in
theorem walk (kd : Int) (n : Int) (w : World) : Calls Try.prog 5 #[.agg #[.int .u8 kd, .int .i64 n]] w fun e w' => e = .returned (.bool true) ∧ Below w.heap.size w w' := by
  go_enter Try.func5, Try.ntmps5
  go_wp2_with fail
  have hS := scene w kd n
  have hb := ((below_new w (.cells #[.int .u8 kd, .int .i64 n] 35)).alloc (by simp) (.cells #[.slice none 0 0, .bool false] 48)).alloc (by simp; omega) (.cells #[.pointer none, .pointer (some ⟨w.heap.size + 1, 0, none⟩)] 26)
  generalize ((w.alloc (.cells #[.int .u8 kd, .int .i64 n] 35)).alloc (.cells #[.slice none 0 0, .bool false] 48)).alloc
    (.cells #[.pointer none, .pointer (some ⟨w.heap.size + 1, 0, none⟩)] 26) = W at hS hb ⊢
  generalize w.heap.size + 1 + 1 = l at hS ⊢
  generalize w.heap.size + 1 = g at hS ⊢
  have HS := veil hS
  clear hS
  go_loopw [5] (fun i wr => ∃ j : Nat, j ≤ 2 ∧ i = .int .i64 j ∧ Hid (Scene wr w.heap.size g l n) ∧ Below w.heap.size w wr) (fun i _ => 2 - (intOf i).toNat)
  case atStart => exact ⟨0, Nat.zero_le _, rfl, HS, hb⟩
  case round =>
    obtain ⟨j, hj, rfl, hSr, hbr⟩ := hrel
    clear HS hb
    obtain ⟨hk, h0, h1, hs⟩ := hSr.out
    match j, hj with
    | 0, _ =>
      clear h1
      go_wp2_with fail
      go_quiet ((first
        | (go_at_call 23; exact quiet_as (num_nil n _))
        | (go_at_call 24; exact quiet_as (bytes_nil n _))
        | (go_at_call 17; exact quiet_as (rest_nil _))
        | (go_at_call 14; exact quiet_as (left_nil _))
        | (go_at_call 15; exact quiet_as (bad_nil _))))
      go_wp2_with fail
      go_roundw
      case rel => exact ⟨1, by omega, by go_num, hSr, below_still hbr ⟨_, rfl⟩⟩
      case measure => simp [intOf]
    | 1, _ =>
      clear h0
      have HT := veil hs
      clear hs
      go_wp2_with fail
      go_quiet ((first
        | (go_at_call 23; exact quiet_as (Spoilt.num_ (HT.out.drewN _) n))
        | (go_at_call 24; exact quiet_as (Spoilt.bytes_ (HT.out.drewN _) n))
        | (go_at_call 17; exact quiet_as (Spoilt.rest_ (HT.out.drewN _)))
        | (go_at_call 14; exact quiet_as (Spoilt.left_ (HT.out.drewN _)))
        | (go_at_call 15; exact quiet_as (Spoilt.bad_ (HT.out.drewN _)))))
      go_wp2_with fail
      go_roundw
      case rel => exact ⟨2, by omega, by go_num, hSr, below_still hbr ⟨_, rfl⟩⟩
      case measure => simp [intOf]
    | 2, _ =>
      clear hk h0 h1 hs hSr
      go_wp2_with fail
      refine (lives_true _).mono ?_
      rintro e w' ⟨rfl, hw⟩
      go_wp2_with fail
      go_ret
      exact ⟨rfl, hbr.trans (hw.mono hbr.size)⟩

theorem own : ownKnob Try.prog.godebug = none := by kernel_rfl
theorem readable : ∀ t ∈ Try.f5.params.toList, Try.prog.readableRec t = true ∧ t < Try.prog.types.size := by
  rw [Try.params5]
  intro t ht
  simp at ht
  subst ht
  exact ⟨by kernel_rfl, of_decide_eq_true (by kernel_rfl)⟩
theorem cellsAsk : Try.prog.cellsOf 35 = 2 := by kernel_rfl

set_option maxRecDepth 100000 in
theorem lifted (os : Os) (started : os.Started) (H : Type) (enc : TypeId × Value → H) :
    ReturnsInHanded {} Try.checked os 5 .any (Rows.octetsVoidSpec.pre6 enc Try.prog Try.f5 Rows.octetsVoidRow.domain false) (Rows.octetsVoidSpec.post enc Try.prog Try.f5 false true false false) := by
  refine returnsInHanded_of_change (C := Try.checked) own started (by kernel_rfl) Try.func5
    (ChangeSpec.witness6 (enc := enc) (C := Try.checked) false ⟨#[], #[.agg #[.int .u8 0, .int .i64 0]], []⟩ 8 (by kernel_rfl) (by kernel_rfl) (by kernel_rfl) (by kernel_rfl)) ?_
  intro W base args ds gs before hval0 hW _ _
  have hval : ∀ (j : Nat) t v, Try.f5.params[j]? = some t → args[j]? = some v → Value.okWide Try.prog W .any base t v := hval0
  have hW' := hW
  obtain ⟨p, q, hA0, hV, rfl, _, _⟩ := hW
  have hA : DataW.TrodAll enc Try.prog W 0 (fun _ => true) true Try.f5.params.toList args.toList ds p := hA0
  rw [Try.params5] at hA hval
  obtain ⟨v0, d0, rfl, rfl, h0⟩ := trodAll_one hA
  obtain ⟨rfl, rfl⟩ := trodVars_none hV
  obtain ⟨c0, c1, y0, y1, m, rfl, rfl, rfl, hy0, hy1⟩ := Go.Joins.open_agg2 Try.underlying35 (by kernel_rfl) cellsAsk (hval 0 35 v0 rfl rfl) h0
  obtain ⟨a, e0, rfl, wa⟩ := DataW.trod_int Try.underlying5 hy0
  obtain ⟨b, e1, rfl, wb⟩ := DataW.trod_int Try.underlying3 hy1
  simp at e0 e1
  subst e0 e1
  refine (walk a b W).mono fun e W' ⟨he, hb⟩ => ?_
  subst he
  exact ⟨_, rfl, law_post (by kernel_rfl) rfl rfl Try.underlying4 readable hW' rfl hb⟩

/-- OctetsVoid, as given -/
theorem holds : Rows.OctetsVoidSaid :=
  OpenClaim.holds_of_wide 5 Try.f5 rfl rfl rfl rfl rfl rfl rfl ⟨rfl, rfl, rfl, rfl, rfl⟩ rfl rfl rfl rfl rfl (by kernel_rfl) Try.func5 (by kernel_rfl)
    (of_decide_eq_true (by kernel_rfl)) (by unfold Func.isWrapper; first | (rw [if_pos (by decide +kernel)]; kernel_rfl) | (rw [if_neg (by decide +kernel)]; exact ⟨rfl, rfl⟩))
    (fun os started H enc _ => lifted os started H enc)

#print axioms holds

end Go.Proofs.Ytddmjenhpbbocaa.octetsVoid
