/-
  DrawsVoid: words that are not there, or that no call made, take none, and are all 0: the law returns true for every input, and its arguments read as before.
  Conditions: none.
-/
import Derived.Test.YtmjpmagfbiocnaaDrwL
import Derived.Test.YtmjpmagfbiocnaaOpenK
namespace Go.Proofs.Ytmjpmagfbiocnaa.drawsVoid
open Go.ChangeShapes Go.WideShapes Go.ChangeAt Go.RowKit Go.Proofs.Ytmjpmagfbiocnaa.W32

/-- the law's own memory: the words that no call made at g, the list of both at l -/
def Scene (w : World) (g l : Nat) : Prop := w.cell? ⟨l, 0, none⟩ = some (.pointer none) ∧ w.cell? ⟨l, 1, none⟩ = some (.pointer (some ⟨g, 0, none⟩)) ∧ Raw w g
theorem scene (w : World) : Scene ((w.alloc (.cells (fresh false) 43)).alloc (.cells #[.pointer none, .pointer (some ⟨w.heap.size, 0, none⟩)] 25)) w.heap.size (w.heap.size + 1) := by
  refine ⟨?_, ?_, ?_⟩
  · exact (row_new (by simp)).cell 0
  · exact (row_new (by simp)).cell 1
  · exact (raw_new w).keep (below_new _ _)

theorem walk (A : Option Addr) (n c : Nat) (b : Int) (w : World) (hb : 0 ≤ b ∧ b ≤ 4294967295) : Calls Try.prog 4 #[.slice A n c, .int .u32 b] w fun e w' => e = .returned (.bool true) ∧ Below w.heap.size w w' := by
  have HB := veil hb
  clear hb
  go_enter Try.func4, Try.ntmps4
  go_wp2_with (refine wpList_alloc_of rfl 43 rfl (run_alloc _) ?_)
  have hS := scene w
  have hb := (below_new w (.cells (fresh false) 43)).alloc (by simp) (.cells #[.pointer none, .pointer (some ⟨w.heap.size, 0, none⟩)] 25)
  generalize (w.alloc (.cells (fresh false) 43)).alloc (.cells #[.pointer none, .pointer (some ⟨w.heap.size, 0, none⟩)] 25) = W at hS hb ⊢
  generalize w.heap.size + 1 = l at hS ⊢
  have HS := veil hS
  clear hS
  go_loopw [7] (fun i wr => ∃ j : Nat, j ≤ 2 ∧ i = .int .i64 j ∧ wr = W) (fun i _ => 2 - (intOf i).toNat)
  case atStart => exact ⟨0, Nat.zero_le _, rfl, rfl⟩
  case round =>
    obtain ⟨j, hj, rfl, rfl⟩ := hrel
    obtain ⟨h0, h1, hs⟩ := HS.out
    match j, hj with
    | 0, _ =>
      clear h1
      go_wp2_with fail
      refine (feed_nil _ _ _ _).mono ?_
      rintro e w9 ⟨rfl, rfl⟩
      go_wp2_with fail
      refine (next_nil _).mono ?_
      rintro e w9 ⟨rfl, rfl⟩
      go_wp2_with fail
      refine (below_nil b HB.out _).mono ?_
      rintro e w9 ⟨rfl, rfl⟩
      go_wp2_with fail
      refine (len_nil _).mono ?_
      rintro e w9 ⟨rfl, rfl⟩
      go_wp2_with fail
      go_roundw
      case rel => exact ⟨1, by omega, by go_num, trivial⟩
      case measure => simp [intOf]
    | 1, _ =>
      clear h0
      go_wp2_with fail
      refine (feed_raw hs _ _ _).mono ?_
      rintro e w9 ⟨rfl, rfl⟩
      go_wp2_with fail
      refine (next_raw hs).mono ?_
      rintro e w9 ⟨rfl, rfl⟩
      go_wp2_with fail
      refine (below_raw b HB.out hs).mono ?_
      rintro e w9 ⟨rfl, rfl⟩
      go_wp2_with fail
      refine (len_raw hs).mono ?_
      rintro e w9 ⟨rfl, rfl⟩
      go_wp2_with fail
      go_roundw
      case rel => exact ⟨2, by omega, by go_num, trivial⟩
      case measure => simp [intOf]
    | 2, _ =>
      clear h0 h1
      go_wp2_with fail
      refine (lives_true _).mono ?_
      rintro e w9 ⟨rfl, q9⟩
      have b9 := hb.trans (q9.mono hb.size)
      go_wp2_with fail
      go_ret
      exact ⟨rfl, b9⟩

theorem own : ownKnob Try.prog.godebug = none := by kernel_rfl
theorem readable : ∀ t ∈ Try.f4.params.toList, Try.prog.readableRec t = true ∧ t < Try.prog.types.size := by
  rw [Try.params4]
  intro t ht
  simp at ht
  rcases ht with rfl | rfl
  · exact ⟨by kernel_rfl, of_decide_eq_true (by kernel_rfl)⟩
  · exact ⟨by kernel_rfl, of_decide_eq_true (by kernel_rfl)⟩

set_option maxRecDepth 100000 in
theorem lifted (os : Os) (started : os.Started) (H : Type) (enc : TypeId × Value → H) :
    ReturnsInHanded {} Try.checked os 4 .any (Rows.drawsVoidSpec.pre6 enc Try.prog Try.f4 Rows.drawsVoidRow.domain false) (Rows.drawsVoidSpec.post enc Try.prog Try.f4 false true false false) := by
  refine returnsInHanded_of_change (C := Try.checked) own started (by kernel_rfl) Try.func4
    (ChangeSpec.witness6 (enc := enc) (C := Try.checked) false ⟨#[], #[.slice none 0 0, .int .u32 0], []⟩ 8 (by kernel_rfl) (by kernel_rfl) (by kernel_rfl) (by kernel_rfl)) ?_
  intro W base args ds gs before hval0 hW _ _
  have hval : ∀ (j : Nat) t v, Try.f4.params[j]? = some t → args[j]? = some v → Value.okWide Try.prog W .any base t v := hval0
  have hW' := hW
  obtain ⟨p, q, hA0, hV, rfl, _, _⟩ := hW
  have hA : DataW.TrodAll enc Try.prog W 0 (fun _ => true) true Try.f4.params.toList args.toList ds p := hA0
  rw [Try.params4] at hA hval
  obtain ⟨v0, vs0, d0, ds0, p0, q0, hargs, rfl, rfl, h0, r0⟩ := trodAll_cons hA
  obtain ⟨v1, vs1, d1, ds1, p1, q1, rfl, rfl, rfl, h1, r1⟩ := trodAll_cons r0
  obtain ⟨rfl, rfl, rfl⟩ := trodAll_nil r1
  obtain rfl : args = #[v0, v1] := by cases args; simp_all
  obtain ⟨rfl, rfl⟩ := trodVars_none hV
  obtain ⟨A, m, c, zs, rfl, _, _, _, _⟩ := open_slice_ints Try.underlying28 Try.underlying31 (by kernel_rfl) (hval 0 28 v0 rfl rfl) h0
  obtain ⟨b, rfl, rfl, rfl, w1⟩ := open_int Try.underlying31 (hval 1 31 v1 rfl rfl) h1
  have u1 := u32_of' w1
  have hw : Calls Try.prog 4 #[.slice A m c, .int .u32 b] W fun e w' => e = .returned (.bool true) ∧ Below W.heap.size W w' := by
    exact walk A m c b W u1
  refine hw.mono fun e W' ⟨he, hb⟩ => ?_
  subst he
  exact ⟨_, rfl, law_post (by kernel_rfl) rfl rfl Try.underlying4 readable hW' rfl hb⟩

/-- DrawsVoid, as given -/
theorem holds : Rows.DrawsVoidSaid :=
  OpenClaim.holds_of_wide 4 Try.f4 rfl rfl rfl rfl rfl rfl rfl ⟨rfl, rfl, rfl, rfl, rfl⟩ rfl rfl rfl rfl rfl (by kernel_rfl) Try.func4 (by kernel_rfl)
    (of_decide_eq_true (by kernel_rfl)) (by unfold Func.isWrapper; first | (rw [if_pos (by decide +kernel)]; kernel_rfl) | (rw [if_neg (by decide +kernel)]; exact ⟨rfl, rfl⟩))
    (fun os started H enc _ => lifted os started H enc)

#print axioms holds
end Go.Proofs.Ytmjpmagfbiocnaa.drawsVoid
