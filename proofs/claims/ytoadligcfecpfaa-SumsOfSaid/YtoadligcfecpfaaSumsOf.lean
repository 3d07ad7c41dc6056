/-
  SumsOf: of whatever lists of bytes the checksum is the chapter's, of all of them, one behind the other; the bytes stay: the law returns true for every input, and its arguments read as before.
  Conditions: none.
-/
import Derived.Test.YtoadligcfecpfaaSumRo
import Derived.Test.YtoadligcfecpfaaOpen
import Derived.Test.YtoadligcfecpfaaTwin
namespace Go.Proofs.Ytoadligcfecpfaa.sumsOf
open Go.ChangeShapes Go.WideShapes Go.ChangeAt Go.RowKit

set_option maxHeartbeats 2000000 in
theorem walk (A B C : Option Addr) (m1 c1 m2 c2 m3 c3 : Nat) (xs ys zs : List Int) (w : World) (hl1 : xs.length = m1) (hl2 : ys.length = m2) (hl3 : zs.length = m3) (hm1 : m1 ≤ 5000) (hm2 : m2 ≤ 5000) (hm3 : m3 ≤ 5000)
    (hS1 : Slc w (.slice A m1 c1) xs) (hS2 : Slc w (.slice B m2 c2) ys) (hS3 : Slc w (.slice C m3 c3) zs) (hb1 : Byt xs) (hb2 : Byt ys) (hb3 : Byt zs) :
    Calls Try.prog 3 #[.slice A m1 c1, .slice B m2 c2, .slice C m3 c3] w fun e w' => e = .returned (.bool true) ∧ Below w.heap.size w w' := by
  have HL1 := veil hl1
  have HL2 := veil hl2
  have HL3 := veil hl3
  have S1 := veil hS1
  have S2 := veil hS2
  have S3 := veil hS3
  have Y1 := veil hb1
  have Y2 := veil hb2
  have Y3 := veil hb3
  clear hl1 hl2 hl3 hS1 hS2 hS3 hb1 hb2 hb3
  go_enter Try.func3, Try.ntmps3
  go_wp2_with fail
  refine (twinBytes_any B m2 c2 ys _ HL2.out (by omega) (slc_rd S2.out).1).mono ?_
  rintro e w1 ⟨rfl, hw1⟩
  have t1 : TwinAt w1 w.heap.size ys := by subst hw1; exact row_new rfl
  have b1 : Below w.heap.size w w1 := by subst hw1; exact below_new _ _
  have T1 := veil t1
  obtain ⟨v2, w2, H2, O2, G2, _⟩ := run_append_slc w1 w1.heap.size 22 (.slice none 0 0) (.slice A m1 c1) [] xs (own_nil _ _) (S1.out.keep b1) (by rw [HL1.out]; simp; omega) (Nat.le_refl _)
  rw [List.nil_append] at O2
  have q2 : Below w1.heap.size w1 w2 := own_below (own_nil w1 w1.heap.size) G2 (Below.refl _ _) (Nat.le_refl _)
  obtain ⟨v3, w3, H3, O3, G3, _⟩ := run_append_slc w2 w1.heap.size 22 v2 (.slice B m2 c2) xs ys O2 ((S2.out.keep b1).keep q2) (by rw [HL1.out, HL2.out]; omega) q2.size
  have q3 : Below w1.heap.size w1 w3 := own_below O2 G3 q2 q2.size
  obtain ⟨v4, w4, H4, O4, G4, _⟩ := run_append_slc w3 w1.heap.size 22 v3 (.slice C m3 c3) (xs ++ ys) zs O3 ((S3.out.keep b1).keep q3) (by rw [List.length_append, HL1.out, HL2.out, HL3.out]; omega) q3.size
  have q4 : Below w1.heap.size w1 w4 := own_below O3 G4 q3 q3.size
  obtain ⟨A4, k4, rfl, hr4, _⟩ := O4.slc.slice
  obtain ⟨m4, hm4⟩ : ∃ m4, (xs ++ ys ++ zs).length = m4 := ⟨_, rfl⟩
  have hm4' : m4 ≤ 15000 := by rw [← hm4, List.length_append, List.length_append, HL1.out, HL2.out, HL3.out]; omega
  rw [hm4] at H4
  have HM4 := veil hm4
  have R4 := veil hr4
  have HR2 := veil H2
  have HR3 := veil H3
  have HR4 := veil H4
  have T4 := veil (t1.keep q4)
  have b4 := b1.trans (q4.mono b1.size)
  clear hw1 t1 H2 O2 G2 q2 H3 O3 G3 q3 H4 O4 G4 q4 hm4 hr4 b1 T1
  go_wp2_with (first
    | (at_builtin; refine wpList_append_run rfl (.const (.slice none 0 0)) (.tmp 25) rfl rfl rfl HR2.out ?_)
    | (at_builtin; refine wpList_append_run rfl (.tmp 26) (.tmp 27) rfl rfl rfl HR3.out ?_)
    | (at_builtin; refine wpList_append_run rfl (.tmp 28) (.tmp 29) rfl rfl rfl HR4.out ?_))
  clear HR2 HR3 HR4
  have r5 := row_new (w := w4) (cs := #[.slice A m1 c1, .slice (some ⟨w.heap.size, 0, none⟩) m2 (m2 + 4), .slice C m3 c3]) (t := 22) rfl
  have q5 := below_new w4 (.cells #[.slice A m1 c1, .slice (some ⟨w.heap.size, 0, none⟩) m2 (m2 + 4), .slice C m3 c3] 22)
  have b5 := b4.trans (q5.mono b4.size)
  have T5 := veil (T4.out.keep q5)
  have R5 := veil (R4.out.keep q5)
  have K5 := veil (of3 _ _ _ _ _ xs ys zs _ r5 (S1.out.keep b5) Y1.out (by rw [HL1.out]; unfold maxLen; omega) (.inr ⟨_, m2 + 4, by rw [HL2.out], TwinAt.rd T5.out, by rw [HL2.out]; omega⟩) Y2.out (by rw [HL2.out]; unfold maxLen; omega) (S3.out.keep b5) Y3.out (by rw [HL3.out]; unfold maxLen; omega))
  generalize w4.alloc (.cells #[.slice A m1 c1, .slice (some ⟨w.heap.size, 0, none⟩) m2 (m2 + 4), .slice C m3 c3] 22) = w5 at *
  clear r5 q5 b4 T4 R4
  refine (K5.out).mono ?_
  rintro e w6 ⟨rfl, q6⟩
  have b6 := b5.trans (q6.mono b5.size)
  have T6 := veil (T5.out.keep q6)
  have R6 := veil (R5.out.keep q6)
  clear K5 q6 b5 T5 R5
  rw [← List.append_assoc]
  have K6 := veil (refOf_any A4 m4 k4 (xs ++ ys ++ zs) w6 HM4.out (by omega) R6.out (byt_append (byt_append Y1.out Y2.out) Y3.out))
  generalize ck (xs ++ ys ++ zs) = s1 at *
  clear R6
  go_wp2_with fail
  refine (K6.out).mono ?_
  rintro e w7 ⟨rfl, rfl⟩
  clear K6
  go_wp2_with fail
  have r7 := row_new (w := w6) (cs := #[.slice (some ⟨w.heap.size, 0, none⟩) m2 (m2 + 4)]) (t := 22) rfl
  have q7 := below_new w6 (.cells #[.slice (some ⟨w.heap.size, 0, none⟩) m2 (m2 + 4)] 22)
  have b7 := b6.trans (q7.mono b6.size)
  have T7 := veil (T6.out.keep q7)
  have K7 := veil (of1 _ _ _ ys _ r7 (.inr ⟨_, m2 + 4, by rw [HL2.out], TwinAt.rd T7.out, by rw [HL2.out]; omega⟩) Y2.out (by rw [HL2.out]; unfold maxLen; omega))
  generalize w6.alloc (.cells #[.slice (some ⟨w.heap.size, 0, none⟩) m2 (m2 + 4)] 22) = w7 at *
  clear r7 q7 b6 T6
  refine (K7.out).mono ?_
  rintro e w8 ⟨rfl, q8⟩
  have b8 := b7.trans (q8.mono b7.size)
  have T8 := veil (T7.out.keep q8)
  have K8 := veil (refOf_any B m2 c2 ys w8 HL2.out (by omega) (slc_rd (S2.out.keep b8)).1 Y2.out)
  generalize ck ys = s2 at *
  clear K7 q8 b7 T7
  go_wp2_with fail
  refine (K8.out).mono ?_
  rintro e w9 ⟨rfl, rfl⟩
  clear K8
  go_wp2_with fail
  refine (leftBytes_true _ _ m2 (m2 + 4) c2 ys _ HL2.out (by omega) T8.out (slc_rd (S2.out.keep b8)).1 (by omega)).mono ?_
  rintro e w10 ⟨rfl, hw10⟩
  have b10 := below_still b8 hw10
  clear hw10 b8 T8
  go_wp2_with fail
  refine (lives_true _).mono ?_
  rintro e w11 ⟨rfl, q11⟩
  have b11 := b10.trans (q11.mono b10.size)
  go_wp2_with fail
  go_ret
  exact ⟨rfl, b11⟩

/-- more than are gone through -/
theorem walk_more (A B C : Option Addr) (m1 c1 m2 c2 m3 c3 : Nat) (w : World) (h : 5000 < m1 ∨ 5000 < m2 ∨ 5000 < m3) :
    Calls Try.prog 3 #[.slice A m1 c1, .slice B m2 c2, .slice C m3 c3] w fun e w' => e = .returned (.bool true) ∧ Below w.heap.size w w' := by
  by_cases h1 : 5000 < m1
  · go_enter Try.func3, Try.ntmps3
    go_wp2_with fail
    refine (lives_true _).mono ?_
    rintro e w8 ⟨rfl, hw8⟩
    go_wp2_with fail
    go_ret
    exact ⟨rfl, hw8⟩
  · by_cases h2 : 5000 < m2
    · go_enter Try.func3, Try.ntmps3
      go_wp2_with fail
      refine (lives_true _).mono ?_
      rintro e w8 ⟨rfl, hw8⟩
      go_wp2_with fail
      go_ret
      exact ⟨rfl, hw8⟩
    · have h3 : 5000 < m3 := by omega
      go_enter Try.func3, Try.ntmps3
      go_wp2_with fail
      refine (lives_true _).mono ?_
      rintro e w8 ⟨rfl, hw8⟩
      go_wp2_with fail
      go_ret
      exact ⟨rfl, hw8⟩

theorem own : ownKnob Try.prog.godebug = none := by kernel_rfl
theorem readable : ∀ t ∈ Try.f3.params.toList, Try.prog.readableRec t = true ∧ t < Try.prog.types.size := by
  rw [Try.params3]
  intro t ht
  simp at ht
  subst ht
  exact ⟨by kernel_rfl, of_decide_eq_true (by kernel_rfl)⟩

set_option maxRecDepth 100000 in
theorem lifted (os : Os) (started : os.Started) (H : Type) (enc : TypeId × Value → H) :
    ReturnsInHanded {} Try.checked os 3 .any (Rows.sumsOfSpec.pre6 enc Try.prog Try.f3 Rows.sumsOfRow.domain false) (Rows.sumsOfSpec.post enc Try.prog Try.f3 false true false false) := by
  refine returnsInHanded_of_change (C := Try.checked) own started (by kernel_rfl) Try.func3
    (ChangeSpec.witness6 (enc := enc) (C := Try.checked) false ⟨#[], #[.slice none 0 0, .slice none 0 0, .slice none 0 0], []⟩ 8 (by kernel_rfl) (by kernel_rfl) (by kernel_rfl) (by kernel_rfl)) ?_
  intro W base args ds gs before hval0 hW _ _
  have hval : ∀ (j : Nat) t v, Try.f3.params[j]? = some t → args[j]? = some v → Value.okWide Try.prog W .any base t v := hval0
  have hW' := hW
  obtain ⟨p, q, hA0, hV, rfl, _, _⟩ := hW
  have hA : DataW.TrodAll enc Try.prog W 0 (fun _ => true) true Try.f3.params.toList args.toList ds p := hA0
  rw [Try.params3] at hA hval
  obtain ⟨v0, vs0, d0, ds0, p0, q0, hargs, rfl, rfl, h0, r0⟩ := trodAll_cons hA
  obtain ⟨v1, vs1, d1, ds1, p1, q1, rfl, rfl, rfl, h1, r1⟩ := trodAll_cons r0
  obtain ⟨v2, vs2, d2, ds2, p2, q2, rfl, rfl, rfl, h2, r2⟩ := trodAll_cons r1
  obtain ⟨rfl, rfl, rfl⟩ := trodAll_nil r2
  obtain rfl : args = #[v0, v1, v2] := by cases args; simp_all
  obtain ⟨rfl, rfl⟩ := trodVars_none hV
  obtain ⟨A, m1, c1, xs, rfl, hS1, hz1, hY1⟩ := open_bytes (hval 0 22 v0 rfl rfl) h0
  obtain ⟨B, m2, c2, ys, rfl, hS2, hz2, hY2⟩ := open_bytes (hval 1 22 v1 rfl rfl) h1
  obtain ⟨C, m3, c3, zs, rfl, hS3, hz3, hY3⟩ := open_bytes (hval 2 22 v2 rfl rfl) h2
  have hw : Calls Try.prog 3 #[.slice A m1 c1, .slice B m2 c2, .slice C m3 c3] W fun e w' => e = .returned (.bool true) ∧ Below W.heap.size W w' := by
    by_cases hs : m1 ≤ 5000 ∧ m2 ≤ 5000 ∧ m3 ≤ 5000
    · exact walk A B C m1 c1 m2 c2 m3 c3 xs ys zs W hz1 hz2 hz3 hs.1 hs.2.1 hs.2.2 hS1 hS2 hS3 hY1 hY2 hY3
    · exact walk_more A B C m1 c1 m2 c2 m3 c3 W (by omega)
  refine hw.mono fun e W' ⟨he, hb⟩ => ?_
  subst he
  exact ⟨_, rfl, law_post (by kernel_rfl) rfl rfl Try.underlying4 readable hW' rfl hb⟩

/-- SumsOf, as given -/
theorem holds : Rows.SumsOfSaid :=
  OpenClaim.holds_of_wide 3 Try.f3 rfl rfl rfl rfl rfl rfl rfl ⟨rfl, rfl, rfl, rfl, rfl⟩ rfl rfl rfl rfl rfl (by kernel_rfl) Try.func3 (by kernel_rfl)
    (of_decide_eq_true (by kernel_rfl)) (by unfold Func.isWrapper; first | (rw [if_pos (by decide +kernel)]; kernel_rfl) | (rw [if_neg (by decide +kernel)]; exact ⟨rfl, rfl⟩))
    (fun os started H enc _ => lifted os started H enc)

#print axioms holds
end Go.Proofs.Ytoadligcfecpfaa.sumsOf
