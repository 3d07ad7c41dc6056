/-
  TimersFull: so many timers as may be are armed, and no other one; but each of them may get another time, and one that is cancelled makes room: the law returns true for every input, and its arguments read as before.
  Conditions: none.
-/
import Derived.Test.YtkjgmimfnmilfaaTmrL
import Derived.Test.YtkjgmimfnmilfaaTmrZ
import Derived.Test.YtkjgmimfnmilfaaTmrA
import Derived.Test.YtkjgmimfnmilfaaLaw
namespace Go.Proofs.Ytkjgmimfnmilfaa.timersFull
open Go.ChangeShapes Go.WideShapes Go.ChangeAt Go.RowKit Go.Proofs.Ytkjgmimfnmilfaa.Tm5

/-- timer i of those that are armed -/
def kf (fr : Int) (i : Nat) : Tk := ⟨((i % 3 : Nat) : Int), IntKind.u64.wrap (fr + i)⟩
def tf (fr a : Int) (i : Nat) : Tm := ⟨kf fr i, IntKind.u64.wrap (a + i)⟩
def lf (fr a : Int) (j : Nat) : List Tm := (List.range j).map (tf fr a)
theorem lf_len (fr a : Int) (j : Nat) : (lf fr a j).length = j := by simp [lf]
theorem lf_next (fr a : Int) (j : Nat) : lf fr a (j + 1) = lf fr a j ++ [tf fr a j] := by simp [lf, List.range_succ]
theorem kf_ok (fr : Int) (i : Nat) : (kf fr i).ok := by
  unfold kf
  refine ⟨by simp only []; omega, by simp only []; omega, ?_, ?_⟩ <;> (simp only []; rw [IntKind.wrap_u64]; omega)
theorem tf_ok (fr a : Int) (i : Nat) : (tf fr a i).ok := ⟨kf_ok fr i, by unfold tf; simp only []; rw [IntKind.wrap_u64]; omega, by unfold tf; simp only []; rw [IntKind.wrap_u64]; omega⟩
theorem lf_not (fr a : Int) (j : Nat) (hj : j < 256) : has (lf fr a j) (tf fr a j).k = false := by
  rw [has_no]
  intro y hy e
  obtain ⟨i, hi, rfl⟩ := List.mem_map.1 hy
  have hi := List.mem_range.1 hi
  have e1 : IntKind.u64.wrap (fr + i) = IntKind.u64.wrap (fr + j) := congrArg Tk.id e
  rw [IntKind.wrap_u64, IntKind.wrap_u64] at e1
  omega
theorem lf_seven (fr a : Int) (j : Nat) (z : Int) : has (lf fr a j) ⟨7, z⟩ = false := by
  rw [has_no]
  intro y hy e
  obtain ⟨i, hi, rfl⟩ := List.mem_map.1 hy
  have e1 : ((i % 3 : Nat) : Int) = 7 := congrArg Tk.kd e
  omega
theorem lf_has (fr a : Int) (j i : Nat) (h : i < j) : has (lf fr a j) (kf fr i) = true := has_yes.2 ⟨tf fr a i, List.mem_map.2 ⟨i, List.mem_range.2 h, rfl⟩, rfl⟩

set_option maxRecDepth 20000 in
set_option maxHeartbeats 4000000 in
theorem walk (fr a b : Int) (w : World) (hf : 0 ≤ fr ∧ fr ≤ 18446744073709551615) (ha : 0 ≤ a ∧ a ≤ 18446744073709551615) (hb : 0 ≤ b ∧ b ≤ 18446744073709551615) :
    Calls Try.prog 6 #[.int .u64 fr, .int .u64 a, .int .u64 b] w fun e w' => e = .returned (.bool true) ∧ Below w.heap.size w w' := by
  have HF := veil hf
  have HA := veil ha
  have HBB := veil hb
  clear hf ha hb
  go_enter Try.func6, Try.ntmps6
  go_wp2_with fail
  refine (sd_new w).mono ?_
  rintro e w1 ⟨rfl, h1⟩
  have H1 := veil h1
  clear h1
  generalize w.heap.size + 2 = s at *
  go_wp2_with fail
  go_loopw [8] (fun i wr => ∃ j : Nat, j ≤ 256 ∧ i = .int .u64 j ∧ Hid (Sd w wr s (lf fr a j) [])) (fun i _ => 256 - (intOf i).toNat)
  case atStart => exact ⟨0, Nat.zero_le _, rfl, H1⟩
  case round =>
    clear H1
    obtain ⟨j, hj, rfl, hS⟩ := hrel
    by_cases hlt : j < 256
    · have hlt' : (j : Int) < 256 := by omega
      have hj3 : ((j : Int).tmod 3) = ((j % 3 : Nat) : Int) := by rw [Int.tmod_eq_emod_of_nonneg (by omega)]; omega
      have hj4 : j % 3 < 3 := by omega
      have ET : Hid (tf fr a j = ⟨⟨((j % 3 : Nat) : Int), IntKind.u64.wrap (fr + j)⟩, IntKind.u64.wrap (a + j)⟩) := rfl
      generalize j % 3 = r at hj3 hj4 ET
      clear hj hlt
      go_wp2_with fail
      refine (timer_any _ _ _).mono ?_
      rintro e w2 ⟨rfl, h2⟩
      have H2 := veil (hS.out.keep h2)
      clear h2 hS
      go_wp2_with fail
      refine (sd_arm H2.out ⟨⟨r, IntKind.u64.wrap (fr + j)⟩, IntKind.u64.wrap (a + j)⟩ (by rw [← ET.out]; exact tf_ok fr a j) (.inr (by rw [lf_len]; omega)) (lf fr a (j + 1)) (by rw [← ET.out, put_new (lf_not fr a j (by omega)), lf_next])).mono ?_
      rintro e w3 ⟨rfl, h3⟩
      have H3 := veil h3
      clear h3 H2 ET
      go_wp2_with fail
      go_roundw
      case rel => exact ⟨j + 1, by omega, by go_num, H3⟩
      case measure => simp [intOf]; omega
    · have hj2 : j = 256 := by omega
      have hS' : Hid (Sd w wr s (lf fr a 256) []) := by rw [hj2] at hS; exact hS
      have hlt' : ¬ (j : Int) < 256 := by omega
      have hle' : (256 : Int) ≤ (j : Int) := by omega
      clear hS hj hlt hj2
      have H := hS'
      clear hS'
      have K0 : Hid (kf fr 0 = ⟨0, fr⟩) := by
        show kf fr 0 = ⟨0, fr⟩
        have := HF.out
        unfold kf
        congr 1
        rw [IntKind.wrap_u64]
        simp
        omega
      have OK7 := veil (ok_mk 7 fr ⟨by omega, by omega, HF.out.1, HF.out.2⟩)
      have OK0 := veil (ok_mk 0 fr ⟨by omega, by omega, HF.out.1, HF.out.2⟩)
      have OK1 : Hid (Tk.ok ⟨1, IntKind.u64.wrap (fr + 1)⟩) := kf_ok fr 1
      -- the set, and what is known of it
      have I1 : Hid ((put (lf fr a 256) ⟨⟨0, fr⟩, b⟩).length = 256) := by
        show _ = _
        rw [put_len_old (by show has _ (⟨0, fr⟩ : Tk) = true; rw [← K0.out]; exact lf_has fr a 256 0 (by omega)), lf_len]
      have N7 : Hid (has (put (lf fr a 256) ⟨⟨0, fr⟩, b⟩) ⟨7, fr⟩ = false) := by
        show _ = _
        rw [has_put, lf_seven]
        rfl
      have Y0 : Hid (has (put (lf fr a 256) ⟨⟨0, fr⟩, b⟩) ⟨0, fr⟩ = true) := by
        show _ = _
        rw [has_put]
        simp [sameK]
      have Y1 : Hid (has (put (lf fr a 256) ⟨⟨0, fr⟩, b⟩) ⟨1, IntKind.u64.wrap (fr + 1)⟩ = true) := by
        show _ = _
        rw [has_put, show has (lf fr a 256) ⟨1, IntKind.u64.wrap (fr + 1)⟩ = true from lf_has fr a 256 1 (by omega)]
        simp
      have TB : Hid (tm (put (lf fr a 256) ⟨⟨0, fr⟩, b⟩) ⟨0, fr⟩ = b) := tm_put (x := ⟨⟨0, fr⟩, b⟩) H.out.kn
      have KN : Hid (Kn (put (lf fr a 256) ⟨⟨0, fr⟩, b⟩)) := kn_put H.out.kn
      go_wp2_with fail
      refine (timer_any _ _ _).mono ?_
      rintro e w2 ⟨rfl, h2⟩
      have H := veil (H.out.keep h2)
      clear h2
      go_wp2_with fail
      refine (sd_full H.out ⟨7, fr⟩ b OK7.out (lf_seven fr a 256 fr) (lf_len fr a 256)).mono ?_
      rintro e w3 ⟨rfl, h3⟩
      have H := veil h3
      clear h3
      go_wp2_with fail
      refine (sd_len H.out 256 (lf_len fr a 256)).mono ?_
      rintro e w4 ⟨rfl, rfl⟩
      go_wp2_with fail
      refine (timer_any _ _ _).mono ?_
      rintro e w5 ⟨rfl, h5⟩
      have H := veil (H.out.keep h5)
      clear h5
      go_wp2_with fail
      refine (sd_arm H.out ⟨⟨0, fr⟩, b⟩ ⟨OK0.out, HBB.out.1, HBB.out.2⟩ (.inl (by show has _ (⟨0, fr⟩ : Tk) = true; rw [← K0.out]; exact lf_has fr a 256 0 (by omega))) _ rfl).mono ?_
      rintro e w6 ⟨rfl, h6⟩
      have H := veil h6
      clear h6 K0
      generalize put (lf fr a 256) ⟨⟨0, fr⟩, b⟩ = L at *
      go_wp2_with fail
      refine (sd_len H.out 256 I1.out).mono ?_
      rintro e w7 ⟨rfl, rfl⟩
      go_wp2_with fail
      refine (timer_any _ _ _).mono ?_
      rintro e w8 ⟨rfl, h8⟩
      have H := veil (H.out.keep h8)
      clear h8
      go_wp2_with fail
      refine (sd_at H.out ⟨0, fr⟩ OK0.out b true TB.out Y0.out).mono ?_
      rintro e w9 ⟨rfl, h9⟩
      have H := veil h9
      clear h9
      go_wp2_with fail
      refine (timer_any _ _ _).mono ?_
      rintro e w10 ⟨rfl, h10⟩
      have H := veil (H.out.keep h10)
      clear h10
      go_wp2_with fail
      refine (sd_at H.out ⟨7, fr⟩ OK7.out 0 false (tm_none N7.out) N7.out).mono ?_
      rintro e w11 ⟨rfl, h11⟩
      have H := veil h11
      clear h11
      go_wp2_with fail
      refine (timer_any _ _ _).mono ?_
      rintro e w12 ⟨rfl, h12⟩
      have H := veil (H.out.keep h12)
      clear h12
      go_wp2_with fail
      refine (sd_cancel H.out ⟨7, fr⟩ OK7.out false N7.out L (del_none N7.out)).mono ?_
      rintro e w13 ⟨rfl, h13⟩
      have H := veil h13
      clear h13
      have hw1 : ∃ z, z = IntKind.u64.wrap (fr + 1) := ⟨_, rfl⟩
      obtain ⟨z, hz⟩ := hw1
      go_wp2_with fail
      rw [← hz] at OK1 Y1 ⊢
      refine (timer_any _ _ _).mono ?_
      rintro e w14 ⟨rfl, h14⟩
      have H := veil (H.out.keep h14)
      clear h14
      have HZ := veil hz
      clear hz
      go_wp2_with fail
      refine (sd_cancel H.out ⟨1, z⟩ OK1.out true Y1.out _ rfl).mono ?_
      rintro e w15 ⟨rfl, h15⟩
      have H := veil h15
      clear h15
      go_wp2_with fail
      rw [← HZ.out]
      refine (timer_any _ _ _).mono ?_
      rintro e w16 ⟨rfl, h16⟩
      have H := veil (H.out.keep h16)
      clear h16
      have N1 : Hid (has (del L ⟨1, z⟩) ⟨1, z⟩ = false) := by
        show _ = _
        rw [has_del]
        simp [sameK]
      have N8 : Hid (has (del L ⟨1, z⟩) ⟨7, fr⟩ = false) := by
        show _ = _
        rw [has_del, N7.out]
        simp
      have I2 : Hid ((del L ⟨1, z⟩).length + 1 = 256) := by
        show _ = _
        rw [del_len' KN.out Y1.out, I1.out]
      go_wp2_with fail
      refine (sd_cancel H.out ⟨1, z⟩ OK1.out false N1.out _ (del_none N1.out)).mono ?_
      rintro e w17 ⟨rfl, h17⟩
      have H := veil h17
      clear h17
      generalize del L ⟨1, z⟩ = M at *
      go_wp2_with fail
      refine (timer_any _ _ _).mono ?_
      rintro e w18 ⟨rfl, h18⟩
      have H := veil (H.out.keep h18)
      clear h18
      go_wp2_with fail
      refine (sd_arm H.out ⟨⟨7, fr⟩, b⟩ ⟨OK7.out, HBB.out.1, HBB.out.2⟩ (.inr (by have := I2.out; omega)) _ rfl).mono ?_
      rintro e w19 ⟨rfl, h19⟩
      have H := veil h19
      clear h19
      go_wp2_with fail
      refine (sd_len H.out 256 (by rw [put_len_new N8.out]; exact I2.out)).mono ?_
      rintro e w20 ⟨rfl, rfl⟩
      go_wp2_with fail
      refine (lives_true _).mono ?_
      rintro e w21 ⟨rfl, q9⟩
      have b9 := veil (H.out.bel.trans (q9.mono H.out.bel.size))
      clear q9
      go_wp2_with fail
      go_ret
      exact ⟨rfl, b9.out⟩

theorem own : ownKnob Try.prog.godebug = none := by kernel_rfl
theorem readable : ∀ t ∈ Try.f6.params.toList, Try.prog.readableRec t = true ∧ t < Try.prog.types.size := by
  rw [Try.params6]
  intro t ht
  simp at ht
  subst ht
  exact ⟨by kernel_rfl, of_decide_eq_true (by kernel_rfl)⟩

set_option maxRecDepth 100000 in
theorem lifted (os : Os) (started : os.Started) (H : Type) (enc : TypeId × Value → H) :
    ReturnsInHanded {} Try.checked os 6 .any (Rows.timersFullSpec.pre6 enc Try.prog Try.f6 Rows.timersFullRow.domain false) (Rows.timersFullSpec.post enc Try.prog Try.f6 false true false false) := by
  refine returnsInHanded_of_change (C := Try.checked) own started (by kernel_rfl) Try.func6
    (ChangeSpec.witness6 (enc := enc) (C := Try.checked) false ⟨#[], #[.int .u64 0, .int .u64 0, .int .u64 0], []⟩ 8 (by kernel_rfl) (by kernel_rfl) (by kernel_rfl) (by kernel_rfl)) ?_
  intro W base args ds gs before hval0 hW _ _
  have hval : ∀ (j : Nat) t v, Try.f6.params[j]? = some t → args[j]? = some v → Value.okWide Try.prog W .any base t v := hval0
  have hW' := hW
  obtain ⟨p, q, hA0, hV, rfl, _, _⟩ := hW
  have hA : DataW.TrodAll enc Try.prog W 0 (fun _ => true) true Try.f6.params.toList args.toList ds p := hA0
  rw [Try.params6] at hA hval
  obtain ⟨v0, vs0, d0, ds0, p0, q0, hargs, rfl, rfl, h0, r0⟩ := trodAll_cons hA
  obtain ⟨v1, vs1, d1, ds1, p1, q1, rfl, rfl, rfl, h1, r1⟩ := trodAll_cons r0
  obtain ⟨v2, vs2, d2, ds2, p2, q2, rfl, rfl, rfl, h2, r2⟩ := trodAll_cons r1
  obtain ⟨rfl, rfl, rfl⟩ := trodAll_nil r2
  obtain rfl : args = #[v0, v1, v2] := by cases args; simp_all
  obtain ⟨rfl, rfl⟩ := trodVars_none hV
  obtain ⟨fr, rfl, rfl, rfl, w0⟩ := open_int Try.underlying31 (hval 0 31 v0 rfl rfl) h0
  obtain ⟨a, rfl, rfl, rfl, w1⟩ := open_int Try.underlying31 (hval 1 31 v1 rfl rfl) h1
  obtain ⟨b, rfl, rfl, rfl, w2⟩ := open_int Try.underlying31 (hval 2 31 v2 rfl rfl) h2
  have hw : Calls Try.prog 6 #[.int .u64 fr, .int .u64 a, .int .u64 b] W fun e w' => e = .returned (.bool true) ∧ Below W.heap.size W w' := by
    exact walk fr a b W (u64_wf w0) (u64_wf w1) (u64_wf w2)
  refine hw.mono fun e W' ⟨he, hb⟩ => ?_
  subst he
  exact ⟨_, rfl, law_post (by kernel_rfl) rfl rfl Try.underlying4 readable hW' rfl hb⟩

/-- TimersFull, as given -/
theorem holds : Rows.TimersFullSaid :=
  OpenClaim.holds_of_wide 6 Try.f6 rfl rfl rfl rfl rfl rfl rfl ⟨rfl, rfl, rfl, rfl, rfl⟩ rfl rfl rfl rfl rfl (by kernel_rfl) Try.func6 (by kernel_rfl)
    (of_decide_eq_true (by kernel_rfl)) (by unfold Func.isWrapper; first | (rw [if_pos (by decide +kernel)]; kernel_rfl) | (rw [if_neg (by decide +kernel)]; exact ⟨rfl, rfl⟩))
    (fun os started H enc _ => lifted os started H enc)

#print axioms holds
end Go.Proofs.Ytkjgmimfnmilfaa.timersFull
