/-
  ClocksGo: however a clock is moved, step by step, its time, and whether it may be moved so, is the chapter's: the law returns true for every input, and its arguments read as before.
  Conditions: none.
-/
import Derived.Test.YtecmcbnomcocoaaClkFn
import Derived.Test.YtecmcbnomcocoaaOpenK
namespace Go.Proofs.Ytecmcbnomcocoaa.clocksGo
open Go.ChangeShapes Go.WideShapes Go.ChangeAt Go.RowKit

/-- the clock, and the time beside it -/
def Stand (w wr : World) (t : Int) : Prop := 0 ≤ t ∧ t < 9223372036854775807 ∧ Clk wr w.heap.size t ∧ Below w.heap.size w wr

set_option maxHeartbeats 2000000 in
theorem walk (A : Option Addr) (m c : Nat) (zs : List Int) (w : World) (hl : zs.length = m) (hm : m ≤ 500) (hR : Rk .u64 w A zs) (hu : ∀ z ∈ zs, U z) :
    Calls Try.prog 4 #[.slice A m c] w fun e w' => e = .returned (.bool true) ∧ Below w.heap.size w w' := by
  have HL := veil hl
  have HR := veil hR
  have HU := veil hu
  clear hl hR hu
  go_enter Try.func4, Try.ntmps4
  go_wp2_with fail
  refine (new_any w).mono ?_
  rintro e w1 ⟨rfl, h1⟩
  have c1 : Hid (Stand w w1 0) := ⟨by omega, by omega, by subst h1; exact clk_new w, by subst h1; exact below_new w _⟩
  clear h1
  go_wp2_with fail
  go_loopw [4, 5] (fun n i wr => ∃ (j : Nat) (t : Int), j ≤ m ∧ n = .int .u64 t ∧ i = .int .i64 j ∧ Hid (Stand w wr t)) (fun _ i _ => m - (intOf i).toNat)
  case atStart => exact ⟨0, 0, Nat.zero_le _, rfl, rfl, c1⟩
  case round =>
    obtain ⟨j, t, hj, rfl, rfl, hS⟩ := hrel
    rename_i wr
    clear c1
    obtain ⟨t0, t1, hc, hb⟩ := hS.out
    by_cases hjm : j < m
    · obtain ⟨a, rfl, hz⟩ := HR.out.keep hb j (by rw [HL.out]; exact hjm)
      have hzu := HU.out (zs.getD j 0) (by rw [List.getD_eq_getElem?_getD, List.getElem?_eq_getElem (by rw [HL.out]; exact hjm)]; exact List.getElem_mem _)
      generalize hzz : zs.getD j 0 = z at hz hzu
      have HZ := veil hzz
      have z0 := hzu.1
      have z1 := hzu.2
      clear hzu hzz
      by_cases hs : t + z < 9223372036854775807
      · have hA := veil (adv_yes hc (by unfold U; omega) (by unfold U; omega : U z) hs)
        have hS' : Stand w (wr.setCell ⟨w.heap.size, 0, none⟩ (.int .u64 (t + z))) (t + z) := ⟨by omega, hs, hc.set _, below_set hb (Nat.le_refl _) hb.size _⟩
        have hz2 : (wr.setCell ⟨w.heap.size, 0, none⟩ (.int .u64 (t + z))).cell? (a.add j) = some (.int .u64 z) := by
          obtain ⟨a', e, hh⟩ := (HR.out.keep hS'.2.2.2) j (by rw [HL.out]; exact hjm)
          injection e with e
          subst e
          rw [HZ.out] at hh
          exact hh
        generalize wr.setCell ⟨w.heap.size, 0, none⟩ (.int .u64 (t + z)) = w2 at *
        have hK := veil (refLater_any t z w2 (by unfold U; omega) (by unfold U; omega))
        rw [if_pos hs, decide_eq_true hs] at hK
        have hc2 := veil hS'.2.2.1
        have HS2 := veil hS'
        clear hS' hc hb HZ
        go_wp2_with fail
        refine (hA.out).mono ?_
        rintro e w9 ⟨rfl, rfl⟩
        clear hz hA
        go_wp2_with fail
        refine (hK.out).mono ?_
        rintro e w9 ⟨rfl, rfl⟩
        go_wp2_with fail
        refine (now_clk hc2.out).mono ?_
        rintro e w9 ⟨rfl, rfl⟩
        go_wp2_with fail
        go_roundw
        case rel => exact ⟨j + 1, t + z, by omega, rfl, by go_num, HS2⟩
        case measure => simp [intOf]; omega
      · have hA := veil (adv_no hc (by unfold U; omega) (by unfold U; omega : U z) (by omega))
        have hK := veil (refLater_any t z wr (by unfold U; omega) (by unfold U; omega))
        rw [if_neg hs, decide_eq_false hs] at hK
        have hc2 := veil hc
        clear hc hb HZ
        go_wp2_with fail
        refine (hA.out).mono ?_
        rintro e w9 ⟨rfl, rfl⟩
        go_wp2_with fail
        refine (hK.out).mono ?_
        rintro e w9 ⟨rfl, rfl⟩
        go_wp2_with fail
        refine (now_clk hc2.out).mono ?_
        rintro e w9 ⟨rfl, rfl⟩
        go_wp2_with fail
        go_roundw
        case rel => exact ⟨j + 1, t, by omega, rfl, by go_num, hS⟩
        case measure => simp [intOf]; omega
    · obtain rfl : j = m := by omega
      go_wp2_with fail
      refine (now_clk hc).mono ?_
      rintro e w9 ⟨rfl, rfl⟩
      go_wp2_with fail
      refine (lives_true _).mono ?_
      rintro e w9 ⟨rfl, q9⟩
      have b9 := hb.trans (q9.mono hb.size)
      go_wp2_with fail
      go_ret
      exact ⟨rfl, b9⟩

theorem walk_more (A : Option Addr) (m c : Nat) (w : World) (h : 500 < m) :
    Calls Try.prog 4 #[.slice A m c] w fun e w' => e = .returned (.bool true) ∧ Below w.heap.size w w' := by
  go_enter Try.func4, Try.ntmps4
  go_wp2_with fail
  refine (lives_true _).mono ?_
  rintro e w9 ⟨rfl, q9⟩
  go_wp2_with fail
  go_ret
  exact ⟨rfl, q9⟩

theorem own : ownKnob Try.prog.godebug = none := by kernel_rfl
theorem readable : ∀ t ∈ Try.f4.params.toList, Try.prog.readableRec t = true ∧ t < Try.prog.types.size := by
  rw [Try.params4]
  intro t ht
  simp at ht
  subst ht
  exact ⟨by kernel_rfl, of_decide_eq_true (by kernel_rfl)⟩

set_option maxRecDepth 100000 in
theorem lifted (os : Os) (started : os.Started) (H : Type) (enc : TypeId × Value → H) :
    ReturnsInHanded {} Try.checked os 4 .any (Rows.clocksGoSpec.pre6 enc Try.prog Try.f4 Rows.clocksGoRow.domain false) (Rows.clocksGoSpec.post enc Try.prog Try.f4 false true false false) := by
  refine returnsInHanded_of_change (C := Try.checked) own started (by kernel_rfl) Try.func4
    (ChangeSpec.witness6 (enc := enc) (C := Try.checked) false ⟨#[], #[.slice none 0 0], []⟩ 8 (by kernel_rfl) (by kernel_rfl) (by kernel_rfl) (by kernel_rfl)) ?_
  intro W base args ds gs before hval0 hW _ _
  have hval : ∀ (j : Nat) t v, Try.f4.params[j]? = some t → args[j]? = some v → Value.okWide Try.prog W .any base t v := hval0
  have hW' := hW
  obtain ⟨p, q, hA0, hV, rfl, _, _⟩ := hW
  have hA : DataW.TrodAll enc Try.prog W 0 (fun _ => true) true Try.f4.params.toList args.toList ds p := hA0
  rw [Try.params4] at hA hval
  obtain ⟨v0, vs0, d0, ds0, p0, q0, hargs, rfl, rfl, h0, r0⟩ := trodAll_cons hA
  obtain ⟨rfl, rfl, rfl⟩ := trodAll_nil r0
  obtain rfl : args = #[v0] := by cases args; simp_all
  obtain ⟨rfl, rfl⟩ := trodVars_none hV
  obtain ⟨A, m, c, zs, rfl, hR, hz, _, hY⟩ := open_slice_ints Try.underlying28 Try.underlying22 (by kernel_rfl) (hval 0 28 v0 rfl rfl) h0
  have hw : Calls Try.prog 4 #[.slice A m c] W fun e w' => e = .returned (.bool true) ∧ Below W.heap.size W w' := by
    by_cases hs : m ≤ 500
    · exact walk A m c zs W hz hs hR (fun z h => u64_of' (hY z h))
    · exact walk_more A m c W (by omega)
  refine hw.mono fun e W' ⟨he, hb⟩ => ?_
  subst he
  exact ⟨_, rfl, law_post (by kernel_rfl) rfl rfl Try.underlying4 readable hW' rfl hb⟩

/-- ClocksGo, as given -/
theorem holds : Rows.ClocksGoSaid :=
  OpenClaim.holds_of_wide 4 Try.f4 rfl rfl rfl rfl rfl rfl rfl ⟨rfl, rfl, rfl, rfl, rfl⟩ rfl rfl rfl rfl rfl (by kernel_rfl) Try.func4 (by kernel_rfl)
    (of_decide_eq_true (by kernel_rfl)) (by unfold Func.isWrapper; first | (rw [if_pos (by decide +kernel)]; kernel_rfl) | (rw [if_neg (by decide +kernel)]; exact ⟨rfl, rfl⟩))
    (fun os started H enc _ => lifted os started H enc)

#print axioms holds
end Go.Proofs.Ytecmcbnomcocoaa.clocksGo
