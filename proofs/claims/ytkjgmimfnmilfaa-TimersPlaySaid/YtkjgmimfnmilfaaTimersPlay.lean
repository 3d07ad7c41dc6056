/-
  TimersPlay: whatever is armed, cancelled and taken, in whatever order, each answer, which comes next, and each time, is the chapter's: the law returns true for every input, and its arguments read as before.
  Conditions: none.
-/
import Derived.Test.YtkjgmimfnmilfaaTmrL
import Derived.Test.YtkjgmimfnmilfaaTmrB
import Derived.Test.YtkjgmimfnmilfaaLaw
namespace Go.Proofs.Ytkjgmimfnmilfaa.timersPlay
open Go.ChangeShapes Go.WideShapes Go.ChangeAt Go.RowKit Go.Proofs.Ytkjgmimfnmilfaa.Tm5 Go.Proofs.Ytkjgmimfnmilfaa.Ops

/-- both hold the same -/
def Par (w wr : World) (s r : Nat) : Prop := ∃ L, Pq w wr s r L L []
theorem par_new {w w1 : World} {s : Nat} (h : Sd w w1 s [] []) : Par w (w1.alloc (.cells #[.slice none 0 0] 29)) s w1.heap.size := by
  obtain ⟨⟨F, h1, h2, h3⟩, hb⟩ := h
  have k := below_new w1 (.cells #[.slice none 0 0] 29)
  refine ⟨[], ⟨F, Rfoot w1.heap.size none, h1.keep k, ⟨none, 0, 0, rfl, ⟨row_new rfl, ls_nil _ _, rfl, by omega, by simp, kn_nil⟩⟩, fun z hz => ⟨h2 z hz, fun e => ?_⟩, fun z hz => ?_, by simp⟩, hb.trans (k.mono hb.size)⟩
  · simp [Rfoot] at e
    have := h1.lt _ hz
    omega
  · simp [Rfoot] at hz
    have := hb.size
    omega

set_option maxRecDepth 20000 in
set_option maxHeartbeats 4000000 in
theorem walk (A : Option Addr) (n c : Nat) (l : List Deed) (w : World) (hl : l.length = n) (hn : n ≤ 140737488351232) (h : Deeds w A l) :
    Calls Try.prog 3 #[.slice A n c] w fun e w' => e = .returned (.bool true) ∧ Below w.heap.size w w' := by
  have HD := veil h
  have HL := veil hl
  clear h hl
  by_cases hbig : 400 < n
  · have hbig' : (400 : Int) < (n : Int) := by omega
    clear hbig
    go_enter Try.func3, Try.ntmps3
    go_wp2_with fail
    refine (lives_true _).mono ?_
    rintro e w9 ⟨rfl, q9⟩
    go_wp2_with fail
    go_ret
    exact ⟨rfl, q9⟩
  have hbig' : ¬ (400 : Int) < (n : Int) := by omega
  have hn6 : n ≤ 400 := by omega
  clear hbig
  go_enter Try.func3, Try.ntmps3
  go_wp2_with fail
  refine (sd_new w).mono ?_
  rintro e w1 ⟨rfl, h1⟩
  have S1 := veil (par_new h1)
  clear h1
  generalize w.heap.size + 2 = s at *
  go_wp2_with fail
  generalize w1.alloc (.cells #[.slice none 0 0] 29) = w2 at *
  generalize w1.heap.size = r at *
  go_loopw [5] (fun i wr => ∃ j : Nat, j ≤ n ∧ i = .int .i64 j ∧ Hid (Par w wr s r)) (fun i _ => n - (intOf i).toNat)
  case atStart => exact ⟨0, Nat.zero_le _, rfl, S1⟩
  case round =>
    clear S1
    obtain ⟨j, hj, rfl, hS⟩ := hrel
    obtain ⟨L, hp⟩ := hS.out
    have P := veil hp
    clear hp hS
    by_cases hlt : j < n
    · obtain ⟨a, rfl, hx0⟩ := HD.out j (by rw [HL.out]; exact hlt)
      obtain ⟨k0, k1, k2, k3, kok⟩ := hx0.keep P.out.bel
      have KOK := veil kok
      have X0 := veil hx0
      clear kok hx0
      generalize l.getD j default = d at *
      go_wp2_with fail
      clear k0 k1 k2 k3
      refine (one_any P.out d KOK.out).mono ?_
      rintro e w3 ⟨rfl, L3, h3⟩
      have P := veil h3
      clear h3
      obtain ⟨k0, k1, k2, k3, _⟩ := X0.out.keep P.out.bel
      go_wp2_with fail
      clear k0 k1 k2 k3
      refine (alike_any P.out d.x.k KOK.out.x.k).mono ?_
      rintro e w4 ⟨rfl, h4⟩
      have Z : Hid (Par w w4 s r) := ⟨_, h4⟩
      clear h4 P
      go_wp2_with fail
      go_roundw
      case rel => exact ⟨j + 1, by omega, by go_num, Z⟩
      case measure => simp [intOf]; omega
    · have hlt' : ¬ (j : Int) < (n : Int) := by omega
      have Z : Hid (Par w wr s r) := ⟨_, P.out⟩
      clear hlt P
      go_wp2_with fail
      go_loopw [6] (fun i wr => ∃ q : Nat, q ≤ n ∧ i = .int .i64 q ∧ Hid (Par w wr s r)) (fun i _ => n - (intOf i).toNat)
      case atStart => exact ⟨0, Nat.zero_le _, rfl, Z⟩
      case round =>
        clear Z
        obtain ⟨q, hq, rfl, hS⟩ := hrel
        obtain ⟨L, hp⟩ := hS.out
        have P := veil hp
        clear hp hS hlt'
        by_cases hqn : q < n
        · obtain ⟨a, rfl, hx0⟩ := HD.out q (by rw [HL.out]; exact hqn)
          obtain ⟨k0, k1, k2, k3, kok⟩ := hx0.keep P.out.bel
          have KOK := veil kok
          clear kok hx0
          generalize l.getD q default = d at *
          go_wp2_with fail
          clear k0 k1 k2 k3
          refine (alike_any P.out d.x.k KOK.out.x.k).mono ?_
          rintro e w4 ⟨rfl, h4⟩
          have Z : Hid (Par w w4 s r) := ⟨_, h4⟩
          clear h4 P
          go_wp2_with fail
          go_roundw
          case rel => exact ⟨q + 1, by omega, by go_num, Z⟩
          case measure => simp [intOf]; omega
        · have hqn' : ¬ (q : Int) < (n : Int) := by omega
          have B := veil P.out.bel
          clear hqn P
          go_wp2_with fail
          refine (lives_true _).mono ?_
          rintro e w10 ⟨rfl, h10⟩
          have B10 := veil (B.out.trans (h10.mono B.out.size))
          clear h10 B
          go_wp2_with fail
          go_ret
          exact ⟨rfl, B10.out⟩

theorem own : ownKnob Try.prog.godebug = none := by kernel_rfl
theorem readable : ∀ t ∈ Try.f3.params.toList, Try.prog.readableRec t = true ∧ t < Try.prog.types.size := by
  rw [Try.params3]
  intro t ht
  simp at ht
  subst ht
  exact ⟨by kernel_rfl, of_decide_eq_true (by kernel_rfl)⟩

set_option maxRecDepth 100000 in
theorem lifted (os : Os) (started : os.Started) (H : Type) (enc : TypeId × Value → H) :
    ReturnsInHanded {} Try.checked os 3 .any (Rows.timersPlaySpec.pre6 enc Try.prog Try.f3 Rows.timersPlayRow.domain false) (Rows.timersPlaySpec.post enc Try.prog Try.f3 false true false false) := by
  refine returnsInHanded_of_change_sized (C := Try.checked) own started (by kernel_rfl) Try.func3
    (ChangeSpec.witness6 (enc := enc) (C := Try.checked) false ⟨#[], #[.slice none 0 0], []⟩ 8 (by kernel_rfl) (by kernel_rfl) (by kernel_rfl) (by kernel_rfl)) ?_
  intro W base args ds gs before hval0 hW _ hsz0 _
  have hval : ∀ (j : Nat) t v, Try.f3.params[j]? = some t → args[j]? = some v → Value.okWide Try.prog W .any base t v := hval0
  have hW' := hW
  obtain ⟨p, q, hA0, hV, rfl, _, _⟩ := hW
  have hA : DataW.TrodAll enc Try.prog W 0 (fun _ => true) true Try.f3.params.toList args.toList ds p := hA0
  rw [Try.params3] at hA hval
  obtain ⟨v0, vs0, d0, ds0, p0, q0, hargs, rfl, rfl, h0, r0⟩ := trodAll_cons hA
  obtain ⟨rfl, rfl, rfl⟩ := trodAll_nil r0
  obtain rfl : args = #[v0] := by cases args; simp_all
  obtain ⟨rfl, rfl⟩ := trodVars_none hV
  have ho := opens_arg h0 (slim_of hsz0 (j := 0) rfl rfl)
  obtain ⟨A0, n0, c0, rfl⟩ := okWide_slice Try.underlying22 (hval 0 22 v0 rfl rfl)
  obtain ⟨A, c, l, e, _, hn, hd⟩ := open_acts ho
  simp [Value.cells] at e
  obtain ⟨rfl, rfl, rfl⟩ := e
  have hw : Calls Try.prog 3 #[.slice A0 l.length c0] W fun e w' => e = .returned (.bool true) ∧ Below W.heap.size W w' := by
    exact walk A0 l.length c0 l W rfl hn hd
  refine hw.mono fun e W' ⟨he, hb⟩ => ?_
  subst he
  exact ⟨_, rfl, law_post (by kernel_rfl) rfl rfl Try.underlying4 readable hW' rfl hb⟩

/-- TimersPlay, as given -/
theorem holds : Rows.TimersPlaySaid :=
  OpenClaim.holds_of_wide 3 Try.f3 rfl rfl rfl rfl rfl rfl rfl ⟨rfl, rfl, rfl, rfl, rfl⟩ rfl rfl rfl rfl rfl (by kernel_rfl) Try.func3 (by kernel_rfl)
    (of_decide_eq_true (by kernel_rfl)) (by unfold Func.isWrapper; first | (rw [if_pos (by decide +kernel)]; kernel_rfl) | (rw [if_neg (by decide +kernel)]; exact ⟨rfl, rfl⟩))
    (fun os started H enc _ => lifted os started H enc)

#print axioms holds
end Go.Proofs.Ytkjgmimfnmilfaa.timersPlay
