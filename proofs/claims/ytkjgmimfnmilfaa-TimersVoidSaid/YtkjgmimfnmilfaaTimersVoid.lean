/-
  TimersVoid: a set that is not there, or that no call made, has no timers, and takes none: the law returns true for every input, and its arguments read as before.
  Conditions: none.
-/
import Derived.Test.YtkjgmimfnmilfaaTmrL
import Derived.Test.YtkjgmimfnmilfaaTmrA
import Derived.Test.YtkjgmimfnmilfaaLaw
namespace Go.Proofs.Ytkjgmimfnmilfaa.timersVoid
open Go.ChangeShapes Go.WideShapes Go.ChangeAt Go.RowKit Go.Proofs.Ytkjgmimfnmilfaa.Tm5

/-- the law's own memory: the act at b, the set that no call made at s, the list of both at l -/
structure Scn (w0 w : World) (b s l : Nat) (x : Tm) : Prop where
  bel : Below w0.heap.size w0 w
  l0 : w.cell? ⟨l, 0, none⟩ = some (.pointer none)
  l1 : w.cell? ⟨l, 1, none⟩ = some (.pointer (some ⟨s, 0, none⟩))
  raw : Raw w s
  x1 : w.cell? ⟨b, 1, none⟩ = some (.int .u8 x.k.kd)
  x2 : w.cell? ⟨b, 2, none⟩ = some (.int .u64 x.k.id)
  x3 : w.cell? ⟨b, 3, none⟩ = some (.int .u64 x.t)
theorem Scn.keep {w0 w w' : World} {b s l : Nat} {x : Tm} (h : Scn w0 w b s l x) (k : Below w.heap.size w w') : Scn w0 w' b s l x :=
  ⟨h.bel.trans (k.mono h.bel.size), by rw [k.cell (block_lt_of_cell h.l0), h.l0], by rw [k.cell (block_lt_of_cell h.l1), h.l1], Row.keep h.raw k, by rw [k.cell (block_lt_of_cell h.x1), h.x1], by rw [k.cell (block_lt_of_cell h.x2), h.x2], by rw [k.cell (block_lt_of_cell h.x3), h.x3]⟩
/-- .. in round j -/
structure Scj (w0 w : World) (p : Option Addr) (j b s l : Nat) (x : Tm) : Prop where
  scn : Scn w0 w b s l x
  void : Void w p
  cell : w.cell? ⟨l, j, none⟩ = some (.pointer p)
theorem Scj.keep {w0 w w' : World} {p : Option Addr} {j b s l : Nat} {x : Tm} (h : Scj w0 w p j b s l x) (k : Below w.heap.size w w') : Scj w0 w' p j b s l x :=
  ⟨h.scn.keep k, h.void.keep k, by rw [k.cell (block_lt_of_cell h.cell), h.cell]⟩
theorem Scj.four {w0 w : World} {p : Option Addr} {j b s l : Nat} {x : Tm} (h : Scj w0 w p j b s l x) : w.cell? ⟨l, j, none⟩ = some (.pointer p) ∧ w.cell? ⟨b, 1, none⟩ = some (.int .u8 x.k.kd) ∧ w.cell? ⟨b, 2, none⟩ = some (.int .u64 x.k.id) ∧ w.cell? ⟨b, 3, none⟩ = some (.int .u64 x.t) := ⟨h.cell, h.scn.x1, h.scn.x2, h.scn.x3⟩
/-- the answers of Next and Due in blocks of their own -/
def Zs (w : World) (g6 g9 : Nat) : Prop := Kb w g6 ⟨0, 0⟩ ∧ Kb w g9 ⟨0, 0⟩
theorem Zs.keep {w w' : World} {g6 g9 : Nat} (h : Zs w g6 g9) (k : Below w.heap.size w w') : Zs w' g6 g9 := ⟨h.1.keep k, h.2.keep k⟩
theorem scn_in {w0 w : World} {b s l : Nat} {x : Tm} (h : Scn w0 w b s l x) {j : Nat} (hj : j < 2) : ∃ p, Scj w0 w p j b s l x := by
  match j, hj with
  | 0, _ => exact ⟨none, h, trivial, h.l0⟩
  | 1, _ => exact ⟨some ⟨s, 0, none⟩, h, ⟨s, rfl, h.raw⟩, h.l1⟩
theorem scn_new (w : World) (kd : Int) (x : Tm) : Scn w (((w.alloc (.cells #[.int .u8 kd, .int .u8 x.k.kd, .int .u64 x.k.id, .int .u64 x.t] 35)).alloc (.cells #[.pointer none] 40)).alloc (.cells #[.pointer none, .pointer (some ⟨w.heap.size + 1, 0, none⟩)] 24)) w.heap.size (w.heap.size + 1) (w.heap.size + 2) x := by
  have b2 := below_new ((w.alloc (.cells #[.int .u8 kd, .int .u8 x.k.kd, .int .u64 x.k.id, .int .u64 x.t] 35)).alloc (.cells #[.pointer none] 40)) (.cells #[.pointer none, .pointer (some ⟨w.heap.size + 1, 0, none⟩)] 24)
  have b1 := below_new (w.alloc (.cells #[.int .u8 kd, .int .u8 x.k.kd, .int .u64 x.k.id, .int .u64 x.t] 35)) (.cells #[.pointer none] 40)
  have r0 := ((row_new (w := w) (t := 35) (cs := #[.int .u8 kd, .int .u8 x.k.kd, .int .u64 x.k.id, .int .u64 x.t]) rfl).keep b1).keep b2
  have r1 : Row _ (w.heap.size + 1) 40 #[.pointer none] := (row_new (by simp)).keep b2
  have r2 : Row (((w.alloc (.cells #[.int .u8 kd, .int .u8 x.k.kd, .int .u64 x.k.id, .int .u64 x.t] 35)).alloc (.cells #[.pointer none] 40)).alloc (.cells #[.pointer none, .pointer (some ⟨w.heap.size + 1, 0, none⟩)] 24)) (w.heap.size + 2) 24 #[.pointer none, .pointer (some ⟨w.heap.size + 1, 0, none⟩)] := row_new (by simp)
  exact ⟨(((Below.refl _ w).alloc (Nat.le_refl _) _).alloc (by simp) _).alloc (by simp; omega) _, r2.cell 0, r2.cell 1, r1, r0.cell 1, r0.cell 2, r0.cell 3⟩

set_option maxRecDepth 20000 in
set_option maxHeartbeats 4000000 in
theorem walk (kd : Int) (x : Tm) (w : World) : Calls Try.prog 4 #[.agg #[.int .u8 kd, .int .u8 x.k.kd, .int .u64 x.k.id, .int .u64 x.t]] w fun e w' => e = .returned (.bool true) ∧ Below w.heap.size w w' := by
  have S0 := veil (scn_new w kd x)
  obtain ⟨b, hb⟩ : ∃ b, w.heap.size = b := ⟨_, rfl⟩
  go_enter Try.func4, Try.ntmps4
  go_wp2_with fail
  rw [hb] at S0
  clear hb
  have S1 : Hid (Scn w (((w.alloc (.cells #[.int .u8 kd, .int .u8 x.k.kd, .int .u64 x.k.id, .int .u64 x.t] 35)).alloc (.cells #[.pointer none] 40)).alloc (.cells #[.pointer none, .pointer (some ⟨b + 1, 0, none⟩)] 24)) b (b + 1) (b + 1 + 1) x) := S0
  clear S0
  generalize ((w.alloc (.cells #[.int .u8 kd, .int .u8 x.k.kd, .int .u64 x.k.id, .int .u64 x.t] 35)).alloc (.cells #[.pointer none] 40)).alloc (.cells #[.pointer none, .pointer (some ⟨b + 1, 0, none⟩)] 24) = w1 at *
  generalize b + 1 + 1 = l at *
  generalize b + 1 = s at *
  go_loopw [5] (fun i wr => ∃ j : Nat, j ≤ 2 ∧ i = .int .i64 j ∧ Hid (Scn w wr b s l x)) (fun i _ => 2 - (intOf i).toNat)
  case atStart => exact ⟨0, Nat.zero_le _, rfl, S1⟩
  case round =>
    clear S1
    obtain ⟨j, hj, rfl, hS⟩ := hrel
    by_cases hlt : j < 2
    · obtain ⟨p, hp⟩ := scn_in hS.out hlt
      have D := veil hp
      clear hp hS
      have c0 := D.out.cell
      go_wp2_with fail
      clear c0
      refine (next_void D.out.void).mono ?_
      unfold ans zero
      rintro e w2 ⟨rfl, h2⟩
      have k2 := below_new w2 (.cells #[.int .u8 0, .int .u64 0] 33)
      have Z6 := veil (kb_new w2 ⟨0, 0⟩)
      have D := veil ((D.out.keep h2).keep k2)
      clear h2 k2
      go_wp2_with fail
      generalize w2.alloc (.cells #[.int .u8 0, .int .u64 0] 33) = w3 at *
      generalize w2.heap.size = g6 at *
      have D : Hid (Scj w w3.drew p j b s l x) := D.out.keep (below_still (Below.refl _ _) ⟨1, rfl⟩)
      have Z6 : Hid (Kb w3.drew g6 ⟨0, 0⟩) := Z6
      go_region_held3 (fun w' => w'.cell? ⟨l, j, none⟩ = some (.pointer p) ∧ w'.cell? ⟨b, 1, none⟩ = some (.int .u8 x.k.kd) ∧ w'.cell? ⟨b, 2, none⟩ = some (.int .u64 x.k.id) ∧ w'.cell? ⟨b, 3, none⟩ = some (.int .u64 x.t)) (first | exact D.out.four | exact (D.out.keep (below_new _ _)).four | exact DW.out.four)
        (first
          | (go_at_call 12
             refine (due_void D.out.void x.t).mono ?_
             unfold ans zero
             rintro e w5 ⟨rfl, h2⟩
             have D := veil (D.out.keep h2)
             have Z6 := veil (Z6.out.keep h2)
             clear h2)
          | (go_at_call 12
             refine (due_void (D.out.keep (below_new _ _)).void x.t).mono ?_
             unfold ans zero
             rintro e w5 ⟨rfl, h2⟩
             have D := veil ((D.out.keep (below_new _ _)).keep h2)
             have Z6 := veil ((Z6.out.keep (below_new _ _)).keep h2)
             have RB : Hid (Row w5 w3.heap.size 33 #[.int .u8 0, .int .u64 0]) := (row_new (w := w3.drew) (t := 33) (cs := #[.int .u8 0, .int .u64 0]) rfl).keep h2
             have DW : Hid (Scj w ((w5.setCell ⟨w3.heap.size, 0, none⟩ (.int .u8 0)).setCell ⟨w3.heap.size, 1, none⟩ (.int .u64 0)) p j b s l x) := by
               show Scj w ((w5.setCell ⟨w3.heap.size, 0, none⟩ (.int .u8 0)).setCell ⟨w3.heap.size, 1, none⟩ (.int .u64 0)) p j b s l x
               rw [set_same RB.out rfl, set_same RB.out rfl]
               exact D.out
             have q0 : w5.cell? ⟨w3.heap.size, 0, none⟩ = some (.int .u8 0) := RB.out.cell 0
             have q1 : w5.cell? ⟨w3.heap.size, 1, none⟩ = some (.int .u64 0) := RB.out.cell 1
             have f0 : w5.frozen? ⟨w3.heap.size, 0, none⟩ = false := RB.out.frozen 0
             have f1 : w5.frozen? ⟨w3.heap.size, 1, none⟩ = false := RB.out.frozen 1
             clear h2))
      · have Z := veil (show Zs (w5.alloc (.cells #[.int .u8 0, .int .u64 0] 33)) g6 w5.heap.size from ⟨Z6.out.keep (below_new _ _), kb_new w5 ⟨0, 0⟩⟩)
        have D := veil (D.out.keep (below_new w5 (.cells #[.int .u8 0, .int .u64 0] 33)))
        generalize w5.alloc (.cells #[.int .u8 0, .int .u64 0] 33) = w6 at *
        generalize w5.heap.size = g9 at *
        go_wp2_with fail
        have D : Hid (Scj w w6.drew p j b s l x) := D.out.keep (below_still (Below.refl _ _) ⟨1, rfl⟩)
        have Z : Hid (Zs w6.drew g6 g9) := Z
        go_region_held3 (fun w' => w'.cell? ⟨l, j, none⟩ = some (.pointer p) ∧ w'.cell? ⟨b, 1, none⟩ = some (.int .u8 x.k.kd) ∧ w'.cell? ⟨b, 2, none⟩ = some (.int .u64 x.k.id) ∧ w'.cell? ⟨b, 3, none⟩ = some (.int .u64 x.t)) (first | exact D.out.four)
          (first
            | (go_at_call 13
               refine (at_void D.out.void x.k).mono ?_
               rintro e w9 ⟨rfl, h9⟩
               have D := veil (D.out.keep h9)
               have Z := veil (Z.out.keep h9)
               clear h9))
        go_wp2_with fail
        have D := veil (D.out.keep (below_still (Below.refl _ _) ⟨1, rfl⟩))
        have Z := veil (Z.out.keep (below_still (Below.refl _ _) ⟨1, rfl⟩))
        go_region_held3 (fun w' => (w'.cell? ⟨l, j, none⟩ = some (.pointer p) ∧ w'.cell? ⟨b, 1, none⟩ = some (.int .u8 x.k.kd) ∧ w'.cell? ⟨b, 2, none⟩ = some (.int .u64 x.k.id) ∧ w'.cell? ⟨b, 3, none⟩ = some (.int .u64 x.t)) ∧ (w'.cell? ⟨g6, 0, none⟩ = some (.int .u8 0) ∧ w'.cell? ⟨g6, 1, none⟩ = some (.int .u64 0)) ∧ (w'.cell? ⟨g9, 0, none⟩ = some (.int .u8 0) ∧ w'.cell? ⟨g9, 1, none⟩ = some (.int .u64 0))) (first | exact ⟨D.out.four, Z.out.1, Z.out.2⟩)
          (first
            | (go_at_call 14
               refine (arm_void D.out.void x.k x.t).mono ?_
               rintro e w9 ⟨rfl, h9⟩
               have D := veil (D.out.keep h9)
               have Z := veil (Z.out.keep h9)
               clear h9)
            | (go_at_call 15
               refine (cancel_void D.out.void x.k).mono ?_
               rintro e w9 ⟨rfl, h9⟩
               have D := veil (D.out.keep h9)
               have Z := veil (Z.out.keep h9)
               clear h9)
            | (go_at_call 16
               refine (len_void D.out.void).mono ?_
               rintro e w9 ⟨rfl, rfl⟩))
        go_wp2_with fail
        go_roundw
        case rel => exact ⟨j + 1, by omega, by go_num, D.out.scn⟩
        case measure => simp [intOf]; omega
      · rw [set_same RB.out rfl, set_same RB.out rfl]
        have Z := veil (show Zs w5 g6 w3.heap.size from ⟨Z6.out, RB.out.cell 0, RB.out.cell 1⟩)
        clear DW q0 q1 f0 f1 RB
        generalize w3.heap.size = g9 at *
        generalize w5 = w6 at *
        go_wp2_with fail
        have D : Hid (Scj w w6.drew p j b s l x) := D.out.keep (below_still (Below.refl _ _) ⟨1, rfl⟩)
        have Z : Hid (Zs w6.drew g6 g9) := Z
        go_region_held3 (fun w' => w'.cell? ⟨l, j, none⟩ = some (.pointer p) ∧ w'.cell? ⟨b, 1, none⟩ = some (.int .u8 x.k.kd) ∧ w'.cell? ⟨b, 2, none⟩ = some (.int .u64 x.k.id) ∧ w'.cell? ⟨b, 3, none⟩ = some (.int .u64 x.t)) (first | exact D.out.four)
          (first
            | (go_at_call 13
               refine (at_void D.out.void x.k).mono ?_
               rintro e w9 ⟨rfl, h9⟩
               have D := veil (D.out.keep h9)
               have Z := veil (Z.out.keep h9)
               clear h9))
        go_wp2_with fail
        have D := veil (D.out.keep (below_still (Below.refl _ _) ⟨1, rfl⟩))
        have Z := veil (Z.out.keep (below_still (Below.refl _ _) ⟨1, rfl⟩))
        go_region_held3 (fun w' => (w'.cell? ⟨l, j, none⟩ = some (.pointer p) ∧ w'.cell? ⟨b, 1, none⟩ = some (.int .u8 x.k.kd) ∧ w'.cell? ⟨b, 2, none⟩ = some (.int .u64 x.k.id) ∧ w'.cell? ⟨b, 3, none⟩ = some (.int .u64 x.t)) ∧ (w'.cell? ⟨g6, 0, none⟩ = some (.int .u8 0) ∧ w'.cell? ⟨g6, 1, none⟩ = some (.int .u64 0)) ∧ (w'.cell? ⟨g9, 0, none⟩ = some (.int .u8 0) ∧ w'.cell? ⟨g9, 1, none⟩ = some (.int .u64 0))) (first | exact ⟨D.out.four, Z.out.1, Z.out.2⟩)
          (first
            | (go_at_call 14
               refine (arm_void D.out.void x.k x.t).mono ?_
               rintro e w9 ⟨rfl, h9⟩
               have D := veil (D.out.keep h9)
               have Z := veil (Z.out.keep h9)
               clear h9)
            | (go_at_call 15
               refine (cancel_void D.out.void x.k).mono ?_
               rintro e w9 ⟨rfl, h9⟩
               have D := veil (D.out.keep h9)
               have Z := veil (Z.out.keep h9)
               clear h9)
            | (go_at_call 16
               refine (len_void D.out.void).mono ?_
               rintro e w9 ⟨rfl, rfl⟩))
        go_wp2_with fail
        go_roundw
        case rel => exact ⟨j + 1, by omega, by go_num, D.out.scn⟩
        case measure => simp [intOf]; omega
    · have hj2 : j = 2 := by omega
      subst hj2
      go_wp2_with fail
      refine (lives_true _).mono ?_
      rintro e w9 ⟨rfl, q9⟩
      have b9 := hS.out.bel.trans (q9.mono hS.out.bel.size)
      go_wp2_with fail
      go_ret
      exact ⟨rfl, b9⟩

theorem own : ownKnob Try.prog.godebug = none := by kernel_rfl
theorem readable : ∀ t ∈ Try.f4.params.toList, Try.prog.readableRec t = true ∧ t < Try.prog.types.size := by
  rw [Try.params4]
  intro t ht
  simp at ht
  subst ht
  exact ⟨by kernel_rfl, of_decide_eq_true (by kernel_rfl)⟩

set_option maxRecDepth 100000 in
theorem lifted (os : Os) (started : os.Started) (H : Type) (enc : TypeId × Value → H) :
    ReturnsInHanded {} Try.checked os 4 .any (Rows.timersVoidSpec.pre6 enc Try.prog Try.f4 Rows.timersVoidRow.domain false) (Rows.timersVoidSpec.post enc Try.prog Try.f4 false true false false) := by
  refine returnsInHanded_of_change_sized (C := Try.checked) own started (by kernel_rfl) Try.func4
    (ChangeSpec.witness6 (enc := enc) (C := Try.checked) false ⟨#[], #[.agg #[.int .u8 0, .int .u8 0, .int .u64 0, .int .u64 0]], []⟩ 8 (by kernel_rfl) (by kernel_rfl) (by kernel_rfl) (by kernel_rfl)) ?_
  intro W base args ds gs before hval0 hW _ hsz0 _
  have hval : ∀ (j : Nat) t v, Try.f4.params[j]? = some t → args[j]? = some v → Value.okWide Try.prog W .any base t v := hval0
  have hW' := hW
  obtain ⟨p, q, hA0, hV, rfl, _, _⟩ := hW
  have hA : DataW.TrodAll enc Try.prog W 0 (fun _ => true) true Try.f4.params.toList args.toList ds p := hA0
  rw [Try.params4] at hA hval
  obtain ⟨v0, vs0, d0, ds0, p0, q0, hargs, rfl, rfl, h0, r0⟩ := trodAll_cons hA
  obtain ⟨rfl, rfl, rfl⟩ := trodAll_nil r0
  obtain rfl : args = #[v0] := by cases args; simp_all
  obtain ⟨rfl, rfl⟩ := trodVars_none hV
  obtain ⟨cs, rfl, hcs⟩ := okWide_struct Try.underlying35 (hval 0 35 v0 rfl rfl)
  obtain ⟨d, hd, hok⟩ := open_act (opens_arg h0 (slim_of hsz0 (j := 0) rfl rfl))
  have e0 : cs = (dv d).toArray := by rw [← hd]; simp [Value.cells]
  subst e0
  have hw : Calls Try.prog 4 #[.agg (dv d).toArray] W fun e w' => e = .returned (.bool true) ∧ Below W.heap.size W w' := by
    exact walk d.kd d.x W
  refine hw.mono fun e W' ⟨he, hb⟩ => ?_
  subst he
  exact ⟨_, rfl, law_post (by kernel_rfl) rfl rfl Try.underlying4 readable hW' rfl hb⟩

/-- TimersVoid, as given -/
theorem holds : Rows.TimersVoidSaid :=
  OpenClaim.holds_of_wide 4 Try.f4 rfl rfl rfl rfl rfl rfl rfl ⟨rfl, rfl, rfl, rfl, rfl⟩ rfl rfl rfl rfl rfl (by kernel_rfl) Try.func4 (by kernel_rfl)
    (of_decide_eq_true (by kernel_rfl)) (by unfold Func.isWrapper; first | (rw [if_pos (by decide +kernel)]; kernel_rfl) | (rw [if_neg (by decide +kernel)]; exact ⟨rfl, rfl⟩))
    (fun os started H enc _ => lifted os started H enc)

#print axioms holds
end Go.Proofs.Ytkjgmimfnmilfaa.timersVoid
