/-
  The chapter's examples hold.
  Conditions: the library's tables lie where they should.
-/
import Derived.Test.YtfaaogidbpfelaaDoorTxtK
namespace Go.Proofs.YtfaaogidbpfelaaDoor.Tx
open Go.RowKit Ad

def a0 : List Int := [0, 0, 0, 0, 0, 0, 0, 0, 0, 0, 0, 0, 0, 0, 0, 0]
theorem a0_ok : Ok a0 := ⟨rfl, by unfold Byt; decide⟩
theorem a0_made (w : World) : (Instr.build 23 #[]).run Tryd.prog w = .ok (av a0) w := by unfold a0; kernel_rfl
def a1 : List Int := [0, 0, 0, 0, 0, 0, 0, 0, 0, 0, 0, 0, 0, 0, 0, 1]
theorem a1_ok : Ok a1 := ⟨rfl, by unfold Byt; decide⟩
theorem a1_made (w : World) : (Instr.build 23 #[(15, .int .u8 1)]).run Tryd.prog w = .ok (av a1) w := by unfold a1; kernel_rfl
def a2 : List Int := [32, 1, 13, 184, 0, 0, 0, 0, 0, 1, 0, 0, 0, 0, 0, 1]
theorem a2_ok : Ok a2 := ⟨rfl, by unfold Byt; decide⟩
theorem a2_made (w : World) : (Instr.build 23 #[(0, .int .u8 32), (1, .int .u8 1), (2, .int .u8 13), (3, .int .u8 184), (9, .int .u8 1), (15, .int .u8 1)]).run Tryd.prog w = .ok (av a2) w := by unfold a2; kernel_rfl
def a3 : List Int := [0, 0, 0, 0, 0, 0, 0, 1, 0, 0, 0, 0, 0, 0, 0, 0]
theorem a3_ok : Ok a3 := ⟨rfl, by unfold Byt; decide⟩
theorem a3_made (w : World) : (Instr.build 23 #[(7, .int .u8 1)]).run Tryd.prog w = .ok (av a3) w := by unfold a3; kernel_rfl
def a4 : List Int := [0, 1, 0, 0, 0, 2, 0, 3, 0, 4, 0, 5, 0, 6, 0, 7]
theorem a4_ok : Ok a4 := ⟨rfl, by unfold Byt; decide⟩
theorem a4_made (w : World) : (Instr.build 23 #[(1, .int .u8 1), (5, .int .u8 2), (7, .int .u8 3), (9, .int .u8 4), (11, .int .u8 5), (13, .int .u8 6), (15, .int .u8 7)]).run Tryd.prog w = .ok (av a4) w := by unfold a4; kernel_rfl
def c2 : List Int := [0, 0, 0, 0, 0, 0, 0, 0, 0, 0, 0, 0, 1, 2, 3, 4]
theorem c2_ok : Ok c2 := ⟨rfl, by unfold Byt; decide⟩
theorem c2_made (w : World) : (Instr.build 23 #[(12, .int .u8 1), (13, .int .u8 2), (14, .int .u8 3), (15, .int .u8 4)]).run Tryd.prog w = .ok (av c2) w := by unfold c2; kernel_rfl
def c3 : List Int := [0, 1, 0, 2, 0, 3, 0, 4, 0, 5, 0, 6, 0, 7, 0, 0]
theorem c3_ok : Ok c3 := ⟨rfl, by unfold Byt; decide⟩
theorem c3_made (w : World) : (Instr.build 23 #[(1, .int .u8 1), (3, .int .u8 2), (5, .int .u8 3), (7, .int .u8 4), (9, .int .u8 5), (11, .int .u8 6), (13, .int .u8 7)]).run Tryd.prog w = .ok (av c3) w := by unfold c3; kernel_rfl
theorem put0 (w : World) (h : Tw w) : Calls Tryd.prog 8 #[av a0] w fun e w' => e = .returned (.string ⟨#[58, 58]⟩) ∧ Below w.heap.size w w' := by
  have k := put_any a0 w a0_ok h.db
  rw [show put (grp a0) = [58, 58] by decide +kernel] at k
  exact k
theorem put1 (w : World) (h : Tw w) : Calls Tryd.prog 8 #[av a1] w fun e w' => e = .returned (.string ⟨#[58, 58, 49]⟩) ∧ Below w.heap.size w w' := by
  have k := put_any a1 w a1_ok h.db
  rw [show put (grp a1) = [58, 58, 49] by decide +kernel] at k
  exact k
theorem put2 (w : World) (h : Tw w) : Calls Tryd.prog 8 #[av a2] w fun e w' => e = .returned (.string ⟨#[50, 48, 48, 49, 58, 100, 98, 56, 58, 58, 49, 58, 48, 58, 48, 58, 49]⟩) ∧ Below w.heap.size w w' := by
  have k := put_any a2 w a2_ok h.db
  rw [show put (grp a2) = [50, 48, 48, 49, 58, 100, 98, 56, 58, 58, 49, 58, 48, 58, 48, 58, 49] by decide +kernel] at k
  exact k
theorem put3 (w : World) (h : Tw w) : Calls Tryd.prog 8 #[av a3] w fun e w' => e = .returned (.string ⟨#[48, 58, 48, 58, 48, 58, 49, 58, 58]⟩) ∧ Below w.heap.size w w' := by
  have k := put_any a3 w a3_ok h.db
  rw [show put (grp a3) = [48, 58, 48, 58, 48, 58, 49, 58, 58] by decide +kernel] at k
  exact k
theorem put4 (w : World) (h : Tw w) : Calls Tryd.prog 8 #[av a4] w fun e w' => e = .returned (.string ⟨#[49, 58, 48, 58, 50, 58, 51, 58, 52, 58, 53, 58, 54, 58, 55]⟩) ∧ Below w.heap.size w w' := by
  have k := put_any a4 w a4_ok h.db
  rw [show put (grp a4) = [49, 58, 48, 58, 50, 58, 51, 58, 52, 58, 53, 58, 54, 58, 55] by decide +kernel] at k
  exact k
theorem got0 (w : World) (h : Tw w) : Calls Tryd.prog 16 #[.string ⟨#[49, 58, 58, 50, 58, 58, 51]⟩] w fun e w' => e = .returned (.bool true) ∧ Below w.heap.size w w' :=
  none_true [49, 58, 58, 50, 58, 58, 51] w (by decide) h.mx (by decide +kernel)
theorem got1 (w : World) (h : Tw w) : Calls Tryd.prog 16 #[.string ⟨#[49, 50, 51, 52, 53, 58, 58]⟩] w fun e w' => e = .returned (.bool true) ∧ Below w.heap.size w w' :=
  none_true [49, 50, 51, 52, 53, 58, 58] w (by decide) h.mx (by decide +kernel)
theorem got2 (w : World) (h : Tw w) : Calls Tryd.prog 13 #[.string ⟨#[58, 58, 49, 46, 50, 46, 51, 46, 52]⟩, av c2] w fun e w' => e = .returned (.bool true) ∧ Below w.heap.size w w' :=
  is_true [58, 58, 49, 46, 50, 46, 51, 46, 52] c2 w c2_ok (by decide) h.mx (by decide +kernel)
theorem got3 (w : World) (h : Tw w) : Calls Tryd.prog 13 #[.string ⟨#[49, 58, 50, 58, 51, 58, 52, 58, 53, 58, 54, 58, 55, 58, 58]⟩, av c3] w fun e w' => e = .returned (.bool true) ∧ Below w.heap.size w w' :=
  is_true [49, 58, 50, 58, 51, 58, 52, 58, 53, 58, 54, 58, 55, 58, 58] c3 w c3_ok (by decide) h.mx (by decide +kernel)
theorem got4 (w : World) (h : Tw w) : Calls Tryd.prog 16 #[.string ⟨#[49, 58, 50, 58, 51, 58, 52, 58, 53, 58, 54, 58, 55, 58, 56, 58, 58]⟩] w fun e w' => e = .returned (.bool true) ∧ Below w.heap.size w w' :=
  none_true [49, 58, 50, 58, 51, 58, 52, 58, 53, 58, 54, 58, 55, 58, 56, 58, 58] w (by decide) h.mx (by decide +kernel)

set_option maxRecDepth 100000 in
set_option maxHeartbeats 4000000 in
theorem lives_true (w : World) (h : Tw w) : Calls Tryd.prog 10 #[] w fun e w' => e = .returned (.bool true) ∧ Below w.heap.size w w' := by
  have H := veil h
  have Q := veil (Below.refl w.heap.size w)
  clear h
  go_enter Tryd.func10, Tryd.ntmps10
  go_wp2_with (refine wpList_build_of rfl 23 #[] rfl #[] (by simp [Act.eval]) (a0_made _) ?_)
  refine (put0 _ H.out).mono ?_
  rintro e w1 ⟨rfl, q⟩
  have H := veil (H.out.keep q)
  have Q := veil (Q.out.trans (q.mono Q.out.size))
  clear q
  go_wp2_with (refine wpList_build_of rfl 23 #[(15, .const (.int .u8 1))] rfl #[(15, .int .u8 1)] (by simp [Act.eval]) (a1_made _) ?_)
  refine (put1 _ H.out).mono ?_
  rintro e w2 ⟨rfl, q⟩
  have H := veil (H.out.keep q)
  have Q := veil (Q.out.trans (q.mono Q.out.size))
  clear q
  go_wp2_with (refine wpList_build_of rfl 23 #[(0, .const (.int .u8 32)), (1, .const (.int .u8 1)), (2, .const (.int .u8 13)), (3, .const (.int .u8 184)), (9, .const (.int .u8 1)), (15, .const (.int .u8 1))] rfl #[(0, .int .u8 32), (1, .int .u8 1), (2, .int .u8 13), (3, .int .u8 184), (9, .int .u8 1), (15, .int .u8 1)] (by simp [Act.eval]) (a2_made _) ?_)
  refine (put2 _ H.out).mono ?_
  rintro e w3 ⟨rfl, q⟩
  have H := veil (H.out.keep q)
  have Q := veil (Q.out.trans (q.mono Q.out.size))
  clear q
  go_wp2_with (refine wpList_build_of rfl 23 #[(7, .const (.int .u8 1))] rfl #[(7, .int .u8 1)] (by simp [Act.eval]) (a3_made _) ?_)
  refine (put3 _ H.out).mono ?_
  rintro e w4 ⟨rfl, q⟩
  have H := veil (H.out.keep q)
  have Q := veil (Q.out.trans (q.mono Q.out.size))
  clear q
  go_wp2_with (refine wpList_build_of rfl 23 #[(1, .const (.int .u8 1)), (5, .const (.int .u8 2)), (7, .const (.int .u8 3)), (9, .const (.int .u8 4)), (11, .const (.int .u8 5)), (13, .const (.int .u8 6)), (15, .const (.int .u8 7))] rfl #[(1, .int .u8 1), (5, .int .u8 2), (7, .int .u8 3), (9, .int .u8 4), (11, .int .u8 5), (13, .int .u8 6), (15, .int .u8 7)] (by simp [Act.eval]) (a4_made _) ?_)
  refine (put4 _ H.out).mono ?_
  rintro e w5 ⟨rfl, q⟩
  have H := veil (H.out.keep q)
  have Q := veil (Q.out.trans (q.mono Q.out.size))
  clear q
  go_wp2_with fail
  refine (got0 _ H.out).mono ?_
  rintro e w6 ⟨rfl, q⟩
  have H := veil (H.out.keep q)
  have Q := veil (Q.out.trans (q.mono Q.out.size))
  clear q
  go_wp2_with fail
  refine (got1 _ H.out).mono ?_
  rintro e w7 ⟨rfl, q⟩
  have H := veil (H.out.keep q)
  have Q := veil (Q.out.trans (q.mono Q.out.size))
  clear q
  go_wp2_with (refine wpList_build_of rfl 23 #[(12, .const (.int .u8 1)), (13, .const (.int .u8 2)), (14, .const (.int .u8 3)), (15, .const (.int .u8 4))] rfl #[(12, .int .u8 1), (13, .int .u8 2), (14, .int .u8 3), (15, .int .u8 4)] (by simp [Act.eval]) (c2_made _) ?_)
  refine (got2 _ H.out).mono ?_
  rintro e w8 ⟨rfl, q⟩
  have H := veil (H.out.keep q)
  have Q := veil (Q.out.trans (q.mono Q.out.size))
  clear q
  go_wp2_with (refine wpList_build_of rfl 23 #[(1, .const (.int .u8 1)), (3, .const (.int .u8 2)), (5, .const (.int .u8 3)), (7, .const (.int .u8 4)), (9, .const (.int .u8 5)), (11, .const (.int .u8 6)), (13, .const (.int .u8 7))] rfl #[(1, .int .u8 1), (3, .int .u8 2), (5, .int .u8 3), (7, .int .u8 4), (9, .int .u8 5), (11, .int .u8 6), (13, .int .u8 7)] (by simp [Act.eval]) (c3_made _) ?_)
  refine (got3 _ H.out).mono ?_
  rintro e w9 ⟨rfl, q⟩
  have H := veil (H.out.keep q)
  have Q := veil (Q.out.trans (q.mono Q.out.size))
  clear q
  go_wp2_with fail
  refine (got4 _ H.out).mono ?_
  rintro e w10 ⟨rfl, q⟩
  have H := veil (H.out.keep q)
  have Q := veil (Q.out.trans (q.mono Q.out.size))
  clear q
  go_wp2_with fail
  go_ret
  exact ⟨rfl, Q.out⟩
end Go.Proofs.YtfaaogidbpfelaaDoor.Tx
