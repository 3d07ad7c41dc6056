/-
  The chapter's examples hold.
  Conditions: the known addresses lie in their table.
-/
import Derived.Test.YtcdcdnibligjnaaDoorAdrE
namespace Go.Proofs.YtcdcdnibligjnaaDoor.Ad
open Go.RowKit

def s1 : List Int := [0, 0, 0, 0, 0, 0, 0, 0, 0, 0, 0, 0, 0, 0, 0, 1]
theorem s1_ok : Ok s1 := ⟨rfl, by unfold Byt; decide⟩
theorem s1_made (w : World) : (Instr.build 23 #[(15, .int .u8 1)]).run Tryd.prog w = .ok (av s1) w := by unfold s1; kernel_rfl
def s2 : List Int := [255, 5, 0, 0, 0, 0, 0, 0, 0, 0, 0, 0, 0, 0, 0, 2]
theorem s2_ok : Ok s2 := ⟨rfl, by unfold Byt; decide⟩
theorem s2_made (w : World) : (Instr.build 23 #[(0, .int .u8 255), (1, .int .u8 5), (15, .int .u8 2)]).run Tryd.prog w = .ok (av s2) w := by unfold s2; kernel_rfl
def s3 : List Int := [254, 191, 0, 0, 0, 0, 0, 0, 0, 0, 0, 0, 0, 0, 0, 1]
theorem s3_ok : Ok s3 := ⟨rfl, by unfold Byt; decide⟩
theorem s3_made (w : World) : (Instr.build 23 #[(0, .int .u8 254), (1, .int .u8 191), (15, .int .u8 1)]).run Tryd.prog w = .ok (av s3) w := by unfold s3; kernel_rfl
def s4 : List Int := [254, 192, 0, 0, 0, 0, 0, 0, 0, 0, 0, 0, 0, 0, 0, 1]
theorem s4_ok : Ok s4 := ⟨rfl, by unfold Byt; decide⟩
theorem s4_made (w : World) : (Instr.build 23 #[(0, .int .u8 254), (1, .int .u8 192), (15, .int .u8 1)]).run Tryd.prog w = .ok (av s4) w := by unfold s4; kernel_rfl
def s5 : List Int := [0, 0, 0, 0, 0, 0, 0, 0, 0, 0, 0, 0, 0, 0, 0, 0]
theorem s5_ok : Ok s5 := ⟨rfl, by unfold Byt; decide⟩
theorem s5_made (w : World) : (Instr.build 23 #[]).run Tryd.prog w = .ok (av s5) w := by unfold s5; kernel_rfl
def a0 : List Int := [32, 1, 13, 184, 0, 0, 0, 0, 0, 0, 0, 1, 0, 2, 0, 171]
theorem a0_ok : Ok a0 := ⟨rfl, by unfold Byt; decide⟩
theorem a0_made (w : World) : (Instr.build 23 #[(0, .int .u8 32), (1, .int .u8 1), (2, .int .u8 13), (3, .int .u8 184), (11, .int .u8 1), (13, .int .u8 2), (15, .int .u8 171)]).run Tryd.prog w = .ok (av a0) w := by unfold a0; kernel_rfl
def sa : List Int := [255, 2, 0, 0, 0, 0, 0, 0, 0, 0, 0, 1, 255, 2, 0, 171]
theorem sa_ok : Ok sa := ⟨rfl, by unfold Byt; decide⟩
theorem sa_made (w : World) : (Instr.build 23 #[(0, .int .u8 255), (1, .int .u8 2), (11, .int .u8 1), (12, .int .u8 255), (13, .int .u8 2), (15, .int .u8 171)]).run Tryd.prog w = .ok (av sa) w := by unfold sa; kernel_rfl
def c2 : List Int := [0, 0, 0, 0, 0, 0, 0, 0, 0, 0, 0, 0, 0, 0, 0, 3]
theorem c2_ok : Ok c2 := ⟨rfl, by unfold Byt; decide⟩
theorem c2_made (w : World) : (Instr.build 23 #[(15, .int .u8 3)]).run Tryd.prog w = .ok (av c2) w := by unfold c2; kernel_rfl
def m0 : List Int := [255, 255, 0, 0, 0, 0, 0, 0, 0, 0, 0, 0, 0, 0, 0, 0]
theorem m0_ok : Ok m0 := ⟨rfl, by unfold Byt; decide⟩
theorem m0_made (w : World) : (Instr.build 23 #[(0, .int .u8 255), (1, .int .u8 255)]).run Tryd.prog w = .ok (av m0) w := by unfold m0; kernel_rfl
def n0 : List Int := [255, 128, 0, 0, 0, 0, 0, 0, 0, 0, 0, 0, 0, 0, 0, 0]
theorem n0_ok : Ok n0 := ⟨rfl, by unfold Byt; decide⟩
theorem n0_made (w : World) : (Instr.build 23 #[(0, .int .u8 255), (1, .int .u8 128)]).run Tryd.prog w = .ok (av n0) w := by unfold n0; kernel_rfl
theorem scope1 (w : World) (h : Knw w) : Calls Tryd.prog 21 #[av s1] w fun e w' => e = .returned (.int .i64 2) ∧ Below w.heap.size w w' := by
  have k := scope_any s1 w s1_ok h
  rwa [show scope s1 = 2 by decide] at k
theorem scope2 (w : World) (h : Knw w) : Calls Tryd.prog 21 #[av s2] w fun e w' => e = .returned (.int .i64 5) ∧ Below w.heap.size w w' := by
  have k := scope_any s2 w s2_ok h
  rwa [show scope s2 = 5 by decide] at k
theorem scope3 (w : World) (h : Knw w) : Calls Tryd.prog 21 #[av s3] w fun e w' => e = .returned (.int .i64 2) ∧ Below w.heap.size w w' := by
  have k := scope_any s3 w s3_ok h
  rwa [show scope s3 = 2 by decide] at k
theorem scope4 (w : World) (h : Knw w) : Calls Tryd.prog 21 #[av s4] w fun e w' => e = .returned (.int .i64 14) ∧ Below w.heap.size w w' := by
  have k := scope_any s4 w s4_ok h
  rwa [show scope s4 = 14 by decide] at k
theorem scope5 (w : World) (h : Knw w) : Calls Tryd.prog 21 #[av s5] w fun e w' => e = .returned (.int .i64 0) ∧ Below w.heap.size w w' := by
  have k := scope_any s5 w s5_ok h
  rwa [show scope s5 = 0 by decide] at k
theorem sol1 (w : World) : Calls Tryd.prog 23 #[av a0] w fun e w' => e = .returned (av sa) ∧ Below w.heap.size w w' := by
  have k := solicited_any a0 w a0_ok
  rwa [show sol a0 = sa by rfl] at k
theorem com1 (w : World) : Calls Tryd.prog 26 #[av s1, av c2] w fun e w' => e = .returned (.int .i64 126) ∧ Below w.heap.size w w' := by
  have k := common_any s1 c2 w s1_ok c2_ok
  rwa [show com s1 c2 = 126 by decide +kernel] at k
theorem msk1 (w : World) : Calls Tryd.prog 28 #[av m0, .int .u8 9] w fun e w' => e = .returned (av n0) ∧ Below w.heap.size w w' := by
  have k := masked_any m0 9 w m0_ok (by omega)
  rwa [show msk m0 9 = n0 by decide +kernel] at k

set_option maxHeartbeats 4000000 in
theorem lives_true (w : World) (h : Knw w) : Calls Tryd.prog 25 #[] w fun e w' => e = .returned (.bool true) ∧ Below w.heap.size w w' := by
  have HK := veil h
  have Q := veil (Below.refl w.heap.size w)
  have W := veil (show w.heap.size ≤ w.heap.size from Nat.le_refl _)
  clear h
  go_enter Tryd.func25, Tryd.ntmps25
  go_wp2_with (refine wpList_build_of rfl 23 #[(15, .const (.int .u8 1))] rfl #[(15, .int .u8 1)] (by simp [Act.eval]) (s1_made _) ?_)
  refine (scope1 _ HK.out).mono ?_
  rintro e w1 ⟨rfl, q⟩
  have HK := veil (HK.out.keep q)
  have Q := veil (Q.out.trans (q.mono Q.out.size))
  clear q
  go_wp2_with (refine wpList_build_of rfl 23 #[(0, .const (.int .u8 255)), (1, .const (.int .u8 5)), (15, .const (.int .u8 2))] rfl #[(0, .int .u8 255), (1, .int .u8 5), (15, .int .u8 2)] (by simp [Act.eval]) (s2_made _) ?_)
  refine (scope2 _ HK.out).mono ?_
  rintro e w2 ⟨rfl, q⟩
  have HK := veil (HK.out.keep q)
  have Q := veil (Q.out.trans (q.mono Q.out.size))
  clear q
  go_wp2_with (refine wpList_build_of rfl 23 #[(0, .const (.int .u8 254)), (1, .const (.int .u8 191)), (15, .const (.int .u8 1))] rfl #[(0, .int .u8 254), (1, .int .u8 191), (15, .int .u8 1)] (by simp [Act.eval]) (s3_made _) ?_)
  refine (scope3 _ HK.out).mono ?_
  rintro e w3 ⟨rfl, q⟩
  have HK := veil (HK.out.keep q)
  have Q := veil (Q.out.trans (q.mono Q.out.size))
  clear q
  go_wp2_with (refine wpList_build_of rfl 23 #[(0, .const (.int .u8 254)), (1, .const (.int .u8 192)), (15, .const (.int .u8 1))] rfl #[(0, .int .u8 254), (1, .int .u8 192), (15, .int .u8 1)] (by simp [Act.eval]) (s4_made _) ?_)
  refine (scope4 _ HK.out).mono ?_
  rintro e w4 ⟨rfl, q⟩
  have HK := veil (HK.out.keep q)
  have Q := veil (Q.out.trans (q.mono Q.out.size))
  clear q
  go_wp2_with (refine wpList_build_of rfl 23 #[] rfl #[] (by simp [Act.eval]) (s5_made _) ?_)
  refine (scope5 _ HK.out).mono ?_
  rintro e w5 ⟨rfl, q⟩
  have HK := veil (HK.out.keep q)
  have Q := veil (Q.out.trans (q.mono Q.out.size))
  clear q
  obtain ⟨Z, hZ⟩ : ∃ Z : Array Value, Z = #[.int .u8 0, .int .u8 0, .int .u8 0, .int .u8 0, .int .u8 0, .int .u8 0, .int .u8 0, .int .u8 0, .int .u8 0, .int .u8 0, .int .u8 0, .int .u8 0, .int .u8 0, .int .u8 0, .int .u8 0, .int .u8 0] := ⟨_, rfl⟩
  have hs : Z.size = 16 := by rw [hZ]; rfl
  have q := below_new w5 (.cells Z 23)
  have r := row_new (w := w5) (g := w5.heap.size) (cs := Z) (t := 23) rfl
  have T := veil (store_row r hs a0_ok.len)
  have R := r.setRow (bv a0).toArray
  have Q5 := Q.out.trans (q.mono Q.out.size)
  have Q6 := below_setRow Q5 w5.heap.size (bv a0).toArray Q.out.size
  have k6 : Knw ((w5.alloc (.cells Z 23)).setRow w5.heap.size (bv a0).toArray) := HK.out.keep (below_setRow q w5.heap.size (bv a0).toArray (Nat.le_refl _))
  obtain ⟨w6, hw6⟩ : ∃ w6, (w5.alloc (.cells Z 23)).setRow w5.heap.size (bv a0).toArray = w6 := ⟨_, rfl⟩
  rw [hw6] at T R Q6 k6
  have L := veil (load_rng (rng_row R) a0_ok.len)
  have Q6 := veil Q6
  have K6 := veil k6
  clear R r q Q5 k6 hw6 hs HK Q
  subst hZ
  go_wp2_with (first
    | (refine wpList_build_of rfl 23 #[(0, .const (.int .u8 32)), (1, .const (.int .u8 1)), (2, .const (.int .u8 13)), (3, .const (.int .u8 184)), (11, .const (.int .u8 1)), (13, .const (.int .u8 2)), (15, .const (.int .u8 171))] rfl #[(0, .int .u8 32), (1, .int .u8 1), (2, .int .u8 13), (3, .int .u8 184), (11, .int .u8 1), (13, .int .u8 2), (15, .int .u8 171)] (by simp [Act.eval]) (a0_made _) ?_)
    | (refine wpList_store_of rfl _ _ rfl rfl rfl T.out ?_)
    | (refine wpList_load_of rfl _ rfl rfl L.out ?_))
  clear L T
  refine (sol1 _).mono ?_
  rintro e w7 ⟨rfl, q⟩
  have Q := veil (Q6.out.trans (q.mono Q6.out.size))
  clear q K6 Q6
  have E1 : ∀ u, (binOp .eql 23 (av sa) (av sa)).run Tryd.prog u = .ok (.bool true) u := fun u => eql_any u sa_ok.len sa_ok.len (by simp)
  have E2 : ∀ u, (binOp .eql 23 (av n0) (av n0)).run Tryd.prog u = .ok (.bool true) u := fun u => eql_any u n0_ok.len n0_ok.len (by simp)
  go_wp2_with (first
    | (refine wpList_build_of rfl 23 #[(0, .const (.int .u8 255)), (1, .const (.int .u8 2)), (11, .const (.int .u8 1)), (12, .const (.int .u8 255)), (13, .const (.int .u8 2)), (15, .const (.int .u8 171))] rfl #[(0, .int .u8 255), (1, .int .u8 2), (11, .int .u8 1), (12, .int .u8 255), (13, .int .u8 2), (15, .int .u8 171)] (by simp [Act.eval]) (sa_made _) ?_)
    | (refine wpList_build_of rfl 23 #[(15, .const (.int .u8 1))] rfl #[(15, .int .u8 1)] (by simp [Act.eval]) (s1_made _) ?_)
    | (refine wpList_build_of rfl 23 #[(15, .const (.int .u8 3))] rfl #[(15, .int .u8 3)] (by simp [Act.eval]) (c2_made _) ?_))
  refine (com1 _).mono ?_
  rintro e w8 ⟨rfl, q⟩
  have Q := veil (Q.out.trans (q.mono Q.out.size))
  clear q
  go_wp2_with (refine wpList_build_of rfl 23 #[(0, .const (.int .u8 255)), (1, .const (.int .u8 255))] rfl #[(0, .int .u8 255), (1, .int .u8 255)] (by simp [Act.eval]) (m0_made _) ?_)
  refine (msk1 _).mono ?_
  rintro e w9 ⟨rfl, q⟩
  have Q := veil (Q.out.trans (q.mono Q.out.size))
  clear q
  go_wp2_with (refine wpList_build_of rfl 23 #[(0, .const (.int .u8 255)), (1, .const (.int .u8 128))] rfl #[(0, .int .u8 255), (1, .int .u8 128)] (by simp [Act.eval]) (n0_made _) ?_)
  go_ret
  exact ⟨rfl, Q.out⟩

end Go.Proofs.YtcdcdnibligjnaaDoor.Ad
