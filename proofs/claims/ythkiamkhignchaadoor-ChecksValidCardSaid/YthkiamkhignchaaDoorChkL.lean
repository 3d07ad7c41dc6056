/-
  The chapter's examples hold.
  Conditions: the known addresses lie in their table.
-/
import Derived.Test.YthkiamkhignchaaDoorChkAll
namespace Go.Proofs.YthkiamkhignchaaDoor.Ck
set_option maxRecDepth 100000
open Go.RowKit Ops Hd Oz Mg
open Ad (Knw kn kn_len kn_ok Ok mult ll sol sol_ok)

def a1 : List Int := [254, 128, 0, 0, 0, 0, 0, 0, 0, 0, 0, 0, 0, 0, 0, 1]
theorem a1_ok : Ok a1 := ⟨rfl, by unfold Byt a1; decide⟩
theorem a1_made (w : World) : (Instr.build 23 #[(0, .int .u8 254), (1, .int .u8 128), (15, .int .u8 1)]).run Tryd.prog w = .ok (av a1) w := by unfold a1; kernel_rfl
def lo : List Int := [0, 0, 0, 0, 0, 0, 0, 0, 0, 0, 0, 0, 0, 0, 0, 1]
theorem lo_ok : Ok lo := ⟨rfl, by unfold Byt lo; decide⟩
theorem lo_made (w : World) : (Instr.build 23 #[(15, .int .u8 1)]).run Tryd.prog w = .ok (av lo) w := by unfold lo; kernel_rfl
def s9 : List Int := [255, 2, 0, 0, 0, 0, 0, 0, 0, 0, 0, 1, 255, 0, 0, 9]
theorem s9_ok : Ok s9 := ⟨rfl, by unfold Byt s9; decide⟩
theorem s9_made (w : World) : (Instr.build 23 #[(0, .int .u8 255), (1, .int .u8 2), (11, .int .u8 1), (12, .int .u8 255), (15, .int .u8 9)]).run Tryd.prog w = .ok (av s9) w := by unfold s9; kernel_rfl
def t9 : List Int := [254, 128, 0, 0, 0, 0, 0, 0, 0, 0, 0, 0, 0, 0, 0, 9]
theorem t9_ok : Ok t9 := ⟨rfl, by unfold Byt t9; decide⟩
theorem t9_made (w : World) : (Instr.build 23 #[(0, .int .u8 254), (1, .int .u8 128), (15, .int .u8 9)]).run Tryd.prog w = .ok (av t9) w := by unfold t9; kernel_rfl
def kp : Pk := { s := a1, d := z16, hops := 255 }
def kf : Pk := { s := a1, d := z16, hops := 254 }
def kl : Pk := { s := lo, d := z16, hops := 255 }
def kq : Pk := { s := z16, d := s9, hops := 255 }
def m134 : Ms := { kind := 134 }
def m135 : Ms := { kind := 135, t := t9 }
abbrev nilV : Value := .slice none 0 0
def m1o (v : Value) : Ms := { kind := 135, t := t9, opts := v }
theorem m1o_fine (g : Nat) : Fine3 (m1o (.slice (some ⟨g, 0, none⟩) 1 1)) := ⟨rfl, rfl, rfl, rfl, rfl, rfl, rfl⟩
theorem m134_fine : Fine3 m134 := ⟨rfl, rfl, rfl, rfl, rfl, rfl, rfl⟩
theorem m135_fine : Fine3 m135 := ⟨rfl, rfl, rfl, rfl, rfl, rfl, rfl⟩
theorem kp_ends : Hd.Ends kp := ⟨rfl, rfl⟩
theorem kf_ends : Hd.Ends kf := ⟨rfl, rfl⟩
theorem kl_ends : Hd.Ends kl := ⟨rfl, rfl⟩
theorem kq_ends : Hd.Ends kq := ⟨rfl, rfl⟩
theorem run1 (w : World) (hk : Knw w) : Calls Tryd.prog 11 #[pv kp nilV, mv m134] w fun e w' => e = .returned (.bool true) ∧ Below w.heap.size w w' := by
  have k := codeValid kp nilV m134 [] w hk (gd_of a1_ok z16_ok z16_ok z16_ok m134_fine (by decide) (by decide)) (op1_nil w)
  rwa [show valid kp m134 [] = true by decide +kernel] at k
theorem run2 (w : World) (hk : Knw w) : Calls Tryd.prog 11 #[pv kf nilV, mv m134] w fun e w' => e = .returned (.bool false) ∧ Below w.heap.size w w' := by
  have k := codeValid kf nilV m134 [] w hk (gd_of a1_ok z16_ok z16_ok z16_ok m134_fine (by decide) (by decide)) (op1_nil w)
  rwa [show valid kf m134 [] = false by decide +kernel] at k
theorem run3 (w : World) (hk : Knw w) : Calls Tryd.prog 11 #[pv kl nilV, mv m134] w fun e w' => e = .returned (.bool false) ∧ Below w.heap.size w w' := by
  have k := codeValid kl nilV m134 [] w hk (gd_of lo_ok z16_ok z16_ok z16_ok m134_fine (by decide) (by decide)) (op1_nil w)
  rwa [show valid kl m134 [] = false by decide +kernel] at k
theorem run4 (w : World) (hk : Knw w) : Calls Tryd.prog 11 #[pv kq nilV, mv m135] w fun e w' => e = .returned (.bool true) ∧ Below w.heap.size w w' := by
  have k := codeValid kq nilV m135 [] w hk (gd_of z16_ok s9_ok t9_ok z16_ok m135_fine (by decide) (by decide)) (op1_nil w)
  rwa [show valid kq m135 [] = true by decide +kernel] at k
theorem run5 (w : World) (g : Nat) (hk : Knw w) (h : Op1 w (.slice (some ⟨g, 0, none⟩) 1 1) [(1, [])]) : Calls Tryd.prog 11 #[pv kq nilV, mv (m1o (.slice (some ⟨g, 0, none⟩) 1 1))] w fun e w' => e = .returned (.bool false) ∧ Below w.heap.size w w' := by
  have k := codeValid kq nilV (m1o (.slice (some ⟨g, 0, none⟩) 1 1)) [(1, [])] w hk (gd_of z16_ok s9_ok t9_ok z16_ok (m1o_fine g) (by show (0 : Int) ≤ 0 ∧ (0 : Int) ≤ 255; decide) (by show (0 : Int) ≤ 135 ∧ (135 : Int) ≤ 255; decide)) h
  have e : ∀ v, valid kq (m1o v) [(1, [])] = valid kq m135 [(1, [])] := fun v => rfl
  rwa [e, show valid kq m135 [(1, [])] = false by decide +kernel] at k

set_option linter.unusedSimpArgs false in
set_option maxHeartbeats 4000000 in
theorem lives_true (w : World) (hk : Knw w) : Calls Tryd.prog 8 #[] w fun e w' => e = .returned (.bool true) ∧ Below w.heap.size w w' := by
  obtain ⟨ZA, hZA⟩ : ∃ Z : Array Value, Z = #[.int .u8 0, .int .u8 0, .int .u8 0, .int .u8 0, .int .u8 0, .int .u8 0, .int .u8 0, .int .u8 0, .int .u8 0, .int .u8 0, .int .u8 0, .int .u8 0, .int .u8 0, .int .u8 0, .int .u8 0, .int .u8 0] := ⟨_, rfl⟩
  obtain ⟨ZP, hZP⟩ : ∃ Z : Array Value, Z = #[.int .u8 0, .int .u8 0, .int .u8 0, .int .u8 0, .int .u8 0, .int .u8 0, .int .u8 0, .int .u8 0, .int .u8 0, .int .u8 0, .int .u8 0, .int .u8 0, .int .u8 0, .int .u8 0, .int .u8 0, .int .u8 0, .int .u8 0, .int .u8 0, .int .u8 0, .int .u8 0, .int .u8 0, .int .u8 0, .int .u8 0, .int .u8 0, .int .u8 0, .int .u8 0, .int .u8 0, .int .u8 0, .int .u8 0, .int .u8 0, .int .u8 0, .int .u8 0, .int .u8 0, .bool false, .bool false, .int .u32 0, .int .u16 0, .bool false, .int .u8 0, .slice none 0 0] := ⟨_, rfl⟩
  obtain ⟨ZM, hZM⟩ : ∃ Z : Array Value, Z = #[.int .u8 0, .int .u8 0, .int .u32 0, .slice none 0 0, .int .u8 0, .int .u8 0, .int .u16 0, .int .u32 0, .int .u32 0, .int .u8 0, .int .u8 0, .int .u8 0, .int .u8 0, .int .u8 0, .int .u8 0, .int .u8 0, .int .u8 0, .int .u8 0, .int .u8 0, .int .u8 0, .int .u8 0, .int .u8 0, .int .u8 0, .int .u8 0, .int .u8 0, .int .u8 0, .int .u8 0, .int .u8 0, .int .u8 0, .int .u8 0, .int .u8 0, .int .u8 0, .int .u8 0, .int .u8 0, .int .u8 0, .int .u8 0, .int .u8 0, .int .u8 0, .int .u8 0, .int .u8 0, .int .u8 0, .slice none 0 0, .int .u16 0, .int .u8 0, .int .u8 0, .int .u8 0, .int .u8 0, .int .u8 0, .int .u8 0, .int .u8 0, .int .u8 0, .int .u8 0, .int .u8 0, .int .u8 0, .int .u8 0, .int .u8 0, .int .u8 0, .int .u8 0, .int .u8 0, .int .u8 0, .int .u8 0, .slice none 0 0, .slice none 0 0] := ⟨_, rfl⟩
  have sA : ZA.size = 16 := by rw [hZA]; rfl
  have sP : ZP.size = 40 := by rw [hZP]; rfl
  have sM : ZM.size = 63 := by rw [hZM]; rfl
  have M0 := Kw.begin hk
  obtain ⟨w1, S1, M1⟩ := M0.fresh (P := Tryd.prog) ZA 23 (bv a1) (by rw [sA]; rfl) (sizeAddr a1_ok.len) (fun _ h => bv_byte h)
  have L1 := M1.lay.load (P := Tryd.prog) mem0 (part_all _) Tryd.underlying23 rfl (sizeAddr a1_ok.len)
  obtain ⟨w2, S2, M2⟩ := M1.fresh (P := Tryd.prog) ZP 30 (pc kp nilV) (by rw [sP]; rfl) (sizePkt kp_ends) (pc_one rfl)
  have L2 := (pktAt M2.lay mem0 kp_ends).all
  obtain ⟨w3, S3, M3⟩ := M2.fresh (P := Tryd.prog) ZP 30 (pc kp nilV) (by rw [sP]; rfl) (sizePkt kp_ends) (pc_one rfl)
  obtain ⟨w4, S4, M4⟩ := M3.single (P := Tryd.prog) 0 rfl 32 (.int .u8 254) 5 (cs' := pc kf nilV) (by decide) size_u8 rfl rfl rfl
  simp only [List.set_cons_zero] at M4
  have L4 := (pktAt M4.lay mem1 kp_ends).all
  obtain ⟨w5, S5, M5⟩ := M4.fresh (P := Tryd.prog) ZP 30 (pc kp nilV) (by rw [sP]; rfl) (sizePkt kp_ends) (pc_one rfl)
  obtain ⟨w6, S6, M6⟩ := M5.part (P := Tryd.prog) 0 rfl 0 (bv lo) 23 (cs' := pc kl nilV) (by decide) (sizeAddr lo_ok.len) (fun _ h => bv_byte h) rfl
  simp only [List.set_cons_zero] at M6
  obtain ⟨w7, S7, M7⟩ := M6.fresh (P := Tryd.prog) ZM 35 (mc m134) (by rw [sM]; rfl) (sizeMsg m134_fine) (mc_one m134_fine)
  obtain ⟨w8, S8, M8⟩ := M7.fresh (P := Tryd.prog) ZP 30 (pc kq nilV) (by rw [sP]; rfl) (sizePkt kq_ends) (pc_one rfl)
  obtain ⟨w9, S9, M9⟩ := M8.fresh (P := Tryd.prog) ZM 35 (mc m135) (by rw [sM]; rfl) (sizeMsg m135_fine) (mc_one m135_fine)
  have L9 := (msgAt M9.lay mem0 m135_fine).all
  obtain ⟨w10, S10, M10⟩ := M9.fresh (P := Tryd.prog) ZM 35 (mc m135) (by rw [sM]; rfl) (sizeMsg m135_fine) (mc_one m135_fine)
  have M11 := M10.new (cv [⟨1, none, 0, 0⟩]) 46 rfl
  obtain ⟨w12, S12, M12⟩ := M11.single (P := Tryd.prog) 1 rfl 41 (.slice (some ⟨w10.heap.size, 0, none⟩) 1 1) 31 (cs' := mc (m1o (.slice (some ⟨w10.heap.size, 0, none⟩) 1 1))) (by decide) size_opts rfl rfl rfl
  simp only [List.set_cons_zero, List.set_cons_succ] at M12
  have V1 := veil S1
  have V2 := veil S2
  have V3 := veil S3
  have V4 := veil S4
  have V5 := veil S5
  have V6 := veil S6
  have V7 := veil S7
  have V8 := veil S8
  have V9 := veil S9
  have V10 := veil S10
  have V12 := veil S12
  have VL1 := veil L1
  have VL2 := veil L2
  have VL4 := veil L4
  have VL9 := veil L9
  have M := veil M12
  clear M0 M1 M2 M3 M4 M5 M6 M7 M8 M9 M10 M11 M12 S1 S2 S3 S4 S5 S6 S7 S8 S9 S10 S12 L1 L2 L4 L9 sA sP sM hk
  subst hZA hZP hZM
  go_enter Tryd.func8, Tryd.ntmps8
  go_wp2_with (first
    | (refine wpList_build_of rfl 23 #[(0, .const (.int .u8 254)), (1, .const (.int .u8 128)), (15, .const (.int .u8 1))] rfl #[(0, .int .u8 254), (1, .int .u8 128), (15, .int .u8 1)] rfl (a1_made _) ?_; (try simp only [Act.put, List.setIfInBounds_toArray, List.set_cons_zero, List.set_cons_succ]))
    | (refine wpList_store_of rfl (.tmp 1) (.tmp 9) rfl rfl rfl V1.out ?_; (try simp only [Act.put, List.setIfInBounds_toArray, List.set_cons_zero, List.set_cons_succ]))
    | (refine wpList_load_of rfl (.tmp 1) rfl rfl VL1.out ?_; (try simp only [Act.put, List.setIfInBounds_toArray, List.set_cons_zero, List.set_cons_succ]))
    | (refine wpList_build_of rfl 30 #[(0, .tmp 10), (2, .const (.int .u8 255))] rfl #[(0, av a1), (2, .int .u8 255)] rfl (made_src a1_ok.len 255 _) ?_; (try simp only [Act.put, List.setIfInBounds_toArray, List.set_cons_zero, List.set_cons_succ]))
    | (refine wpList_store_of rfl (.tmp 2) (.tmp 11) rfl rfl rfl V2.out ?_; (try simp only [Act.put, List.setIfInBounds_toArray, List.set_cons_zero, List.set_cons_succ]))
    | (refine wpList_load_of rfl (.tmp 2) rfl rfl VL2.out ?_; (try simp only [Act.put, List.setIfInBounds_toArray, List.set_cons_zero, List.set_cons_succ]))
    | (refine wpList_store_of rfl (.tmp 3) (.tmp 12) rfl rfl rfl V3.out ?_; (try simp only [Act.put, List.setIfInBounds_toArray, List.set_cons_zero, List.set_cons_succ]))
    | (refine wpList_store_of rfl (.tmp 13) (.const (.int .u8 254)) rfl rfl rfl V4.out ?_; (try simp only [Act.put, List.setIfInBounds_toArray, List.set_cons_zero, List.set_cons_succ]))
    | (refine wpList_load_of rfl (.tmp 2) rfl rfl VL4.out ?_; (try simp only [Act.put, List.setIfInBounds_toArray, List.set_cons_zero, List.set_cons_succ]))
    | (refine wpList_store_of rfl (.tmp 4) (.tmp 14) rfl rfl rfl V5.out ?_; (try simp only [Act.put, List.setIfInBounds_toArray, List.set_cons_zero, List.set_cons_succ]))
    | (refine wpList_build_of rfl 23 #[(15, .const (.int .u8 1))] rfl #[(15, .int .u8 1)] rfl (lo_made _) ?_; (try simp only [Act.put, List.setIfInBounds_toArray, List.set_cons_zero, List.set_cons_succ]))
    | (refine wpList_store_of rfl (.tmp 16) (.tmp 15) rfl rfl rfl V6.out ?_; (try simp only [Act.put, List.setIfInBounds_toArray, List.set_cons_zero, List.set_cons_succ]))
    | (refine wpList_build_of rfl 35 #[(0, .const (.int .u8 134))] rfl #[(0, .int .u8 134)] rfl (made_kind 134 _) ?_; (try simp only [Act.put, List.setIfInBounds_toArray, List.set_cons_zero, List.set_cons_succ]))
    | (refine wpList_store_of rfl (.tmp 5) (.tmp 17) rfl rfl rfl V7.out ?_; (try simp only [Act.put, List.setIfInBounds_toArray, List.set_cons_zero, List.set_cons_succ]))
    | (refine wpList_build_of rfl 23 #[(0, .const (.int .u8 255)), (1, .const (.int .u8 2)), (11, .const (.int .u8 1)), (12, .const (.int .u8 255)), (15, .const (.int .u8 9))] rfl #[(0, .int .u8 255), (1, .int .u8 2), (11, .int .u8 1), (12, .int .u8 255), (15, .int .u8 9)] rfl (s9_made _) ?_; (try simp only [Act.put, List.setIfInBounds_toArray, List.set_cons_zero, List.set_cons_succ]))
    | (refine wpList_build_of rfl 30 #[(1, .tmp 18), (2, .const (.int .u8 255))] rfl #[(1, av s9), (2, .int .u8 255)] rfl (made_dst s9_ok.len 255 _) ?_; (try simp only [Act.put, List.setIfInBounds_toArray, List.set_cons_zero, List.set_cons_succ]))
    | (refine wpList_store_of rfl (.tmp 6) (.tmp 19) rfl rfl rfl V8.out ?_; (try simp only [Act.put, List.setIfInBounds_toArray, List.set_cons_zero, List.set_cons_succ]))
    | (refine wpList_build_of rfl 23 #[(0, .const (.int .u8 254)), (1, .const (.int .u8 128)), (15, .const (.int .u8 9))] rfl #[(0, .int .u8 254), (1, .int .u8 128), (15, .int .u8 9)] rfl (t9_made _) ?_; (try simp only [Act.put, List.setIfInBounds_toArray, List.set_cons_zero, List.set_cons_succ]))
    | (refine wpList_build_of rfl 35 #[(0, .const (.int .u8 135)), (9, .tmp 20)] rfl #[(0, .int .u8 135), (9, av t9)] rfl (made_target t9_ok.len 135 _) ?_; (try simp only [Act.put, List.setIfInBounds_toArray, List.set_cons_zero, List.set_cons_succ]))
    | (refine wpList_store_of rfl (.tmp 7) (.tmp 21) rfl rfl rfl V9.out ?_; (try simp only [Act.put, List.setIfInBounds_toArray, List.set_cons_zero, List.set_cons_succ]))
    | (refine wpList_load_of rfl (.tmp 7) rfl rfl VL9.out ?_; (try simp only [Act.put, List.setIfInBounds_toArray, List.set_cons_zero, List.set_cons_succ]))
    | (refine wpList_store_of rfl (.tmp 8) (.tmp 22) rfl rfl rfl V10.out ?_; (try simp only [Act.put, List.setIfInBounds_toArray, List.set_cons_zero, List.set_cons_succ]))
    | (refine wpList_build_of rfl 46 #[(0, .const (.int .u8 1))] rfl #[(0, .int .u8 1)] rfl (made_opt 1 _) ?_; (try simp only [Act.put, List.setIfInBounds_toArray, List.set_cons_zero, List.set_cons_succ]))
    | (refine Ad.slice_at (some 24) rfl rfl 31 1 #[(0, .tmp 23)] rfl #[(0, ov ⟨1, none, 0, 0⟩)] rfl (made_one 1 _) ?_; (try simp only [Act.put, List.setIfInBounds_toArray, List.set_cons_zero, List.set_cons_succ]))
    | (refine wpList_store_of rfl (.tmp 25) (.tmp 24) rfl rfl rfl V12.out ?_; (try simp only [Act.put, List.setIfInBounds_toArray, List.set_cons_zero, List.set_cons_succ]))
    | (refine wpList_load_of rfl (.tmp 2) rfl rfl (pktAt M.out.lay (List.mem_cons_of_mem _ (List.mem_cons_of_mem _ (List.mem_cons_of_mem _ (List.mem_cons_of_mem _ (List.mem_cons_of_mem _ (List.mem_cons_of_mem _ (List.mem_cons_of_mem _ List.mem_cons_self))))))) kp_ends).all ?_; (try simp only [Act.put, List.setIfInBounds_toArray, List.set_cons_zero, List.set_cons_succ]))
    | (refine wpList_load_of rfl (.tmp 5) rfl rfl (msgAt M.out.lay (List.mem_cons_of_mem _ (List.mem_cons_of_mem _ (List.mem_cons_of_mem _ (List.mem_cons_of_mem _ List.mem_cons_self)))) m134_fine).all ?_; (try simp only [Act.put, List.setIfInBounds_toArray, List.set_cons_zero, List.set_cons_succ])))
  refine (run1 _ M.out.knw).mono ?_
  rintro e x0 ⟨rfl, q⟩
  have M := veil (M.out.keep q)
  clear q
  clear V1 V2 V3 V4 V5 V6 V7 V8 V9 V10 V12 VL1 VL2 VL4 VL9
  go_wp2_with (first
    | (refine wpList_load_of rfl (.tmp 3) rfl rfl (pktAt M.out.lay (List.mem_cons_of_mem _ (List.mem_cons_of_mem _ (List.mem_cons_of_mem _ (List.mem_cons_of_mem _ (List.mem_cons_of_mem _ (List.mem_cons_of_mem _ List.mem_cons_self)))))) kf_ends).all ?_; (try simp only [Act.put, List.setIfInBounds_toArray, List.set_cons_zero, List.set_cons_succ]))
    | (refine wpList_load_of rfl (.tmp 5) rfl rfl (msgAt M.out.lay (List.mem_cons_of_mem _ (List.mem_cons_of_mem _ (List.mem_cons_of_mem _ (List.mem_cons_of_mem _ List.mem_cons_self)))) m134_fine).all ?_; (try simp only [Act.put, List.setIfInBounds_toArray, List.set_cons_zero, List.set_cons_succ])))
  refine (run2 _ M.out.knw).mono ?_
  rintro e x1 ⟨rfl, q⟩
  have M := veil (M.out.keep q)
  clear q
  go_wp2_with (first
    | (refine wpList_load_of rfl (.tmp 4) rfl rfl (pktAt M.out.lay (List.mem_cons_of_mem _ (List.mem_cons_of_mem _ (List.mem_cons_of_mem _ (List.mem_cons_of_mem _ (List.mem_cons_of_mem _ List.mem_cons_self))))) kl_ends).all ?_; (try simp only [Act.put, List.setIfInBounds_toArray, List.set_cons_zero, List.set_cons_succ]))
    | (refine wpList_load_of rfl (.tmp 5) rfl rfl (msgAt M.out.lay (List.mem_cons_of_mem _ (List.mem_cons_of_mem _ (List.mem_cons_of_mem _ (List.mem_cons_of_mem _ List.mem_cons_self)))) m134_fine).all ?_; (try simp only [Act.put, List.setIfInBounds_toArray, List.set_cons_zero, List.set_cons_succ])))
  refine (run3 _ M.out.knw).mono ?_
  rintro e x2 ⟨rfl, q⟩
  have M := veil (M.out.keep q)
  clear q
  go_wp2_with (first
    | (refine wpList_load_of rfl (.tmp 6) rfl rfl (pktAt M.out.lay (List.mem_cons_of_mem _ (List.mem_cons_of_mem _ (List.mem_cons_of_mem _ List.mem_cons_self))) kq_ends).all ?_; (try simp only [Act.put, List.setIfInBounds_toArray, List.set_cons_zero, List.set_cons_succ]))
    | (refine wpList_load_of rfl (.tmp 7) rfl rfl (msgAt M.out.lay (List.mem_cons_of_mem _ (List.mem_cons_of_mem _ List.mem_cons_self)) m135_fine).all ?_; (try simp only [Act.put, List.setIfInBounds_toArray, List.set_cons_zero, List.set_cons_succ])))
  refine (run4 _ M.out.knw).mono ?_
  rintro e x3 ⟨rfl, q⟩
  have M := veil (M.out.keep q)
  clear q
  go_wp2_with (first
    | (refine wpList_load_of rfl (.tmp 6) rfl rfl (pktAt M.out.lay (List.mem_cons_of_mem _ (List.mem_cons_of_mem _ (List.mem_cons_of_mem _ List.mem_cons_self))) kq_ends).all ?_; (try simp only [Act.put, List.setIfInBounds_toArray, List.set_cons_zero, List.set_cons_succ]))
    | (refine wpList_load_of rfl (.tmp 8) rfl rfl (msgAt M.out.lay (List.mem_cons_of_mem _ List.mem_cons_self) (m1o_fine _)).all ?_; (try simp only [Act.put, List.setIfInBounds_toArray, List.set_cons_zero, List.set_cons_succ])))
  refine (run5 _ _ M.out.knw (op1_bare (ks := [1]) M.out.lay mem0 rfl (by omega))).mono ?_
  rintro e x4 ⟨rfl, q⟩
  have M := veil (M.out.keep q)
  clear q
  go_wp2_with fail
  go_ret
  exact ⟨rfl, M.out.below⟩

end Go.Proofs.YthkiamkhignchaaDoor.Ck
