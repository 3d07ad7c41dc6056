/-
  The chapter's examples hold.
  Conditions: the known addresses lie in their table.
-/
import Derived.Test.YthkiamkhignchaaDoorAdrE
namespace Go.Proofs.YthkiamkhignchaaDoor.Ad
open Go.RowKit

def s1 : List Int := [0, 0, 0, 0, 0, 0, 0, 0, 0, 0, 0, 0, 0, 0, 0, 1]
theorem s1_ok : Ok s1 := ⟨rfl, by unfold Byt; decide⟩
theorem s1_made (w : World) : (Instr.build 23 #[(15, .int .u8 1)]).run Tryd.prog w = .ok (av s1) w := by unfold s1; kernel_rfl
def s2 : List Int := [255, 5, 0, 0, 0, 0, 0, 0, 0, 0, 0, 0, 0, 0, 0, 2]
theorem s2_ok : Ok s2 := ⟨rfl, by unfold Byt; decide⟩
theorem s2_made (w : World) : (Instr.build 23 #[(0, .int .u8 255), (1, .int .u8 5), (15, .int .u8 2)]).run Tryd.prog w = .ok (av s2) w := by unfold s2; kernel_rfl
def s3 : List Int := [254, 191, 0, 0, 0, 0, 0, 0, 0, 0, 0, 0, 0, 0, 0, 1]
theorem s3_ok : Ok s3 := ⟨rfl, by unfold Byt; decide⟩
theorem s3_made (w : World) : (Instr.build 23 #[(0, .int .u8 254), (1, .int .u8 191), (15, .int .u8 1)]).run Tryd.prog w = .ok (av s3) w := by unfold s3; kernel_rfl
def s4 : List Int := [254, 192, 0, 0, 0, 0, 0, 0, 0, 0, 0, 0, 0, 0, 0, 1]
theorem s4_ok : Ok s4 := ⟨rfl, by unfold Byt; decide⟩
theorem s4_made (w : World) : (Instr.build 23 #[(0, .int .u8 254), (1, .int .u8 192), (15, .int .u8 1)]).run Tryd.prog w = .ok (av s4) w := by unfold s4; kernel_rfl
def s5 : List Int := [0, 0, 0, 0, 0, 0, 0, 0, 0, 0, 0, 0, 0, 0, 0, 0]
theorem s5_ok : Ok s5 := ⟨rfl, by unfold Byt; decide⟩
theorem s5_made (w : World) : (Instr.build 23 #[]).run Tryd.prog w = .ok (av s5) w := by unfold s5; kernel_rfl
def a0 : List Int := [32, 1, 13, 184, 0, 0, 0, 0, 0, 0, 0, 1, 0, 2, 0, 171]
theorem a0_ok : Ok a0 := ⟨rfl, by unfold Byt; decide⟩
theorem a0_made (w : World) : (Instr.build 23 #[(0, .int .u8 32), (1, .int .u8 1), (2, .int .u8 13), (3, .int .u8 184), (11, .int .u8 1), (13, .int .u8 2), (15, .int .u8 171)]).run Tryd.prog w = .ok (av a0) w := by unfold a0; kernel_rfl
def sa : List Int := [255, 2, 0, 0, 0, 0, 0, 0, 0, 0, 0, 1, 255, 2, 0, 171]
theorem sa_ok : Ok sa := ⟨rfl, by unfold Byt; decide⟩
theorem sa_made (w : World) : (Instr.build 23 #[(0, .int .u8 255), (1, .int .u8 2), (11, .int .u8 1), (12, .int .u8 255), (13, .int .u8 2), (15, .int .u8 171)]).run Tryd.prog w = .ok (av sa) w := by unfold sa; kernel_rfl
def c2 : List Int := [0, 0, 0, 0, 0, 0, 0, 0, 0, 0, 0, 0, 0, 0, 0, 3]
theorem c2_ok : Ok c2 := ⟨rfl, by unfold Byt; decide⟩
theorem c2_made (w : World) : (Instr.build 23 #[(15, .int .u8 3)]).run Tryd.prog w = .ok (av c2) w := by unfold c2; kernel_rfl
def m0 : List Int := [255, 255, 0, 0, 0, 0, 0, 0, 0, 0, 0, 0, 0, 0, 0, 0]
theorem m0_ok : Ok m0 := ⟨rfl, by unfold Byt; decide⟩
theorem m0_made (w : World) : (Instr.build 23 #[(0, .int .u8 255), (1, .int .u8 255)]).run Tryd.prog w = .ok (av m0) w := by unfold m0; kernel_rfl
def n0 : List Int := [255, 128, 0, 0, 0, 0, 0, 0, 0, 0, 0, 0, 0, 0, 0, 0]
theorem n0_ok : Ok n0 := ⟨rfl, by unfold Byt; decide⟩
theorem n0_made (w : World) : (Instr.build 23 #[(0, .int .u8 255), (1, .int .u8 128)]).run Tryd.prog w = .ok (av n0) w := by unfold n0; kernel_rfl
theorem sol1 (w : World) : Calls Tryd.prog 18 #[av a0] w fun e w' => e = .returned (av sa) ∧ Below w.heap.size w w' := by
  have k := solicited_any a0 w a0_ok
  rwa [show sol a0 = sa by rfl] at k
end Go.Proofs.YthkiamkhignchaaDoor.Ad
