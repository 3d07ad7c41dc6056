/-
  The chapter's examples hold.
  Conditions: none.
-/
import Derived.Test.YtihhbniceiammaaFrmP
import Derived.Test.YtihhbniceiammaaSameB
namespace Go.Proofs.Ytihhbniceiammaa.Et
open Go.RowKit

def e1 : List Int := [1, 2, 3, 4, 5, 6]
theorem e1_made (w : World) : (Instr.build 23 #[(0, .int .u8 1), (1, .int .u8 2), (2, .int .u8 3), (3, .int .u8 4), (4, .int .u8 5), (5, .int .u8 6)]).run Try.prog w = .ok (av e1) w := by unfold e1; kernel_rfl
def e2 : List Int := [7, 8, 9, 10, 11, 12]
theorem e2_made (w : World) : (Instr.build 23 #[(0, .int .u8 7), (1, .int .u8 8), (2, .int .u8 9), (3, .int .u8 10), (4, .int .u8 11), (5, .int .u8 12)]).run Try.prog w = .ok (av e2) w := by unfold e2; kernel_rfl
def ea : List Int := [255, 2, 0, 0, 0, 0, 0, 0, 0, 0, 0, 1, 255, 0, 18, 52]
theorem ea_made (w : World) : (Instr.build 29 #[(0, .int .u8 255), (1, .int .u8 2), (11, .int .u8 1), (12, .int .u8 255), (14, .int .u8 18), (15, .int .u8 52)]).run Try.prog w = .ok (av ea) w := by unfold ea; kernel_rfl
def em : List Int := [51, 51, 255, 0, 18, 52]
theorem em_made (w : World) : (Instr.build 23 #[(0, .int .u8 51), (1, .int .u8 51), (2, .int .u8 255), (3, .int .u8 0), (4, .int .u8 18), (5, .int .u8 52)]).run Try.prog w = .ok (av em) w := by unfold em; kernel_rfl
def eb : List Int := [1, 2, 3, 4, 5, 6, 7, 8, 9, 10, 11, 12, 134, 221, 99]
def eb8 : Array Value := #[.int .u8 1, .int .u8 2, .int .u8 3, .int .u8 4, .int .u8 5, .int .u8 6, .int .u8 7, .int .u8 8, .int .u8 9, .int .u8 10, .int .u8 11, .int .u8 12, .int .u8 134, .int .u8 221, .int .u8 99]
theorem eb_of : fb e1 e2 34525 [99] = eb := by decide
theorem em_of : grp ea = em := by decide
theorem e_macs : Macs e1 e2 := ⟨rfl, rfl⟩
theorem frame_lit (a0 a1 a2 a3 a4 a5 b0 b1 b2 b3 b4 b5 k : Int) (A : Option Addr) (n c : Nat) (w : World) : (Instr.build 27 #[(0, av [a0, a1, a2, a3, a4, a5]), (1, av [b0, b1, b2, b3, b4, b5]), (2, .int .u16 k), (3, .slice A n c)]).run Try.prog w = .ok (fv [a0, a1, a2, a3, a4, a5] [b0, b1, b2, b3, b4, b5] k (.slice A n c)) w := by
  show (Instr.build 27 #[(0, av [a0, a1, a2, a3, a4, a5]), (1, av [b0, b1, b2, b3, b4, b5]), (2, .int .u16 k), (3, .slice A n c)]).run Try.prog w = .ok (.agg #[.int .u8 a0, .int .u8 a1, .int .u8 a2, .int .u8 a3, .int .u8 a4, .int .u8 a5, .int .u8 b0, .int .u8 b1, .int .u8 b2, .int .u8 b3, .int .u8 b4, .int .u8 b5, .int .u16 k, .slice A n c]) w
  kernel_rfl
theorem frame_made (k : Int) (A : Option Addr) (n c : Nat) (w : World) : (Instr.build 27 #[(0, av e1), (1, av e2), (2, .int .u16 k), (3, .slice A n c)]).run Try.prog w = .ok (fv e1 e2 k (.slice A n c)) w := frame_lit 1 2 3 4 5 6 7 8 9 10 11 12 k A n c w

set_option maxHeartbeats 2000000 in
theorem lives_true (w : World) : Calls Try.prog 8 #[] w fun e w' => e = .returned (.bool true) ∧ Below w.heap.size w w' := by
  obtain ⟨Z, hZ⟩ : ∃ Z, Z = zf := ⟨_, rfl⟩
  have hz : Hid (Z.toList.length = 14) := by rw [hZ]; exact rfl
  have Y := ((Lay.begin w).new [.int .u8 99] 5 rfl).newA Z 27 (g := w.heap.size + 1) (by simp)
  have T := veil (frm_store (d := e1) (s := e2) (k := 34525) (v := .slice (some ⟨w.heap.size, 0, none⟩) 1 1) Y mem0 hz.out e_macs rfl)
  have Y1 := veil (Y.put 0 rfl (fc e1 e2 34525 (.slice (some ⟨w.heap.size, 0, none⟩) 1 1)))
  simp only [List.set_cons_zero] at Y1
  have Be1 := veil e1_made
  have Be2 := veil e2_made
  have Bf := veil (frame_made 34525 (some ⟨w.heap.size, 0, none⟩) 1 1)
  obtain ⟨u1, hu1⟩ : ∃ u1, ((w.alloc (.cells [.int .u8 99].toArray 5)).alloc (.cells Z 27)).setRow (w.heap.size + 1) (fc e1 e2 34525 (.slice (some ⟨w.heap.size, 0, none⟩) 1 1)).toArray = u1 := ⟨_, rfl⟩
  rw [hu1] at T Y1
  have M := veil e_macs
  have hb := eb_of
  have L1 := veil (frmAt Y1.out mem0 M.out).all
  have KP := put_any e1 e2 34525 (some ⟨w.heap.size, 0, none⟩) 1 1 [99] u1 e_macs (by omega) rfl (by omega) (rd_lit (Y1.out.at mem1) rfl)
  rw [hb] at KP
  replace KP := veil KP
  clear Y hu1 hb
  generalize e1 = m1 at *
  generalize e2 = m2 at *
  generalize Z.toList = ZL at *
  unfold zf at hZ
  subst hZ
  go_enter Try.func8, Try.ntmps8
  go_wp2_with (first
    | (refine wpList_build_of rfl 23 #[(0, .const (.int .u8 1)), (1, .const (.int .u8 2)), (2, .const (.int .u8 3)), (3, .const (.int .u8 4)), (4, .const (.int .u8 5)), (5, .const (.int .u8 6))] rfl #[(0, .int .u8 1), (1, .int .u8 2), (2, .int .u8 3), (3, .int .u8 4), (4, .int .u8 5), (5, .int .u8 6)] (by simp [Act.eval]) (Be1.out _) ?_)
    | (refine wpList_build_of rfl 23 #[(0, .const (.int .u8 7)), (1, .const (.int .u8 8)), (2, .const (.int .u8 9)), (3, .const (.int .u8 10)), (4, .const (.int .u8 11)), (5, .const (.int .u8 12))] rfl #[(0, .int .u8 7), (1, .int .u8 8), (2, .int .u8 9), (3, .int .u8 10), (4, .int .u8 11), (5, .int .u8 12)] (by simp [Act.eval]) (Be2.out _) ?_)
    | (refine wpList_build_of rfl 27 #[(0, .tmp 2), (1, .tmp 3), (2, .const (.int .u16 34525)), (3, .tmp 4)] rfl #[(0, av m1), (1, av m2), (2, .int .u16 34525), (3, .slice (some ⟨w.heap.size, 0, none⟩) 1 1)] (by simp [Act.eval, Act.put]) (Bf.out _) ?_)
    | (refine wpList_load_of rfl _ rfl rfl L1.out ?_)
    | (refine wpList_store_of rfl _ _ rfl rfl rfl T.out ?_))
  refine (KP.out).mono ?_
  rintro e w2 ⟨g, hg, rfl, r2, q2⟩
  have Y2 := Y1.out.got q2 r2 hg
  clear KP T L1 Bf Be1 Be2 q2 r2 Y1
  have Y3 := veil (Y2.keep (below_new w2 (.cells eb8 5)))
  have KS := veil (sameBytes_eq (some ⟨g, 0, none⟩) (some ⟨w2.heap.size, 0, none⟩) 15 15 15 eb (w2.alloc (.cells eb8 5)) rfl (by unfold maxLen; omega) (rd_lit (Y3.out.at mem0) rfl) (rd_lit (heap_alloc_new w2 _) rfl))
  unfold eb8 at Y3 KS
  clear Y2
  go_wp2_with fail
  refine (KS.out).mono ?_
  rintro e w3 ⟨rfl, hs⟩
  have Y4 := veil (Y3.out.still hs)
  have KG := group_any ea w3 rfl
  rw [em_of] at KG
  replace KG := veil KG
  have Bea := veil ea_made
  have Bem := veil em_made
  have E : ∀ u, (binOp .eql 23 (av em) (av em)).run Try.prog u = .ok (.bool true) u := fun u => mac_eql u rfl rfl (by simp)
  clear Y3 KS hs
  generalize ea = xa at *
  generalize em = xm at *
  go_wp2_with (refine wpList_build_of rfl 29 #[(0, .const (.int .u8 255)), (1, .const (.int .u8 2)), (11, .const (.int .u8 1)), (12, .const (.int .u8 255)), (14, .const (.int .u8 18)), (15, .const (.int .u8 52))] rfl #[(0, .int .u8 255), (1, .int .u8 2), (11, .int .u8 1), (12, .int .u8 255), (14, .int .u8 18), (15, .int .u8 52)] (by simp [Act.eval]) (Bea.out _) ?_)
  refine (KG.out).mono ?_
  rintro e w4 ⟨rfl, q4⟩
  have Y5 := veil (Y4.out.keep q4)
  clear q4 KG Y4
  go_wp2_with (refine wpList_build_of rfl 23 #[(0, .const (.int .u8 51)), (1, .const (.int .u8 51)), (2, .const (.int .u8 255)), (3, .const (.int .u8 0)), (4, .const (.int .u8 18)), (5, .const (.int .u8 52))] rfl #[(0, .int .u8 51), (1, .int .u8 51), (2, .int .u8 255), (3, .int .u8 0), (4, .int .u8 18), (5, .int .u8 52)] (by simp [Act.eval]) (Bem.out _) ?_)
  go_ret
  exact ⟨rfl, Y5.out.below⟩

end Go.Proofs.Ytihhbniceiammaa.Et
