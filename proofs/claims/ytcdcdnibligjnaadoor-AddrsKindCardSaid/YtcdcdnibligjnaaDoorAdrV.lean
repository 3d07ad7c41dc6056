/-
  What the reference's Solicited answers.
  Conditions: none.
-/
import Derived.Test.YtcdcdnibligjnaaDoorAdrR
import Derived.Test.YtcdcdnibligjnaaDoorAdrQ
namespace Go.Proofs.YtcdcdnibligjnaaDoor.Ad
open Go.RowKit

/-- a solicited address, as it begins -/
def ff : List Int := [255, 2, 0, 0, 0, 0, 0, 0, 0, 0, 0, 0, 0, 0, 0, 0]
theorem ff_made (w : World) : (Instr.build 23 #[(0, .int .u8 255), (1, .int .u8 2)]).run Tryd.prog w = .ok (av ff) w := by unfold ff; kernel_rfl
set_option maxHeartbeats 1000000 in
theorem refSolicited_any (xs : List Int) (w : World) (h : Ok xs) : Calls Tryd.prog 24 #[av xs] w fun e w' => e = .returned (av (sol xs)) ∧ Below w.heap.size w w' := by
  have E : (((((ff.set 11 1).set 12 255).set 13 (xs.getD 13 0)).set 14 (xs.getD 14 0)).set 15 (xs.getD 15 0)) = sol xs := rfl
  have O := (sol_ok h).len
  have M3 := (((Rws.begin w).push xs h.len).push nil rfl).push nil rfl
  obtain ⟨w4, A4, M4⟩ := M3.put 2 (m := ff) rfl rfl
  obtain ⟨w5, A5, M5⟩ := M4.poke 2 (i := 11) rfl (by omega) 1
  obtain ⟨w6, A6, M6⟩ := M5.poke 2 (i := 12) rfl (by omega) 255
  have c13 : w6.cell? ⟨w.heap.size, 13, none⟩ = some (.int .u8 (xs.getD 13 0)) := M6.cell 0 (i := 13) rfl (by omega)
  obtain ⟨w7, A7, M7⟩ := M6.poke 2 (i := 13) rfl (by omega) (xs.getD 13 0)
  have c14 : w7.cell? ⟨w.heap.size, 14, none⟩ = some (.int .u8 (xs.getD 14 0)) := M7.cell 0 (i := 14) rfl (by omega)
  obtain ⟨w8, A8, M8⟩ := M7.poke 2 (i := 14) rfl (by omega) (xs.getD 14 0)
  have c15 : w8.cell? ⟨w.heap.size, 15, none⟩ = some (.int .u8 (xs.getD 15 0)) := M8.cell 0 (i := 15) rfl (by omega)
  obtain ⟨w9, A9, M9⟩ := M8.poke 2 (i := 15) rfl (by omega) (xs.getD 15 0)
  have L9 := M9.load 2 rfl
  rw [E] at L9
  obtain ⟨w10, A10, M10⟩ := M9.put 1 (m := sol xs) rfl O
  obtain ⟨R, hl⟩ := M10.result 1 rfl
  have Q := veil M10.below
  replace R := veil R
  have T4 : Hid ((Instr.storeAt 23 (.pointer (some ⟨w.heap.size + 1 + 1, 0, none⟩)) (av ff)).run Tryd.prog (((w.alloc (.cells (bv xs).toArray 23)).alloc (.cells #[.int .u8 0, .int .u8 0, .int .u8 0, .int .u8 0, .int .u8 0, .int .u8 0, .int .u8 0, .int .u8 0, .int .u8 0, .int .u8 0, .int .u8 0, .int .u8 0, .int .u8 0, .int .u8 0, .int .u8 0, .int .u8 0] 23)).alloc (.cells #[.int .u8 0, .int .u8 0, .int .u8 0, .int .u8 0, .int .u8 0, .int .u8 0, .int .u8 0, .int .u8 0, .int .u8 0, .int .u8 0, .int .u8 0, .int .u8 0, .int .u8 0, .int .u8 0, .int .u8 0, .int .u8 0] 23)) = .ok () w4) := A4
  have T5 : Hid ((Instr.storeAt 5 (.pointer (some ⟨w.heap.size + 1 + 1, 11, none⟩)) (.int .u8 1)).run Tryd.prog w4 = .ok () w5) := A5
  have T6 : Hid ((Instr.storeAt 5 (.pointer (some ⟨w.heap.size + 1 + 1, 12, none⟩)) (.int .u8 255)).run Tryd.prog w5 = .ok () w6) := A6
  have T7 : Hid ((Instr.storeAt 5 (.pointer (some ⟨w.heap.size + 1 + 1, 13, none⟩)) (.int .u8 (xs.getD 13 0))).run Tryd.prog w6 = .ok () w7) := A7
  have T8 : Hid ((Instr.storeAt 5 (.pointer (some ⟨w.heap.size + 1 + 1, 14, none⟩)) (.int .u8 (xs.getD 14 0))).run Tryd.prog w7 = .ok () w8) := A8
  have T9 : Hid ((Instr.storeAt 5 (.pointer (some ⟨w.heap.size + 1 + 1, 15, none⟩)) (.int .u8 (xs.getD 15 0))).run Tryd.prog w8 = .ok () w9) := A9
  have L : Hid ((Instr.loadAt 23 (.pointer (some ⟨w.heap.size + 1 + 1, 0, none⟩))).run Tryd.prog w9 = .ok (av (sol xs)) w9) := L9
  have T10 : Hid ((Instr.storeAt 23 (.pointer (some ⟨w.heap.size + 1, 0, none⟩)) (av (sol xs))).run Tryd.prog w9 = .ok () w10) := A10
  clear M3 M4 M5 M6 M7 M8 M9 M10 A4 A5 A6 A7 A8 A9 A10 L9 E O h
  generalize xs.getD 13 0 = a at *
  generalize xs.getD 14 0 = b at *
  generalize xs.getD 15 0 = c at *
  generalize sol xs = ys at *
  go_enter Tryd.func24, Tryd.ntmps24
  go_wp2_with (first
    | (refine wpList_build_of rfl 23 #[(0, .const (.int .u8 255)), (1, .const (.int .u8 2))] rfl #[(0, .int .u8 255), (1, .int .u8 2)] (by simp [Act.eval]) (ff_made _) ?_)
    | (refine wpList_store_of (t := 23) rfl (.tmp 3) (.tmp 4) rfl rfl rfl T4.out ?_)
    | (refine wpList_store_of (t := 5) rfl (.tmp 5) (.const (.int .u8 1)) rfl rfl rfl T5.out ?_)
    | (refine wpList_store_of (t := 5) rfl (.tmp 6) (.const (.int .u8 255)) rfl rfl rfl T6.out ?_)
    | (refine wpList_store_of (t := 5) rfl (.tmp 9) (.tmp 8) rfl rfl rfl T7.out ?_)
    | (refine wpList_store_of (t := 5) rfl (.tmp 12) (.tmp 11) rfl rfl rfl T8.out ?_)
    | (refine wpList_store_of (t := 5) rfl (.tmp 15) (.tmp 14) rfl rfl rfl T9.out ?_)
    | (refine load_at (some 16) rfl (t := 23) rfl (.tmp 3) rfl rfl L.out ?_)
    | (refine wpList_store_of (t := 23) rfl (.tmp 2) (.tmp 16) rfl rfl rfl T10.out ?_))
  refine bodyPost_ret (results_cell_row rfl _ _ (w.heap.size + 1) _ _ (0, 0) _ rfl R.out Tryd.underlying23 rfl hl) rfl ?_
  exact ⟨rfl, Q.out⟩

end Go.Proofs.YtcdcdnibligjnaaDoor.Ad
