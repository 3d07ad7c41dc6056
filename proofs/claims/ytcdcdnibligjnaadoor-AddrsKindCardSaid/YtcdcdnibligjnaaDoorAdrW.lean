/-
  What the reference's Known answers.
  Conditions: none.
-/
import Derived.Test.YtcdcdnibligjnaaDoorAdrV
namespace Go.Proofs.YtcdcdnibligjnaaDoor.Ad
open Go.RowKit

theorem slice_known (w : World) : (Instr.buildSlice 25 6 #[(0, av (kn 0)), (1, av (kn 1)), (2, av (kn 2)), (3, av (kn 3)), (4, av (kn 4)), (5, av (kn 5))]).run Tryd.prog w = .ok (.slice (some ⟨w.heap.size, 0, none⟩) 6 6) (w.alloc (.cells (bv known).toArray 23)) := by kernel_rfl

set_option linter.unusedSimpArgs false in
set_option maxHeartbeats 4000000 in
set_option maxRecDepth 100000 in
theorem refKnown_any (w : World) : Calls Tryd.prog 16 #[] w fun e w' => e = .returned (.slice (some ⟨w.heap.size + 6, 0, none⟩) 6 6) ∧ w'.rangeAt (w.heap.size + 6) 0 (bv known) ∧ Below w.heap.size w w' := by
  have M0 := ((((((Rws.begin w).push nil rfl).push nil rfl).push nil rfl).push nil rfl).push nil rfl).push nil rfl
  obtain ⟨w1, A1, M1⟩ := M0.poke 1 (i := 15) rfl (by omega) 1
  obtain ⟨w2, A2, M2⟩ := M1.poke 2 (i := 0) rfl (by omega) 255
  obtain ⟨w3, A3, M3⟩ := M2.poke 2 (i := 1) rfl (by omega) 2
  have B4 := M3.load 2 (l := ff) rfl
  obtain ⟨w4, A4, M4⟩ := M3.put 3 (m := ff) rfl rfl
  have B5 := M4.load 2 (l := ff) rfl
  obtain ⟨w5, A5, M5⟩ := M4.put 4 (m := ff) rfl rfl
  have B6 := M5.load 2 (l := ff) rfl
  obtain ⟨w6, A6, M6⟩ := M5.put 5 (m := ff) rfl rfl
  obtain ⟨w7, A7, M7⟩ := M6.poke 2 (i := 15) rfl (by omega) 1
  obtain ⟨w8, A8, M8⟩ := M7.poke 3 (i := 15) rfl (by omega) 2
  obtain ⟨w9, A9, M9⟩ := M8.poke 4 (i := 15) rfl (by omega) 22
  obtain ⟨w10, A10, M10⟩ := M9.poke 5 (i := 13) rfl (by omega) 1
  obtain ⟨w11, A11, M11⟩ := M10.poke 5 (i := 15) rfl (by omega) 2
  have C0 := M11.load 0 (l := kn 0) rfl
  have C1 := M11.load 1 (l := kn 1) rfl
  have C2 := M11.load 2 (l := kn 2) rfl
  have C3 := M11.load 3 (l := kn 3) rfl
  have C4 := M11.load 4 (l := kn 4) rfl
  have C5 := M11.load 5 (l := kn 5) rfl
  have hz : w11.heap.size = w.heap.size + 6 := M11.size
  have q := below_new w11 (.cells (bv known).toArray 23)
  have Q := veil (M11.below.trans (q.mono M11.below.size))
  have RR := rng_row (row_new (w := w11) (g := w11.heap.size) (cs := (bv known).toArray) (t := 23) rfl)
  have sb := slice_known w11
  rw [hz] at RR sb
  generalize w11.alloc (.cells (bv known).toArray 23) = v at *
  replace sb := veil sb
  have SB := sb
  replace RR := veil RR
  have T1 : Hid ((Instr.storeAt 5 (.pointer (some ⟨w.heap.size + 1, 15, none⟩)) (.int .u8 1)).run Tryd.prog ((((((w.alloc (.cells #[.int .u8 0, .int .u8 0, .int .u8 0, .int .u8 0, .int .u8 0, .int .u8 0, .int .u8 0, .int .u8 0, .int .u8 0, .int .u8 0, .int .u8 0, .int .u8 0, .int .u8 0, .int .u8 0, .int .u8 0, .int .u8 0] 23)).alloc (.cells #[.int .u8 0, .int .u8 0, .int .u8 0, .int .u8 0, .int .u8 0, .int .u8 0, .int .u8 0, .int .u8 0, .int .u8 0, .int .u8 0, .int .u8 0, .int .u8 0, .int .u8 0, .int .u8 0, .int .u8 0, .int .u8 0] 23)).alloc (.cells #[.int .u8 0, .int .u8 0, .int .u8 0, .int .u8 0, .int .u8 0, .int .u8 0, .int .u8 0, .int .u8 0, .int .u8 0, .int .u8 0, .int .u8 0, .int .u8 0, .int .u8 0, .int .u8 0, .int .u8 0, .int .u8 0] 23)).alloc (.cells #[.int .u8 0, .int .u8 0, .int .u8 0, .int .u8 0, .int .u8 0, .int .u8 0, .int .u8 0, .int .u8 0, .int .u8 0, .int .u8 0, .int .u8 0, .int .u8 0, .int .u8 0, .int .u8 0, .int .u8 0, .int .u8 0] 23)).alloc (.cells #[.int .u8 0, .int .u8 0, .int .u8 0, .int .u8 0, .int .u8 0, .int .u8 0, .int .u8 0, .int .u8 0, .int .u8 0, .int .u8 0, .int .u8 0, .int .u8 0, .int .u8 0, .int .u8 0, .int .u8 0, .int .u8 0] 23)).alloc (.cells #[.int .u8 0, .int .u8 0, .int .u8 0, .int .u8 0, .int .u8 0, .int .u8 0, .int .u8 0, .int .u8 0, .int .u8 0, .int .u8 0, .int .u8 0, .int .u8 0, .int .u8 0, .int .u8 0, .int .u8 0, .int .u8 0] 23)) = .ok () w1) := A1
  have T2 : Hid ((Instr.storeAt 5 (.pointer (some ⟨w.heap.size + 1 + 1, 0, none⟩)) (.int .u8 255)).run Tryd.prog (w1) = .ok () w2) := A2
  have T3 : Hid ((Instr.storeAt 5 (.pointer (some ⟨w.heap.size + 1 + 1, 1, none⟩)) (.int .u8 2)).run Tryd.prog (w2) = .ok () w3) := A3
  have L4 : Hid ((Instr.loadAt 23 (.pointer (some ⟨w.heap.size + 1 + 1, 0, none⟩))).run Tryd.prog w3 = .ok (av ff) w3) := B4
  have T4 : Hid ((Instr.storeAt 23 (.pointer (some ⟨w.heap.size + 1 + 1 + 1, 0, none⟩)) (av ff)).run Tryd.prog w3 = .ok () w4) := A4
  have L5 : Hid ((Instr.loadAt 23 (.pointer (some ⟨w.heap.size + 1 + 1, 0, none⟩))).run Tryd.prog w4 = .ok (av ff) w4) := B5
  have T5 : Hid ((Instr.storeAt 23 (.pointer (some ⟨w.heap.size + 1 + 1 + 1 + 1, 0, none⟩)) (av ff)).run Tryd.prog w4 = .ok () w5) := A5
  have L6 : Hid ((Instr.loadAt 23 (.pointer (some ⟨w.heap.size + 1 + 1, 0, none⟩))).run Tryd.prog w5 = .ok (av ff) w5) := B6
  have T6 : Hid ((Instr.storeAt 23 (.pointer (some ⟨w.heap.size + 1 + 1 + 1 + 1 + 1, 0, none⟩)) (av ff)).run Tryd.prog w5 = .ok () w6) := A6
  have T7 : Hid ((Instr.storeAt 5 (.pointer (some ⟨w.heap.size + 1 + 1, 15, none⟩)) (.int .u8 1)).run Tryd.prog (w6) = .ok () w7) := A7
  have T8 : Hid ((Instr.storeAt 5 (.pointer (some ⟨w.heap.size + 1 + 1 + 1, 15, none⟩)) (.int .u8 2)).run Tryd.prog (w7) = .ok () w8) := A8
  have T9 : Hid ((Instr.storeAt 5 (.pointer (some ⟨w.heap.size + 1 + 1 + 1 + 1, 15, none⟩)) (.int .u8 22)).run Tryd.prog (w8) = .ok () w9) := A9
  have T10 : Hid ((Instr.storeAt 5 (.pointer (some ⟨w.heap.size + 1 + 1 + 1 + 1 + 1, 13, none⟩)) (.int .u8 1)).run Tryd.prog (w9) = .ok () w10) := A10
  have T11 : Hid ((Instr.storeAt 5 (.pointer (some ⟨w.heap.size + 1 + 1 + 1 + 1 + 1, 15, none⟩)) (.int .u8 2)).run Tryd.prog (w10) = .ok () w11) := A11
  have K0 : Hid ((Instr.loadAt 23 (.pointer (some ⟨w.heap.size, 0, none⟩))).run Tryd.prog w11 = .ok (av (kn 0)) w11) := C0
  have K1 : Hid ((Instr.loadAt 23 (.pointer (some ⟨w.heap.size + 1, 0, none⟩))).run Tryd.prog w11 = .ok (av (kn 1)) w11) := C1
  have K2 : Hid ((Instr.loadAt 23 (.pointer (some ⟨w.heap.size + 1 + 1, 0, none⟩))).run Tryd.prog w11 = .ok (av (kn 2)) w11) := C2
  have K3 : Hid ((Instr.loadAt 23 (.pointer (some ⟨w.heap.size + 1 + 1 + 1, 0, none⟩))).run Tryd.prog w11 = .ok (av (kn 3)) w11) := C3
  have K4 : Hid ((Instr.loadAt 23 (.pointer (some ⟨w.heap.size + 1 + 1 + 1 + 1, 0, none⟩))).run Tryd.prog w11 = .ok (av (kn 4)) w11) := C4
  have K5 : Hid ((Instr.loadAt 23 (.pointer (some ⟨w.heap.size + 1 + 1 + 1 + 1 + 1, 0, none⟩))).run Tryd.prog w11 = .ok (av (kn 5)) w11) := C5
  clear M0 A1 M1 A2 M2 A3 M3 B4 A4 M4 B5 A5 M5 B6 A6 M6 A7 M7 A8 M8 A9 M9 A10 M10 A11 M11 C0 C1 C2 C3 C4 C5 q hz sb
  generalize kn 0 = k0 at *
  generalize kn 1 = k1 at *
  generalize kn 2 = k2 at *
  generalize kn 3 = k3 at *
  generalize kn 4 = k4 at *
  generalize kn 5 = k5 at *
  go_enter Tryd.func16, Tryd.ntmps16
  go_wp2_with (first
    | (refine wpList_store_of (t := 5) rfl (.tmp 7) (.const (.int .u8 1)) rfl rfl rfl T1.out ?_; (try simp only [Act.put, List.setIfInBounds_toArray, List.set_cons_zero, List.set_cons_succ]))
    | (refine wpList_store_of (t := 5) rfl (.tmp 8) (.const (.int .u8 255)) rfl rfl rfl T2.out ?_; (try simp only [Act.put, List.setIfInBounds_toArray, List.set_cons_zero, List.set_cons_succ]))
    | (refine wpList_store_of (t := 5) rfl (.tmp 9) (.const (.int .u8 2)) rfl rfl rfl T3.out ?_; (try simp only [Act.put, List.setIfInBounds_toArray, List.set_cons_zero, List.set_cons_succ]))
    | (refine load_at (some 10) rfl (t := 23) rfl (.tmp 3) rfl rfl L4.out ?_; (try simp only [Act.put, List.setIfInBounds_toArray, List.set_cons_zero, List.set_cons_succ]))
    | (refine wpList_store_of (t := 23) rfl (.tmp 4) (.tmp 10) rfl rfl rfl T4.out ?_; (try simp only [Act.put, List.setIfInBounds_toArray, List.set_cons_zero, List.set_cons_succ]))
    | (refine load_at (some 11) rfl (t := 23) rfl (.tmp 3) rfl rfl L5.out ?_; (try simp only [Act.put, List.setIfInBounds_toArray, List.set_cons_zero, List.set_cons_succ]))
    | (refine wpList_store_of (t := 23) rfl (.tmp 5) (.tmp 11) rfl rfl rfl T5.out ?_; (try simp only [Act.put, List.setIfInBounds_toArray, List.set_cons_zero, List.set_cons_succ]))
    | (refine load_at (some 12) rfl (t := 23) rfl (.tmp 3) rfl rfl L6.out ?_; (try simp only [Act.put, List.setIfInBounds_toArray, List.set_cons_zero, List.set_cons_succ]))
    | (refine wpList_store_of (t := 23) rfl (.tmp 6) (.tmp 12) rfl rfl rfl T6.out ?_; (try simp only [Act.put, List.setIfInBounds_toArray, List.set_cons_zero, List.set_cons_succ]))
    | (refine wpList_store_of (t := 5) rfl (.tmp 13) (.const (.int .u8 1)) rfl rfl rfl T7.out ?_; (try simp only [Act.put, List.setIfInBounds_toArray, List.set_cons_zero, List.set_cons_succ]))
    | (refine wpList_store_of (t := 5) rfl (.tmp 14) (.const (.int .u8 2)) rfl rfl rfl T8.out ?_; (try simp only [Act.put, List.setIfInBounds_toArray, List.set_cons_zero, List.set_cons_succ]))
    | (refine wpList_store_of (t := 5) rfl (.tmp 15) (.const (.int .u8 22)) rfl rfl rfl T9.out ?_; (try simp only [Act.put, List.setIfInBounds_toArray, List.set_cons_zero, List.set_cons_succ]))
    | (refine wpList_store_of (t := 5) rfl (.tmp 16) (.const (.int .u8 1)) rfl rfl rfl T10.out ?_; (try simp only [Act.put, List.setIfInBounds_toArray, List.set_cons_zero, List.set_cons_succ]))
    | (refine wpList_store_of (t := 5) rfl (.tmp 17) (.const (.int .u8 2)) rfl rfl rfl T11.out ?_; (try simp only [Act.put, List.setIfInBounds_toArray, List.set_cons_zero, List.set_cons_succ]))
    | (refine load_at (some 18) rfl (t := 23) rfl (.tmp 1) rfl rfl K0.out ?_; (try simp only [Act.put, List.setIfInBounds_toArray, List.set_cons_zero, List.set_cons_succ]))
    | (refine load_at (some 19) rfl (t := 23) rfl (.tmp 2) rfl rfl K1.out ?_; (try simp only [Act.put, List.setIfInBounds_toArray, List.set_cons_zero, List.set_cons_succ]))
    | (refine load_at (some 20) rfl (t := 23) rfl (.tmp 3) rfl rfl K2.out ?_; (try simp only [Act.put, List.setIfInBounds_toArray, List.set_cons_zero, List.set_cons_succ]))
    | (refine load_at (some 21) rfl (t := 23) rfl (.tmp 4) rfl rfl K3.out ?_; (try simp only [Act.put, List.setIfInBounds_toArray, List.set_cons_zero, List.set_cons_succ]))
    | (refine load_at (some 22) rfl (t := 23) rfl (.tmp 5) rfl rfl K4.out ?_; (try simp only [Act.put, List.setIfInBounds_toArray, List.set_cons_zero, List.set_cons_succ]))
    | (refine load_at (some 23) rfl (t := 23) rfl (.tmp 6) rfl rfl K5.out ?_; (try simp only [Act.put, List.setIfInBounds_toArray, List.set_cons_zero, List.set_cons_succ]))
    | (refine slice_at (some 24) rfl rfl 25 6 #[(0, .tmp 18), (1, .tmp 19), (2, .tmp 20), (3, .tmp 21), (4, .tmp 22), (5, .tmp 23)] rfl #[(0, av k0), (1, av k1), (2, av k2), (3, av k3), (4, av k4), (5, av k5)] (by simp [Act.eval, Act.put]) SB.out ?_; (try simp only [Act.put, List.setIfInBounds_toArray, List.set_cons_zero, List.set_cons_succ])))
  go_ret
  exact ⟨rfl, RR.out, Q.out⟩

end Go.Proofs.YtcdcdnibligjnaaDoor.Ad
