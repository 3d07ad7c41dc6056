/-
  A prefix that a literal makes of an address and a number; addresses that lie behind one another, stored; loads of single bytes in regions that draw their order.
  Conditions: none.
-/
import Derived.Test.YtcdcdnibligjnaaDoorAdrL
namespace Go.Proofs.YtcdcdnibligjnaaDoor.Ad
open Go.RowKit

theorem build_lit (a0 a1 a2 a3 a4 a5 a6 a7 a8 a9 a10 a11 a12 a13 a14 a15 b : Int) (w : World) : (Instr.build 36 #[(0, av [a0, a1, a2, a3, a4, a5, a6, a7, a8, a9, a10, a11, a12, a13, a14, a15]), (1, .int .u8 b)]).run Tryd.prog w = .ok (pv [a0, a1, a2, a3, a4, a5, a6, a7, a8, a9, a10, a11, a12, a13, a14, a15] b) w := by kernel_rfl
theorem build_lit0 (a0 a1 a2 a3 a4 a5 a6 a7 a8 a9 a10 a11 a12 a13 a14 a15 : Int) (w : World) : (Instr.build 36 #[(0, av [a0, a1, a2, a3, a4, a5, a6, a7, a8, a9, a10, a11, a12, a13, a14, a15])]).run Tryd.prog w = .ok (pv [a0, a1, a2, a3, a4, a5, a6, a7, a8, a9, a10, a11, a12, a13, a14, a15] 0) w := by kernel_rfl
theorem build_pv {ys : List Int} (h : ys.length = 16) (b : Int) (w : World) : (Instr.build 36 #[(0, av ys), (1, .int .u8 b)]).run Tryd.prog w = .ok (pv ys b) w := by
  match ys, h with
  | [a0, a1, a2, a3, a4, a5, a6, a7, a8, a9, a10, a11, a12, a13, a14, a15], _ => exact build_lit a0 a1 a2 a3 a4 a5 a6 a7 a8 a9 a10 a11 a12 a13 a14 a15 b w
theorem build_pv0 {ys : List Int} (h : ys.length = 16) (w : World) : (Instr.build 36 #[(0, av ys)]).run Tryd.prog w = .ok (pv ys 0) w := by
  match ys, h with
  | [a0, a1, a2, a3, a4, a5, a6, a7, a8, a9, a10, a11, a12, a13, a14, a15], _ => exact build_lit0 a0 a1 a2 a3 a4 a5 a6 a7 a8 a9 a10 a11 a12 a13 a14 a15 w

/-- a variable of sixteen bytes, made and filled -/
theorem At.fill {w0 w : World} {L : List (Nat × List Int)} (h : At w0 w L) (zs : List Int) {Z : Array Value} (t : TypeId) : At w0 ((w.alloc (.cells Z t)).setRow w.heap.size (bv zs).toArray) ((w.heap.size, zs) :: L) := by
  have q := below_setRow (below_new w (.cells Z t)) w.heap.size (bv zs).toArray (Nat.le_refl _)
  have k := h.keep q
  refine ⟨k.knw, fun x hx => ?_, k.below⟩
  rcases List.mem_cons.1 hx with rfl | hx
  · exact rng_row ((row_new rfl).setRow _)
  · exact k.rng x hx
theorem store_new (w : World) {Z : Array Value} (hs : Z.size = 16) {zs : List Int} (hz : zs.length = 16) : (Instr.storeAt 23 (.pointer (some ⟨w.heap.size, 0, none⟩)) (av zs)).run Tryd.prog (w.alloc (.cells Z 23)) = .ok () ((w.alloc (.cells Z 23)).setRow w.heap.size (bv zs).toArray) :=
  store_row (row_new rfl) hs hz
theorem At.byte {w0 w : World} {L : List (Nat × List Int)} (h : At w0 w L) {g : Nat} {xs : List Int} (hm : (g, xs) ∈ L) {j : Nat} (hj : j < xs.length) : w.cell? ⟨g, j, none⟩ = some (.int .u8 (xs.getD j 0)) := rng_at (h.rng _ hm) hj

end Go.Proofs.YtcdcdnibligjnaaDoor.Ad
