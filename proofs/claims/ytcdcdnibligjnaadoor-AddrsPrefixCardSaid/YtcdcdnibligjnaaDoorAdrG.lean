/-
  A prefix that a literal makes of an address and a number; addresses that lie behind one another, stored; loads of single bytes in regions that draw their order.
  Conditions: none.
-/
import Derived.Test.YtcdcdnibligjnaaDoorAdrL
namespace Go.Proofs.YtcdcdnibligjnaaDoor.Ad
open Go.RowKit

theorem build_lit (a0 a1 a2 a3 a4 a5 a6 a7 a8 a9 a10 a11 a12 a13 a14 a15 b : Int) (w : World) : (Instr.build 36 #[(0, av [a0, a1, a2, a3, a4, a5, a6, a7, a8, a9, a10, a11, a12, a13, a14, a15]), (1, .int .u8 b)]).run Tryd.prog w = .ok (pv [a0, a1, a2, a3, a4, a5, a6, a7, a8, a9, a10, a11, a12, a13, a14, a15] b) w := by kernel_rfl
theorem build_lit0 (a0 a1 a2 a3 a4 a5 a6 a7 a8 a9 a10 a11 a12 a13 a14 a15 : Int) (w : World) : (Instr.build 36 #[(0, av [a0, a1, a2, a3, a4, a5, a6, a7, a8, a9, a10, a11, a12, a13, a14, a15])]).run Tryd.prog w = .ok (pv [a0, a1, a2, a3, a4, a5, a6, a7, a8, a9, a10, a11, a12, a13, a14, a15] 0) w := by kernel_rfl
theorem build_pv {ys : List Int} (h : ys.length = 16) (b : Int) (w : World) : (Instr.build 36 #[(0, av ys), (1, .int .u8 b)]).run Tryd.prog w = .ok (pv ys b) w := by
  match ys, h with
  | [a0, a1, a2, a3, a4, a5, a6, a7, a8, a9, a10, a11, a12, a13, a14, a15], _ => exact build_lit a0 a1 a2 a3 a4 a5 a6 a7 a8 a9 a10 a11 a12 a13 a14 a15 b w
theorem build_pv0 {ys : List Int} (h : ys.length = 16) (w : World) : (Instr.build 36 #[(0, av ys)]).run Tryd.prog w = .ok (pv ys 0) w := by
  match ys, h with
  | [a0, a1, a2, a3, a4, a5, a6, a7, a8, a9, a10, a11, a12, a13, a14, a15], _ => exact build_lit0 a0 a1 a2 a3 a4 a5 a6 a7 a8 a9 a10 a11 a12 a13 a14 a15 w

end Go.Proofs.YtcdcdnibligjnaaDoor.Ad
