/-
  What the functions of addrs that look at single bytes answer, whatever address they are handed.
  Conditions: the known addresses lie in their table.
-/
import Derived.Test.YthkiamkhignchaaDoorAdrM
namespace Go.Proofs.YthkiamkhignchaaDoor.Ad
open Go.RowKit

theorem unspecified_any (w : World) (h : Knw w) : Calls Tryd.prog 19 #[] w fun e w' => e = .returned (av (kn 0)) ∧ Below w.heap.size w w' := by
  go_enter Tryd.func19, Tryd.ntmps19
  obtain ⟨Z, hZ⟩ : ∃ Z : Array Value, Z = #[.int .u8 0, .int .u8 0, .int .u8 0, .int .u8 0, .int .u8 0, .int .u8 0, .int .u8 0, .int .u8 0, .int .u8 0, .int .u8 0, .int .u8 0, .int .u8 0, .int .u8 0, .int .u8 0, .int .u8 0, .int .u8 0] := ⟨_, rfl⟩
  have hs : Z.size = 16 := by rw [hZ]; rfl
  have R := row_new (w := w) (g := w.heap.size) (cs := Z) (t := 23) rfl
  have q := below_new w (.cells Z 23)
  have L := veil ((h.keep q).load 0 0 (by omega) rfl)
  have T := veil (store_row R hs (kn_len (show 0 < 6 by omega)))
  have R' := veil (R.setRow (bv (kn 0)).toArray)
  have q' := veil (below_setRow q w.heap.size (bv (kn 0)).toArray (Nat.le_refl _))
  have hl := sizeOk (kn_len (show 0 < 6 by omega))
  generalize kn 0 = xs at *
  clear R q hs h
  subst hZ
  go_wp2_with (first
    | (refine wpList_load_of rfl _ rfl rfl L.out ?_)
    | (refine wpList_store_of rfl _ _ rfl rfl rfl T.out ?_))
  refine bodyPost_ret (results_cell_row rfl _ _ w.heap.size _ _ (0, 0) _ rfl R'.out Tryd.underlying23 rfl (by simpa using hl)) rfl ?_
  exact ⟨rfl, q'.out⟩

end Go.Proofs.YthkiamkhignchaaDoor.Ad
