/-
  What the functions of addrs that look at single bytes answer, whatever address they are handed.
  Conditions: the known addresses lie in their table.
-/
import Derived.Test.YtcdcdnibligjnaaDoorAdrM
namespace Go.Proofs.YtcdcdnibligjnaaDoor.Ad
open Go.RowKit

theorem unspecified_any (w : World) (h : Knw w) : Calls Tryd.prog 9 #[] w fun e w' => e = .returned (av (kn 0)) ∧ Below w.heap.size w w' := by
  go_enter Tryd.func9, Tryd.ntmps9
  obtain ⟨Z, hZ⟩ : ∃ Z : Array Value, Z = #[.int .u8 0, .int .u8 0, .int .u8 0, .int .u8 0, .int .u8 0, .int .u8 0, .int .u8 0, .int .u8 0, .int .u8 0, .int .u8 0, .int .u8 0, .int .u8 0, .int .u8 0, .int .u8 0, .int .u8 0, .int .u8 0] := ⟨_, rfl⟩
  have hs : Z.size = 16 := by rw [hZ]; rfl
  have R := row_new (w := w) (g := w.heap.size) (cs := Z) (t := 23) rfl
  have q := below_new w (.cells Z 23)
  have L := veil ((h.keep q).load 0 0 (by omega) rfl)
  have T := veil (store_row R hs (kn_len (show 0 < 6 by omega)))
  have R' := veil (R.setRow (bv (kn 0)).toArray)
  have q' := veil (below_setRow q w.heap.size (bv (kn 0)).toArray (Nat.le_refl _))
  have hl := sizeOk (kn_len (show 0 < 6 by omega))
  generalize kn 0 = xs at *
  clear R q hs h
  subst hZ
  go_wp2_with (first
    | (refine wpList_load_of rfl _ rfl rfl L.out ?_)
    | (refine wpList_store_of rfl _ _ rfl rfl rfl T.out ?_))
  refine bodyPost_ret (results_cell_row rfl _ _ w.heap.size _ _ (0, 0) _ rfl R'.out Tryd.underlying23 rfl (by simpa using hl)) rfl ?_
  exact ⟨rfl, q'.out⟩

theorem loopback_any (w : World) (h : Knw w) : Calls Tryd.prog 10 #[] w fun e w' => e = .returned (av (kn 1)) ∧ Below w.heap.size w w' := by
  go_enter Tryd.func10, Tryd.ntmps10
  obtain ⟨Z, hZ⟩ : ∃ Z : Array Value, Z = #[.int .u8 0, .int .u8 0, .int .u8 0, .int .u8 0, .int .u8 0, .int .u8 0, .int .u8 0, .int .u8 0, .int .u8 0, .int .u8 0, .int .u8 0, .int .u8 0, .int .u8 0, .int .u8 0, .int .u8 0, .int .u8 0] := ⟨_, rfl⟩
  have hs : Z.size = 16 := by rw [hZ]; rfl
  have R := row_new (w := w) (g := w.heap.size) (cs := Z) (t := 23) rfl
  have q := below_new w (.cells Z 23)
  have L := veil ((h.keep q).load 1 16 (by omega) rfl)
  have T := veil (store_row R hs (kn_len (show 1 < 6 by omega)))
  have R' := veil (R.setRow (bv (kn 1)).toArray)
  have q' := veil (below_setRow q w.heap.size (bv (kn 1)).toArray (Nat.le_refl _))
  have hl := sizeOk (kn_len (show 1 < 6 by omega))
  generalize kn 1 = xs at *
  clear R q hs h
  subst hZ
  go_wp2_with (first
    | (refine wpList_load_of rfl _ rfl rfl L.out ?_)
    | (refine wpList_store_of rfl _ _ rfl rfl rfl T.out ?_))
  refine bodyPost_ret (results_cell_row rfl _ _ w.heap.size _ _ (0, 0) _ rfl R'.out Tryd.underlying23 rfl (by simpa using hl)) rfl ?_
  exact ⟨rfl, q'.out⟩

theorem allNodes_any (w : World) (h : Knw w) : Calls Tryd.prog 11 #[] w fun e w' => e = .returned (av (kn 2)) ∧ Below w.heap.size w w' := by
  go_enter Tryd.func11, Tryd.ntmps11
  obtain ⟨Z, hZ⟩ : ∃ Z : Array Value, Z = #[.int .u8 0, .int .u8 0, .int .u8 0, .int .u8 0, .int .u8 0, .int .u8 0, .int .u8 0, .int .u8 0, .int .u8 0, .int .u8 0, .int .u8 0, .int .u8 0, .int .u8 0, .int .u8 0, .int .u8 0, .int .u8 0] := ⟨_, rfl⟩
  have hs : Z.size = 16 := by rw [hZ]; rfl
  have R := row_new (w := w) (g := w.heap.size) (cs := Z) (t := 23) rfl
  have q := below_new w (.cells Z 23)
  have L := veil ((h.keep q).load 2 32 (by omega) rfl)
  have T := veil (store_row R hs (kn_len (show 2 < 6 by omega)))
  have R' := veil (R.setRow (bv (kn 2)).toArray)
  have q' := veil (below_setRow q w.heap.size (bv (kn 2)).toArray (Nat.le_refl _))
  have hl := sizeOk (kn_len (show 2 < 6 by omega))
  generalize kn 2 = xs at *
  clear R q hs h
  subst hZ
  go_wp2_with (first
    | (refine wpList_load_of rfl _ rfl rfl L.out ?_)
    | (refine wpList_store_of rfl _ _ rfl rfl rfl T.out ?_))
  refine bodyPost_ret (results_cell_row rfl _ _ w.heap.size _ _ (0, 0) _ rfl R'.out Tryd.underlying23 rfl (by simpa using hl)) rfl ?_
  exact ⟨rfl, q'.out⟩

theorem allRouters_any (w : World) (h : Knw w) : Calls Tryd.prog 12 #[] w fun e w' => e = .returned (av (kn 3)) ∧ Below w.heap.size w w' := by
  go_enter Tryd.func12, Tryd.ntmps12
  obtain ⟨Z, hZ⟩ : ∃ Z : Array Value, Z = #[.int .u8 0, .int .u8 0, .int .u8 0, .int .u8 0, .int .u8 0, .int .u8 0, .int .u8 0, .int .u8 0, .int .u8 0, .int .u8 0, .int .u8 0, .int .u8 0, .int .u8 0, .int .u8 0, .int .u8 0, .int .u8 0] := ⟨_, rfl⟩
  have hs : Z.size = 16 := by rw [hZ]; rfl
  have R := row_new (w := w) (g := w.heap.size) (cs := Z) (t := 23) rfl
  have q := below_new w (.cells Z 23)
  have L := veil ((h.keep q).load 3 48 (by omega) rfl)
  have T := veil (store_row R hs (kn_len (show 3 < 6 by omega)))
  have R' := veil (R.setRow (bv (kn 3)).toArray)
  have q' := veil (below_setRow q w.heap.size (bv (kn 3)).toArray (Nat.le_refl _))
  have hl := sizeOk (kn_len (show 3 < 6 by omega))
  generalize kn 3 = xs at *
  clear R q hs h
  subst hZ
  go_wp2_with (first
    | (refine wpList_load_of rfl _ rfl rfl L.out ?_)
    | (refine wpList_store_of rfl _ _ rfl rfl rfl T.out ?_))
  refine bodyPost_ret (results_cell_row rfl _ _ w.heap.size _ _ (0, 0) _ rfl R'.out Tryd.underlying23 rfl (by simpa using hl)) rfl ?_
  exact ⟨rfl, q'.out⟩

theorem listeners_any (w : World) (h : Knw w) : Calls Tryd.prog 13 #[] w fun e w' => e = .returned (av (kn 4)) ∧ Below w.heap.size w w' := by
  go_enter Tryd.func13, Tryd.ntmps13
  obtain ⟨Z, hZ⟩ : ∃ Z : Array Value, Z = #[.int .u8 0, .int .u8 0, .int .u8 0, .int .u8 0, .int .u8 0, .int .u8 0, .int .u8 0, .int .u8 0, .int .u8 0, .int .u8 0, .int .u8 0, .int .u8 0, .int .u8 0, .int .u8 0, .int .u8 0, .int .u8 0] := ⟨_, rfl⟩
  have hs : Z.size = 16 := by rw [hZ]; rfl
  have R := row_new (w := w) (g := w.heap.size) (cs := Z) (t := 23) rfl
  have q := below_new w (.cells Z 23)
  have L := veil ((h.keep q).load 4 64 (by omega) rfl)
  have T := veil (store_row R hs (kn_len (show 4 < 6 by omega)))
  have R' := veil (R.setRow (bv (kn 4)).toArray)
  have q' := veil (below_setRow q w.heap.size (bv (kn 4)).toArray (Nat.le_refl _))
  have hl := sizeOk (kn_len (show 4 < 6 by omega))
  generalize kn 4 = xs at *
  clear R q hs h
  subst hZ
  go_wp2_with (first
    | (refine wpList_load_of rfl _ rfl rfl L.out ?_)
    | (refine wpList_store_of rfl _ _ rfl rfl rfl T.out ?_))
  refine bodyPost_ret (results_cell_row rfl _ _ w.heap.size _ _ (0, 0) _ rfl R'.out Tryd.underlying23 rfl (by simpa using hl)) rfl ?_
  exact ⟨rfl, q'.out⟩

theorem servers_any (w : World) (h : Knw w) : Calls Tryd.prog 14 #[] w fun e w' => e = .returned (av (kn 5)) ∧ Below w.heap.size w w' := by
  go_enter Tryd.func14, Tryd.ntmps14
  obtain ⟨Z, hZ⟩ : ∃ Z : Array Value, Z = #[.int .u8 0, .int .u8 0, .int .u8 0, .int .u8 0, .int .u8 0, .int .u8 0, .int .u8 0, .int .u8 0, .int .u8 0, .int .u8 0, .int .u8 0, .int .u8 0, .int .u8 0, .int .u8 0, .int .u8 0, .int .u8 0] := ⟨_, rfl⟩
  have hs : Z.size = 16 := by rw [hZ]; rfl
  have R := row_new (w := w) (g := w.heap.size) (cs := Z) (t := 23) rfl
  have q := below_new w (.cells Z 23)
  have L := veil ((h.keep q).load 5 80 (by omega) rfl)
  have T := veil (store_row R hs (kn_len (show 5 < 6 by omega)))
  have R' := veil (R.setRow (bv (kn 5)).toArray)
  have q' := veil (below_setRow q w.heap.size (bv (kn 5)).toArray (Nat.le_refl _))
  have hl := sizeOk (kn_len (show 5 < 6 by omega))
  generalize kn 5 = xs at *
  clear R q hs h
  subst hZ
  go_wp2_with (first
    | (refine wpList_load_of rfl _ rfl rfl L.out ?_)
    | (refine wpList_store_of rfl _ _ rfl rfl rfl T.out ?_))
  refine bodyPost_ret (results_cell_row rfl _ _ w.heap.size _ _ (0, 0) _ rfl R'.out Tryd.underlying23 rfl (by simpa using hl)) rfl ?_
  exact ⟨rfl, q'.out⟩

end Go.Proofs.YtcdcdnibligjnaaDoor.Ad
