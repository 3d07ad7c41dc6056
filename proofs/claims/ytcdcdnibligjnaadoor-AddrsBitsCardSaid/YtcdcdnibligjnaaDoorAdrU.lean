/-
  What the reference's Within and Of answer.
  Conditions: the known addresses lie in their table.
-/
import Derived.Test.YtcdcdnibligjnaaDoorAdrS
namespace Go.Proofs.YtcdcdnibligjnaaDoor.Ad
open Go.RowKit

set_option linter.unusedSimpArgs false in
set_option maxHeartbeats 4000000 in
theorem refWithin_any (xs ys : List Int) (b : Nat) (w : World) (hx : Ok xs) (hy : Ok ys) (hb : b ≤ 255) (hk : Knw w) : Calls Tryd.prog 31 #[av xs, pv ys b] w fun e w' => e = .returned (.bool (inp xs ys b)) ∧ Below w.heap.size w w' := by
  have M := veil (((At.begin hk).new xs 23 rfl).new (ys ++ [(b : Int)]) 36 (g := w.heap.size + 1) (by simp))
  have hix := sizeOk hx.len
  have hiy := sizeOk hy.len
  have E1 : ∀ u, (binOp .eql 23 (av (msk xs b)) (av (msk ys b))).run Tryd.prog u = .ok (.bool (inp xs ys b)) u := fun u => eql_any u (msk_len _ _) (msk_len _ _) (by
    unfold inp
    rw [Bool.eq_iff_iff]
    simp only [decide_eq_true_eq]
    exact (Ad.within_iff hx hy b).symm)
  have K1 := veil (fun v h => refMasked_any xs b v hx hb h)
  have K2 := veil (fun v h => refMasked_any ys b v hy hb h)
  have HY := veil hy
  have C : Hid (∀ v, At w v [(w.heap.size + 1, ys ++ [(b : Int)]), (w.heap.size, xs)] → (∀ a ∈ [(w.heap.size + 1, ys ++ [(b : Int)]), (w.heap.size, xs)], v.rangeAt a.1 0 (bv a.2)) ∧ v.cell? ⟨w.heap.size + 1, 16, none⟩ = some (.int .u8 b)) := fun v h => ⟨h.rng, pv_bits (h.rng _ mem0) HY.out.len⟩
  generalize inp xs ys b = z at *
  generalize msk xs b = mx at *
  generalize msk ys b = my at *
  clear hx hy hk
  go_enter Tryd.func31, Tryd.ntmps31
  go_wp2_with fail
  generalize (w.alloc (.cells (bv xs).toArray 23)).alloc (.cells (bv (ys ++ [(b : Int)])).toArray 36) = w0 at *
  have M := veil M.out.drew
  refine wp_region_noPanic ?_
  refine wp_region_held_drew (S := (fun w' => (∀ a ∈ [(w.heap.size + 1, ys ++ [(b : Int)]), (w.heap.size, xs)], w'.rangeAt a.1 0 (bv a.2)) ∧ w'.cell? ⟨w.heap.size + 1, 16, none⟩ = some (.int .u8 b))) (by kernel_rfl) (C.out _ M.out) (fun hHeld => ?_)
  refine wpAnyH_take (i := 0) (v := _) (by rfl) (by kernel_rfl) (by kernel_rfl) (by kernel_rfl) (fun _ _ _ h => h) (yieldsIf_load_mid (by rfl) _ _ (by rfl) _ _ rfl (bv xs) _ (fun _ h => h.1 _ mem1) Tryd.underlying23 rfl hix) hHeld ?_
  try simp only [Act.put, List.setIfInBounds_toArray, List.set_cons_zero, List.set_cons_succ, List.getElem_toArray, List.getElem_cons_zero, List.getElem_cons_succ]
  refine wpAnyH_take (i := 1) (v := ?_) (by rfl) (by kernel_rfl) (by kernel_rfl) (by kernel_rfl) (fun _ _ _ h => h) (Or.inl ⟨by rfl, ?_⟩) hHeld ?_
  rotate_left
  · intro w' hSw
    (try dsimp only at hSw)
    simp only [List.getElem_toArray, List.getElem_cons_zero, List.getElem_cons_succ]
    go_simp
    all_goals (try with_reducible rfl)
  try simp only [Act.put, List.setIfInBounds_toArray, List.set_cons_zero, List.set_cons_succ, List.getElem_toArray, List.getElem_cons_zero, List.getElem_cons_succ]
  refine wpAnyH_take (i := 2) (v := ?_) (by rfl) (by kernel_rfl) (by kernel_rfl) (by kernel_rfl) (fun _ _ _ h => h) (Or.inl ⟨by rfl, ?_⟩) hHeld ?_
  rotate_left
  · intro w' hSw
    (try dsimp only at hSw)
    simp only [List.getElem_toArray, List.getElem_cons_zero, List.getElem_cons_succ]
    go_simp
    all_goals (try with_reducible rfl)
  try simp only [Act.put, List.setIfInBounds_toArray, List.set_cons_zero, List.set_cons_succ, List.getElem_toArray, List.getElem_cons_zero, List.getElem_cons_succ]
  refine wpAnyH_take (i := 4) (v := ?_) (by rfl) (by kernel_rfl) (by kernel_rfl) (by kernel_rfl) (fun _ _ _ h => h) (Or.inl ⟨by rfl, ?_⟩) hHeld ?_
  rotate_left
  · intro w' hSw
    (try dsimp only at hSw)
    simp only [List.getElem_toArray, List.getElem_cons_zero, List.getElem_cons_succ]
    go_simp
    all_goals (try with_reducible rfl)
  try simp only [Act.put, List.setIfInBounds_toArray, List.set_cons_zero, List.set_cons_succ, List.getElem_toArray, List.getElem_cons_zero, List.getElem_cons_succ]
  refine wpAnyH_take (i := 5) (v := _) (by rfl) (by kernel_rfl) (by kernel_rfl) (by kernel_rfl) (fun _ _ _ h => h) (yieldsIf_load_mid (by rfl) _ _ (by rfl) _ _ rfl (bv ys) _ (fun _ h => pv_addr (h.1 _ mem0)) Tryd.underlying23 rfl hiy) hHeld ?_
  try simp only [Act.put, List.setIfInBounds_toArray, List.set_cons_zero, List.set_cons_succ, List.getElem_toArray, List.getElem_cons_zero, List.getElem_cons_succ]
  refine wpAnyH_take (i := 6) (v := ?_) (by rfl) (by kernel_rfl) (by kernel_rfl) (by kernel_rfl) (fun _ _ _ h => h) (Or.inl ⟨by rfl, ?_⟩) hHeld ?_
  rotate_left
  · intro w' hSw
    (try dsimp only at hSw)
    simp only [List.getElem_toArray, List.getElem_cons_zero, List.getElem_cons_succ]
    go_simp
    all_goals (try with_reducible rfl)
  try simp only [Act.put, List.setIfInBounds_toArray, List.set_cons_zero, List.set_cons_succ, List.getElem_toArray, List.getElem_cons_zero, List.getElem_cons_succ]
  refine wpAnyH_take (i := 7) (v := ?_) (by rfl) (by kernel_rfl) (by kernel_rfl) (by kernel_rfl) (fun _ _ _ h => h) (Or.inl ⟨by rfl, ?_⟩) hHeld ?_
  rotate_left
  · intro w' hSw
    (try dsimp only at hSw)
    simp only [List.getElem_toArray, List.getElem_cons_zero, List.getElem_cons_succ]
    go_simp
    all_goals (try with_reducible rfl)
  try simp only [Act.put, List.setIfInBounds_toArray, List.set_cons_zero, List.set_cons_succ, List.getElem_toArray, List.getElem_cons_zero, List.getElem_cons_succ]
  refine wpAnyH_ready (rs := [3]) (by kernel_rfl) (by simp) ?_
  refine AllReadyH.cons (by rfl) (fun K hK => ?_) AllReadyH.nil
  simp only [List.getElem_toArray, List.getElem_cons_zero, List.getElem_cons_succ]
  go_simp
  refine (K1.out _ M.out.knw).mono ?_
  rintro e w1 ⟨rfl, q⟩
  have M := veil (M.out.keep q)
  clear q
  (try dsimp only)
  refine hK.out _ _ (C.out _ M.out) (fun hHeld => ?_)
  clear hK K
  try simp only [Act.put, List.setIfInBounds_toArray, List.set_cons_zero, List.set_cons_succ, List.getElem_toArray, List.getElem_cons_zero, List.getElem_cons_succ]
  refine wpAnyH_ready (rs := [8]) (by kernel_rfl) (by simp) ?_
  refine AllReadyH.cons (by rfl) (fun K hK => ?_) AllReadyH.nil
  simp only [List.getElem_toArray, List.getElem_cons_zero, List.getElem_cons_succ]
  go_simp
  refine (K2.out _ M.out.knw).mono ?_
  rintro e w2 ⟨rfl, q⟩
  have M := veil (M.out.keep q)
  clear q
  (try dsimp only)
  refine hK.out _ _ (C.out _ M.out) (fun hHeld => ?_)
  clear hK K
  try simp only [Act.put, List.setIfInBounds_toArray, List.set_cons_zero, List.set_cons_succ, List.getElem_toArray, List.getElem_cons_zero, List.getElem_cons_succ]
  refine wpAnyH_take (i := 9) (v := ?_) (by rfl) (by kernel_rfl) (by kernel_rfl) (by kernel_rfl) (fun _ _ _ h => h) (Or.inl ⟨by rfl, ?_⟩) hHeld ?_
  rotate_left
  · intro w' hSw
    (try dsimp only at hSw)
    simp only [List.getElem_toArray, List.getElem_cons_zero, List.getElem_cons_succ]
    go_simp
    all_goals (try with_reducible rfl)
  try simp only [Act.put, List.setIfInBounds_toArray, List.set_cons_zero, List.set_cons_succ, List.getElem_toArray, List.getElem_cons_zero, List.getElem_cons_succ]
  refine wpAnyH_take (i := 10) (v := ?_) (by rfl) (by kernel_rfl) (by kernel_rfl) (by kernel_rfl) (fun _ _ _ h => h) (Or.inl ⟨by rfl, ?_⟩) hHeld ?_
  rotate_left
  · intro w' hSw
    (try dsimp only at hSw)
    simp only [List.getElem_toArray, List.getElem_cons_zero, List.getElem_cons_succ]
    go_simp
    all_goals (try with_reducible rfl)
  try simp only [Act.put, List.setIfInBounds_toArray, List.set_cons_zero, List.set_cons_succ, List.getElem_toArray, List.getElem_cons_zero, List.getElem_cons_succ]
  refine wpAnyH_done (by kernel_rfl) ?_ _
  refine NoPanic.normal ?_
  clear hHeld
  go_wp2_with fail
  go_ret
  exact ⟨rfl, M.out.below⟩

/-- the first j bytes of both halves are laid -/
def opart (ps id : List Int) (j : Nat) : List Int := (List.range 16).map fun i => if i < 8 then (if i < j then ps.getD i 0 else 0) else (if i - 8 < j then id.getD (i - 8) 0 else 0)
theorem opart_len (ps id : List Int) (j : Nat) : (opart ps id j).length = 16 := by simp [opart]
theorem opart_at (ps id : List Int) (j : Nat) {i : Nat} (hi : i < 16) : (opart ps id j).getD i 0 = if i < 8 then (if i < j then ps.getD i 0 else 0) else (if i - 8 < j then id.getD (i - 8) 0 else 0) := by
  simp [opart, List.getD, hi]
theorem set_getD {l : List Int} {k i : Nat} {z : Int} (hk : k < l.length) : (l.set k z).getD i 0 = if k = i then z else l.getD i 0 := by
  by_cases e : k = i
  · subst e
    rw [if_pos rfl, List.getD_eq_getElem?_getD, List.getElem?_set_self hk]
    rfl
  · rw [if_neg e, List.getD_eq_getElem?_getD, List.getElem?_set_ne e, ← List.getD_eq_getElem?_getD]
theorem opart_set (ps id : List Int) {j : Nat} (hj : j < 8) : ((opart ps id j).set j (ps.getD j 0)).set (8 + j) (id.getD j 0) = opart ps id (j + 1) := by
  refine ext_getD (by simp [opart_len]) (opart_len _ _ _) (fun i hi => ?_)
  rw [set_getD (by simp [opart_len]; omega), set_getD (by rw [opart_len]; omega), opart_at _ _ _ hi, opart_at _ _ _ hi]
  by_cases h8 : 8 + j = i
  · subst h8
    rw [if_pos rfl, if_neg (by omega), if_pos (by omega), show 8 + j - 8 = j by omega]
  · rw [if_neg h8]
    by_cases hji : j = i
    · subst hji
      rw [if_pos rfl, if_pos hj, if_pos (by omega)]
    · rw [if_neg hji]
      by_cases hi8 : i < 8
      · rw [if_pos hi8, if_pos hi8]
        by_cases hlt : i < j
        · rw [if_pos hlt, if_pos (by omega)]
        · rw [if_neg hlt, if_neg (by omega)]
      · rw [if_neg hi8, if_neg hi8]
        by_cases hlt : i - 8 < j
        · rw [if_pos hlt, if_pos (by omega)]
        · rw [if_neg hlt, if_neg (by omega)]
theorem opart_none (ps id : List Int) : opart ps id 0 = nil := by
  refine ext_getD (opart_len _ _ _) rfl (fun i hi => ?_)
  have hn : nil.getD i 0 = 0 := by
    have : ∀ i : Fin 16, nil.getD i.1 0 = 0 := by decide
    exact this ⟨i, hi⟩
  rw [opart_at _ _ _ hi, hn]
  simp
theorem opart_all {ps id : List Int} (hp : Ok ps) (h8 : id.length = 8) : opart ps id 8 = ofp ps id := by
  refine ext_getD (opart_len _ _ _) (by have := hp.len; simp [ofp, h8]; omega) (fun i hi => ?_)
  rw [opart_at _ _ _ hi]
  by_cases hi8 : i < 8
  · rw [if_pos hi8, if_pos hi8, ofp_at hp hi8]
  · rw [if_neg hi8, if_pos (by omega)]
    obtain ⟨k, rfl⟩ : ∃ k, i = 8 + k := ⟨i - 8, by omega⟩
    rw [ofp_id hp, show 8 + k - 8 = k by omega]

set_option maxHeartbeats 4000000 in
theorem refOf_any (ps id : List Int) (b : Int) (w : World) (hp : Ok ps) (h8 : id.length = 8) : Calls Tryd.prog 33 #[pv ps b, iv id] w fun e w' => e = .returned (av (ofp ps id)) ∧ Below w.heap.size w w' := by
  go_enter Tryd.func33, Tryd.ntmps33
  obtain ⟨Z, hZ⟩ : ∃ Z : Array Value, Z = #[.int .u8 0, .int .u8 0, .int .u8 0, .int .u8 0, .int .u8 0, .int .u8 0, .int .u8 0, .int .u8 0, .int .u8 0, .int .u8 0, .int .u8 0, .int .u8 0, .int .u8 0, .int .u8 0, .int .u8 0, .int .u8 0] := ⟨_, rfl⟩
  have hZb : Z = (bv (opart ps id 0)).toArray := by rw [hZ, opart_none]; rfl
  have hs : Hid (Z.size = 16) := by rw [hZ]; rfl
  have q0 := below_new w (.cells (bv (ps ++ [b])).toArray 36)
  have r0 := row_new (w := w) (g := w.heap.size) (cs := (bv (ps ++ [b])).toArray) (t := 36) rfl
  have z0 : (w.alloc (.cells (bv (ps ++ [b])).toArray 36)).heap.size = w.heap.size + 1 := by simp
  obtain ⟨w0, hw0⟩ : ∃ w0, w.alloc (.cells (bv (ps ++ [b])).toArray 36) = w0 := ⟨_, rfl⟩
  rw [hw0] at q0 r0 z0
  have q1 := below_new w0 (.cells (bv id).toArray 32)
  have r1 := row_new (w := w0) (g := w.heap.size + 1) (cs := (bv id).toArray) (t := 32) z0.symm
  have r01 := r0.keep q1
  have z1 : (w0.alloc (.cells (bv id).toArray 32)).heap.size = w.heap.size + 1 + 1 := by simp [z0]
  obtain ⟨w1, hw1⟩ : ∃ w1, w0.alloc (.cells (bv id).toArray 32) = w1 := ⟨_, rfl⟩
  rw [hw1] at q1 r1 r01 z1
  have q2 := below_new w1 (.cells Z 23)
  have r2 := row_new (w := w1) (g := w.heap.size + 1 + 1) (cs := Z) (t := 23) z1.symm
  have r02 := r01.keep q2
  have r12 := r1.keep q2
  have z2 : (w1.alloc (.cells Z 23)).heap.size = w.heap.size + 1 + 1 + 1 := by simp [z1]
  obtain ⟨w2, hw2⟩ : ∃ w2, w1.alloc (.cells Z 23) = w2 := ⟨_, rfl⟩
  rw [hw2] at q2 r2 r02 r12 z2
  have q3 := below_new w2 (.cells Z 23)
  have r3 := row_new (w := w2) (g := w.heap.size + 1 + 1 + 1) (cs := Z) (t := 23) z2.symm
  have r03 := r02.keep q3
  have r13 := r12.keep q3
  have r23 := r2.keep q3
  have Q3 := ((q0.trans (q1.mono (by omega))).trans (q2.mono (by omega))).trans (q3.mono (by omega))
  obtain ⟨w3, hw3⟩ : ∃ w3, w2.alloc (.cells Z 23) = w3 := ⟨_, rfl⟩
  rw [hw3] at r03 r13 r23 r3 Q3
  rw [hZb] at r3
  have G : Hid (Row w3 w.heap.size 36 (bv (ps ++ [b])).toArray ∧ Row w3 (w.heap.size + 1) 32 (bv id).toArray ∧ Row w3 (w.heap.size + 1 + 1) 23 Z ∧ Row w3 (w.heap.size + 1 + 1 + 1) 23 (bv (opart ps id 0)).toArray ∧ Below w.heap.size w w3) := ⟨r03, r13, r23, r3, Q3⟩
  have HP := veil hp
  have H8 := veil h8
  have HW : Hid ((((w.alloc (.cells (bv (ps ++ [b])).toArray 36)).alloc (.cells (bv id).toArray 32)).alloc (.cells #[.int .u8 0, .int .u8 0, .int .u8 0, .int .u8 0, .int .u8 0, .int .u8 0, .int .u8 0, .int .u8 0, .int .u8 0, .int .u8 0, .int .u8 0, .int .u8 0, .int .u8 0, .int .u8 0, .int .u8 0, .int .u8 0] 23)).alloc (.cells #[.int .u8 0, .int .u8 0, .int .u8 0, .int .u8 0, .int .u8 0, .int .u8 0, .int .u8 0, .int .u8 0, .int .u8 0, .int .u8 0, .int .u8 0, .int .u8 0, .int .u8 0, .int .u8 0, .int .u8 0, .int .u8 0] 23) = w3) := by rw [← hZ, hw0, hw1, hw2]; exact hw3
  clear hw0 hw1 hw2 hw3 q0 q1 q2 q3 r0 r1 r2 r3 r01 r02 r12 r03 r13 r23 z0 z1 z2 Q3 hZb hp h8
  go_wp2_with fail
  rw [HW.out]
  clear HW hZ w0 w1 w2
  go_loopw [6] (fun i wr => ∃ j : Nat, j ≤ 8 ∧ i = .int .i64 j ∧ Hid (Row wr w.heap.size 36 (bv (ps ++ [b])).toArray ∧ Row wr (w.heap.size + 1) 32 (bv id).toArray ∧ Row wr (w.heap.size + 1 + 1) 23 Z ∧ Row wr (w.heap.size + 1 + 1 + 1) 23 (bv (opart ps id j)).toArray ∧ Below w.heap.size w wr)) (fun i _ => 8 - (intOf i).toNat)
  case atStart => exact ⟨0, by omega, rfl, G.out⟩
  case round =>
    obtain ⟨j, hj, rfl, hR⟩ := hrel
    clear G
    obtain ⟨r0, r1, r2, r3, qb⟩ := hR.out
    clear hR
    by_cases hlt : j < 8
    · have c0 : wr.cell? ⟨w.heap.size, j, none⟩ = some (.int .u8 (ps.getD j 0)) := rng_at (pv_addr (rng_row r0)) (by rw [HP.out.len]; omega)
      have c1 : wr.cell? ⟨w.heap.size + 1, j, none⟩ = some (.int .u8 (id.getD j 0)) := rng_at (rng_row r1) (by rw [H8.out]; exact hlt)
      have c2 : wr.cell? ⟨w.heap.size + 1 + 1 + 1, j, none⟩ = some (.int .u8 ((opart ps id j).getD j 0)) := rng_at (rng_row r3) (by rw [opart_len]; omega)
      have c3 : wr.cell? ⟨w.heap.size + 1 + 1 + 1, 8 + j, none⟩ = some (.int .u8 ((opart ps id j).getD (8 + j) 0)) := rng_at (rng_row r3) (by rw [opart_len]; omega)
      have f2 : wr.frozen? ⟨w.heap.size + 1 + 1 + 1, j, none⟩ = false := r3.frozen _
      have f3 : wr.frozen? ⟨w.heap.size + 1 + 1 + 1, 8 + j, none⟩ = false := r3.frozen _
      have E := veil (opart_set ps id hlt)
      have R3 := veil ((r3.set j (.int .u8 (ps.getD j 0))).set (8 + j) (.int .u8 (id.getD j 0)))
      rw [List.setIfInBounds_toArray, List.setIfInBounds_toArray, bv_set, bv_set, E.out] at R3
      have R0 := veil r0
      have R1 := veil r1
      have R2 := veil r2
      have QB := veil qb
      clear r0 r1 r2 r3 qb E
      generalize ps.getD j 0 = p at *
      generalize id.getD j 0 = i at *
      generalize (opart ps id j).getD j 0 = y0 at *
      generalize (opart ps id j).getD (8 + j) 0 = y1 at *
      have V : Hid (∀ u, u = (wr.setCell ⟨w.heap.size + 1 + 1 + 1, j, none⟩ (.int .u8 p)).setCell ⟨w.heap.size + 1 + 1 + 1, 8 + j, none⟩ (.int .u8 i) → Row u w.heap.size 36 (bv (ps ++ [b])).toArray ∧ Row u (w.heap.size + 1) 32 (bv id).toArray ∧ Row u (w.heap.size + 1 + 1) 23 Z ∧ Row u (w.heap.size + 1 + 1 + 1) 23 (bv (opart ps id (j + 1))).toArray ∧ Below w.heap.size w u) := by
        rintro u rfl
        exact ⟨(R0.out.far (by simp; omega) _).far (by simp; omega) _, (R1.out.far (by simp) _).far (by simp) _, (R2.out.far (by simp) _).far (by simp) _, R3.out, (QB.out.setCell (p := ⟨w.heap.size + 1 + 1 + 1, j, none⟩) (by simp; omega) _).setCell (p := ⟨w.heap.size + 1 + 1 + 1, 8 + j, none⟩) (by simp; omega) _⟩
      clear R3 R0 R1 R2 QB
      go_wp2_with fail
      go_roundw
      case rel => exact ⟨j + 1, by omega, by go_num, V.out _ rfl⟩
      case measure => simp [intOf]; omega
    · obtain rfl : j = 8 := by omega
      rw [opart_all HP.out H8.out] at r3
      have hl : (ofp ps id).length = 16 := by have := HP.out.len; have := H8.out; simp [ofp]; omega
      have L := veil (load_rng (rng_row r3) hl)
      have T := veil (store_row r2 hs.out hl)
      have R5 := veil (r2.setRow (bv (ofp ps id)).toArray)
      have Q5 := veil (below_setRow qb (w.heap.size + 1 + 1) (bv (ofp ps id)).toArray (by omega))
      have hl' := sizeOk hl
      clear r0 r1 r2 r3 qb hl
      go_wp2_with (first
        | (refine wpList_load_of (t := 23) rfl _ rfl rfl L.out ?_)
        | (refine wpList_store_of (t := 23) rfl _ _ rfl rfl rfl T.out ?_))
      refine bodyPost_ret (results_cell_row rfl _ _ (w.heap.size + 1 + 1) _ _ (0, 0) _ rfl R5.out Tryd.underlying23 rfl (by simpa using hl')) rfl ?_
      exact ⟨rfl, Q5.out⟩

end Go.Proofs.YtcdcdnibligjnaaDoor.Ad
