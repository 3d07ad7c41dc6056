/-
  What Within and Of answer, whatever address, prefix and id they are handed.
  Conditions: none.
-/
import Derived.Test.YtcdcdnibligjnaaDoorAdrD
import Derived.Deep.RegionHeld3
import Derived.Deep.RegionLaw
import Derived.BigRegion
namespace Go.Proofs.YtcdcdnibligjnaaDoor.Ad
open Go.RowKit

/-- a prefix by value -/
abbrev pv (ys : List Int) (b : Int) : Value := .agg (bv (ys ++ [b])).toArray
theorem size17 : (Tryd.prog.info? 36).map (·.size) = some 17 := by kernel_rfl
theorem sizePv {ys : List Int} {b : Int} (h : ys.length = 16) : (Tryd.prog.info? 36).map (·.size) = some (bv (ys ++ [b])).length := by rw [size17]; simp [bv, h]
theorem pv_addr {w : World} {g o : Nat} {ys : List Int} {b : Int} (h : w.rangeAt g o (bv (ys ++ [b]))) : w.rangeAt g o (bv ys) := fun j v hv => h j v (by
  have := (List.getElem?_eq_some_iff.1 hv).1
  simp only [bv, List.map_append] at hv ⊢
  rw [List.getElem?_append_left (by simpa [bv] using this)]
  exact hv)
theorem pv_bits {w : World} {g : Nat} {ys : List Int} {b : Int} (h : w.rangeAt g 0 (bv (ys ++ [b]))) (hy : ys.length = 16) : w.cell? ⟨g, 16, none⟩ = some (.int .u8 b) := by
  have := h 16 (.int .u8 b) (by simp [bv, hy])
  simpa using this
/-- is it of a prefix? -/
def inp (xs ys : List Int) (b : Nat) : Bool := decide (min b 128 ≤ com xs ys)

set_option linter.unusedSimpArgs false in
set_option maxHeartbeats 2000000 in
theorem within_any (xs ys : List Int) (b : Nat) (w : World) (hx : Ok xs) (hy : Ok ys) (hb : b ≤ 255) : Calls Tryd.prog 30 #[av xs, pv ys b] w fun e w' => e = .returned (.bool (inp xs ys b)) ∧ Below w.heap.size w w' := by
  have q0 := below_new w (.cells (bv xs).toArray 23)
  have r0 := row_new (w := w) (g := w.heap.size) (cs := (bv xs).toArray) (t := 23) rfl
  have z0 : (w.alloc (.cells (bv xs).toArray 23)).heap.size = w.heap.size + 1 := by simp
  have q1 := below_new (w.alloc (.cells (bv xs).toArray 23)) (.cells (bv (ys ++ [(b : Int)])).toArray 36)
  have R0 := rng_row (r0.keep q1)
  have R1 := rng_row (row_new (w := w.alloc (.cells (bv xs).toArray 23)) (g := w.heap.size + 1) (cs := (bv (ys ++ [(b : Int)])).toArray) (t := 36) z0.symm)
  have Q := veil (q0.trans (q1.mono q0.size))
  have S0 := veil (And.intro R0 (And.intro (pv_addr R1) (pv_bits R1 hy.len)))
  have hix := sizeOk hx.len
  have hiy := sizeOk hy.len
  have HX := veil hx
  have HY := veil hy
  clear q0 r0 z0 q1 hx hy R0 R1
  go_enter Tryd.func30, Tryd.ntmps30
  go_wp2_with fail
  generalize (w.alloc (.cells (bv xs).toArray 23)).alloc (.cells (bv (ys ++ [(b : Int)])).toArray 36) = w1 at *
  have S1 : Hid (w1.drew.rangeAt w.heap.size 0 (bv xs) ∧ w1.drew.rangeAt (w.heap.size + 1) 0 (bv ys) ∧ w1.drew.cell? ⟨w.heap.size + 1, 16, none⟩ = some (.int .u8 b)) := S0.out
  have Q1 : Hid (Below w.heap.size w w1.drew) := still_below Q.out
  have K1 := veil (common_any xs ys w1.drew HX.out HY.out)
  clear S0 Q HX HY
  have C := veil (com_le xs ys)
  have hwb : IntKind.i64.wrap (b : Int) = b := by rw [IntKind.wrap_i64]; omega
  have I : Hid (inp xs ys b = decide (min b 128 ≤ com xs ys)) := rfl
  generalize com xs ys = n at *
  rcases (by omega : (b : Int) ≤ 128 ∨ 128 < (b : Int)) with h | h
  · skip
    refine wp_region_noPanic ?_
    refine wp_region_held_drew (S := (fun w' => w'.rangeAt w.heap.size 0 (bv xs) ∧ w'.rangeAt (w.heap.size + 1) 0 (bv ys) ∧ w'.cell? ⟨w.heap.size + 1, 16, none⟩ = some (.int .u8 b))) (by kernel_rfl) S1.out (fun hHeld => ?_)
    refine wpAnyH_take (i := 0) (v := _) (by rfl) (by kernel_rfl) (by kernel_rfl) (by kernel_rfl) (fun _ _ _ h => h) (yieldsIf_load_mid (by rfl) _ _ (by rfl) _ _ rfl (bv xs) _ (fun _ h => h.1) Tryd.underlying23 rfl hix) hHeld ?_
    try simp only [Act.put, List.setIfInBounds_toArray, List.set_cons_zero, List.set_cons_succ, List.getElem_toArray, List.getElem_cons_zero, List.getElem_cons_succ]
    refine wpAnyH_take (i := 1) (v := ?_) (by rfl) (by kernel_rfl) (by kernel_rfl) (by kernel_rfl) (fun _ _ _ h => h) (Or.inl ⟨by rfl, ?_⟩) hHeld ?_
    rotate_left
    · intro w' hSw
      (try dsimp only at hSw)
      simp only [List.getElem_toArray, List.getElem_cons_zero, List.getElem_cons_succ]
      go_simp
      all_goals (try with_reducible rfl)
    try simp only [Act.put, List.setIfInBounds_toArray, List.set_cons_zero, List.set_cons_succ, List.getElem_toArray, List.getElem_cons_zero, List.getElem_cons_succ]
    refine wpAnyH_take (i := 2) (v := _) (by rfl) (by kernel_rfl) (by kernel_rfl) (by kernel_rfl) (fun _ _ _ h => h) (yieldsIf_load_mid (by rfl) _ _ (by rfl) _ _ rfl (bv ys) _ (fun _ h => h.2.1) Tryd.underlying23 rfl hiy) hHeld ?_
    try simp only [Act.put, List.setIfInBounds_toArray, List.set_cons_zero, List.set_cons_succ, List.getElem_toArray, List.getElem_cons_zero, List.getElem_cons_succ]
    refine wpAnyH_take (i := 4) (v := ?_) (by rfl) (by kernel_rfl) (by kernel_rfl) (by kernel_rfl) (fun _ _ _ h => h) (Or.inl ⟨by rfl, ?_⟩) hHeld ?_
    rotate_left
    · intro w' hSw
      (try dsimp only at hSw)
      simp only [List.getElem_toArray, List.getElem_cons_zero, List.getElem_cons_succ]
      go_simp
      all_goals (try with_reducible rfl)
    try simp only [Act.put, List.setIfInBounds_toArray, List.set_cons_zero, List.set_cons_succ, List.getElem_toArray, List.getElem_cons_zero, List.getElem_cons_succ]
    refine wpAnyH_take (i := 5) (v := ?_) (by rfl) (by kernel_rfl) (by kernel_rfl) (by kernel_rfl) (fun _ _ _ h => h) (Or.inl ⟨by rfl, ?_⟩) hHeld ?_
    rotate_left
    · intro w' hSw
      (try dsimp only at hSw)
      simp only [List.getElem_toArray, List.getElem_cons_zero, List.getElem_cons_succ]
      go_simp
      all_goals (try with_reducible rfl)
    try simp only [Act.put, List.setIfInBounds_toArray, List.set_cons_zero, List.set_cons_succ, List.getElem_toArray, List.getElem_cons_zero, List.getElem_cons_succ]
    refine wpAnyH_take (i := 6) (v := ?_) (by rfl) (by kernel_rfl) (by kernel_rfl) (by kernel_rfl) (fun _ _ _ h => h) (Or.inl ⟨by rfl, ?_⟩) hHeld ?_
    rotate_left
    · intro w' hSw
      (try dsimp only at hSw)
      simp only [List.getElem_toArray, List.getElem_cons_zero, List.getElem_cons_succ]
      go_simp
      all_goals (try with_reducible rfl)
    try simp only [Act.put, List.setIfInBounds_toArray, List.set_cons_zero, List.set_cons_succ, List.getElem_toArray, List.getElem_cons_zero, List.getElem_cons_succ]
    refine wpAnyH_take (i := 7) (v := ?_) (by rfl) (by kernel_rfl) (by kernel_rfl) (by kernel_rfl) (fun _ _ _ h => h) (Or.inl ⟨by rfl, ?_⟩) hHeld ?_
    rotate_left
    · intro w' hSw
      (try dsimp only at hSw)
      simp only [List.getElem_toArray, List.getElem_cons_zero, List.getElem_cons_succ]
      go_simp
      all_goals (try with_reducible rfl)
    try simp only [Act.put, List.setIfInBounds_toArray, List.set_cons_zero, List.set_cons_succ, List.getElem_toArray, List.getElem_cons_zero, List.getElem_cons_succ]
    refine wpAnyH_ready (rs := [3]) (by kernel_rfl) (by simp) ?_
    refine AllReadyH.cons (by rfl) (fun K hK => ?_) AllReadyH.nil
    simp only [List.getElem_toArray, List.getElem_cons_zero, List.getElem_cons_succ]
    go_simp
    refine (K1.out).mono ?_
    rintro e w2 ⟨rfl, q2⟩
    have S2 : Hid (w2.rangeAt w.heap.size 0 (bv xs) ∧ w2.rangeAt (w.heap.size + 1) 0 (bv ys) ∧ w2.cell? ⟨w.heap.size + 1, 16, none⟩ = some (.int .u8 b)) := ⟨rng_keep S1.out.1 q2, rng_keep S1.out.2.1 q2, (q2.cell (block_lt_of_cell S1.out.2.2)).trans S1.out.2.2⟩
    have Q2 := veil (Q1.out.trans (q2.mono Q1.out.size))
    clear q2 K1
    (try dsimp only)
    refine hK.out _ _ S2.out (fun hHeld => ?_)
    clear hK K
    try simp only [Act.put, List.setIfInBounds_toArray, List.set_cons_zero, List.set_cons_succ, List.getElem_toArray, List.getElem_cons_zero, List.getElem_cons_succ]
    refine wpAnyH_take (i := 8) (v := ?_) (by rfl) (by kernel_rfl) (by kernel_rfl) (by kernel_rfl) (fun _ _ _ h => h) (Or.inl ⟨by rfl, ?_⟩) hHeld ?_
    rotate_left
    · intro w' hSw
      (try dsimp only at hSw)
      simp only [List.getElem_toArray, List.getElem_cons_zero, List.getElem_cons_succ]
      go_simp
      all_goals (try with_reducible rfl)
    try simp only [Act.put, List.setIfInBounds_toArray, List.set_cons_zero, List.set_cons_succ, List.getElem_toArray, List.getElem_cons_zero, List.getElem_cons_succ]
    refine wpAnyH_take (i := 9) (v := ?_) (by rfl) (by kernel_rfl) (by kernel_rfl) (by kernel_rfl) (fun _ _ _ h => h) (Or.inl ⟨by rfl, ?_⟩) hHeld ?_
    rotate_left
    · intro w' hSw
      (try dsimp only at hSw)
      simp only [List.getElem_toArray, List.getElem_cons_zero, List.getElem_cons_succ]
      go_simp
      all_goals (try with_reducible rfl)
    try simp only [Act.put, List.setIfInBounds_toArray, List.set_cons_zero, List.set_cons_succ, List.getElem_toArray, List.getElem_cons_zero, List.getElem_cons_succ]
    refine wpAnyH_done (by kernel_rfl) ?_ _
    refine NoPanic.normal ?_
    clear hHeld
    clear S1 S2 hix hiy
    go_wp2_with fail
    go_ret
    rw [I.out]
    refine ⟨?_, Q2.out⟩
    have e : (min b 128 ≤ n) = (b ≤ n) := by simp only [eq_iff_iff]; omega
    simp [e]
    try omega
  · skip
    refine wp_region_noPanic ?_
    refine wp_region_held_drew (S := (fun w' => w'.rangeAt w.heap.size 0 (bv xs) ∧ w'.rangeAt (w.heap.size + 1) 0 (bv ys) ∧ w'.cell? ⟨w.heap.size + 1, 16, none⟩ = some (.int .u8 b))) (by kernel_rfl) S1.out (fun hHeld => ?_)
    refine wpAnyH_take (i := 0) (v := _) (by rfl) (by kernel_rfl) (by kernel_rfl) (by kernel_rfl) (fun _ _ _ h => h) (yieldsIf_load_mid (by rfl) _ _ (by rfl) _ _ rfl (bv xs) _ (fun _ h => h.1) Tryd.underlying23 rfl hix) hHeld ?_
    try simp only [Act.put, List.setIfInBounds_toArray, List.set_cons_zero, List.set_cons_succ, List.getElem_toArray, List.getElem_cons_zero, List.getElem_cons_succ]
    refine wpAnyH_take (i := 1) (v := ?_) (by rfl) (by kernel_rfl) (by kernel_rfl) (by kernel_rfl) (fun _ _ _ h => h) (Or.inl ⟨by rfl, ?_⟩) hHeld ?_
    rotate_left
    · intro w' hSw
      (try dsimp only at hSw)
      simp only [List.getElem_toArray, List.getElem_cons_zero, List.getElem_cons_succ]
      go_simp
      all_goals (try with_reducible rfl)
    try simp only [Act.put, List.setIfInBounds_toArray, List.set_cons_zero, List.set_cons_succ, List.getElem_toArray, List.getElem_cons_zero, List.getElem_cons_succ]
    refine wpAnyH_take (i := 2) (v := _) (by rfl) (by kernel_rfl) (by kernel_rfl) (by kernel_rfl) (fun _ _ _ h => h) (yieldsIf_load_mid (by rfl) _ _ (by rfl) _ _ rfl (bv ys) _ (fun _ h => h.2.1) Tryd.underlying23 rfl hiy) hHeld ?_
    try simp only [Act.put, List.setIfInBounds_toArray, List.set_cons_zero, List.set_cons_succ, List.getElem_toArray, List.getElem_cons_zero, List.getElem_cons_succ]
    refine wpAnyH_take (i := 4) (v := ?_) (by rfl) (by kernel_rfl) (by kernel_rfl) (by kernel_rfl) (fun _ _ _ h => h) (Or.inl ⟨by rfl, ?_⟩) hHeld ?_
    rotate_left
    · intro w' hSw
      (try dsimp only at hSw)
      simp only [List.getElem_toArray, List.getElem_cons_zero, List.getElem_cons_succ]
      go_simp
      all_goals (try with_reducible rfl)
    try simp only [Act.put, List.setIfInBounds_toArray, List.set_cons_zero, List.set_cons_succ, List.getElem_toArray, List.getElem_cons_zero, List.getElem_cons_succ]
    refine wpAnyH_take (i := 5) (v := ?_) (by rfl) (by kernel_rfl) (by kernel_rfl) (by kernel_rfl) (fun _ _ _ h => h) (Or.inl ⟨by rfl, ?_⟩) hHeld ?_
    rotate_left
    · intro w' hSw
      (try dsimp only at hSw)
      simp only [List.getElem_toArray, List.getElem_cons_zero, List.getElem_cons_succ]
      go_simp
      all_goals (try with_reducible rfl)
    try simp only [Act.put, List.setIfInBounds_toArray, List.set_cons_zero, List.set_cons_succ, List.getElem_toArray, List.getElem_cons_zero, List.getElem_cons_succ]
    refine wpAnyH_take (i := 6) (v := ?_) (by rfl) (by kernel_rfl) (by kernel_rfl) (by kernel_rfl) (fun _ _ _ h => h) (Or.inl ⟨by rfl, ?_⟩) hHeld ?_
    rotate_left
    · intro w' hSw
      (try dsimp only at hSw)
      simp only [List.getElem_toArray, List.getElem_cons_zero, List.getElem_cons_succ]
      go_simp
      all_goals (try with_reducible rfl)
    try simp only [Act.put, List.setIfInBounds_toArray, List.set_cons_zero, List.set_cons_succ, List.getElem_toArray, List.getElem_cons_zero, List.getElem_cons_succ]
    refine wpAnyH_take (i := 7) (v := ?_) (by rfl) (by kernel_rfl) (by kernel_rfl) (by kernel_rfl) (fun _ _ _ h => h) (Or.inl ⟨by rfl, ?_⟩) hHeld ?_
    rotate_left
    · intro w' hSw
      (try dsimp only at hSw)
      simp only [List.getElem_toArray, List.getElem_cons_zero, List.getElem_cons_succ]
      go_simp
      all_goals (try with_reducible rfl)
    try simp only [Act.put, List.setIfInBounds_toArray, List.set_cons_zero, List.set_cons_succ, List.getElem_toArray, List.getElem_cons_zero, List.getElem_cons_succ]
    refine wpAnyH_ready (rs := [3]) (by kernel_rfl) (by simp) ?_
    refine AllReadyH.cons (by rfl) (fun K hK => ?_) AllReadyH.nil
    simp only [List.getElem_toArray, List.getElem_cons_zero, List.getElem_cons_succ]
    go_simp
    refine (K1.out).mono ?_
    rintro e w2 ⟨rfl, q2⟩
    have S2 : Hid (w2.rangeAt w.heap.size 0 (bv xs) ∧ w2.rangeAt (w.heap.size + 1) 0 (bv ys) ∧ w2.cell? ⟨w.heap.size + 1, 16, none⟩ = some (.int .u8 b)) := ⟨rng_keep S1.out.1 q2, rng_keep S1.out.2.1 q2, (q2.cell (block_lt_of_cell S1.out.2.2)).trans S1.out.2.2⟩
    have Q2 := veil (Q1.out.trans (q2.mono Q1.out.size))
    clear q2 K1
    (try dsimp only)
    refine hK.out _ _ S2.out (fun hHeld => ?_)
    clear hK K
    try simp only [Act.put, List.setIfInBounds_toArray, List.set_cons_zero, List.set_cons_succ, List.getElem_toArray, List.getElem_cons_zero, List.getElem_cons_succ]
    refine wpAnyH_take (i := 8) (v := ?_) (by rfl) (by kernel_rfl) (by kernel_rfl) (by kernel_rfl) (fun _ _ _ h => h) (Or.inl ⟨by rfl, ?_⟩) hHeld ?_
    rotate_left
    · intro w' hSw
      (try dsimp only at hSw)
      simp only [List.getElem_toArray, List.getElem_cons_zero, List.getElem_cons_succ]
      go_simp
      all_goals (try with_reducible rfl)
    try simp only [Act.put, List.setIfInBounds_toArray, List.set_cons_zero, List.set_cons_succ, List.getElem_toArray, List.getElem_cons_zero, List.getElem_cons_succ]
    refine wpAnyH_take (i := 9) (v := ?_) (by rfl) (by kernel_rfl) (by kernel_rfl) (by kernel_rfl) (fun _ _ _ h => h) (Or.inl ⟨by rfl, ?_⟩) hHeld ?_
    rotate_left
    · intro w' hSw
      (try dsimp only at hSw)
      simp only [List.getElem_toArray, List.getElem_cons_zero, List.getElem_cons_succ]
      go_simp
      all_goals (try with_reducible rfl)
    try simp only [Act.put, List.setIfInBounds_toArray, List.set_cons_zero, List.set_cons_succ, List.getElem_toArray, List.getElem_cons_zero, List.getElem_cons_succ]
    refine wpAnyH_done (by kernel_rfl) ?_ _
    refine NoPanic.normal ?_
    clear hHeld
    clear S1 S2 hix hiy
    go_wp2_with fail
    go_ret
    rw [I.out]
    refine ⟨?_, Q2.out⟩
    have e : (min b 128 ≤ n) = (128 ≤ n) := by simp only [eq_iff_iff]; omega
    simp [e]
    try omega

/-- an id by value -/
abbrev iv (id : List Int) : Value := .agg (bv id).toArray
set_option maxHeartbeats 2000000 in
theorem of_any (ps id : List Int) (b : Int) (w : World) (hp : Ok ps) (h8 : id.length = 8) : Calls Tryd.prog 32 #[pv ps b, iv id] w fun e w' => e = .returned (av (ofp ps id)) ∧ Below w.heap.size w w' := by
  go_enter Tryd.func32, Tryd.ntmps32
  obtain ⟨Z, hZ⟩ : ∃ Z : Array Value, Z = #[.int .u8 0, .int .u8 0, .int .u8 0, .int .u8 0, .int .u8 0, .int .u8 0, .int .u8 0, .int .u8 0, .int .u8 0, .int .u8 0, .int .u8 0, .int .u8 0, .int .u8 0, .int .u8 0, .int .u8 0, .int .u8 0] := ⟨_, rfl⟩
  have hs : Z.size = 16 := by rw [hZ]; rfl
  have q0 := below_new w (.cells (bv (ps ++ [b])).toArray 36)
  have r0 := row_new (w := w) (g := w.heap.size) (cs := (bv (ps ++ [b])).toArray) (t := 36) rfl
  have z0 : (w.alloc (.cells (bv (ps ++ [b])).toArray 36)).heap.size = w.heap.size + 1 := by simp
  obtain ⟨w0, hw0⟩ : ∃ w0, w.alloc (.cells (bv (ps ++ [b])).toArray 36) = w0 := ⟨_, rfl⟩
  rw [hw0] at q0 r0 z0
  have q1 := below_new w0 (.cells (bv id).toArray 32)
  have r1 := row_new (w := w0) (g := w.heap.size + 1) (cs := (bv id).toArray) (t := 32) z0.symm
  have r01 := r0.keep q1
  have z1 : (w0.alloc (.cells (bv id).toArray 32)).heap.size = w.heap.size + 1 + 1 := by simp [z0]
  obtain ⟨w1, hw1⟩ : ∃ w1, w0.alloc (.cells (bv id).toArray 32) = w1 := ⟨_, rfl⟩
  rw [hw1] at q1 r1 r01 z1
  have q2 := below_new w1 (.cells Z 23)
  have r2 := row_new (w := w1) (g := w.heap.size + 1 + 1) (cs := Z) (t := 23) z1.symm
  have r02 := r01.keep q2
  have r12 := r1.keep q2
  have z2 : (w1.alloc (.cells Z 23)).heap.size = w.heap.size + 1 + 1 + 1 := by simp [z1]
  obtain ⟨w2, hw2⟩ : ∃ w2, w1.alloc (.cells Z 23) = w2 := ⟨_, rfl⟩
  rw [hw2] at q2 r2 r02 r12 z2
  have q3 := below_new w2 (.cells Z 23)
  have r3 := row_new (w := w2) (g := w.heap.size + 1 + 1 + 1) (cs := Z) (t := 23) z2.symm
  have r13 := r12.keep q3
  have r23 := r2.keep q3
  have Q3 := ((q0.trans (q1.mono (by omega))).trans (q2.mono (by omega))).trans (q3.mono (by omega))
  have L := veil (load_rng (pv_addr (rng_row r02)) hp.len)
  have T := veil (store_row r3 hs hp.len)
  have L' : Hid ((Instr.loadAt 23 (.pointer (some ⟨w.heap.size, 0, none⟩))).run Tryd.prog (w2.alloc (.cells Z 23)) = .ok (av ps) (w2.alloc (.cells Z 23))) := load_rng (pv_addr (rng_row (r02.keep q3))) hp.len
  have R3 := r3.setRow (bv ps).toArray
  have R1 := row_setRow_far r13 (bv ps).toArray (k := w.heap.size + 1 + 1 + 1) (by omega)
  have R2 := row_setRow_far r23 (bv ps).toArray (k := w.heap.size + 1 + 1 + 1) (by omega)
  have QB := below_setRow Q3 (w.heap.size + 1 + 1 + 1) (bv ps).toArray (by omega)
  obtain ⟨w4, hw4⟩ : ∃ w4, (w2.alloc (.cells Z 23)).setRow (w.heap.size + 1 + 1 + 1) (bv ps).toArray = w4 := ⟨_, rfl⟩
  rw [hw4] at R3 R1 R2 QB T
  have HP := veil hp
  have H8 := veil h8
  have R3 := veil R3
  have R1 := veil R1
  have R2 := veil R2
  have QB := veil QB
  have HS := veil hs
  clear hw4 q0 q1 q2 q3 r0 r1 r2 r3 r01 r02 r12 r13 r23 Q3 hp h8 z0 z1 z2 hs
  subst hw2 hw1 hw0 hZ
  go_wp2_with (first
    | (refine wpList_load_of rfl _ rfl rfl L.out ?_)
    | (refine wpList_load_of rfl _ rfl rfl L'.out ?_)
    | (refine wpList_store_of rfl _ _ rfl rfl rfl T.out ?_))
  clear L L' T
  have c1 := run_copy_at (w.heap.size + 1 + 1 + 1) 8 8 8 _ (bv ps) (some ⟨w.heap.size + 1, 0, none⟩) 8 8 id w4.drew 3 H8.out (rd_lit (still_row R1.out) rfl) (by omega) (still_row R3.out) (by omega) (by rw [bv_length, HP.out.len]; omega)
  have e2 : (bv ps).take 8 ++ bv id ++ (bv ps).drop (8 + 8) = bv (ofp ps id) := by
    have h := HP.out.len
    rw [List.drop_of_length_le (by rw [bv_length]; omega), List.append_nil]
    simp [bv, ofp]
  rw [e2] at c1
  clear e2
  have R2' := veil (row_setRow_far (still_row R2.out) (bv (ofp ps id)).toArray (k := w.heap.size + 1 + 1 + 1) (by omega))
  have R3' := veil ((still_row R3.out).setRow (bv (ofp ps id)).toArray)
  have QB' := veil (below_setRow (still_below QB.out) (w.heap.size + 1 + 1 + 1) (bv (ofp ps id)).toArray (by omega))
  generalize w4.drew.setRow (w.heap.size + 1 + 1 + 1) (bv (ofp ps id)).toArray = w7 at *
  have C1 := veil c1
  clear c1 R1 R2 R3 QB
  go_region_law (refine step_copy_of rfl (.tmp 8) (.tmp 9) rfl rfl rfl C1.out ?_)
  clear C1
  have hl : (ofp ps id).length = 16 := by have := HP.out.len; have := H8.out; simp [ofp]; omega
  have L := veil (load_rng (rng_row R3'.out) hl)
  have T := veil (store_row R2'.out HS.out hl)
  have R5 := veil (R2'.out.setRow (bv (ofp ps id)).toArray)
  have Q5 := veil (below_setRow QB'.out (w.heap.size + 1 + 1) (bv (ofp ps id)).toArray (by omega))
  have hl' := sizeOk hl
  clear R2' R3' QB' hl
  go_wp2_with (first
    | (refine wpList_load_of rfl _ rfl rfl L.out ?_)
    | (refine wpList_store_of rfl _ _ rfl rfl rfl T.out ?_))
  refine bodyPost_ret (results_cell_row rfl _ _ (w.heap.size + 1 + 1) _ _ (0, 0) _ rfl R5.out Tryd.underlying23 rfl (by simpa using hl')) rfl ?_
  exact ⟨rfl, Q5.out⟩

end Go.Proofs.YtcdcdnibligjnaaDoor.Ad
