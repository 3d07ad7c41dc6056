/-
  What the reference's Masked, Within and Of answer.
  Conditions: the known addresses lie in their table.
-/
import Derived.Test.YtcdcdnibligjnaaDoorAdrR
namespace Go.Proofs.YtcdcdnibligjnaaDoor.Ad
open Go.RowKit

theorem ext_getD {l m : List Int} (hl : l.length = 16) (hm : m.length = 16) (e : ∀ i, i < 16 → l.getD i 0 = m.getD i 0) : l = m := by
  apply List.ext_getElem (by omega)
  intro i h1 h2
  have := e i (by omega)
  simpa [List.getD, h1, h2] using this
theorem msk_set {xs : List Int} {q t : Nat} (hq : q < 16) (ht : t < 8) : (msk xs (8 * q + t)).set q (mb (xs.getD q 0) (t + 1)) = msk xs (8 * q + t + 1) := by
  have e : ∀ i, i < 16 → ((msk xs (8 * q + t)).set q (mb (xs.getD q 0) (t + 1))).getD i 0 = (msk xs (8 * q + t + 1)).getD i 0 := fun i hi => by
    rw [msk_at _ _ hi]
    by_cases h : i = q
    · subst h
      rw [List.getD_eq_getElem?_getD, List.getElem?_set_self (by rw [msk_len]; exact hi), Option.getD_some, show 8 * i + t + 1 - 8 * i = t + 1 by omega]
    · rw [List.getD_eq_getElem?_getD, List.getElem?_set_ne (fun e => h e.symm), ← List.getD_eq_getElem?_getD, msk_at _ _ hi]
      by_cases hlt : i < q
      · rw [mb_big _ (by omega), mb_big _ (by omega)]
      · rw [show 8 * q + t - 8 * i = 0 by omega, show 8 * q + t + 1 - 8 * i = 0 by omega]
  exact ext_getD (by simp [msk_len]) (msk_len _ _) e
theorem Knw.lt {w : World} (h : Knw w) : 0 < w.heap.size := by
  have := h 0 (.int .u8 0) rfl
  exact block_lt_of_cell this
theorem At.far {w0 w : World} {L : List (Nat × List Int)} (h : At w0 w L) {p : Go.Addr} (h0 : Knw w0) (hp : w0.heap.size ≤ p.block) (hL : ∀ a ∈ L, a.1 ≠ p.block) (u : Value) : At w0 (w.setCell p u) L := by
  have hc : ∀ b, b ≠ p.block → ∀ i, (w.setCell p u).cell? ⟨b, i, none⟩ = w.cell? ⟨b, i, none⟩ := fun b hb i => World.cell?_of_block (Below.heap_setCell w p u b hb)
  refine ⟨fun j v hv => ?_, fun a ha j v hv => ?_, h.below.setCell hp u⟩
  · have := h.knw j v hv
    have hlt : 0 < w0.heap.size := h0.lt
    rw [hc _ (by omega)]
    exact this
  · rw [hc _ (hL a ha)]
    exact h.rng a ha j v hv
theorem bit8_le (x : Int) (t : Nat) : 0 ≤ bit8 x t ∧ bit8 x t ≤ 1 := by
  unfold bit8
  omega
theorem shl_byt (x : Int) {t : Nat} (ht : t < 8) : IntKind.u8.wrap (bit8 x t * 2 ^ (7 - t)) = bit8 x t * 2 ^ (7 - t) := by
  have h := bit8_le x t
  rw [IntKind.wrap_u8]
  generalize bit8 x t = b at h
  rcases lt8 ht with rfl | rfl | rfl | rfl | rfl | rfl | rfl | rfl <;> simp <;> omega

set_option linter.unusedSimpArgs false in
set_option maxHeartbeats 4000000 in
set_option maxRecDepth 100000 in
theorem refMasked_any (xs : List Int) (b : Nat) (w : World) (hx : Ok xs) (hb : b ≤ 255) (hk : Knw w) : Calls Tryd.prog 29 #[av xs, .int .u8 b] w fun e w' => e = .returned (av (msk xs b)) ∧ Below w.heap.size w w' := by
  go_enter Tryd.func29, Tryd.ntmps29
  obtain ⟨Z, hZ⟩ : ∃ Z : Array Value, Z = #[.int .u8 0, .int .u8 0, .int .u8 0, .int .u8 0, .int .u8 0, .int .u8 0, .int .u8 0, .int .u8 0, .int .u8 0, .int .u8 0, .int .u8 0, .int .u8 0, .int .u8 0, .int .u8 0, .int .u8 0, .int .u8 0] := ⟨_, rfl⟩
  have hZb : Z = (bv nil).toArray := by rw [hZ]; rfl
  have M0 := (At.begin hk).new xs 23 rfl
  have z0 : (w.alloc (.cells (bv xs).toArray 23)).heap.size = w.heap.size + 1 := by simp
  obtain ⟨w0, hw0⟩ : ∃ w0, w.alloc (.cells (bv xs).toArray 23) = w0 := ⟨_, rfl⟩
  rw [hw0] at M0 z0
  have q1 := below_new w0 (.cells Z 23)
  have r1 := row_new (w := w0) (g := w.heap.size + 1) (cs := Z) (t := 23) z0.symm
  have z1 : (w0.alloc (.cells Z 23)).heap.size = w.heap.size + 1 + 1 := by simp [z0]
  obtain ⟨w1, hw1⟩ : ∃ w1, w0.alloc (.cells Z 23) = w1 := ⟨_, rfl⟩
  rw [hw1] at q1 r1 z1
  have q2 := below_new w1 (.cells Z 23)
  have r2 := row_new (w := w1) (g := w.heap.size + 1 + 1) (cs := Z) (t := 23) z1.symm
  have r12 := r1.keep q2
  have M := veil ((M0.keep q1).keep q2)
  obtain ⟨w2, hw2⟩ : ∃ w2, w1.alloc (.cells Z 23) = w2 := ⟨_, rfl⟩
  rw [hw2] at M r12 r2
  have e0 : Z = (bv (msk xs 0)).toArray := by rw [hZb, msk_none hx]
  rw [e0] at r2
  have R1 := veil r12
  have R2 := veil r2
  have hs : Hid (Z.size = 16) := by rw [hZ]; rfl
  have HX := veil hx
  have HK0 := veil hk
  have hix := sizeOk hx.len
  have hwb : IntKind.i64.wrap (b : Int) = b := by rw [IntKind.wrap_i64]; omega
  have HW : Hid (((w.alloc (.cells (bv xs).toArray 23)).alloc (.cells #[.int .u8 0, .int .u8 0, .int .u8 0, .int .u8 0, .int .u8 0, .int .u8 0, .int .u8 0, .int .u8 0, .int .u8 0, .int .u8 0, .int .u8 0, .int .u8 0, .int .u8 0, .int .u8 0, .int .u8 0, .int .u8 0] 23)).alloc (.cells #[.int .u8 0, .int .u8 0, .int .u8 0, .int .u8 0, .int .u8 0, .int .u8 0, .int .u8 0, .int .u8 0, .int .u8 0, .int .u8 0, .int .u8 0, .int .u8 0, .int .u8 0, .int .u8 0, .int .u8 0, .int .u8 0] 23) = w2) := by rw [← hZ, hw0, hw1]; exact hw2
  clear hw0 hw1 hw2 M0 q1 q2 r1 r2 r12 z0 z1 e0 hZb hx hk
  go_wp2_with fail
  rw [HW.out]
  clear HW hZ w0 w1
  go_loopw [6] (fun i wr => ∃ j : Nat, j ≤ min b 128 ∧ i = .int .i64 j ∧ Hid (At w wr [(w.heap.size, xs)] ∧ Row wr (w.heap.size + 1) 23 Z ∧ Row wr (w.heap.size + 1 + 1) 23 (bv (msk xs j)).toArray)) (fun i _ => 128 - (intOf i).toNat)
  case atStart => exact ⟨0, by omega, rfl, M.out, R1.out, R2.out⟩
  case round =>
    obtain ⟨j, hj, rfl, hR⟩ := hrel
    clear M R1 R2
    by_cases hlt : j < min b 128
    · have M := veil hR.out.1.drew
      have R1 := veil (still_row hR.out.2.1)
      have R2 := veil (still_row hR.out.2.2)
      clear hR
      have K1 := veil (fun v => refBit_any xs j v HX.out (by omega))
      obtain ⟨q, t, rfl, ht⟩ : ∃ q t, j = 8 * q + t ∧ t < 8 := ⟨j / 8, j % 8, by omega, by omega⟩
      have c0 : wr.drew.cell? ⟨w.heap.size + 1 + 1, q, none⟩ = some (.int .u8 (mb (xs.getD q 0) t)) := by
        have := rng_at (rng_row R2.out) (j := q) (by rw [msk_len]; omega)
        rwa [msk_at _ _ (by omega), show 8 * q + t - 8 * q = t by omega] at this
      have HB : Hid (bit xs (8 * q + t) = bit8 (xs.getD q 0) t) := bit_at xs q t ht
      have S1 := veil (set_bit (HX.out.at q) ht)
      have S2 := veil (shl_byt (xs.getD q 0) ht)
      have S3 := veil (msk_set (xs := xs) (show q < 16 by omega) ht)
      rw [HB.out] at K1
      have hq3 : ((8 * q + t : Nat) : Int).tmod 8 = (t : Int) := by rw [Int.tmod_eq_emod_of_nonneg (by omega)]; omega
      have hq4 : ((8 * q + t : Nat) : Int).tdiv 8 = (q : Int) := by rw [Int.tdiv_eq_ediv_of_nonneg (by omega)]; omega
      have hq16 : (q : Int) < 16 := by omega
      have hlt1 : ((8 * q + t : Nat) : Int) < 128 := by omega
      have hwq : IntKind.i64.wrap (q : Int) = q := by rw [IntKind.wrap_i64]; omega
      have hwt : IntKind.i64.wrap (t : Int) = t := by rw [IntKind.wrap_i64]; omega
      have hwc : IntKind.i64.wrap ((8 * q + t : Nat) : Int) = ((8 * q + t : Nat) : Int) := by rw [IntKind.wrap_i64]; omega
      have hw7 : IntKind.i64.wrap (7 - (t : Int)) = 7 - (t : Int) := by rw [IntKind.wrap_i64]; omega
      have hlt2 : ((8 * q + t : Nat) : Int) < (b : Int) := by omega
      have hle := bit8_le (xs.getD q 0) t
      generalize xs.getD q 0 = v at *
      generalize mb v t = mt at *
      generalize mb v (t + 1) = mt1 at *
      generalize bit8 v t = bt at *
      generalize hc : 8 * q + t = c at *
      have HC := veil hc
      clear hc HB
      go_wp2_with fail
      refine wp_region_noPanic ?_
      refine wp_region_held_drew (S := (fun w' => ∀ a ∈ [(w.heap.size, xs)], w'.rangeAt a.1 0 (bv a.2))) (by kernel_rfl) M.out.rng (fun hHeld => ?_)
      refine wpAnyH_take (i := 0) (v := ?_) (by rfl) (by kernel_rfl) (by kernel_rfl) (by kernel_rfl) (fun _ _ _ h => h) (Or.inl ⟨by rfl, ?_⟩) hHeld ?_
      rotate_left
      · intro w' hSw
        (try dsimp only at hSw)
        simp only [List.getElem_toArray, List.getElem_cons_zero, List.getElem_cons_succ]
        go_simp
        all_goals (try with_reducible rfl)
      try simp only [Act.put, List.setIfInBounds_toArray, List.set_cons_zero, List.set_cons_succ, List.getElem_toArray, List.getElem_cons_zero, List.getElem_cons_succ]
      refine wpAnyH_take (i := 1) (v := ?_) (by rfl) (by kernel_rfl) (by kernel_rfl) (by kernel_rfl) (fun _ _ _ h => h) (Or.inl ⟨by rfl, ?_⟩) hHeld ?_
      rotate_left
      · intro w' hSw
        (try dsimp only at hSw)
        simp only [List.getElem_toArray, List.getElem_cons_zero, List.getElem_cons_succ]
        go_simp
        all_goals (try with_reducible rfl)
      try simp only [Act.put, List.setIfInBounds_toArray, List.set_cons_zero, List.set_cons_succ, List.getElem_toArray, List.getElem_cons_zero, List.getElem_cons_succ]
      refine wpAnyH_take (i := 2) (v := ?_) (by rfl) (by kernel_rfl) (by kernel_rfl) (by kernel_rfl) (fun _ _ _ h => h) (Or.inl ⟨by rfl, ?_⟩) hHeld ?_
      rotate_left
      · intro w' hSw
        (try dsimp only at hSw)
        simp only [List.getElem_toArray, List.getElem_cons_zero, List.getElem_cons_succ]
        go_simp
        all_goals (try with_reducible rfl)
      try simp only [Act.put, List.setIfInBounds_toArray, List.set_cons_zero, List.set_cons_succ, List.getElem_toArray, List.getElem_cons_zero, List.getElem_cons_succ]
      refine wpAnyH_take (i := 3) (v := ?_) (by rfl) (by kernel_rfl) (by kernel_rfl) (by kernel_rfl) (fun _ _ _ h => h) (Or.inl ⟨by rfl, ?_⟩) hHeld ?_
      rotate_left
      · intro w' hSw
        (try dsimp only at hSw)
        simp only [List.getElem_toArray, List.getElem_cons_zero, List.getElem_cons_succ]
        go_simp
        all_goals (try with_reducible rfl)
      try simp only [Act.put, List.setIfInBounds_toArray, List.set_cons_zero, List.set_cons_succ, List.getElem_toArray, List.getElem_cons_zero, List.getElem_cons_succ]
      refine wpAnyH_take (i := 4) (v := ?_) (by rfl) (by kernel_rfl) (by kernel_rfl) (by kernel_rfl) (fun _ _ _ h => h) (Or.inl ⟨by rfl, ?_⟩) hHeld ?_
      rotate_left
      · intro w' hSw
        (try dsimp only at hSw)
        simp only [List.getElem_toArray, List.getElem_cons_zero, List.getElem_cons_succ]
        go_simp
        all_goals (try with_reducible rfl)
      try simp only [Act.put, List.setIfInBounds_toArray, List.set_cons_zero, List.set_cons_succ, List.getElem_toArray, List.getElem_cons_zero, List.getElem_cons_succ]
      refine wpAnyH_take (i := 6) (v := _) (by rfl) (by kernel_rfl) (by kernel_rfl) (by kernel_rfl) (fun _ _ _ h => h) (yieldsIf_load_mid (by rfl) _ _ (by rfl) _ _ rfl (bv xs) _ (fun _ h => h _ mem0) Tryd.underlying23 rfl hix) hHeld ?_
      try simp only [Act.put, List.setIfInBounds_toArray, List.set_cons_zero, List.set_cons_succ, List.getElem_toArray, List.getElem_cons_zero, List.getElem_cons_succ]
      refine wpAnyH_take (i := 7) (v := ?_) (by rfl) (by kernel_rfl) (by kernel_rfl) (by kernel_rfl) (fun _ _ _ h => h) (Or.inl ⟨by rfl, ?_⟩) hHeld ?_
      rotate_left
      · intro w' hSw
        (try dsimp only at hSw)
        simp only [List.getElem_toArray, List.getElem_cons_zero, List.getElem_cons_succ]
        go_simp
        all_goals (try with_reducible rfl)
      try simp only [Act.put, List.setIfInBounds_toArray, List.set_cons_zero, List.set_cons_succ, List.getElem_toArray, List.getElem_cons_zero, List.getElem_cons_succ]
      refine wpAnyH_take (i := 9) (v := ?_) (by rfl) (by kernel_rfl) (by kernel_rfl) (by kernel_rfl) (fun _ _ _ h => h) (Or.inl ⟨by rfl, ?_⟩) hHeld ?_
      rotate_left
      · intro w' hSw
        (try dsimp only at hSw)
        simp only [List.getElem_toArray, List.getElem_cons_zero, List.getElem_cons_succ]
        go_simp
        all_goals (try with_reducible rfl)
      try simp only [Act.put, List.setIfInBounds_toArray, List.set_cons_zero, List.set_cons_succ, List.getElem_toArray, List.getElem_cons_zero, List.getElem_cons_succ]
      refine wpAnyH_take (i := 10) (v := ?_) (by rfl) (by kernel_rfl) (by kernel_rfl) (by kernel_rfl) (fun _ _ _ h => h) (Or.inl ⟨by rfl, ?_⟩) hHeld ?_
      rotate_left
      · intro w' hSw
        (try dsimp only at hSw)
        simp only [List.getElem_toArray, List.getElem_cons_zero, List.getElem_cons_succ]
        go_simp
        all_goals (try with_reducible rfl)
      try simp only [Act.put, List.setIfInBounds_toArray, List.set_cons_zero, List.set_cons_succ, List.getElem_toArray, List.getElem_cons_zero, List.getElem_cons_succ]
      refine wpAnyH_take (i := 11) (v := ?_) (by rfl) (by kernel_rfl) (by kernel_rfl) (by kernel_rfl) (fun _ _ _ h => h) (Or.inl ⟨by rfl, ?_⟩) hHeld ?_
      rotate_left
      · intro w' hSw
        (try dsimp only at hSw)
        simp only [List.getElem_toArray, List.getElem_cons_zero, List.getElem_cons_succ]
        go_simp
        all_goals (try with_reducible rfl)
      try simp only [Act.put, List.setIfInBounds_toArray, List.set_cons_zero, List.set_cons_succ, List.getElem_toArray, List.getElem_cons_zero, List.getElem_cons_succ]
      refine wpAnyH_ready (rs := [5, 8]) (by kernel_rfl) (by simp) ?_
      refine AllReadyH.cons (by rfl) (fun K hK => ?_) ?_
      · simp only [List.getElem_toArray, List.getElem_cons_zero, List.getElem_cons_succ]
        go_simp
        (try dsimp only)
        refine hK.out _ _ M.out.rng (fun hHeld => ?_)
        clear hK K
        try simp only [Act.put, List.setIfInBounds_toArray, List.set_cons_zero, List.set_cons_succ, List.getElem_toArray, List.getElem_cons_zero, List.getElem_cons_succ]
        refine wpAnyH_ready (rs := [8]) (by kernel_rfl) (by simp) ?_
        refine AllReadyH.cons (by rfl) (fun K hK => ?_) AllReadyH.nil
        simp only [List.getElem_toArray, List.getElem_cons_zero, List.getElem_cons_succ]
        go_simp
        refine (K1.out _).mono ?_
        rintro e w3 ⟨rfl, q3⟩
        have M := veil (M.out.keep q3)
        have R1 := veil (R1.out.keep q3)
        have R2 := veil (R2.out.keep q3)
        have c1 : w3.cell? ⟨w.heap.size + 1 + 1, q, none⟩ = some (.int .u8 mt) := (q3.cell (block_lt_of_cell c0)).trans c0
        clear q3
        (try dsimp only)
        refine hK.out _ _ M.out.rng (fun hHeld => ?_)
        clear hK K
        try simp only [Act.put, List.setIfInBounds_toArray, List.set_cons_zero, List.set_cons_succ, List.getElem_toArray, List.getElem_cons_zero, List.getElem_cons_succ]
        refine wpAnyH_take (i := 12) (v := ?_) (by rfl) (by kernel_rfl) (by kernel_rfl) (by kernel_rfl) (fun _ _ _ h => h) (Or.inl ⟨by rfl, ?_⟩) hHeld ?_
        rotate_left
        · intro w' hSw
          (try dsimp only at hSw)
          simp only [List.getElem_toArray, List.getElem_cons_zero, List.getElem_cons_succ]
          go_simp
          all_goals (try with_reducible rfl)
        try simp only [Act.put, List.setIfInBounds_toArray, List.set_cons_zero, List.set_cons_succ, List.getElem_toArray, List.getElem_cons_zero, List.getElem_cons_succ]
        rw [S2.out]
        refine wpAnyH_take (i := 13) (v := ?_) (by rfl) (by kernel_rfl) (by kernel_rfl) (by kernel_rfl) (fun _ _ _ h => h) (Or.inl ⟨by rfl, ?_⟩) hHeld ?_
        rotate_left
        · intro w' hSw
          (try dsimp only at hSw)
          simp only [List.getElem_toArray, List.getElem_cons_zero, List.getElem_cons_succ]
          go_simp
          all_goals (try with_reducible rfl)
        try simp only [Act.put, List.setIfInBounds_toArray, List.set_cons_zero, List.set_cons_succ, List.getElem_toArray, List.getElem_cons_zero, List.getElem_cons_succ]
        rw [S1.out]
        refine wpAnyH_take (i := 14) (v := ?_) (by rfl) (by kernel_rfl) (by kernel_rfl) (by kernel_rfl) (fun _ _ _ h => h) (Or.inl ⟨by rfl, ?_⟩) hHeld ?_
        rotate_left
        · intro w' hSw
          (try dsimp only at hSw)
          simp only [List.getElem_toArray, List.getElem_cons_zero, List.getElem_cons_succ]
          go_simp
          all_goals (try with_reducible rfl)
        try simp only [Act.put, List.setIfInBounds_toArray, List.set_cons_zero, List.set_cons_succ, List.getElem_toArray, List.getElem_cons_zero, List.getElem_cons_succ]
        have f1 : w3.frozen? ⟨w.heap.size + 1 + 1, q, none⟩ = false := R2.out.frozen q
        have R3 := R2.out.set q (.int .u8 mt1)
        rw [List.setIfInBounds_toArray, bv_set, S3.out] at R3
        replace R3 := veil R3
        have M3 : Hid (At w (w3.setCell ⟨w.heap.size + 1 + 1, q, none⟩ (.int .u8 mt1)) [(w.heap.size, xs)]) := At.far M.out HK0.out (by simp; omega) (by simp; omega) _
        have R4 := veil (R1.out.far (p := ⟨w.heap.size + 1 + 1, q, none⟩) (by simp) (.int .u8 mt1))
        refine wpAnyH_ready (rs := [15]) (by kernel_rfl) (by simp) ?_
        refine AllReadyH.cons (by rfl) (fun K hK => ?_) AllReadyH.nil
        simp only [List.getElem_toArray, List.getElem_cons_zero, List.getElem_cons_succ]
        go_simp
        (try dsimp only)
        refine hK.out _ _ M3.out.rng (fun hHeld => ?_)
        clear hK K
        try simp only [Act.put, List.setIfInBounds_toArray, List.set_cons_zero, List.set_cons_succ, List.getElem_toArray, List.getElem_cons_zero, List.getElem_cons_succ]
        refine wpAnyH_done (by kernel_rfl) ?_ _
        refine NoPanic.normal ?_
        clear hHeld
        go_wp2_with fail
        go_roundw
        case rel => exact ⟨c + 1, by omega, by go_num, M3.out, R4.out, R3.out⟩
        case measure => simp [intOf]; omega
      · refine AllReadyH.cons (by rfl) (fun K hK => ?_) AllReadyH.nil
        simp only [List.getElem_toArray, List.getElem_cons_zero, List.getElem_cons_succ]
        go_simp
        refine (K1.out _).mono ?_
        rintro e w3 ⟨rfl, q3⟩
        have M := veil (M.out.keep q3)
        have R1 := veil (R1.out.keep q3)
        have R2 := veil (R2.out.keep q3)
        have c1 : w3.cell? ⟨w.heap.size + 1 + 1, q, none⟩ = some (.int .u8 mt) := (q3.cell (block_lt_of_cell c0)).trans c0
        clear q3
        (try dsimp only)
        refine hK.out _ _ M.out.rng (fun hHeld => ?_)
        clear hK K
        try simp only [Act.put, List.setIfInBounds_toArray, List.set_cons_zero, List.set_cons_succ, List.getElem_toArray, List.getElem_cons_zero, List.getElem_cons_succ]
        refine wpAnyH_take (i := 12) (v := ?_) (by rfl) (by kernel_rfl) (by kernel_rfl) (by kernel_rfl) (fun _ _ _ h => h) (Or.inl ⟨by rfl, ?_⟩) hHeld ?_
        rotate_left
        · intro w' hSw
          (try dsimp only at hSw)
          simp only [List.getElem_toArray, List.getElem_cons_zero, List.getElem_cons_succ]
          go_simp
          all_goals (try with_reducible rfl)
        try simp only [Act.put, List.setIfInBounds_toArray, List.set_cons_zero, List.set_cons_succ, List.getElem_toArray, List.getElem_cons_zero, List.getElem_cons_succ]
        rw [S2.out]
        refine wpAnyH_ready (rs := [5]) (by kernel_rfl) (by simp) ?_
        refine AllReadyH.cons (by rfl) (fun K hK => ?_) AllReadyH.nil
        simp only [List.getElem_toArray, List.getElem_cons_zero, List.getElem_cons_succ]
        go_simp
        (try dsimp only)
        refine hK.out _ _ M.out.rng (fun hHeld => ?_)
        clear hK K
        try simp only [Act.put, List.setIfInBounds_toArray, List.set_cons_zero, List.set_cons_succ, List.getElem_toArray, List.getElem_cons_zero, List.getElem_cons_succ]
        refine wpAnyH_take (i := 13) (v := ?_) (by rfl) (by kernel_rfl) (by kernel_rfl) (by kernel_rfl) (fun _ _ _ h => h) (Or.inl ⟨by rfl, ?_⟩) hHeld ?_
        rotate_left
        · intro w' hSw
          (try dsimp only at hSw)
          simp only [List.getElem_toArray, List.getElem_cons_zero, List.getElem_cons_succ]
          go_simp
          all_goals (try with_reducible rfl)
        try simp only [Act.put, List.setIfInBounds_toArray, List.set_cons_zero, List.set_cons_succ, List.getElem_toArray, List.getElem_cons_zero, List.getElem_cons_succ]
        rw [S1.out]
        refine wpAnyH_take (i := 14) (v := ?_) (by rfl) (by kernel_rfl) (by kernel_rfl) (by kernel_rfl) (fun _ _ _ h => h) (Or.inl ⟨by rfl, ?_⟩) hHeld ?_
        rotate_left
        · intro w' hSw
          (try dsimp only at hSw)
          simp only [List.getElem_toArray, List.getElem_cons_zero, List.getElem_cons_succ]
          go_simp
          all_goals (try with_reducible rfl)
        try simp only [Act.put, List.setIfInBounds_toArray, List.set_cons_zero, List.set_cons_succ, List.getElem_toArray, List.getElem_cons_zero, List.getElem_cons_succ]
        have f1 : w3.frozen? ⟨w.heap.size + 1 + 1, q, none⟩ = false := R2.out.frozen q
        have R3 := R2.out.set q (.int .u8 mt1)
        rw [List.setIfInBounds_toArray, bv_set, S3.out] at R3
        replace R3 := veil R3
        have M3 : Hid (At w (w3.setCell ⟨w.heap.size + 1 + 1, q, none⟩ (.int .u8 mt1)) [(w.heap.size, xs)]) := At.far M.out HK0.out (by simp; omega) (by simp; omega) _
        have R4 := veil (R1.out.far (p := ⟨w.heap.size + 1 + 1, q, none⟩) (by simp) (.int .u8 mt1))
        refine wpAnyH_ready (rs := [15]) (by kernel_rfl) (by simp) ?_
        refine AllReadyH.cons (by rfl) (fun K hK => ?_) AllReadyH.nil
        simp only [List.getElem_toArray, List.getElem_cons_zero, List.getElem_cons_succ]
        go_simp
        (try dsimp only)
        refine hK.out _ _ M3.out.rng (fun hHeld => ?_)
        clear hK K
        try simp only [Act.put, List.setIfInBounds_toArray, List.set_cons_zero, List.set_cons_succ, List.getElem_toArray, List.getElem_cons_zero, List.getElem_cons_succ]
        refine wpAnyH_done (by kernel_rfl) ?_ _
        refine NoPanic.normal ?_
        clear hHeld
        go_wp2_with fail
        go_roundw
        case rel => exact ⟨c + 1, by omega, by go_num, M3.out, R4.out, R3.out⟩
        case measure => simp [intOf]; omega
    · obtain rfl : j = min b 128 := by omega
      have hm : Hid (msk xs (min b 128) = msk xs b) := msk_min HX.out b
      have r2 := hR.out.2.2
      rw [hm.out] at r2
      have L := veil (load_rng (rng_row r2) (msk_len xs b))
      have T := veil (store_row hR.out.2.1 hs.out (msk_len xs b))
      have R5 := veil (hR.out.2.1.setRow (bv (msk xs b)).toArray)
      have Q5 := veil (below_setRow hR.out.1.below (w.heap.size + 1) (bv (msk xs b)).toArray (by omega))
      have hl := sizeOk (msk_len xs b)
      clear hR r2 hm
      rcases (by omega : ((b : Int) < 128 ∧ min b 128 = b) ∨ (128 ≤ (b : Int) ∧ min b 128 = 128)) with ⟨hb1, hb2⟩ | ⟨hb1, hb2⟩
      all_goals (
        rw [hb2]
        clear hb2
        go_wp2_with (first
          | (refine wpList_load_of (t := 23) rfl _ rfl rfl L.out ?_)
          | (refine wpList_store_of (t := 23) rfl _ _ rfl rfl rfl T.out ?_))
        refine bodyPost_ret (results_cell_row rfl _ _ (w.heap.size + 1) _ _ (0, 0) _ rfl R5.out Tryd.underlying23 rfl (by simpa using hl)) rfl ?_
        exact ⟨rfl, Q5.out⟩)

end Go.Proofs.YtcdcdnibligjnaaDoor.Ad
