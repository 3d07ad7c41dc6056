/-
  What the reference's Bit, Common, IsMulticast, IsLinkLocal, Solicited answer.
  Conditions: the known addresses lie in their table.
-/
import Derived.Test.YtcdcdnibligjnaaDoorAdrG
namespace Go.Proofs.YtcdcdnibligjnaaDoor.Ad
open Go.RowKit

set_option maxRecDepth 100000 in
theorem refBit_any (xs : List Int) (j : Nat) (w : World) (hx : Ok xs) (hj : j < 128) : Calls Tryd.prog 36 #[av xs, .int .i64 j] w fun e w' => e = .returned (.int .u8 (bit xs j)) ∧ Below w.heap.size w w' := by
  obtain ⟨q, t, rfl, ht⟩ : ∃ q t, j = 8 * q + t ∧ t < 8 := ⟨j / 8, j % 8, by omega, by omega⟩
  have R := rng_row (row_new (w := w) (g := w.heap.size) (cs := (bv xs).toArray) (t := 23) rfl)
  have Q := veil (below_new w (.cells (bv xs).toArray 23))
  have c0 := rng_at R (j := q) (by rw [hx.len]; omega)
  have hb := hx.at q
  have E : Hid (bit xs (8 * q + t) = xs.getD q 0 / 2 ^ (7 - t) % 2) := bit_at xs q t ht
  have hq3 : ((8 * q + t : Nat) : Int).tmod 8 = (t : Int) := by rw [Int.tmod_eq_emod_of_nonneg (by omega)]; omega
  have hq4 : ((8 * q + t : Nat) : Int).tdiv 8 = (q : Int) := by rw [Int.tdiv_eq_ediv_of_nonneg (by omega)]; omega
  have hq16 : (q : Int) < 16 := by omega
  generalize xs.getD q 0 = v at *
  have hp0 : 0 ≤ v / 2 ^ (7 - t) := Int.ediv_nonneg hb.1 (Int.pow_nonneg (by decide))
  have hp1 : v / 2 ^ (7 - t) ≤ 255 := Int.le_trans (Int.ediv_le_self _ hb.1) hb.2
  generalize hp : v / 2 ^ (7 - t) = p at *
  generalize hc : 8 * q + t = c at *
  have hm : p % 2 ≤ 255 := by omega
  clear hc R hx
  go_enter Tryd.func36, Tryd.ntmps36
  go_wp2_with fail
  go_ret
  rw [E.out]
  exact ⟨by simp, Q.out⟩

set_option linter.unusedSimpArgs false in
set_option maxHeartbeats 4000000 in
set_option maxRecDepth 100000 in
theorem refCommon_any (xs ys : List Int) (w : World) (hx : Ok xs) (hy : Ok ys) (hk : Knw w) : Calls Tryd.prog 27 #[av xs, av ys] w fun e w' => e = .returned (.int .i64 (com xs ys)) ∧ Below w.heap.size w w' := by
  have M := veil (((At.begin hk).new xs 23 rfl).new ys 23 (g := w.heap.size + 1) (by simp))
  have HX := veil hx
  have HY := veil hy
  have hix := sizeOk hx.len
  have hiy := sizeOk hy.len
  clear hk hx hy
  go_enter Tryd.func27, Tryd.ntmps27
  go_wp2_with fail
  generalize (w.alloc (.cells (bv xs).toArray 23)).alloc (.cells (bv ys).toArray 23) = w0 at *
  go_loopw [5] (fun i wr => ∃ j : Nat, j ≤ 128 ∧ i = .int .i64 j ∧ Hid ((∀ k, k < j → bit xs k = bit ys k) ∧ At w wr [(w.heap.size + 1, ys), (w.heap.size, xs)])) (fun i _ => 128 - (intOf i).toNat)
  case atStart => exact ⟨0, by omega, rfl, (fun k hk => by omega), M.out⟩
  case round =>
    obtain ⟨j, hj, rfl, hR⟩ := hrel
    clear M
    have M := veil hR.out.2.drew
    have A := veil hR.out.1
    clear hR
    by_cases hlt : (j : Int) < 128
    · have K1 := veil (fun v => refBit_any xs j v HX.out (by omega))
      have K2 := veil (fun v => refBit_any ys j v HY.out (by omega))
      by_cases he : bit xs j = bit ys j
      · have HE := veil he
        rw [he] at K1
        clear he
        generalize bit ys j = y at K1 K2
        go_wp2_with fail
        refine wp_region_noPanic ?_
        refine wp_region_held_drew (S := (fun w' => ∀ a ∈ [(w.heap.size + 1, ys), (w.heap.size, xs)], w'.rangeAt a.1 0 (bv a.2))) (by kernel_rfl) M.out.rng (fun hHeld => ?_)
        refine wpAnyH_take (i := 0) (v := ?_) (by rfl) (by kernel_rfl) (by kernel_rfl) (by kernel_rfl) (fun _ _ _ h => h) (Or.inl ⟨by rfl, ?_⟩) hHeld ?_
        rotate_left
        · intro w' hSw
          (try dsimp only at hSw)
          simp only [List.getElem_toArray, List.getElem_cons_zero, List.getElem_cons_succ]
          go_simp
          all_goals (try with_reducible rfl)
        try simp only [Act.put, List.setIfInBounds_toArray, List.set_cons_zero, List.set_cons_succ, List.getElem_toArray, List.getElem_cons_zero, List.getElem_cons_succ]
        refine wpAnyH_take (i := 1) (v := ?_) (by rfl) (by kernel_rfl) (by kernel_rfl) (by kernel_rfl) (fun _ _ _ h => h) (Or.inl ⟨by rfl, ?_⟩) hHeld ?_
        rotate_left
        · intro w' hSw
          (try dsimp only at hSw)
          simp only [List.getElem_toArray, List.getElem_cons_zero, List.getElem_cons_succ]
          go_simp
          all_goals (try with_reducible rfl)
        try simp only [Act.put, List.setIfInBounds_toArray, List.set_cons_zero, List.set_cons_succ, List.getElem_toArray, List.getElem_cons_zero, List.getElem_cons_succ]
        refine wpAnyH_take (i := 2) (v := ?_) (by rfl) (by kernel_rfl) (by kernel_rfl) (by kernel_rfl) (fun _ _ _ h => h) (Or.inl ⟨by rfl, ?_⟩) hHeld ?_
        rotate_left
        · intro w' hSw
          (try dsimp only at hSw)
          simp only [List.getElem_toArray, List.getElem_cons_zero, List.getElem_cons_succ]
          go_simp
          all_goals (try with_reducible rfl)
        try simp only [Act.put, List.setIfInBounds_toArray, List.set_cons_zero, List.set_cons_succ, List.getElem_toArray, List.getElem_cons_zero, List.getElem_cons_succ]
        refine wpAnyH_take (i := 3) (v := _) (by rfl) (by kernel_rfl) (by kernel_rfl) (by kernel_rfl) (fun _ _ _ h => h) (yieldsIf_load_mid (by rfl) _ _ (by rfl) _ _ rfl (bv xs) _ (fun _ h => h _ mem1) Tryd.underlying23 rfl hix) hHeld ?_
        try simp only [Act.put, List.setIfInBounds_toArray, List.set_cons_zero, List.set_cons_succ, List.getElem_toArray, List.getElem_cons_zero, List.getElem_cons_succ]
        refine wpAnyH_take (i := 4) (v := ?_) (by rfl) (by kernel_rfl) (by kernel_rfl) (by kernel_rfl) (fun _ _ _ h => h) (Or.inl ⟨by rfl, ?_⟩) hHeld ?_
        rotate_left
        · intro w' hSw
          (try dsimp only at hSw)
          simp only [List.getElem_toArray, List.getElem_cons_zero, List.getElem_cons_succ]
          go_simp
          all_goals (try with_reducible rfl)
        try simp only [Act.put, List.setIfInBounds_toArray, List.set_cons_zero, List.set_cons_succ, List.getElem_toArray, List.getElem_cons_zero, List.getElem_cons_succ]
        refine wpAnyH_take (i := 6) (v := _) (by rfl) (by kernel_rfl) (by kernel_rfl) (by kernel_rfl) (fun _ _ _ h => h) (yieldsIf_load_mid (by rfl) _ _ (by rfl) _ _ rfl (bv ys) _ (fun _ h => h _ mem0) Tryd.underlying23 rfl hiy) hHeld ?_
        try simp only [Act.put, List.setIfInBounds_toArray, List.set_cons_zero, List.set_cons_succ, List.getElem_toArray, List.getElem_cons_zero, List.getElem_cons_succ]
        refine wpAnyH_take (i := 7) (v := ?_) (by rfl) (by kernel_rfl) (by kernel_rfl) (by kernel_rfl) (fun _ _ _ h => h) (Or.inl ⟨by rfl, ?_⟩) hHeld ?_
        rotate_left
        · intro w' hSw
          (try dsimp only at hSw)
          simp only [List.getElem_toArray, List.getElem_cons_zero, List.getElem_cons_succ]
          go_simp
          all_goals (try with_reducible rfl)
        try simp only [Act.put, List.setIfInBounds_toArray, List.set_cons_zero, List.set_cons_succ, List.getElem_toArray, List.getElem_cons_zero, List.getElem_cons_succ]
        refine wpAnyH_ready (rs := [5]) (by kernel_rfl) (by simp) ?_
        refine AllReadyH.cons (by rfl) (fun K hK => ?_) AllReadyH.nil
        simp only [List.getElem_toArray, List.getElem_cons_zero, List.getElem_cons_succ]
        go_simp
        refine (K1.out _).mono ?_
        rintro e w1 ⟨rfl, q⟩
        have M := veil (M.out.keep q)
        clear q
        (try dsimp only)
        refine hK.out _ _ M.out.rng (fun hHeld => ?_)
        clear hK K
        try simp only [Act.put, List.setIfInBounds_toArray, List.set_cons_zero, List.set_cons_succ, List.getElem_toArray, List.getElem_cons_zero, List.getElem_cons_succ]
        refine wpAnyH_ready (rs := [8]) (by kernel_rfl) (by simp) ?_
        refine AllReadyH.cons (by rfl) (fun K hK => ?_) AllReadyH.nil
        simp only [List.getElem_toArray, List.getElem_cons_zero, List.getElem_cons_succ]
        go_simp
        refine (K2.out _).mono ?_
        rintro e w2 ⟨rfl, q⟩
        have M := veil (M.out.keep q)
        clear q
        (try dsimp only)
        refine hK.out _ _ M.out.rng (fun hHeld => ?_)
        clear hK K
        try simp only [Act.put, List.setIfInBounds_toArray, List.set_cons_zero, List.set_cons_succ, List.getElem_toArray, List.getElem_cons_zero, List.getElem_cons_succ]
        refine wpAnyH_take (i := 9) (v := ?_) (by rfl) (by kernel_rfl) (by kernel_rfl) (by kernel_rfl) (fun _ _ _ h => h) (Or.inl ⟨by rfl, ?_⟩) hHeld ?_
        rotate_left
        · intro w' hSw
          (try dsimp only at hSw)
          simp only [List.getElem_toArray, List.getElem_cons_zero, List.getElem_cons_succ]
          go_simp
          all_goals (try with_reducible rfl)
        try simp only [Act.put, List.setIfInBounds_toArray, List.set_cons_zero, List.set_cons_succ, List.getElem_toArray, List.getElem_cons_zero, List.getElem_cons_succ]
        refine wpAnyH_take (i := 10) (v := ?_) (by rfl) (by kernel_rfl) (by kernel_rfl) (by kernel_rfl) (fun _ _ _ h => h) (Or.inl ⟨by rfl, ?_⟩) hHeld ?_
        rotate_left
        · intro w' hSw
          (try dsimp only at hSw)
          simp only [List.getElem_toArray, List.getElem_cons_zero, List.getElem_cons_succ]
          go_simp
          all_goals (try with_reducible rfl)
        try simp only [Act.put, List.setIfInBounds_toArray, List.set_cons_zero, List.set_cons_succ, List.getElem_toArray, List.getElem_cons_zero, List.getElem_cons_succ]
        refine wpAnyH_done (by kernel_rfl) ?_ _
        refine NoPanic.normal ?_
        clear hHeld
        clear K1 K2
        go_wp2_with fail
        go_roundw
        case rel =>
          refine ⟨j + 1, by omega, by go_num, fun k hk => ?_, M.out⟩
          by_cases e : k = j
          · subst e
            exact HE.out
          · exact A.out k (by omega)
        case measure => simp [intOf]; omega
      · have C := veil (com_of (by omega) A.out (fun _ => he))
        have hne : (bit xs j == bit ys j) = false := by simpa using he
        generalize bit xs j = x at K1 hne
        generalize bit ys j = y at K2 hne
        clear he
        go_wp2_with fail
        refine wp_region_noPanic ?_
        refine wp_region_held_drew (S := (fun w' => ∀ a ∈ [(w.heap.size + 1, ys), (w.heap.size, xs)], w'.rangeAt a.1 0 (bv a.2))) (by kernel_rfl) M.out.rng (fun hHeld => ?_)
        refine wpAnyH_take (i := 0) (v := ?_) (by rfl) (by kernel_rfl) (by kernel_rfl) (by kernel_rfl) (fun _ _ _ h => h) (Or.inl ⟨by rfl, ?_⟩) hHeld ?_
        rotate_left
        · intro w' hSw
          (try dsimp only at hSw)
          simp only [List.getElem_toArray, List.getElem_cons_zero, List.getElem_cons_succ]
          go_simp
          all_goals (try with_reducible rfl)
        try simp only [Act.put, List.setIfInBounds_toArray, List.set_cons_zero, List.set_cons_succ, List.getElem_toArray, List.getElem_cons_zero, List.getElem_cons_succ]
        refine wpAnyH_take (i := 1) (v := ?_) (by rfl) (by kernel_rfl) (by kernel_rfl) (by kernel_rfl) (fun _ _ _ h => h) (Or.inl ⟨by rfl, ?_⟩) hHeld ?_
        rotate_left
        · intro w' hSw
          (try dsimp only at hSw)
          simp only [List.getElem_toArray, List.getElem_cons_zero, List.getElem_cons_succ]
          go_simp
          all_goals (try with_reducible rfl)
        try simp only [Act.put, List.setIfInBounds_toArray, List.set_cons_zero, List.set_cons_succ, List.getElem_toArray, List.getElem_cons_zero, List.getElem_cons_succ]
        refine wpAnyH_take (i := 2) (v := ?_) (by rfl) (by kernel_rfl) (by kernel_rfl) (by kernel_rfl) (fun _ _ _ h => h) (Or.inl ⟨by rfl, ?_⟩) hHeld ?_
        rotate_left
        · intro w' hSw
          (try dsimp only at hSw)
          simp only [List.getElem_toArray, List.getElem_cons_zero, List.getElem_cons_succ]
          go_simp
          all_goals (try with_reducible rfl)
        try simp only [Act.put, List.setIfInBounds_toArray, List.set_cons_zero, List.set_cons_succ, List.getElem_toArray, List.getElem_cons_zero, List.getElem_cons_succ]
        refine wpAnyH_take (i := 3) (v := _) (by rfl) (by kernel_rfl) (by kernel_rfl) (by kernel_rfl) (fun _ _ _ h => h) (yieldsIf_load_mid (by rfl) _ _ (by rfl) _ _ rfl (bv xs) _ (fun _ h => h _ mem1) Tryd.underlying23 rfl hix) hHeld ?_
        try simp only [Act.put, List.setIfInBounds_toArray, List.set_cons_zero, List.set_cons_succ, List.getElem_toArray, List.getElem_cons_zero, List.getElem_cons_succ]
        refine wpAnyH_take (i := 4) (v := ?_) (by rfl) (by kernel_rfl) (by kernel_rfl) (by kernel_rfl) (fun _ _ _ h => h) (Or.inl ⟨by rfl, ?_⟩) hHeld ?_
        rotate_left
        · intro w' hSw
          (try dsimp only at hSw)
          simp only [List.getElem_toArray, List.getElem_cons_zero, List.getElem_cons_succ]
          go_simp
          all_goals (try with_reducible rfl)
        try simp only [Act.put, List.setIfInBounds_toArray, List.set_cons_zero, List.set_cons_succ, List.getElem_toArray, List.getElem_cons_zero, List.getElem_cons_succ]
        refine wpAnyH_take (i := 6) (v := _) (by rfl) (by kernel_rfl) (by kernel_rfl) (by kernel_rfl) (fun _ _ _ h => h) (yieldsIf_load_mid (by rfl) _ _ (by rfl) _ _ rfl (bv ys) _ (fun _ h => h _ mem0) Tryd.underlying23 rfl hiy) hHeld ?_
        try simp only [Act.put, List.setIfInBounds_toArray, List.set_cons_zero, List.set_cons_succ, List.getElem_toArray, List.getElem_cons_zero, List.getElem_cons_succ]
        refine wpAnyH_take (i := 7) (v := ?_) (by rfl) (by kernel_rfl) (by kernel_rfl) (by kernel_rfl) (fun _ _ _ h => h) (Or.inl ⟨by rfl, ?_⟩) hHeld ?_
        rotate_left
        · intro w' hSw
          (try dsimp only at hSw)
          simp only [List.getElem_toArray, List.getElem_cons_zero, List.getElem_cons_succ]
          go_simp
          all_goals (try with_reducible rfl)
        try simp only [Act.put, List.setIfInBounds_toArray, List.set_cons_zero, List.set_cons_succ, List.getElem_toArray, List.getElem_cons_zero, List.getElem_cons_succ]
        refine wpAnyH_ready (rs := [5]) (by kernel_rfl) (by simp) ?_
        refine AllReadyH.cons (by rfl) (fun K hK => ?_) AllReadyH.nil
        simp only [List.getElem_toArray, List.getElem_cons_zero, List.getElem_cons_succ]
        go_simp
        refine (K1.out _).mono ?_
        rintro e w1 ⟨rfl, q⟩
        have M := veil (M.out.keep q)
        clear q
        (try dsimp only)
        refine hK.out _ _ M.out.rng (fun hHeld => ?_)
        clear hK K
        try simp only [Act.put, List.setIfInBounds_toArray, List.set_cons_zero, List.set_cons_succ, List.getElem_toArray, List.getElem_cons_zero, List.getElem_cons_succ]
        refine wpAnyH_ready (rs := [8]) (by kernel_rfl) (by simp) ?_
        refine AllReadyH.cons (by rfl) (fun K hK => ?_) AllReadyH.nil
        simp only [List.getElem_toArray, List.getElem_cons_zero, List.getElem_cons_succ]
        go_simp
        refine (K2.out _).mono ?_
        rintro e w2 ⟨rfl, q⟩
        have M := veil (M.out.keep q)
        clear q
        (try dsimp only)
        refine hK.out _ _ M.out.rng (fun hHeld => ?_)
        clear hK K
        try simp only [Act.put, List.setIfInBounds_toArray, List.set_cons_zero, List.set_cons_succ, List.getElem_toArray, List.getElem_cons_zero, List.getElem_cons_succ]
        refine wpAnyH_take (i := 9) (v := ?_) (by rfl) (by kernel_rfl) (by kernel_rfl) (by kernel_rfl) (fun _ _ _ h => h) (Or.inl ⟨by rfl, ?_⟩) hHeld ?_
        rotate_left
        · intro w' hSw
          (try dsimp only at hSw)
          simp only [List.getElem_toArray, List.getElem_cons_zero, List.getElem_cons_succ]
          go_simp
          all_goals (try with_reducible rfl)
        try simp only [Act.put, List.setIfInBounds_toArray, List.set_cons_zero, List.set_cons_succ, List.getElem_toArray, List.getElem_cons_zero, List.getElem_cons_succ]
        refine wpAnyH_take (i := 10) (v := ?_) (by rfl) (by kernel_rfl) (by kernel_rfl) (by kernel_rfl) (fun _ _ _ h => h) (Or.inl ⟨by rfl, ?_⟩) hHeld ?_
        rotate_left
        · intro w' hSw
          (try dsimp only at hSw)
          simp only [List.getElem_toArray, List.getElem_cons_zero, List.getElem_cons_succ]
          go_simp
          all_goals (try with_reducible rfl)
        try simp only [Act.put, List.setIfInBounds_toArray, List.set_cons_zero, List.set_cons_succ, List.getElem_toArray, List.getElem_cons_zero, List.getElem_cons_succ]
        refine wpAnyH_done (by kernel_rfl) ?_ _
        refine NoPanic.normal ?_
        clear hHeld
        clear K1 K2
        go_wp2_with fail
        go_ret
        rw [C.out]
        exact ⟨rfl, M.out.below⟩
    · obtain rfl : j = 128 := by omega
      have C := veil (com_of (xs := xs) (ys := ys) (Nat.le_refl 128) A.out (fun h => by omega))
      go_wp2_with fail
      refine wp_region_noPanic ?_
      refine wp_region_held_drew (S := (fun w' => ∀ a ∈ [(w.heap.size + 1, ys), (w.heap.size, xs)], w'.rangeAt a.1 0 (bv a.2))) (by kernel_rfl) M.out.rng (fun hHeld => ?_)
      refine wpAnyH_take (i := 0) (v := ?_) (by rfl) (by kernel_rfl) (by kernel_rfl) (by kernel_rfl) (fun _ _ _ h => h) (Or.inl ⟨by rfl, ?_⟩) hHeld ?_
      rotate_left
      · intro w' hSw
        (try dsimp only at hSw)
        simp only [List.getElem_toArray, List.getElem_cons_zero, List.getElem_cons_succ]
        go_simp
        all_goals (try with_reducible rfl)
      try simp only [Act.put, List.setIfInBounds_toArray, List.set_cons_zero, List.set_cons_succ, List.getElem_toArray, List.getElem_cons_zero, List.getElem_cons_succ]
      refine wpAnyH_take (i := 1) (v := ?_) (by rfl) (by kernel_rfl) (by kernel_rfl) (by kernel_rfl) (fun _ _ _ h => h) (Or.inl ⟨by rfl, ?_⟩) hHeld ?_
      rotate_left
      · intro w' hSw
        (try dsimp only at hSw)
        simp only [List.getElem_toArray, List.getElem_cons_zero, List.getElem_cons_succ]
        go_simp
        all_goals (try with_reducible rfl)
      try simp only [Act.put, List.setIfInBounds_toArray, List.set_cons_zero, List.set_cons_succ, List.getElem_toArray, List.getElem_cons_zero, List.getElem_cons_succ]
      refine wpAnyH_take (i := 2) (v := ?_) (by rfl) (by kernel_rfl) (by kernel_rfl) (by kernel_rfl) (fun _ _ _ h => h) (Or.inl ⟨by rfl, ?_⟩) hHeld ?_
      rotate_left
      · intro w' hSw
        (try dsimp only at hSw)
        simp only [List.getElem_toArray, List.getElem_cons_zero, List.getElem_cons_succ]
        go_simp
        all_goals (try with_reducible rfl)
      try simp only [Act.put, List.setIfInBounds_toArray, List.set_cons_zero, List.set_cons_succ, List.getElem_toArray, List.getElem_cons_zero, List.getElem_cons_succ]
      refine wpAnyH_take (i := 3) (v := undef) (by rfl) (by kernel_rfl) (by kernel_rfl) (by kernel_rfl) (fun _ _ _ h => h) (Or.inr ⟨by rfl, rfl⟩) hHeld ?_
      try simp only [Act.put, List.setIfInBounds_toArray, List.set_cons_zero, List.set_cons_succ, List.getElem_toArray, List.getElem_cons_zero, List.getElem_cons_succ]
      refine wpAnyH_take (i := 4) (v := undef) (by rfl) (by kernel_rfl) (by kernel_rfl) (by kernel_rfl) (fun _ _ _ h => h) (Or.inr ⟨by rfl, rfl⟩) hHeld ?_
      try simp only [Act.put, List.setIfInBounds_toArray, List.set_cons_zero, List.set_cons_succ, List.getElem_toArray, List.getElem_cons_zero, List.getElem_cons_succ]
      refine wpAnyH_take (i := 5) (v := undef) (by rfl) (by kernel_rfl) (by kernel_rfl) (by kernel_rfl) (fun _ _ _ h => h) (Or.inr ⟨by rfl, rfl⟩) hHeld ?_
      try simp only [Act.put, List.setIfInBounds_toArray, List.set_cons_zero, List.set_cons_succ, List.getElem_toArray, List.getElem_cons_zero, List.getElem_cons_succ]
      refine wpAnyH_take (i := 6) (v := undef) (by rfl) (by kernel_rfl) (by kernel_rfl) (by kernel_rfl) (fun _ _ _ h => h) (Or.inr ⟨by rfl, rfl⟩) hHeld ?_
      try simp only [Act.put, List.setIfInBounds_toArray, List.set_cons_zero, List.set_cons_succ, List.getElem_toArray, List.getElem_cons_zero, List.getElem_cons_succ]
      refine wpAnyH_take (i := 7) (v := undef) (by rfl) (by kernel_rfl) (by kernel_rfl) (by kernel_rfl) (fun _ _ _ h => h) (Or.inr ⟨by rfl, rfl⟩) hHeld ?_
      try simp only [Act.put, List.setIfInBounds_toArray, List.set_cons_zero, List.set_cons_succ, List.getElem_toArray, List.getElem_cons_zero, List.getElem_cons_succ]
      refine wpAnyH_take (i := 8) (v := undef) (by rfl) (by kernel_rfl) (by kernel_rfl) (by kernel_rfl) (fun _ _ _ h => h) (Or.inr ⟨by rfl, rfl⟩) hHeld ?_
      try simp only [Act.put, List.setIfInBounds_toArray, List.set_cons_zero, List.set_cons_succ, List.getElem_toArray, List.getElem_cons_zero, List.getElem_cons_succ]
      refine wpAnyH_take (i := 9) (v := undef) (by rfl) (by kernel_rfl) (by kernel_rfl) (by kernel_rfl) (fun _ _ _ h => h) (Or.inr ⟨by rfl, rfl⟩) hHeld ?_
      try simp only [Act.put, List.setIfInBounds_toArray, List.set_cons_zero, List.set_cons_succ, List.getElem_toArray, List.getElem_cons_zero, List.getElem_cons_succ]
      refine wpAnyH_take (i := 10) (v := ?_) (by rfl) (by kernel_rfl) (by kernel_rfl) (by kernel_rfl) (fun _ _ _ h => h) (Or.inl ⟨by rfl, ?_⟩) hHeld ?_
      rotate_left
      · intro w' hSw
        (try dsimp only at hSw)
        simp only [List.getElem_toArray, List.getElem_cons_zero, List.getElem_cons_succ]
        go_simp
        all_goals (try with_reducible rfl)
      try simp only [Act.put, List.setIfInBounds_toArray, List.set_cons_zero, List.set_cons_succ, List.getElem_toArray, List.getElem_cons_zero, List.getElem_cons_succ]
      refine wpAnyH_done (by kernel_rfl) ?_ _
      refine NoPanic.normal ?_
      clear hHeld
      go_wp2_with fail
      go_ret
      rw [C.out]
      exact ⟨rfl, M.out.below⟩

theorem refIsMulticast_any (xs : List Int) (w : World) (h : Ok xs) : Calls Tryd.prog 18 #[av xs] w fun e w' => e = .returned (.bool (mult xs)) ∧ Below w.heap.size w w' := by
  have R := rng_row (row_new (w := w) (g := w.heap.size) (cs := (bv xs).toArray) (t := 23) rfl)
  have Q := veil (below_new w (.cells (bv xs).toArray 23))
  have c0 := rng_at R (j := 0) (by rw [h.len]; omega)
  have M : Hid (mult xs = decide (xs.getD 0 0 = 255)) := rfl
  generalize xs.getD 0 0 = x0 at *
  clear R h
  go_enter Tryd.func18, Tryd.ntmps18
  go_wp2_with fail
  go_ret
  rw [M.out]
  refine ⟨?_, Q.out⟩
  by_cases hx : x0 = 255 <;> simp [hx]

/-- where link-local addresses begin -/
def fe : List Int := [254, 128, 0, 0, 0, 0, 0, 0, 0, 0, 0, 0, 0, 0, 0, 0]
theorem fe_ok : Ok fe := ⟨rfl, by unfold Byt; decide⟩
theorem fe_made (w : World) : (Instr.build 23 #[(0, .int .u8 254), (1, .int .u8 128)]).run Tryd.prog w = .ok (av fe) w := by unfold fe; kernel_rfl
theorem ll_com {xs : List Int} (h : Ok xs) : decide (10 ≤ ((com xs fe : Nat) : Int)) = ll xs := by
  unfold ll
  rw [Bool.eq_iff_iff]
  simp only [decide_eq_true_eq]
  have e : (10 ≤ ((com xs fe : Nat) : Int)) ↔ 10 ≤ com xs fe := by omega
  rw [e, le_com (by omega)]
  have b0 := h.at 0
  have b1 := h.at 1
  constructor
  · intro k
    refine ⟨byte_ext b0 (show (0 : Int) ≤ 254 ∧ (254 : Int) ≤ 255 by omega) (fun j hj => ?_), ?_⟩
    · have := k j (by omega)
      rw [show j = 8 * 0 + j by omega, bit_at _ _ _ hj, bit_at _ _ _ hj] at this
      exact this
    · have k8 := k 8 (by omega)
      have k9 := k 9 (by omega)
      rw [show 8 = 8 * 1 + 0 from rfl, bit_at _ _ _ (by omega), bit_at _ _ _ (by omega), show bit8 (fe.getD 1 0) 0 = 1 by decide] at k8
      rw [show 9 = 8 * 1 + 1 from rfl, bit_at _ _ _ (by omega), bit_at _ _ _ (by omega), show bit8 (fe.getD 1 0) 1 = 0 by decide] at k9
      unfold bit8 at k8 k9
      simp only [Nat.sub_zero, Nat.reduceSub, Int.reducePow] at k8 k9
      omega
  · rintro ⟨k0, k1⟩ j hj
    by_cases h8 : j < 8
    · rw [show j = 8 * 0 + j by omega, bit_at _ _ _ h8, bit_at _ _ _ h8, k0]
      rfl
    · rcases (by omega : j = 8 * 1 + 0 ∨ j = 8 * 1 + 1) with rfl | rfl
      · rw [bit_at _ _ _ (by omega), bit_at _ _ _ (by omega), show bit8 (fe.getD 1 0) 0 = 1 by decide]
        unfold bit8
        simp only [Nat.sub_zero, Int.reducePow]
        omega
      · rw [bit_at _ _ _ (by omega), bit_at _ _ _ (by omega), show bit8 (fe.getD 1 0) 1 = 0 by decide]
        unfold bit8
        simp only [Nat.reduceSub, Int.reducePow]
        omega

theorem refIsLinkLocal_any (xs : List Int) (w : World) (h : Ok xs) (hk : Knw w) : Calls Tryd.prog 20 #[av xs] w fun e w' => e = .returned (.bool (ll xs)) ∧ Below w.heap.size w w' := by
  have M := veil ((At.begin hk).new xs 23 rfl)
  have H := veil h
  have E := veil (ll_com h)
  clear h hk
  go_enter Tryd.func20, Tryd.ntmps20
  go_wp2_with (first
    | (refine wpList_load_of rfl _ rfl rfl (M.out.load mem0 H.out.len) ?_)
    | (refine wpList_build_of rfl 23 #[(0, .const (.int .u8 254)), (1, .const (.int .u8 128))] rfl #[(0, .int .u8 254), (1, .int .u8 128)] (by simp [Act.eval]) (fe_made _) ?_))
  generalize w.alloc (.cells (bv xs).toArray 23) = w0 at *
  refine (refCommon_any xs fe w0 H.out fe_ok M.out.knw).mono ?_
  rintro e w1 ⟨rfl, q⟩
  have M := veil (M.out.keep q)
  clear q
  have EN := E.out
  generalize com xs fe = n at *
  clear E
  go_wp2_with fail
  go_ret
  rw [← EN]
  exact ⟨rfl, M.out.below⟩

end Go.Proofs.YtcdcdnibligjnaaDoor.Ad
