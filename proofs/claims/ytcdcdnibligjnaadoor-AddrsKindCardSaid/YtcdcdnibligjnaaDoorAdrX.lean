/-
  Two slices of the known addresses are the same; the reference's Scope.
  Conditions: the known addresses lie in their table.
-/
import Derived.Test.YtcdcdnibligjnaaDoorAdrW
namespace Go.Proofs.YtcdcdnibligjnaaDoor.Ad
open Go.RowKit

theorem kn_at {w : World} {g : Nat} (h : w.rangeAt g 0 (bv known)) (k : Nat) (hk : k < 6) : w.rangeAt g (16 * k) (bv (kn k)) := fun j v hv => by
  have hj : j < 16 := by
    have := (List.getElem?_eq_some_iff.1 hv).1
    rw [bv_length, kn_len hk] at this
    exact this
  have := h (16 * k + j) v (by
    rw [← hv]
    simp [bv, kn, hj])
  rwa [Nat.zero_add] at this

set_option linter.unusedSimpArgs false in
set_option maxHeartbeats 2000000 in
theorem same_known (a b : Nat) (w : World) (ha : w.rangeAt a 0 (bv known)) (hb : w.rangeAt b 0 (bv known)) :
    Calls Tryd.prog 34 #[.slice (some ⟨a, 0, none⟩) 6 6, .slice (some ⟨b, 0, none⟩) 6 6] w fun e w' => e = .returned (.bool true) ∧ Below w.heap.size w w' := by
  have HA := veil ha
  have HB := veil hb
  clear ha hb
  go_enter Tryd.func34, Tryd.ntmps34
  go_wp2_with fail
  go_loopw [5] (fun i wr => ∃ j q : Nat, j ≤ 6 ∧ i = .int .i64 j ∧ wr = w.drewN q) (fun i _ => 6 - (intOf i).toNat)
  case atStart => exact ⟨0, 0, by omega, rfl, rfl⟩
  case round =>
    obtain ⟨j, q, hj, rfl, rfl⟩ := hrel
    by_cases hlt : j < 6
    · have ra : (w.drewN q).drew.rangeAt a (j * 16) (bv (kn j)) := by rw [Nat.mul_comm]; exact kn_at HA.out j hlt
      have rb : (w.drewN q).drew.rangeAt b (j * 16) (bv (kn j)) := by rw [Nat.mul_comm]; exact kn_at HB.out j hlt
      have hi := sizeOk (kn_len hlt)
      have E : ∀ u, (binOp .neq 23 (av (kn j)) (av (kn j))).run Tryd.prog u = .ok (.bool false) u := fun u => neq_any u (kn_len hlt) (kn_len hlt) (z := true) (by simp)
      generalize kn j = kj at *
      go_wp2_with fail
      have S0 := veil (And.intro ra rb)
      clear ra rb
      refine wp_region_noPanic ?_
      refine wp_region_held_drew (S := (fun w' => w'.rangeAt a (j * 16) (bv kj) ∧ w'.rangeAt b (j * 16) (bv kj))) (by kernel_rfl) S0.out (fun hHeld => ?_)
      refine wpAnyH_take (i := 0) (v := ?_) (by rfl) (by kernel_rfl) (by kernel_rfl) (by kernel_rfl) (fun _ _ _ h => h) (Or.inl ⟨by rfl, ?_⟩) hHeld ?_
      rotate_left
      · intro w' hSw
        (try dsimp only at hSw)
        simp only [List.getElem_toArray, List.getElem_cons_zero, List.getElem_cons_succ]
        go_simp
        all_goals (try with_reducible rfl)
      try simp only [Act.put, List.setIfInBounds_toArray, List.set_cons_zero, List.set_cons_succ, List.getElem_toArray, List.getElem_cons_zero, List.getElem_cons_succ]
      refine wpAnyH_take (i := 1) (v := ?_) (by rfl) (by kernel_rfl) (by kernel_rfl) (by kernel_rfl) (fun _ _ _ h => h) (Or.inl ⟨by rfl, ?_⟩) hHeld ?_
      rotate_left
      · intro w' hSw
        (try dsimp only at hSw)
        simp only [List.getElem_toArray, List.getElem_cons_zero, List.getElem_cons_succ]
        go_simp
        all_goals (try with_reducible rfl)
      try simp only [Act.put, List.setIfInBounds_toArray, List.set_cons_zero, List.set_cons_succ, List.getElem_toArray, List.getElem_cons_zero, List.getElem_cons_succ]
      refine wpAnyH_take (i := 2) (v := ?_) (by rfl) (by kernel_rfl) (by kernel_rfl) (by kernel_rfl) (fun _ _ _ h => h) (Or.inl ⟨by rfl, ?_⟩) hHeld ?_
      rotate_left
      · intro w' hSw
        (try dsimp only at hSw)
        simp only [List.getElem_toArray, List.getElem_cons_zero, List.getElem_cons_succ]
        go_simp
        all_goals (try with_reducible rfl)
      try simp only [Act.put, List.setIfInBounds_toArray, List.set_cons_zero, List.set_cons_succ, List.getElem_toArray, List.getElem_cons_zero, List.getElem_cons_succ]
      refine wpAnyH_take (i := 3) (v := _) (by rfl) (by kernel_rfl) (by kernel_rfl) (by kernel_rfl) (fun _ _ _ h => h) (yieldsIf_load_mid (by rfl) _ _ (by rfl) _ _ rfl (bv kj) _ (fun _ h => h.1) Tryd.underlying23 rfl hi) hHeld ?_
      try simp only [Act.put, List.setIfInBounds_toArray, List.set_cons_zero, List.set_cons_succ, List.getElem_toArray, List.getElem_cons_zero, List.getElem_cons_succ]
      refine wpAnyH_take (i := 4) (v := ?_) (by rfl) (by kernel_rfl) (by kernel_rfl) (by kernel_rfl) (fun _ _ _ h => h) (Or.inl ⟨by rfl, ?_⟩) hHeld ?_
      rotate_left
      · intro w' hSw
        (try dsimp only at hSw)
        simp only [List.getElem_toArray, List.getElem_cons_zero, List.getElem_cons_succ]
        go_simp
        all_goals (try with_reducible rfl)
      try simp only [Act.put, List.setIfInBounds_toArray, List.set_cons_zero, List.set_cons_succ, List.getElem_toArray, List.getElem_cons_zero, List.getElem_cons_succ]
      refine wpAnyH_take (i := 5) (v := ?_) (by rfl) (by kernel_rfl) (by kernel_rfl) (by kernel_rfl) (fun _ _ _ h => h) (Or.inl ⟨by rfl, ?_⟩) hHeld ?_
      rotate_left
      · intro w' hSw
        (try dsimp only at hSw)
        simp only [List.getElem_toArray, List.getElem_cons_zero, List.getElem_cons_succ]
        go_simp
        all_goals (try with_reducible rfl)
      try simp only [Act.put, List.setIfInBounds_toArray, List.set_cons_zero, List.set_cons_succ, List.getElem_toArray, List.getElem_cons_zero, List.getElem_cons_succ]
      refine wpAnyH_take (i := 6) (v := ?_) (by rfl) (by kernel_rfl) (by kernel_rfl) (by kernel_rfl) (fun _ _ _ h => h) (Or.inl ⟨by rfl, ?_⟩) hHeld ?_
      rotate_left
      · intro w' hSw
        (try dsimp only at hSw)
        simp only [List.getElem_toArray, List.getElem_cons_zero, List.getElem_cons_succ]
        go_simp
        all_goals (try with_reducible rfl)
      try simp only [Act.put, List.setIfInBounds_toArray, List.set_cons_zero, List.set_cons_succ, List.getElem_toArray, List.getElem_cons_zero, List.getElem_cons_succ]
      refine wpAnyH_take (i := 7) (v := _) (by rfl) (by kernel_rfl) (by kernel_rfl) (by kernel_rfl) (fun _ _ _ h => h) (yieldsIf_load_mid (by rfl) _ _ (by rfl) _ _ rfl (bv kj) _ (fun _ h => h.2) Tryd.underlying23 rfl hi) hHeld ?_
      try simp only [Act.put, List.setIfInBounds_toArray, List.set_cons_zero, List.set_cons_succ, List.getElem_toArray, List.getElem_cons_zero, List.getElem_cons_succ]
      refine wpAnyH_take (i := 8) (v := ?_) (by rfl) (by kernel_rfl) (by kernel_rfl) (by kernel_rfl) (fun _ _ _ h => h) (Or.inl ⟨by rfl, ?_⟩) hHeld ?_
      rotate_left
      · intro w' hSw
        (try dsimp only at hSw)
        simp only [List.getElem_toArray, List.getElem_cons_zero, List.getElem_cons_succ]
        go_simp
        all_goals (try with_reducible rfl)
      try simp only [Act.put, List.setIfInBounds_toArray, List.set_cons_zero, List.set_cons_succ, List.getElem_toArray, List.getElem_cons_zero, List.getElem_cons_succ]
      refine wpAnyH_done (by kernel_rfl) ?_ _
      refine NoPanic.normal ?_
      clear hHeld
      go_wp2_with fail
      go_roundw
      case rel => exact ⟨j + 1, q + 1, by omega, by go_num, rfl⟩
      case measure => simp [intOf]; omega
    · obtain rfl : j = 6 := by omega
      go_wp2_with fail
      go_ret
      exact ⟨rfl, below_still (Below.refl _ _) ⟨q, rfl⟩⟩

theorem sameAddrs_known (a b : Nat) (w : World) (ha : w.rangeAt a 0 (bv known)) (hb : w.rangeAt b 0 (bv known)) :
    Calls Tryd.prog 15 #[.slice (some ⟨a, 0, none⟩) 6 6, .slice (some ⟨b, 0, none⟩) 6 6] w fun e w' => e = .returned (.bool true) ∧ Below w.heap.size w w' := by
  have K := veil (same_known a b w ha hb)
  clear ha hb
  go_enter Tryd.func15, Tryd.ntmps15
  go_wp2_with fail
  refine (K.out).mono ?_
  rintro e w1 ⟨rfl, q⟩
  go_wp2_with fail
  go_ret
  exact ⟨rfl, q⟩

set_option linter.unusedSimpArgs false in
set_option maxHeartbeats 4000000 in
set_option maxRecDepth 100000 in
theorem refScope_m (xs : List Int) (w : World) (hx : Ok xs) (hk : Knw w) (hm : mult xs = true) (hs : scope xs = xs.getD 1 0 % 16) : Calls Tryd.prog 22 #[av xs] w fun e w' => e = .returned (.int .i64 (scope xs)) ∧ Below w.heap.size w w' := by
  have M := veil ((At.begin hk).new xs 23 rfl)
  have HX := veil hx
  have hi := sizeOk hx.len
  have SC := veil hs
  clear hk hx hs
  go_enter Tryd.func22, Tryd.ntmps22
  go_wp2_with (refine wpList_load_of (t := 23) rfl _ rfl rfl (M.out.load mem0 HX.out.len) ?_)
  generalize w.alloc (.cells (bv xs).toArray 23) = w0 at *
  refine (refIsMulticast_any xs w0 HX.out).mono ?_
  rintro e w1 ⟨rfl, q⟩
  have M := veil (M.out.keep q)
  clear q
  rw [hm]
  clear hm
  have c1 := M.out.byte mem0 (j := 1) (by rw [HX.out.len]; omega)
  have hb := HX.out.at 1
  generalize xs.getD 1 0 = x1 at *
  have hmd : x1 % 16 ≤ 255 := by omega
  go_wp2_with fail
  go_ret
  rw [SC.out]
  exact ⟨by simp, M.out.below⟩

set_option linter.unusedSimpArgs false in
set_option maxHeartbeats 4000000 in
set_option maxRecDepth 100000 in
theorem refScope_l (xs : List Int) (w : World) (hx : Ok xs) (hk : Knw w) (hm : mult xs = false) (hl : ll xs = true) (hs : scope xs = 2) : Calls Tryd.prog 22 #[av xs] w fun e w' => e = .returned (.int .i64 (scope xs)) ∧ Below w.heap.size w w' := by
  have M := veil ((At.begin hk).new xs 23 rfl)
  have HX := veil hx
  have hi := sizeOk hx.len
  have SC := veil hs
  clear hk hx hs
  have K1 := veil (fun v h => refIsLinkLocal_any xs v HX.out h)
  rw [hl] at K1
  clear hl
  go_enter Tryd.func22, Tryd.ntmps22
  go_wp2_with (refine wpList_load_of (t := 23) rfl _ rfl rfl (M.out.load mem0 HX.out.len) ?_)
  generalize w.alloc (.cells (bv xs).toArray 23) = w0 at *
  refine (refIsMulticast_any xs w0 HX.out).mono ?_
  rintro e w1 ⟨rfl, q⟩
  have M := veil (M.out.keep q)
  clear q
  rw [hm]
  clear hm
  go_wp2_with fail
  have M := veil M.out.drew
  refine wp_region_noPanic ?_
  refine wp_region_held_drew (S := (fun w' => ∀ a ∈ [(w.heap.size, xs)], w'.rangeAt a.1 0 (bv a.2))) (by kernel_rfl) M.out.rng (fun hHeld => ?_)
  refine wpAnyH_take (i := 0) (v := _) (by rfl) (by kernel_rfl) (by kernel_rfl) (by kernel_rfl) (fun _ _ _ h => h) (yieldsIf_load_mid (by rfl) _ _ (by rfl) _ _ rfl (bv xs) _ (fun _ h => h _ mem0) Tryd.underlying23 rfl hi) hHeld ?_
  try simp only [Act.put, List.setIfInBounds_toArray, List.set_cons_zero, List.set_cons_succ, List.getElem_toArray, List.getElem_cons_zero, List.getElem_cons_succ]
  refine wpAnyH_ready (rs := [1]) (by kernel_rfl) (by simp) ?_
  refine AllReadyH.cons (by rfl) (fun K hK => ?_) AllReadyH.nil
  simp only [List.getElem_toArray, List.getElem_cons_zero, List.getElem_cons_succ]
  go_simp
  refine (K1.out _ M.out.knw).mono ?_
  rintro e w2 ⟨rfl, q⟩
  have M := veil (M.out.keep q)
  clear q
  (try dsimp only)
  refine hK.out _ _ M.out.rng (fun hHeld => ?_)
  clear hK K
  try simp only [Act.put, List.setIfInBounds_toArray, List.set_cons_zero, List.set_cons_succ, List.getElem_toArray, List.getElem_cons_zero, List.getElem_cons_succ]
  refine wpAnyH_take (i := 2) (v := ?_) (by rfl) (by kernel_rfl) (by kernel_rfl) (by kernel_rfl) (fun _ _ _ h => h) (Or.inl ⟨by rfl, ?_⟩) hHeld ?_
  rotate_left
  · intro w' hSw
    (try dsimp only at hSw)
    simp only [List.getElem_toArray, List.getElem_cons_zero, List.getElem_cons_succ]
    go_simp
    all_goals (try with_reducible rfl)
  try simp only [Act.put, List.setIfInBounds_toArray, List.set_cons_zero, List.set_cons_succ, List.getElem_toArray, List.getElem_cons_zero, List.getElem_cons_succ]
  refine wpAnyH_take (i := 3) (v := undef) (by rfl) (by kernel_rfl) (by kernel_rfl) (by kernel_rfl) (fun _ _ _ h => h) (Or.inr ⟨by rfl, rfl⟩) hHeld ?_
  try simp only [Act.put, List.setIfInBounds_toArray, List.set_cons_zero, List.set_cons_succ, List.getElem_toArray, List.getElem_cons_zero, List.getElem_cons_succ]
  refine wpAnyH_take (i := 4) (v := undef) (by rfl) (by kernel_rfl) (by kernel_rfl) (by kernel_rfl) (fun _ _ _ h => h) (Or.inr ⟨by rfl, rfl⟩) hHeld ?_
  try simp only [Act.put, List.setIfInBounds_toArray, List.set_cons_zero, List.set_cons_succ, List.getElem_toArray, List.getElem_cons_zero, List.getElem_cons_succ]
  refine wpAnyH_take (i := 5) (v := undef) (by rfl) (by kernel_rfl) (by kernel_rfl) (by kernel_rfl) (fun _ _ _ h => h) (Or.inr ⟨by rfl, rfl⟩) hHeld ?_
  try simp only [Act.put, List.setIfInBounds_toArray, List.set_cons_zero, List.set_cons_succ, List.getElem_toArray, List.getElem_cons_zero, List.getElem_cons_succ]
  refine wpAnyH_take (i := 6) (v := undef) (by rfl) (by kernel_rfl) (by kernel_rfl) (by kernel_rfl) (fun _ _ _ h => h) (Or.inr ⟨by rfl, rfl⟩) hHeld ?_
  try simp only [Act.put, List.setIfInBounds_toArray, List.set_cons_zero, List.set_cons_succ, List.getElem_toArray, List.getElem_cons_zero, List.getElem_cons_succ]
  refine wpAnyH_take (i := 7) (v := undef) (by rfl) (by kernel_rfl) (by kernel_rfl) (by kernel_rfl) (fun _ _ _ h => h) (Or.inr ⟨by rfl, rfl⟩) hHeld ?_
  try simp only [Act.put, List.setIfInBounds_toArray, List.set_cons_zero, List.set_cons_succ, List.getElem_toArray, List.getElem_cons_zero, List.getElem_cons_succ]
  refine wpAnyH_take (i := 8) (v := ?_) (by rfl) (by kernel_rfl) (by kernel_rfl) (by kernel_rfl) (fun _ _ _ h => h) (Or.inl ⟨by rfl, ?_⟩) hHeld ?_
  rotate_left
  · intro w' hSw
    (try dsimp only at hSw)
    simp only [List.getElem_toArray, List.getElem_cons_zero, List.getElem_cons_succ]
    go_simp
    all_goals (try with_reducible rfl)
  try simp only [Act.put, List.setIfInBounds_toArray, List.set_cons_zero, List.set_cons_succ, List.getElem_toArray, List.getElem_cons_zero, List.getElem_cons_succ]
  refine wpAnyH_done (by kernel_rfl) ?_ _
  refine NoPanic.normal ?_
  clear hHeld
  go_wp2_with fail
  go_ret
  rw [SC.out]
  exact ⟨rfl, M.out.below⟩

set_option linter.unusedSimpArgs false in
set_option maxHeartbeats 4000000 in
set_option maxRecDepth 100000 in
theorem refScope_o (xs : List Int) (w : World) (hx : Ok xs) (hk : Knw w) (hm : mult xs = false) (hl : ll xs = false) (hs : scope xs = 2) (h1 : xs = kn 1) : Calls Tryd.prog 22 #[av xs] w fun e w' => e = .returned (.int .i64 (scope xs)) ∧ Below w.heap.size w w' := by
  have M := veil ((At.begin hk).new xs 23 rfl)
  have HX := veil hx
  have hi := sizeOk hx.len
  have SC := veil hs
  clear hk hx hs
  have K1 := veil (fun v h => refIsLinkLocal_any xs v HX.out h)
  rw [hl] at K1
  have hi1 := sizeOk (kn_len (show 1 < 6 by omega))
  have hi0 := sizeOk (kn_len (show 0 < 6 by omega))
  have E1 : ∀ u, (binOp .eql 23 (av xs) (av (kn 1))).run Tryd.prog u = .ok (.bool true) u := fun u => eql_any u HX.out.len (kn_len (by omega)) (decide_eq_true h1)
  clear hl h1
  go_enter Tryd.func22, Tryd.ntmps22
  go_wp2_with (refine wpList_load_of (t := 23) rfl _ rfl rfl (M.out.load mem0 HX.out.len) ?_)
  generalize w.alloc (.cells (bv xs).toArray 23) = w0 at *
  refine (refIsMulticast_any xs w0 HX.out).mono ?_
  rintro e w1 ⟨rfl, q⟩
  have M := veil (M.out.keep q)
  clear q
  rw [hm]
  clear hm
  go_wp2_with fail
  have M := veil M.out.drew
  refine wp_region_noPanic ?_
  refine wp_region_held_drew (S := (fun w' => ∀ a ∈ [(w.heap.size, xs)], w'.rangeAt a.1 0 (bv a.2))) (by kernel_rfl) M.out.rng (fun hHeld => ?_)
  refine wpAnyH_take (i := 0) (v := _) (by rfl) (by kernel_rfl) (by kernel_rfl) (by kernel_rfl) (fun _ _ _ h => h) (yieldsIf_load_mid (by rfl) _ _ (by rfl) _ _ rfl (bv xs) _ (fun _ h => h _ mem0) Tryd.underlying23 rfl hi) hHeld ?_
  try simp only [Act.put, List.setIfInBounds_toArray, List.set_cons_zero, List.set_cons_succ, List.getElem_toArray, List.getElem_cons_zero, List.getElem_cons_succ]
  refine wpAnyH_ready (rs := [1]) (by kernel_rfl) (by simp) ?_
  refine AllReadyH.cons (by rfl) (fun K hK => ?_) AllReadyH.nil
  simp only [List.getElem_toArray, List.getElem_cons_zero, List.getElem_cons_succ]
  go_simp
  refine (K1.out _ M.out.knw).mono ?_
  rintro e w2 ⟨rfl, q⟩
  have M := veil (M.out.keep q)
  clear q
  (try dsimp only)
  refine hK.out _ _ M.out.rng (fun hHeld => ?_)
  clear hK K
  try simp only [Act.put, List.setIfInBounds_toArray, List.set_cons_zero, List.set_cons_succ, List.getElem_toArray, List.getElem_cons_zero, List.getElem_cons_succ]
  refine wpAnyH_take (i := 2) (v := ?_) (by rfl) (by kernel_rfl) (by kernel_rfl) (by kernel_rfl) (fun _ _ _ h => h) (Or.inl ⟨by rfl, ?_⟩) hHeld ?_
  rotate_left
  · intro w' hSw
    (try dsimp only at hSw)
    simp only [List.getElem_toArray, List.getElem_cons_zero, List.getElem_cons_succ]
    go_simp
    all_goals (try with_reducible rfl)
  try simp only [Act.put, List.setIfInBounds_toArray, List.set_cons_zero, List.set_cons_succ, List.getElem_toArray, List.getElem_cons_zero, List.getElem_cons_succ]
  refine wpAnyH_take (i := 3) (v := _) (by rfl) (by kernel_rfl) (by kernel_rfl) (by kernel_rfl) (fun _ _ _ h => h) (yieldsIf_load_mid (by rfl) _ _ (by rfl) _ _ rfl (bv xs) _ (fun _ h => h _ mem0) Tryd.underlying23 rfl hi) hHeld ?_
  try simp only [Act.put, List.setIfInBounds_toArray, List.set_cons_zero, List.set_cons_succ, List.getElem_toArray, List.getElem_cons_zero, List.getElem_cons_succ]
  refine wpAnyH_ready (rs := [4]) (by kernel_rfl) (by simp) ?_
  refine AllReadyH.cons (by rfl) (fun K hK => ?_) AllReadyH.nil
  simp only [List.getElem_toArray, List.getElem_cons_zero, List.getElem_cons_succ]
  go_simp
  refine (refKnown_any _).mono ?_
  rintro e w3 ⟨rfl, RK, q⟩
  have RK := veil RK
  have M := veil (M.out.keep q)
  clear q
  (try dsimp only)
  refine hK.out _ _ M.out.rng (fun hHeld => ?_)
  clear hK K
  try simp only [Act.put, List.setIfInBounds_toArray, List.set_cons_zero, List.set_cons_succ, List.getElem_toArray, List.getElem_cons_zero, List.getElem_cons_succ]
  refine wpAnyH_take (i := 5) (v := ?_) (by rfl) (by kernel_rfl) (by kernel_rfl) (by kernel_rfl) (fun _ _ _ h => h) (Or.inl ⟨by rfl, ?_⟩) hHeld ?_
  rotate_left
  · intro w' hSw
    (try dsimp only at hSw)
    simp only [List.getElem_toArray, List.getElem_cons_zero, List.getElem_cons_succ]
    go_simp
    all_goals (try with_reducible rfl)
  try simp only [Act.put, List.setIfInBounds_toArray, List.set_cons_zero, List.set_cons_succ, List.getElem_toArray, List.getElem_cons_zero, List.getElem_cons_succ]
  refine wpAnyH_ready (rs := [6]) (by kernel_rfl) (by simp) ?_
  refine AllReadyH.cons (by rfl) (fun K hK => ?_) AllReadyH.nil
  simp only [List.getElem_toArray, List.getElem_cons_zero, List.getElem_cons_succ]
  rw [if_pos (by rfl)]
  refine wp_load_mid _ _ rfl _ _ rfl (bv (kn 1)) _ (kn_at RK.out 1 (by omega)) Tryd.underlying23 rfl hi1 ?_
  (try dsimp only)
  refine hK.out _ _ M.out.rng (fun hHeld => ?_)
  clear hK K
  try simp only [Act.put, List.setIfInBounds_toArray, List.set_cons_zero, List.set_cons_succ, List.getElem_toArray, List.getElem_cons_zero, List.getElem_cons_succ]
  refine wpAnyH_take (i := 7) (v := ?_) (by rfl) (by kernel_rfl) (by kernel_rfl) (by kernel_rfl) (fun _ _ _ h => h) (Or.inl ⟨by rfl, ?_⟩) hHeld ?_
  rotate_left
  · intro w' hSw
    (try dsimp only at hSw)
    simp only [List.getElem_toArray, List.getElem_cons_zero, List.getElem_cons_succ]
    go_simp
    all_goals (try with_reducible rfl)
  try simp only [Act.put, List.setIfInBounds_toArray, List.set_cons_zero, List.set_cons_succ, List.getElem_toArray, List.getElem_cons_zero, List.getElem_cons_succ]
  refine wpAnyH_take (i := 8) (v := ?_) (by rfl) (by kernel_rfl) (by kernel_rfl) (by kernel_rfl) (fun _ _ _ h => h) (Or.inl ⟨by rfl, ?_⟩) hHeld ?_
  rotate_left
  · intro w' hSw
    (try dsimp only at hSw)
    simp only [List.getElem_toArray, List.getElem_cons_zero, List.getElem_cons_succ]
    go_simp
    all_goals (try with_reducible rfl)
  try simp only [Act.put, List.setIfInBounds_toArray, List.set_cons_zero, List.set_cons_succ, List.getElem_toArray, List.getElem_cons_zero, List.getElem_cons_succ]
  refine wpAnyH_done (by kernel_rfl) ?_ _
  refine NoPanic.normal ?_
  clear hHeld RK
  go_wp2_with fail
  go_ret
  rw [SC.out]
  exact ⟨rfl, M.out.below⟩

set_option linter.unusedSimpArgs false in
set_option maxHeartbeats 4000000 in
set_option maxRecDepth 100000 in
theorem refScope_u (xs : List Int) (w : World) (hx : Ok xs) (hk : Knw w) (hm : mult xs = false) (hl : ll xs = false) (hs : scope xs = 0) (h1 : xs ≠ kn 1) (h0 : xs = kn 0) : Calls Tryd.prog 22 #[av xs] w fun e w' => e = .returned (.int .i64 (scope xs)) ∧ Below w.heap.size w w' := by
  have M := veil ((At.begin hk).new xs 23 rfl)
  have HX := veil hx
  have hi := sizeOk hx.len
  have SC := veil hs
  clear hk hx hs
  have K1 := veil (fun v h => refIsLinkLocal_any xs v HX.out h)
  rw [hl] at K1
  have hi1 := sizeOk (kn_len (show 1 < 6 by omega))
  have hi0 := sizeOk (kn_len (show 0 < 6 by omega))
  have E1 : ∀ u, (binOp .eql 23 (av xs) (av (kn 1))).run Tryd.prog u = .ok (.bool false) u := fun u => eql_any u HX.out.len (kn_len (by omega)) (decide_eq_false h1)
  have E0 : ∀ u, (binOp .eql 23 (av xs) (av (kn 0))).run Tryd.prog u = .ok (.bool true) u := fun u => eql_any u HX.out.len (kn_len (by omega)) (decide_eq_true h0)
  clear hl h1 h0
  go_enter Tryd.func22, Tryd.ntmps22
  go_wp2_with (refine wpList_load_of (t := 23) rfl _ rfl rfl (M.out.load mem0 HX.out.len) ?_)
  generalize w.alloc (.cells (bv xs).toArray 23) = w0 at *
  refine (refIsMulticast_any xs w0 HX.out).mono ?_
  rintro e w1 ⟨rfl, q⟩
  have M := veil (M.out.keep q)
  clear q
  rw [hm]
  clear hm
  go_wp2_with fail
  have M := veil M.out.drew
  refine wp_region_noPanic ?_
  refine wp_region_held_drew (S := (fun w' => ∀ a ∈ [(w.heap.size, xs)], w'.rangeAt a.1 0 (bv a.2))) (by kernel_rfl) M.out.rng (fun hHeld => ?_)
  refine wpAnyH_take (i := 0) (v := _) (by rfl) (by kernel_rfl) (by kernel_rfl) (by kernel_rfl) (fun _ _ _ h => h) (yieldsIf_load_mid (by rfl) _ _ (by rfl) _ _ rfl (bv xs) _ (fun _ h => h _ mem0) Tryd.underlying23 rfl hi) hHeld ?_
  try simp only [Act.put, List.setIfInBounds_toArray, List.set_cons_zero, List.set_cons_succ, List.getElem_toArray, List.getElem_cons_zero, List.getElem_cons_succ]
  refine wpAnyH_ready (rs := [1]) (by kernel_rfl) (by simp) ?_
  refine AllReadyH.cons (by rfl) (fun K hK => ?_) AllReadyH.nil
  simp only [List.getElem_toArray, List.getElem_cons_zero, List.getElem_cons_succ]
  go_simp
  refine (K1.out _ M.out.knw).mono ?_
  rintro e w2 ⟨rfl, q⟩
  have M := veil (M.out.keep q)
  clear q
  (try dsimp only)
  refine hK.out _ _ M.out.rng (fun hHeld => ?_)
  clear hK K
  try simp only [Act.put, List.setIfInBounds_toArray, List.set_cons_zero, List.set_cons_succ, List.getElem_toArray, List.getElem_cons_zero, List.getElem_cons_succ]
  refine wpAnyH_take (i := 2) (v := ?_) (by rfl) (by kernel_rfl) (by kernel_rfl) (by kernel_rfl) (fun _ _ _ h => h) (Or.inl ⟨by rfl, ?_⟩) hHeld ?_
  rotate_left
  · intro w' hSw
    (try dsimp only at hSw)
    simp only [List.getElem_toArray, List.getElem_cons_zero, List.getElem_cons_succ]
    go_simp
    all_goals (try with_reducible rfl)
  try simp only [Act.put, List.setIfInBounds_toArray, List.set_cons_zero, List.set_cons_succ, List.getElem_toArray, List.getElem_cons_zero, List.getElem_cons_succ]
  refine wpAnyH_take (i := 3) (v := _) (by rfl) (by kernel_rfl) (by kernel_rfl) (by kernel_rfl) (fun _ _ _ h => h) (yieldsIf_load_mid (by rfl) _ _ (by rfl) _ _ rfl (bv xs) _ (fun _ h => h _ mem0) Tryd.underlying23 rfl hi) hHeld ?_
  try simp only [Act.put, List.setIfInBounds_toArray, List.set_cons_zero, List.set_cons_succ, List.getElem_toArray, List.getElem_cons_zero, List.getElem_cons_succ]
  refine wpAnyH_ready (rs := [4]) (by kernel_rfl) (by simp) ?_
  refine AllReadyH.cons (by rfl) (fun K hK => ?_) AllReadyH.nil
  simp only [List.getElem_toArray, List.getElem_cons_zero, List.getElem_cons_succ]
  go_simp
  refine (refKnown_any _).mono ?_
  rintro e w3 ⟨rfl, RK, q⟩
  have RK := veil RK
  have M := veil (M.out.keep q)
  clear q
  (try dsimp only)
  refine hK.out _ _ M.out.rng (fun hHeld => ?_)
  clear hK K
  try simp only [Act.put, List.setIfInBounds_toArray, List.set_cons_zero, List.set_cons_succ, List.getElem_toArray, List.getElem_cons_zero, List.getElem_cons_succ]
  refine wpAnyH_take (i := 5) (v := ?_) (by rfl) (by kernel_rfl) (by kernel_rfl) (by kernel_rfl) (fun _ _ _ h => h) (Or.inl ⟨by rfl, ?_⟩) hHeld ?_
  rotate_left
  · intro w' hSw
    (try dsimp only at hSw)
    simp only [List.getElem_toArray, List.getElem_cons_zero, List.getElem_cons_succ]
    go_simp
    all_goals (try with_reducible rfl)
  try simp only [Act.put, List.setIfInBounds_toArray, List.set_cons_zero, List.set_cons_succ, List.getElem_toArray, List.getElem_cons_zero, List.getElem_cons_succ]
  refine wpAnyH_ready (rs := [6]) (by kernel_rfl) (by simp) ?_
  refine AllReadyH.cons (by rfl) (fun K hK => ?_) AllReadyH.nil
  simp only [List.getElem_toArray, List.getElem_cons_zero, List.getElem_cons_succ]
  rw [if_pos (by rfl)]
  refine wp_load_mid _ _ rfl _ _ rfl (bv (kn 1)) _ (kn_at RK.out 1 (by omega)) Tryd.underlying23 rfl hi1 ?_
  (try dsimp only)
  refine hK.out _ _ M.out.rng (fun hHeld => ?_)
  clear hK K
  try simp only [Act.put, List.setIfInBounds_toArray, List.set_cons_zero, List.set_cons_succ, List.getElem_toArray, List.getElem_cons_zero, List.getElem_cons_succ]
  refine wpAnyH_take (i := 7) (v := ?_) (by rfl) (by kernel_rfl) (by kernel_rfl) (by kernel_rfl) (fun _ _ _ h => h) (Or.inl ⟨by rfl, ?_⟩) hHeld ?_
  rotate_left
  · intro w' hSw
    (try dsimp only at hSw)
    simp only [List.getElem_toArray, List.getElem_cons_zero, List.getElem_cons_succ]
    go_simp
    all_goals (try with_reducible rfl)
  try simp only [Act.put, List.setIfInBounds_toArray, List.set_cons_zero, List.set_cons_succ, List.getElem_toArray, List.getElem_cons_zero, List.getElem_cons_succ]
  refine wpAnyH_take (i := 8) (v := ?_) (by rfl) (by kernel_rfl) (by kernel_rfl) (by kernel_rfl) (fun _ _ _ h => h) (Or.inl ⟨by rfl, ?_⟩) hHeld ?_
  rotate_left
  · intro w' hSw
    (try dsimp only at hSw)
    simp only [List.getElem_toArray, List.getElem_cons_zero, List.getElem_cons_succ]
    go_simp
    all_goals (try with_reducible rfl)
  try simp only [Act.put, List.setIfInBounds_toArray, List.set_cons_zero, List.set_cons_succ, List.getElem_toArray, List.getElem_cons_zero, List.getElem_cons_succ]
  refine wpAnyH_done (by kernel_rfl) ?_ _
  refine NoPanic.normal ?_
  clear hHeld RK
  go_wp2_with fail
  have M := veil M.out.drew
  refine wp_region_noPanic ?_
  refine wp_region_held_drew (S := (fun w' => ∀ a ∈ [(w.heap.size, xs)], w'.rangeAt a.1 0 (bv a.2))) (by kernel_rfl) M.out.rng (fun hHeld => ?_)
  refine wpAnyH_take (i := 0) (v := _) (by rfl) (by kernel_rfl) (by kernel_rfl) (by kernel_rfl) (fun _ _ _ h => h) (yieldsIf_load_mid (by rfl) _ _ (by rfl) _ _ rfl (bv xs) _ (fun _ h => h _ mem0) Tryd.underlying23 rfl hi) hHeld ?_
  try simp only [Act.put, List.setIfInBounds_toArray, List.set_cons_zero, List.set_cons_succ, List.getElem_toArray, List.getElem_cons_zero, List.getElem_cons_succ]
  refine wpAnyH_ready (rs := [1]) (by kernel_rfl) (by simp) ?_
  refine AllReadyH.cons (by rfl) (fun K hK => ?_) AllReadyH.nil
  simp only [List.getElem_toArray, List.getElem_cons_zero, List.getElem_cons_succ]
  go_simp
  refine (refKnown_any _).mono ?_
  rintro e w4 ⟨rfl, RK, q⟩
  have RK := veil RK
  have M := veil (M.out.keep q)
  clear q
  (try dsimp only)
  refine hK.out _ _ M.out.rng (fun hHeld => ?_)
  clear hK K
  try simp only [Act.put, List.setIfInBounds_toArray, List.set_cons_zero, List.set_cons_succ, List.getElem_toArray, List.getElem_cons_zero, List.getElem_cons_succ]
  refine wpAnyH_take (i := 2) (v := ?_) (by rfl) (by kernel_rfl) (by kernel_rfl) (by kernel_rfl) (fun _ _ _ h => h) (Or.inl ⟨by rfl, ?_⟩) hHeld ?_
  rotate_left
  · intro w' hSw
    (try dsimp only at hSw)
    simp only [List.getElem_toArray, List.getElem_cons_zero, List.getElem_cons_succ]
    go_simp
    all_goals (try with_reducible rfl)
  try simp only [Act.put, List.setIfInBounds_toArray, List.set_cons_zero, List.set_cons_succ, List.getElem_toArray, List.getElem_cons_zero, List.getElem_cons_succ]
  refine wpAnyH_ready (rs := [3]) (by kernel_rfl) (by simp) ?_
  refine AllReadyH.cons (by rfl) (fun K hK => ?_) AllReadyH.nil
  simp only [List.getElem_toArray, List.getElem_cons_zero, List.getElem_cons_succ]
  rw [if_pos (by rfl)]
  refine wp_load_mid _ _ rfl _ _ rfl (bv (kn 0)) _ (kn_at RK.out 0 (by omega)) Tryd.underlying23 rfl hi0 ?_
  (try dsimp only)
  refine hK.out _ _ M.out.rng (fun hHeld => ?_)
  clear hK K
  try simp only [Act.put, List.setIfInBounds_toArray, List.set_cons_zero, List.set_cons_succ, List.getElem_toArray, List.getElem_cons_zero, List.getElem_cons_succ]
  refine wpAnyH_take (i := 4) (v := ?_) (by rfl) (by kernel_rfl) (by kernel_rfl) (by kernel_rfl) (fun _ _ _ h => h) (Or.inl ⟨by rfl, ?_⟩) hHeld ?_
  rotate_left
  · intro w' hSw
    (try dsimp only at hSw)
    simp only [List.getElem_toArray, List.getElem_cons_zero, List.getElem_cons_succ]
    go_simp
    all_goals (try with_reducible rfl)
  try simp only [Act.put, List.setIfInBounds_toArray, List.set_cons_zero, List.set_cons_succ, List.getElem_toArray, List.getElem_cons_zero, List.getElem_cons_succ]
  refine wpAnyH_done (by kernel_rfl) ?_ _
  refine NoPanic.normal ?_
  clear hHeld RK
  go_wp2_with fail
  go_ret
  rw [SC.out]
  exact ⟨rfl, M.out.below⟩

set_option linter.unusedSimpArgs false in
set_option maxHeartbeats 4000000 in
set_option maxRecDepth 100000 in
theorem refScope_e (xs : List Int) (w : World) (hx : Ok xs) (hk : Knw w) (hm : mult xs = false) (hl : ll xs = false) (hs : scope xs = 14) (h1 : xs ≠ kn 1) (h0 : xs ≠ kn 0) : Calls Tryd.prog 22 #[av xs] w fun e w' => e = .returned (.int .i64 (scope xs)) ∧ Below w.heap.size w w' := by
  have M := veil ((At.begin hk).new xs 23 rfl)
  have HX := veil hx
  have hi := sizeOk hx.len
  have SC := veil hs
  clear hk hx hs
  have K1 := veil (fun v h => refIsLinkLocal_any xs v HX.out h)
  rw [hl] at K1
  have hi1 := sizeOk (kn_len (show 1 < 6 by omega))
  have hi0 := sizeOk (kn_len (show 0 < 6 by omega))
  have E1 : ∀ u, (binOp .eql 23 (av xs) (av (kn 1))).run Tryd.prog u = .ok (.bool false) u := fun u => eql_any u HX.out.len (kn_len (by omega)) (decide_eq_false h1)
  have E0 : ∀ u, (binOp .eql 23 (av xs) (av (kn 0))).run Tryd.prog u = .ok (.bool false) u := fun u => eql_any u HX.out.len (kn_len (by omega)) (decide_eq_false h0)
  clear hl h1 h0
  go_enter Tryd.func22, Tryd.ntmps22
  go_wp2_with (refine wpList_load_of (t := 23) rfl _ rfl rfl (M.out.load mem0 HX.out.len) ?_)
  generalize w.alloc (.cells (bv xs).toArray 23) = w0 at *
  refine (refIsMulticast_any xs w0 HX.out).mono ?_
  rintro e w1 ⟨rfl, q⟩
  have M := veil (M.out.keep q)
  clear q
  rw [hm]
  clear hm
  go_wp2_with fail
  have M := veil M.out.drew
  refine wp_region_noPanic ?_
  refine wp_region_held_drew (S := (fun w' => ∀ a ∈ [(w.heap.size, xs)], w'.rangeAt a.1 0 (bv a.2))) (by kernel_rfl) M.out.rng (fun hHeld => ?_)
  refine wpAnyH_take (i := 0) (v := _) (by rfl) (by kernel_rfl) (by kernel_rfl) (by kernel_rfl) (fun _ _ _ h => h) (yieldsIf_load_mid (by rfl) _ _ (by rfl) _ _ rfl (bv xs) _ (fun _ h => h _ mem0) Tryd.underlying23 rfl hi) hHeld ?_
  try simp only [Act.put, List.setIfInBounds_toArray, List.set_cons_zero, List.set_cons_succ, List.getElem_toArray, List.getElem_cons_zero, List.getElem_cons_succ]
  refine wpAnyH_ready (rs := [1]) (by kernel_rfl) (by simp) ?_
  refine AllReadyH.cons (by rfl) (fun K hK => ?_) AllReadyH.nil
  simp only [List.getElem_toArray, List.getElem_cons_zero, List.getElem_cons_succ]
  go_simp
  refine (K1.out _ M.out.knw).mono ?_
  rintro e w2 ⟨rfl, q⟩
  have M := veil (M.out.keep q)
  clear q
  (try dsimp only)
  refine hK.out _ _ M.out.rng (fun hHeld => ?_)
  clear hK K
  try simp only [Act.put, List.setIfInBounds_toArray, List.set_cons_zero, List.set_cons_succ, List.getElem_toArray, List.getElem_cons_zero, List.getElem_cons_succ]
  refine wpAnyH_take (i := 2) (v := ?_) (by rfl) (by kernel_rfl) (by kernel_rfl) (by kernel_rfl) (fun _ _ _ h => h) (Or.inl ⟨by rfl, ?_⟩) hHeld ?_
  rotate_left
  · intro w' hSw
    (try dsimp only at hSw)
    simp only [List.getElem_toArray, List.getElem_cons_zero, List.getElem_cons_succ]
    go_simp
    all_goals (try with_reducible rfl)
  try simp only [Act.put, List.setIfInBounds_toArray, List.set_cons_zero, List.set_cons_succ, List.getElem_toArray, List.getElem_cons_zero, List.getElem_cons_succ]
  refine wpAnyH_take (i := 3) (v := _) (by rfl) (by kernel_rfl) (by kernel_rfl) (by kernel_rfl) (fun _ _ _ h => h) (yieldsIf_load_mid (by rfl) _ _ (by rfl) _ _ rfl (bv xs) _ (fun _ h => h _ mem0) Tryd.underlying23 rfl hi) hHeld ?_
  try simp only [Act.put, List.setIfInBounds_toArray, List.set_cons_zero, List.set_cons_succ, List.getElem_toArray, List.getElem_cons_zero, List.getElem_cons_succ]
  refine wpAnyH_ready (rs := [4]) (by kernel_rfl) (by simp) ?_
  refine AllReadyH.cons (by rfl) (fun K hK => ?_) AllReadyH.nil
  simp only [List.getElem_toArray, List.getElem_cons_zero, List.getElem_cons_succ]
  go_simp
  refine (refKnown_any _).mono ?_
  rintro e w3 ⟨rfl, RK, q⟩
  have RK := veil RK
  have M := veil (M.out.keep q)
  clear q
  (try dsimp only)
  refine hK.out _ _ M.out.rng (fun hHeld => ?_)
  clear hK K
  try simp only [Act.put, List.setIfInBounds_toArray, List.set_cons_zero, List.set_cons_succ, List.getElem_toArray, List.getElem_cons_zero, List.getElem_cons_succ]
  refine wpAnyH_take (i := 5) (v := ?_) (by rfl) (by kernel_rfl) (by kernel_rfl) (by kernel_rfl) (fun _ _ _ h => h) (Or.inl ⟨by rfl, ?_⟩) hHeld ?_
  rotate_left
  · intro w' hSw
    (try dsimp only at hSw)
    simp only [List.getElem_toArray, List.getElem_cons_zero, List.getElem_cons_succ]
    go_simp
    all_goals (try with_reducible rfl)
  try simp only [Act.put, List.setIfInBounds_toArray, List.set_cons_zero, List.set_cons_succ, List.getElem_toArray, List.getElem_cons_zero, List.getElem_cons_succ]
  refine wpAnyH_ready (rs := [6]) (by kernel_rfl) (by simp) ?_
  refine AllReadyH.cons (by rfl) (fun K hK => ?_) AllReadyH.nil
  simp only [List.getElem_toArray, List.getElem_cons_zero, List.getElem_cons_succ]
  rw [if_pos (by rfl)]
  refine wp_load_mid _ _ rfl _ _ rfl (bv (kn 1)) _ (kn_at RK.out 1 (by omega)) Tryd.underlying23 rfl hi1 ?_
  (try dsimp only)
  refine hK.out _ _ M.out.rng (fun hHeld => ?_)
  clear hK K
  try simp only [Act.put, List.setIfInBounds_toArray, List.set_cons_zero, List.set_cons_succ, List.getElem_toArray, List.getElem_cons_zero, List.getElem_cons_succ]
  refine wpAnyH_take (i := 7) (v := ?_) (by rfl) (by kernel_rfl) (by kernel_rfl) (by kernel_rfl) (fun _ _ _ h => h) (Or.inl ⟨by rfl, ?_⟩) hHeld ?_
  rotate_left
  · intro w' hSw
    (try dsimp only at hSw)
    simp only [List.getElem_toArray, List.getElem_cons_zero, List.getElem_cons_succ]
    go_simp
    all_goals (try with_reducible rfl)
  try simp only [Act.put, List.setIfInBounds_toArray, List.set_cons_zero, List.set_cons_succ, List.getElem_toArray, List.getElem_cons_zero, List.getElem_cons_succ]
  refine wpAnyH_take (i := 8) (v := ?_) (by rfl) (by kernel_rfl) (by kernel_rfl) (by kernel_rfl) (fun _ _ _ h => h) (Or.inl ⟨by rfl, ?_⟩) hHeld ?_
  rotate_left
  · intro w' hSw
    (try dsimp only at hSw)
    simp only [List.getElem_toArray, List.getElem_cons_zero, List.getElem_cons_succ]
    go_simp
    all_goals (try with_reducible rfl)
  try simp only [Act.put, List.setIfInBounds_toArray, List.set_cons_zero, List.set_cons_succ, List.getElem_toArray, List.getElem_cons_zero, List.getElem_cons_succ]
  refine wpAnyH_done (by kernel_rfl) ?_ _
  refine NoPanic.normal ?_
  clear hHeld RK
  go_wp2_with fail
  have M := veil M.out.drew
  refine wp_region_noPanic ?_
  refine wp_region_held_drew (S := (fun w' => ∀ a ∈ [(w.heap.size, xs)], w'.rangeAt a.1 0 (bv a.2))) (by kernel_rfl) M.out.rng (fun hHeld => ?_)
  refine wpAnyH_take (i := 0) (v := _) (by rfl) (by kernel_rfl) (by kernel_rfl) (by kernel_rfl) (fun _ _ _ h => h) (yieldsIf_load_mid (by rfl) _ _ (by rfl) _ _ rfl (bv xs) _ (fun _ h => h _ mem0) Tryd.underlying23 rfl hi) hHeld ?_
  try simp only [Act.put, List.setIfInBounds_toArray, List.set_cons_zero, List.set_cons_succ, List.getElem_toArray, List.getElem_cons_zero, List.getElem_cons_succ]
  refine wpAnyH_ready (rs := [1]) (by kernel_rfl) (by simp) ?_
  refine AllReadyH.cons (by rfl) (fun K hK => ?_) AllReadyH.nil
  simp only [List.getElem_toArray, List.getElem_cons_zero, List.getElem_cons_succ]
  go_simp
  refine (refKnown_any _).mono ?_
  rintro e w4 ⟨rfl, RK, q⟩
  have RK := veil RK
  have M := veil (M.out.keep q)
  clear q
  (try dsimp only)
  refine hK.out _ _ M.out.rng (fun hHeld => ?_)
  clear hK K
  try simp only [Act.put, List.setIfInBounds_toArray, List.set_cons_zero, List.set_cons_succ, List.getElem_toArray, List.getElem_cons_zero, List.getElem_cons_succ]
  refine wpAnyH_take (i := 2) (v := ?_) (by rfl) (by kernel_rfl) (by kernel_rfl) (by kernel_rfl) (fun _ _ _ h => h) (Or.inl ⟨by rfl, ?_⟩) hHeld ?_
  rotate_left
  · intro w' hSw
    (try dsimp only at hSw)
    simp only [List.getElem_toArray, List.getElem_cons_zero, List.getElem_cons_succ]
    go_simp
    all_goals (try with_reducible rfl)
  try simp only [Act.put, List.setIfInBounds_toArray, List.set_cons_zero, List.set_cons_succ, List.getElem_toArray, List.getElem_cons_zero, List.getElem_cons_succ]
  refine wpAnyH_ready (rs := [3]) (by kernel_rfl) (by simp) ?_
  refine AllReadyH.cons (by rfl) (fun K hK => ?_) AllReadyH.nil
  simp only [List.getElem_toArray, List.getElem_cons_zero, List.getElem_cons_succ]
  rw [if_pos (by rfl)]
  refine wp_load_mid _ _ rfl _ _ rfl (bv (kn 0)) _ (kn_at RK.out 0 (by omega)) Tryd.underlying23 rfl hi0 ?_
  (try dsimp only)
  refine hK.out _ _ M.out.rng (fun hHeld => ?_)
  clear hK K
  try simp only [Act.put, List.setIfInBounds_toArray, List.set_cons_zero, List.set_cons_succ, List.getElem_toArray, List.getElem_cons_zero, List.getElem_cons_succ]
  refine wpAnyH_take (i := 4) (v := ?_) (by rfl) (by kernel_rfl) (by kernel_rfl) (by kernel_rfl) (fun _ _ _ h => h) (Or.inl ⟨by rfl, ?_⟩) hHeld ?_
  rotate_left
  · intro w' hSw
    (try dsimp only at hSw)
    simp only [List.getElem_toArray, List.getElem_cons_zero, List.getElem_cons_succ]
    go_simp
    all_goals (try with_reducible rfl)
  try simp only [Act.put, List.setIfInBounds_toArray, List.set_cons_zero, List.set_cons_succ, List.getElem_toArray, List.getElem_cons_zero, List.getElem_cons_succ]
  refine wpAnyH_done (by kernel_rfl) ?_ _
  refine NoPanic.normal ?_
  clear hHeld RK
  go_wp2_with fail
  go_ret
  rw [SC.out]
  exact ⟨rfl, M.out.below⟩

theorem refScope_any (xs : List Int) (w : World) (hx : Ok xs) (hk : Knw w) : Calls Tryd.prog 22 #[av xs] w fun e w' => e = .returned (.int .i64 (scope xs)) ∧ Below w.heap.size w w' := by
  cases hm : mult xs with
  | true => exact refScope_m xs w hx hk hm (scope_mult (of_decide_eq_true hm))
  | false =>
    have h := of_decide_eq_false hm
    cases hl : ll xs with
    | true => exact refScope_l xs w hx hk hm hl (scope_link h (Or.inr (of_decide_eq_true hl)))
    | false =>
      have h' := of_decide_eq_false hl
      by_cases h1 : xs = kn 1
      · exact refScope_o xs w hx hk hm hl (scope_link h (Or.inl (h1.trans kn1))) h1
      · by_cases h0 : xs = kn 0
        · exact refScope_u xs w hx hk hm hl (scope_none (h0.trans kn0)) h1 h0
        · exact refScope_e xs w hx hk hm hl (scope_else h (fun k => k.elim (fun k => h1 (k.trans kn1.symm)) h') (fun k => h0 (k.trans kn0.symm))) h1 h0

end Go.Proofs.YtcdcdnibligjnaaDoor.Ad
