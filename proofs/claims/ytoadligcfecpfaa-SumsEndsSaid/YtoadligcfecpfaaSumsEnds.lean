/-
  SumsEnds: source and destination may change places; a longer length, or another protocol, shows, the bytes being noughts: the law returns true for every input, and its arguments read as before.
  Conditions: none.
-/
import Derived.Test.YtoadligcfecpfaaSumEn
import Derived.Deep.RegionHeld3
namespace Go.Proofs.Ytoadligcfecpfaa.sumsEnds
open Go.ChangeShapes Go.WideShapes Go.ChangeAt Go.RowKit

/-- the checksum of an end's noughts -/
def ce (s d : List Int) (nx : Int) (k : Nat) : Int := ck (ph s d k nx ++ List.replicate k 0)
theorem ce_tot (s d : List Int) (nx : Int) (k : Nat) (hs : s.length = 16) (hd : d.length = 16) (hk : k ≤ 60000) : ce s d nx k = 65535 - rd (tot s + tot d + k + nx) := by
  unfold ce ck
  rw [tot_append_zeros, tot_ph s d k nx hs hd (by omega) (by omega)]
  congr 2
  omega
theorem ce_swap (s d : List Int) (nx : Int) (k : Nat) (hs : s.length = 16) (hd : d.length = 16) (hk : k ≤ 60000) : ce d s nx k = ce s d nx k := by
  rw [ce_tot s d nx k hs hd hk, ce_tot d s nx k hd hs hk]
  congr 2
  omega
theorem ce_long (s d : List Int) (nx : Int) (k : Nat) (hs : s.length = 16) (hd : d.length = 16) (bs : Byt s) (bd : Byt d) (hn : 0 ≤ nx) (hk : k ≤ 50000) : ce s d nx k ≠ ce s d nx (k + 1) := by
  rw [ce_tot s d nx k hs hd (by omega), ce_tot s d nx (k + 1) hs hd (by omega)]
  have h1 := tot_nonneg s bs
  have h2 := tot_nonneg d bd
  have h := rd_ne (tot s + tot d + k + nx) (tot s + tot d + ((k + 1 : Nat) : Int) + nx) (by omega) (by omega) (by omega)
  omega
theorem ce_next (s d : List Int) (nx : Int) (k : Nat) (hs : s.length = 16) (hd : d.length = 16) (bs : Byt s) (bd : Byt d) (hn : 0 ≤ nx ∧ nx ≤ 255) (hk : k ≤ 50000) : ce s d nx k ≠ ce s d (bits .xor .u8 nx 1) k := by
  rw [ce_tot s d nx k hs hd (by omega), ce_tot s d _ k hs hd (by omega), xor_one nx hn.1 hn.2]
  have h1 := tot_nonneg s bs
  have h2 := tot_nonneg d bd
  have h := rd_ne (tot s + tot d + k + nx) (tot s + tot d + k + (if nx % 2 = 0 then nx + 1 else nx - 1)) (by omega) (by split <;> omega) (by split <;> omega)
  omega

set_option linter.unusedSimpArgs false in
set_option maxHeartbeats 4000000 in
theorem walk (s d : List Int) (nx : Int) (k : Nat) (w : World) (hs : s.length = 16) (hd : d.length = 16) (bs : Byt s) (bd : Byt d) (hnx : 0 ≤ nx ∧ nx ≤ 255) (hk : k ≤ 255) :
    Calls Try.prog 7 #[.agg (endsV s d nx).toArray, .int .u8 k] w fun e w' => e = .returned (.bool true) ∧ Below w.heap.size w w' := by
  have HS := veil hs
  have HD := veil hd
  have BS := veil bs
  have BD := veil bd
  have HN := veil hnx
  have C1 := veil (ce_swap s d nx k hs hd (by omega))
  have C2 := veil (ce_long s d nx k hs hd bs bd hnx.1 (by omega))
  have C3 := veil (ce_next s d nx k hs hd bs bd hnx (by omega))
  have Y1 : Hid (Byt (List.replicate k 0)) := fun z hz => by simp at hz; omega
  have L1 : Hid ((List.replicate k (0 : Int)).length = k) := by simp [Hid]
  clear hs hd bs bd
  have hmk := run_make_u8 k (by omega) (w.alloc (.cells (endsV s d nx).toArray 33))
  go_enter Try.func7, Try.ntmps7
  have e0 := row_new (w := w) (cs := (endsV s d nx).toArray) (t := 33) rfl
  have b0 := below_new w (.cells (endsV s d nx).toArray 33)
  obtain ⟨w0, hw0⟩ : ∃ w0, w.alloc (.cells (endsV s d nx).toArray 33) = w0 := ⟨_, rfl⟩
  rw [hw0] at hmk e0 b0
  have q1 := below_new w0 (.cells (zeros k) 5)
  have b1 := b0.trans (q1.mono b0.size)
  have E1 := veil (e0.keep q1)
  have Z1 := veil (row_new (w := w0) (cs := zeros k) (t := 5) rfl)
  have n1 := cell_next E1.out HS.out HD.out
  clear e0 b0 q1
  go_wp2_with (first
    | (refine wpList_load_of rfl _ rfl rfl (load_src E1.out HS.out) ?_)
    | (refine wpList_load_of rfl _ rfl rfl (load_dst E1.out HS.out HD.out) ?_))
  clear hmk hw0
  generalize w0.alloc (.cells (zeros k) 5) = w1 at *
  generalize w0.heap.size = g at *
  refine (over_any s d nx _ k k (List.replicate k 0) w1 HS.out HD.out BS.out BD.out HN.out L1.out (by omega) (.inr ⟨_, k, by rw [L1.out], rd_lit Z1.out (zeros_bv k), by rw [L1.out]; omega⟩) Y1.out).mono ?_
  rintro e w2 ⟨rfl, q2⟩
  have b2 := b1.trans (q2.mono b1.size)
  have E2 := veil (E1.out.keep q2)
  have Z2 := veil (Z1.out.keep q2)
  have n2 := cell_next E2.out HS.out HD.out
  have K2 := veil (over_any d s nx _ k k (List.replicate k 0) w2 HD.out HS.out BD.out BS.out HN.out L1.out (by omega) (.inr ⟨_, k, by rw [L1.out], rd_lit Z2.out (zeros_bv k), by rw [L1.out]; omega⟩) Y1.out)
  obtain ⟨v, hv⟩ : ∃ v, ce s d nx k = v := ⟨_, rfl⟩
  have hv2 : ck (ph s d k nx ++ List.replicate k 0) = v := hv
  have hv3 : ck (ph d s k nx ++ List.replicate k 0) = v := C1.out.trans hv
  rw [hv2]
  rw [hv3] at K2
  rw [hv] at C2 C3
  clear q2 E1 n1 Z1 b1 hv hv2 hv3 C1
  go_wp2_with (first
    | (refine wpList_load_of rfl _ rfl rfl (load_src E2.out HS.out) ?_)
    | (refine wpList_load_of rfl _ rfl rfl (load_dst E2.out HS.out HD.out) ?_))
  refine (K2.out).mono ?_
  rintro e w3 ⟨rfl, q3⟩
  have b3 := b2.trans (q3.mono b2.size)
  have E3 := veil (E2.out.keep q3)
  have Z3 := veil (Z2.out.keep q3)
  clear q3 E2 n2 Z2 b2 K2
  go_wp2_with fail
  have b4 : Below w.heap.size w w3.drew := still_below b3
  have E4 := veil (still_row E3.out)
  have Z4 := veil (still_row Z3.out)
  clear b3 E3 Z3
  generalize hw4 : w3.drew = w4 at b4 E4 Z4
  have q5 := below_new w4 (.cells #[.int .u8 0] 5)
  have b5 := b4.trans (q5.mono b4.size)
  have E5 := veil (E4.out.keep q5)
  have Z5 := veil (Z4.out.keep q5)
  have r5 := row_new (w := w4) (cs := #[.int .u8 0]) (t := 5) rfl
  obtain ⟨v6, w6, H6, O6, q6⟩ := run_append_full (w4.alloc (.cells #[.int .u8 0] 5)) 22 (some ⟨g, 0, none⟩) k (.slice (some ⟨w4.heap.size, 0, none⟩) 1 1) (List.replicate k 0) [0] L1.out (rd_lit Z5.out (zeros_bv k)) (by simp) (.inr ⟨_, 1, rfl, rd_lit r5 rfl, by simp⟩) (by simp) (by simp; omega)
  rw [show List.replicate k (0 : Int) ++ [0] = List.replicate (k + 1) 0 by rw [← List.replicate_succ']] at O6
  have b6 := b5.trans (q6.mono b5.size)
  have E6 := veil (E5.out.keep q6)
  have Z6 := veil (Z5.out.keep q6)
  have S6 := O6.slc
  obtain ⟨A6, c6, rfl, _, _⟩ := O6.slc.slice
  have l6 : (List.replicate (k + 1) (0 : Int)).length = k + 1 := by simp
  rw [l6] at S6 H6
  have Y6 : Byt (List.replicate (k + 1) 0) := fun z hz => by simp at hz; omega
  have K6 := veil (over_any s d nx _ (k + 1) _ (List.replicate (k + 1) 0) w6 HS.out HD.out BS.out BD.out HN.out l6 (by omega) S6 Y6)
  obtain ⟨v', hv'⟩ : ∃ v', ce s d nx (k + 1) = v' := ⟨_, rfl⟩
  have hv2 : ck (ph s d ((k + 1 : Nat) : Int) nx ++ List.replicate (k + 1) 0) = v' := hv'
  rw [hv2] at K6
  rw [hv'] at C2
  have hne : Hid ((v != v') = true) := by simpa [Hid] using C2.out
  have xb := xor_one nx hnx.1 hnx.2
  have xr : Hid (0 ≤ bits .xor .u8 nx 1 ∧ bits .xor .u8 nx 1 ≤ 255) := by rw [xb]; have := hnx.1; have := hnx.2; constructor <;> (split <;> omega)
  have K7 : Hid (∀ w', Row w' g 5 (zeros k) → Calls Try.prog 14 #[.agg (bv s).toArray, .agg (bv d).toArray, .int .u8 (bits .xor .u8 nx 1), .slice (some ⟨g, 0, none⟩) k k] w' fun e w'' => e = .returned (.int .u16 (ce s d (bits .xor .u8 nx 1) k)) ∧ Below w'.heap.size w' w'') :=
    fun w' hr => over_any s d _ _ k k (List.replicate k 0) w' HS.out HD.out BS.out BD.out xr.out L1.out (by omega) (.inr ⟨_, k, by rw [L1.out], rd_lit hr (zeros_bv k), by rw [L1.out]; omega⟩) Y1.out
  have hne2 : Hid ((v != ce s d (bits .xor .u8 nx 1) k) = true) := by simpa [Hid] using C3.out
  have S4 := veil (ends_at E4.out HS.out HD.out)
  have S5 := veil (ends_at E5.out HS.out HD.out)
  have T6 := veil (ends_at E6.out HS.out HD.out)
  have HA := veil H6
  have hu31 := Try.underlying31
  have hi31 : (Try.prog.info? 31).map (·.size) = some (bv s).length := by rw [size16]; simp [bv, HS.out]
  have hi32 : (Try.prog.info? 31).map (·.size) = some (bv d).length := by rw [size16]; simp [bv, HD.out]
  subst hw4
  clear q5 r5 H6 O6 q6 S6 l6 Y6 hv' hv2 b4 b5 Z4 Z5 xb E4 E5
  refine wp_region_noPanic ?_
  refine wp_region_held_drew (S := fun w' => w'.rangeAt w.heap.size 0 (bv s) ∧ w'.rangeAt w.heap.size 16 (bv d) ∧ w'.cell? ⟨w.heap.size, 32, none⟩ = some (.int .u8 nx)) (by kernel_rfl) S4.out (fun hHeld => ?_)
  refine wpAnyH_take (i := 0) (v := ?_) (by rfl) (by kernel_rfl) (by kernel_rfl) (by kernel_rfl) (fun _ _ _ h => h) (Or.inl ⟨by rfl, ?_⟩) hHeld ?_
  rotate_left
  · intro w' hSw
    (try dsimp only at hSw)
    simp only [List.getElem_toArray, List.getElem_cons_zero, List.getElem_cons_succ]
    go_simp
    all_goals (try with_reducible rfl)
  try simp only [Act.put, List.setIfInBounds_toArray, List.set_cons_zero, List.set_cons_succ, List.getElem_toArray, List.getElem_cons_zero, List.getElem_cons_succ]
  refine wpAnyH_take (i := 1) (v := ?_) (by rfl) (by kernel_rfl) (by kernel_rfl) (by kernel_rfl) (fun _ _ _ h => h) (Or.inl ⟨by rfl, ?_⟩) hHeld ?_
  rotate_left
  · intro w' hSw
    (try dsimp only at hSw)
    simp only [List.getElem_toArray, List.getElem_cons_zero, List.getElem_cons_succ]
    go_simp
    all_goals (try with_reducible rfl)
  try simp only [Act.put, List.setIfInBounds_toArray, List.set_cons_zero, List.set_cons_succ, List.getElem_toArray, List.getElem_cons_zero, List.getElem_cons_succ]
  refine wpAnyH_take (i := 2) (v := _) (by rfl) (by kernel_rfl) (by kernel_rfl) (by kernel_rfl) (fun _ _ _ h => h) (yieldsIf_load_mid (by rfl) _ _ (by rfl) _ _ rfl (bv s) _ (fun _ h => h.1) hu31 rfl hi31) hHeld ?_
  try simp only [Act.put, List.setIfInBounds_toArray, List.set_cons_zero, List.set_cons_succ, List.getElem_toArray, List.getElem_cons_zero, List.getElem_cons_succ]
  refine wpAnyH_take (i := 3) (v := ?_) (by rfl) (by kernel_rfl) (by kernel_rfl) (by kernel_rfl) (fun _ _ _ h => h) (Or.inl ⟨by rfl, ?_⟩) hHeld ?_
  rotate_left
  · intro w' hSw
    (try dsimp only at hSw)
    simp only [List.getElem_toArray, List.getElem_cons_zero, List.getElem_cons_succ]
    go_simp
    all_goals (try with_reducible rfl)
  try simp only [Act.put, List.setIfInBounds_toArray, List.set_cons_zero, List.set_cons_succ, List.getElem_toArray, List.getElem_cons_zero, List.getElem_cons_succ]
  refine wpAnyH_take (i := 4) (v := _) (by rfl) (by kernel_rfl) (by kernel_rfl) (by kernel_rfl) (fun _ _ _ h => h) (yieldsIf_load_mid (by rfl) _ _ (by rfl) _ _ rfl (bv d) _ (fun _ h => h.2.1) hu31 rfl hi32) hHeld ?_
  try simp only [Act.put, List.setIfInBounds_toArray, List.set_cons_zero, List.set_cons_succ, List.getElem_toArray, List.getElem_cons_zero, List.getElem_cons_succ]
  refine wpAnyH_take (i := 5) (v := ?_) (by rfl) (by kernel_rfl) (by kernel_rfl) (by kernel_rfl) (fun _ _ _ h => h) (Or.inl ⟨by rfl, ?_⟩) hHeld ?_
  rotate_left
  · intro w' hSw
    (try dsimp only at hSw)
    simp only [List.getElem_toArray, List.getElem_cons_zero, List.getElem_cons_succ]
    go_simp
    all_goals (try with_reducible rfl)
  try simp only [Act.put, List.setIfInBounds_toArray, List.set_cons_zero, List.set_cons_succ, List.getElem_toArray, List.getElem_cons_zero, List.getElem_cons_succ]
  refine wpAnyH_take (i := 6) (v := ?_) (by rfl) (by kernel_rfl) (by kernel_rfl) (by kernel_rfl) (fun _ _ _ h => h) (Or.inl ⟨by rfl, ?_⟩) hHeld ?_
  rotate_left
  · intro w' hSw
    (try dsimp only at hSw)
    simp only [List.getElem_toArray, List.getElem_cons_zero, List.getElem_cons_succ]
    go_simp
    all_goals (try with_reducible rfl)
  try simp only [Act.put, List.setIfInBounds_toArray, List.set_cons_zero, List.set_cons_succ, List.getElem_toArray, List.getElem_cons_zero, List.getElem_cons_succ]
  refine wpAnyH_take (i := 7) (v := ?_) (by rfl) (by kernel_rfl) (by kernel_rfl) (by kernel_rfl) (fun _ _ _ h => h) (Or.inl ⟨by rfl, ?_⟩) hHeld ?_
  rotate_left
  · intro w' hSw
    (try dsimp only at hSw)
    simp only [List.getElem_toArray, List.getElem_cons_zero, List.getElem_cons_succ]
    go_simp
    all_goals (try with_reducible rfl)
  try simp only [Act.put, List.setIfInBounds_toArray, List.set_cons_zero, List.set_cons_succ, List.getElem_toArray, List.getElem_cons_zero, List.getElem_cons_succ]
  refine wpAnyH_ready (rs := [8]) (by kernel_rfl) (by simp) ?_
  refine AllReadyH.cons (by rfl) (fun K hK => ?_) AllReadyH.nil
  simp only [List.getElem_toArray, List.getElem_cons_zero, List.getElem_cons_succ]
  go_simp
  refine hK.out _ _ S5.out (fun hHeld => ?_)
  clear hK K
  try simp only [Act.put, List.setIfInBounds_toArray, List.set_cons_zero, List.set_cons_succ, List.getElem_toArray, List.getElem_cons_zero, List.getElem_cons_succ]
  refine wpAnyH_ready (rs := [9]) (by kernel_rfl) (by simp) ?_
  refine AllReadyH.cons (by rfl) (fun K hK => ?_) AllReadyH.nil
  simp only [List.getElem_toArray, List.getElem_cons_zero, List.getElem_cons_succ]
  rw [if_pos (by rfl)]
  refine wp_append_of (.tmp 35) (.tmp 36) rfl rfl rfl HA.out ?_
  refine hK.out _ _ T6.out (fun hHeld => ?_)
  clear hK K
  try simp only [Act.put, List.setIfInBounds_toArray, List.set_cons_zero, List.set_cons_succ, List.getElem_toArray, List.getElem_cons_zero, List.getElem_cons_succ]
  refine wpAnyH_ready (rs := [10]) (by kernel_rfl) (by simp) ?_
  refine AllReadyH.cons (by rfl) (fun K hK => ?_) AllReadyH.nil
  simp only [List.getElem_toArray, List.getElem_cons_zero, List.getElem_cons_succ]
  go_simp
  refine (K6.out).mono ?_
  clear K6
  rintro e w7 ⟨rfl, q7⟩
  have b7 := b6.trans (q7.mono b6.size)
  have E7 := veil (E6.out.keep q7)
  have Z7 := veil (Z6.out.keep q7)
  have T7 := veil (ends_at E7.out HS.out HD.out)
  have C7 := veil (K7.out w7 Z7.out)
  clear q7
  dsimp only
  refine hK.out _ _ T7.out (fun hHeld => ?_)
  clear hK K
  try simp only [Act.put, List.setIfInBounds_toArray, List.set_cons_zero, List.set_cons_succ, List.getElem_toArray, List.getElem_cons_zero, List.getElem_cons_succ]
  refine wpAnyH_take (i := 11) (v := ?_) (by rfl) (by kernel_rfl) (by kernel_rfl) (by kernel_rfl) (fun _ _ _ h => h) (Or.inl ⟨by rfl, ?_⟩) hHeld ?_
  rotate_left
  · intro w' hSw
    (try dsimp only at hSw)
    simp only [List.getElem_toArray, List.getElem_cons_zero, List.getElem_cons_succ]
    go_simp
    all_goals (try with_reducible rfl)
  try simp only [Act.put, List.setIfInBounds_toArray, List.set_cons_zero, List.set_cons_succ, List.getElem_toArray, List.getElem_cons_zero, List.getElem_cons_succ]
  rw [hne.out]
  refine wpAnyH_take (i := 12) (v := ?_) (by rfl) (by kernel_rfl) (by kernel_rfl) (by kernel_rfl) (fun _ _ _ h => h) (Or.inl ⟨by rfl, ?_⟩) hHeld ?_
  rotate_left
  · intro w' hSw
    (try dsimp only at hSw)
    simp only [List.getElem_toArray, List.getElem_cons_zero, List.getElem_cons_succ]
    go_simp
    all_goals (try with_reducible rfl)
  try simp only [Act.put, List.setIfInBounds_toArray, List.set_cons_zero, List.set_cons_succ, List.getElem_toArray, List.getElem_cons_zero, List.getElem_cons_succ]
  refine wpAnyH_take (i := 13) (v := ?_) (by rfl) (by kernel_rfl) (by kernel_rfl) (by kernel_rfl) (fun _ _ _ h => h) (Or.inl ⟨by rfl, ?_⟩) hHeld ?_
  rotate_left
  · intro w' hSw
    (try dsimp only at hSw)
    simp only [List.getElem_toArray, List.getElem_cons_zero, List.getElem_cons_succ]
    go_simp
    all_goals (try with_reducible rfl)
  try simp only [Act.put, List.setIfInBounds_toArray, List.set_cons_zero, List.set_cons_succ, List.getElem_toArray, List.getElem_cons_zero, List.getElem_cons_succ]
  refine wpAnyH_take (i := 14) (v := ?_) (by rfl) (by kernel_rfl) (by kernel_rfl) (by kernel_rfl) (fun _ _ _ h => h) (Or.inl ⟨by rfl, ?_⟩) hHeld ?_
  rotate_left
  · intro w' hSw
    (try dsimp only at hSw)
    simp only [List.getElem_toArray, List.getElem_cons_zero, List.getElem_cons_succ]
    go_simp
    all_goals (try with_reducible rfl)
  try simp only [Act.put, List.setIfInBounds_toArray, List.set_cons_zero, List.set_cons_succ, List.getElem_toArray, List.getElem_cons_zero, List.getElem_cons_succ]
  refine wpAnyH_take (i := 15) (v := _) (by rfl) (by kernel_rfl) (by kernel_rfl) (by kernel_rfl) (fun _ _ _ h => h) (yieldsIf_load_mid (by rfl) _ _ (by rfl) _ _ rfl (bv s) _ (fun _ h => h.1) hu31 rfl hi31) hHeld ?_
  try simp only [Act.put, List.setIfInBounds_toArray, List.set_cons_zero, List.set_cons_succ, List.getElem_toArray, List.getElem_cons_zero, List.getElem_cons_succ]
  refine wpAnyH_take (i := 16) (v := ?_) (by rfl) (by kernel_rfl) (by kernel_rfl) (by kernel_rfl) (fun _ _ _ h => h) (Or.inl ⟨by rfl, ?_⟩) hHeld ?_
  rotate_left
  · intro w' hSw
    (try dsimp only at hSw)
    simp only [List.getElem_toArray, List.getElem_cons_zero, List.getElem_cons_succ]
    go_simp
    all_goals (try with_reducible rfl)
  try simp only [Act.put, List.setIfInBounds_toArray, List.set_cons_zero, List.set_cons_succ, List.getElem_toArray, List.getElem_cons_zero, List.getElem_cons_succ]
  refine wpAnyH_take (i := 17) (v := _) (by rfl) (by kernel_rfl) (by kernel_rfl) (by kernel_rfl) (fun _ _ _ h => h) (yieldsIf_load_mid (by rfl) _ _ (by rfl) _ _ rfl (bv d) _ (fun _ h => h.2.1) hu31 rfl hi32) hHeld ?_
  try simp only [Act.put, List.setIfInBounds_toArray, List.set_cons_zero, List.set_cons_succ, List.getElem_toArray, List.getElem_cons_zero, List.getElem_cons_succ]
  refine wpAnyH_take (i := 18) (v := ?_) (by rfl) (by kernel_rfl) (by kernel_rfl) (by kernel_rfl) (fun _ _ _ h => h) (Or.inl ⟨by rfl, ?_⟩) hHeld ?_
  rotate_left
  · intro w' hSw
    (try dsimp only at hSw)
    simp only [List.getElem_toArray, List.getElem_cons_zero, List.getElem_cons_succ]
    go_simp
    all_goals (try with_reducible rfl)
  try simp only [Act.put, List.setIfInBounds_toArray, List.set_cons_zero, List.set_cons_succ, List.getElem_toArray, List.getElem_cons_zero, List.getElem_cons_succ]
  refine wpAnyH_take (i := 19) (v := ?_) (by rfl) (by kernel_rfl) (by kernel_rfl) (by kernel_rfl) (fun _ _ _ h => h) (Or.inl ⟨by rfl, ?_⟩) hHeld ?_
  rotate_left
  · intro w' hSw
    (try dsimp only at hSw)
    simp only [List.getElem_toArray, List.getElem_cons_zero, List.getElem_cons_succ]
    go_simp
    all_goals (try with_reducible rfl)
  try simp only [Act.put, List.setIfInBounds_toArray, List.set_cons_zero, List.set_cons_succ, List.getElem_toArray, List.getElem_cons_zero, List.getElem_cons_succ]
  refine wpAnyH_take (i := 20) (v := ?_) (by rfl) (by kernel_rfl) (by kernel_rfl) (by kernel_rfl) (fun _ _ _ h => h) (Or.inl ⟨by rfl, ?_⟩) hHeld ?_
  rotate_left
  · intro w' hSw
    (try dsimp only at hSw)
    simp only [List.getElem_toArray, List.getElem_cons_zero, List.getElem_cons_succ]
    go_simp
    all_goals (try with_reducible rfl)
  try simp only [Act.put, List.setIfInBounds_toArray, List.set_cons_zero, List.set_cons_succ, List.getElem_toArray, List.getElem_cons_zero, List.getElem_cons_succ]
  refine wpAnyH_take (i := 21) (v := ?_) (by rfl) (by kernel_rfl) (by kernel_rfl) (by kernel_rfl) (fun _ _ _ h => h) (Or.inl ⟨by rfl, ?_⟩) hHeld ?_
  rotate_left
  · intro w' hSw
    (try dsimp only at hSw)
    simp only [List.getElem_toArray, List.getElem_cons_zero, List.getElem_cons_succ]
    go_simp
    all_goals (try with_reducible rfl)
  try simp only [Act.put, List.setIfInBounds_toArray, List.set_cons_zero, List.set_cons_succ, List.getElem_toArray, List.getElem_cons_zero, List.getElem_cons_succ]
  refine wpAnyH_ready (rs := [22]) (by kernel_rfl) (by simp) ?_
  refine AllReadyH.cons (by rfl) (fun K hK => ?_) AllReadyH.nil
  simp only [List.getElem_toArray, List.getElem_cons_zero, List.getElem_cons_succ]
  go_simp
  refine (C7.out).mono ?_
  clear C7
  rintro e w8 ⟨rfl, q8⟩
  have b8 := b7.trans (q8.mono b7.size)
  have E8 := veil (E7.out.keep q8)
  have T8 := veil (ends_at E8.out HS.out HD.out)
  clear q8
  dsimp only
  refine hK.out _ _ T8.out (fun hHeld => ?_)
  clear hK K
  try simp only [Act.put, List.setIfInBounds_toArray, List.set_cons_zero, List.set_cons_succ, List.getElem_toArray, List.getElem_cons_zero, List.getElem_cons_succ]
  refine wpAnyH_take (i := 23) (v := ?_) (by rfl) (by kernel_rfl) (by kernel_rfl) (by kernel_rfl) (fun _ _ _ h => h) (Or.inl ⟨by rfl, ?_⟩) hHeld ?_
  rotate_left
  · intro w' hSw
    (try dsimp only at hSw)
    simp only [List.getElem_toArray, List.getElem_cons_zero, List.getElem_cons_succ]
    go_simp
    all_goals (try with_reducible rfl)
  try simp only [Act.put, List.setIfInBounds_toArray, List.set_cons_zero, List.set_cons_succ, List.getElem_toArray, List.getElem_cons_zero, List.getElem_cons_succ]
  rw [hne2.out]
  refine wpAnyH_take (i := 24) (v := ?_) (by rfl) (by kernel_rfl) (by kernel_rfl) (by kernel_rfl) (fun _ _ _ h => h) (Or.inl ⟨by rfl, ?_⟩) hHeld ?_
  rotate_left
  · intro w' hSw
    (try dsimp only at hSw)
    simp only [List.getElem_toArray, List.getElem_cons_zero, List.getElem_cons_succ]
    go_simp
    all_goals (try with_reducible rfl)
  try simp only [Act.put, List.setIfInBounds_toArray, List.set_cons_zero, List.set_cons_succ, List.getElem_toArray, List.getElem_cons_zero, List.getElem_cons_succ]
  refine wpAnyH_take (i := 25) (v := ?_) (by rfl) (by kernel_rfl) (by kernel_rfl) (by kernel_rfl) (fun _ _ _ h => h) (Or.inl ⟨by rfl, ?_⟩) hHeld ?_
  rotate_left
  · intro w' hSw
    (try dsimp only at hSw)
    simp only [List.getElem_toArray, List.getElem_cons_zero, List.getElem_cons_succ]
    go_simp
    all_goals (try with_reducible rfl)
  try simp only [Act.put, List.setIfInBounds_toArray, List.set_cons_zero, List.set_cons_succ, List.getElem_toArray, List.getElem_cons_zero, List.getElem_cons_succ]
  refine wpAnyH_ready (rs := [26]) (by kernel_rfl) (by simp) ?_
  refine AllReadyH.cons (by rfl) (fun K hK => ?_) AllReadyH.nil
  simp only [List.getElem_toArray, List.getElem_cons_zero, List.getElem_cons_succ]
  go_simp
  refine (lives_true _).mono ?_
  rintro e w9 ⟨rfl, q9⟩
  have b9 := b8.trans (q9.mono b8.size)
  have E9 := veil (E8.out.keep q9)
  have T9 := veil (ends_at E9.out HS.out HD.out)
  clear q9
  dsimp only
  refine hK.out _ _ T9.out (fun hHeld => ?_)
  clear hK K
  try simp only [Act.put, List.setIfInBounds_toArray, List.set_cons_zero, List.set_cons_succ, List.getElem_toArray, List.getElem_cons_zero, List.getElem_cons_succ]
  refine wpAnyH_take (i := 27) (v := ?_) (by rfl) (by kernel_rfl) (by kernel_rfl) (by kernel_rfl) (fun _ _ _ h => h) (Or.inl ⟨by rfl, ?_⟩) hHeld ?_
  rotate_left
  · intro w' hSw
    (try dsimp only at hSw)
    simp only [List.getElem_toArray, List.getElem_cons_zero, List.getElem_cons_succ]
    go_simp
    all_goals (try with_reducible rfl)
  try simp only [Act.put, List.setIfInBounds_toArray, List.set_cons_zero, List.set_cons_succ, List.getElem_toArray, List.getElem_cons_zero, List.getElem_cons_succ]
  refine wpAnyH_take (i := 28) (v := ?_) (by rfl) (by kernel_rfl) (by kernel_rfl) (by kernel_rfl) (fun _ _ _ h => h) (Or.inl ⟨by rfl, ?_⟩) hHeld ?_
  rotate_left
  · intro w' hSw
    (try dsimp only at hSw)
    simp only [List.getElem_toArray, List.getElem_cons_zero, List.getElem_cons_succ]
    go_simp
    all_goals (try with_reducible rfl)
  try simp only [Act.put, List.setIfInBounds_toArray, List.set_cons_zero, List.set_cons_succ, List.getElem_toArray, List.getElem_cons_zero, List.getElem_cons_succ]
  refine wpAnyH_done (by kernel_rfl) ?_ _
  refine NoPanic.normal ?_
  clear hHeld T9 E9 T8 E8 b8 E7 Z7 T7 b7 K7 S4 S5 T6 HA hu31 hi31 hi32
  go_wp2_with fail
  go_ret
  exact ⟨rfl, b9⟩

theorem own : ownKnob Try.prog.godebug = none := by kernel_rfl
theorem readable : ∀ t ∈ Try.f7.params.toList, Try.prog.readableRec t = true ∧ t < Try.prog.types.size := by
  rw [Try.params7]
  intro t ht
  simp at ht
  rcases ht with rfl | rfl
  · exact ⟨by kernel_rfl, of_decide_eq_true (by kernel_rfl)⟩
  · exact ⟨by kernel_rfl, of_decide_eq_true (by kernel_rfl)⟩

set_option maxRecDepth 100000 in
theorem lifted (os : Os) (started : os.Started) (H : Type) (enc : TypeId × Value → H) :
    ReturnsInHanded {} Try.checked os 7 .any (Rows.sumsEndsSpec.pre6 enc Try.prog Try.f7 Rows.sumsEndsRow.domain false) (Rows.sumsEndsSpec.post enc Try.prog Try.f7 false true false false) := by
  refine returnsInHanded_of_change (C := Try.checked) own started (by kernel_rfl) Try.func7
    (ChangeSpec.witness6 (enc := enc) (C := Try.checked) false ⟨#[], #[.agg #[.int .u8 0, .int .u8 0, .int .u8 0, .int .u8 0, .int .u8 0, .int .u8 0, .int .u8 0, .int .u8 0, .int .u8 0, .int .u8 0, .int .u8 0, .int .u8 0, .int .u8 0, .int .u8 0, .int .u8 0, .int .u8 0, .int .u8 0, .int .u8 0, .int .u8 0, .int .u8 0, .int .u8 0, .int .u8 0, .int .u8 0, .int .u8 0, .int .u8 0, .int .u8 0, .int .u8 0, .int .u8 0, .int .u8 0, .int .u8 0, .int .u8 0, .int .u8 0, .int .u8 0], .int .u8 0], []⟩ 8 (by kernel_rfl) (by kernel_rfl) (by kernel_rfl) (by kernel_rfl)) ?_
  intro W base args ds gs before hval0 hW _ _
  have hval : ∀ (j : Nat) t v, Try.f7.params[j]? = some t → args[j]? = some v → Value.okWide Try.prog W .any base t v := hval0
  have hW' := hW
  obtain ⟨p, q, hA0, hV, rfl, _, _⟩ := hW
  have hA : DataW.TrodAll enc Try.prog W 0 (fun _ => true) true Try.f7.params.toList args.toList ds p := hA0
  rw [Try.params7] at hA hval
  obtain ⟨v0, vs0, d0, ds0, p0, q0, hargs, rfl, rfl, h0, r0⟩ := trodAll_cons hA
  obtain ⟨v1, vs1, d1, ds1, p1, q1, rfl, rfl, rfl, h1, r1⟩ := trodAll_cons r0
  obtain ⟨rfl, rfl, rfl⟩ := trodAll_nil r1
  obtain rfl : args = #[v0, v1] := by cases args; simp_all
  obtain ⟨rfl, rfl⟩ := trodVars_none hV
  obtain ⟨xs, ys, nx, rfl, hx, hy, bx, by', hn1, hn2⟩ := open_ends (hval 0 33 v0 rfl rfl) h0
  obtain ⟨a1, rfl, rfl, rfl, w1⟩ := open_int Try.underlying5 (hval 1 5 v1 rfl rfl) h1
  have hb1 := u8_of w1
  obtain ⟨k, rfl⟩ := Int.eq_ofNat_of_zero_le hb1.1
  have hw : Calls Try.prog 7 #[.agg (endsV xs ys nx).toArray, .int .u8 k] W fun e w' => e = .returned (.bool true) ∧ Below W.heap.size W w' := by
    exact walk xs ys nx k W hx hy bx by' ⟨hn1, hn2⟩ (by omega)
  refine hw.mono fun e W' ⟨he, hb⟩ => ?_
  subst he
  exact ⟨_, rfl, law_post (by kernel_rfl) rfl rfl Try.underlying4 readable hW' rfl hb⟩

/-- SumsEnds, as given -/
theorem holds : Rows.SumsEndsSaid :=
  OpenClaim.holds_of_wide 7 Try.f7 rfl rfl rfl rfl rfl rfl rfl ⟨rfl, rfl, rfl, rfl, rfl⟩ rfl rfl rfl rfl rfl (by kernel_rfl) Try.func7 (by kernel_rfl)
    (of_decide_eq_true (by kernel_rfl)) (by unfold Func.isWrapper; first | (rw [if_pos (by decide +kernel)]; kernel_rfl) | (rw [if_neg (by decide +kernel)]; exact ⟨rfl, rfl⟩))
    (fun os started H enc _ => lifted os started H enc)

#print axioms holds
end Go.Proofs.Ytoadligcfecpfaa.sumsEnds
