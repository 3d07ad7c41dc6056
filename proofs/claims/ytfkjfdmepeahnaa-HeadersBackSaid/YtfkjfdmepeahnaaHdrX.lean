/-
  A chain, by the document's answer: through a route.
  Conditions: at most 16000000 bytes.
-/
import Derived.Test.YtfkjfdmepeahnaaHdrW
import Derived.Deep.RegionHeld3
import Derived.Deep.RegionLaw
import Derived.BigRegion
namespace Go.Proofs.Ytfkjfdmepeahnaa.Hd
set_option maxRecDepth 100000
open Go.RowKit

set_option linter.unusedSimpArgs false in
set_option maxRecDepth 100000 in
set_option maxHeartbeats 8000000 in
theorem walk_43 (zs : List Int) (A : Option Addr) (n c : Nat) (p told : Int) (first mc al : Bool) (w : World) (hs : Slc w (.slice A n c) zs) (hzs : Byt zs) (hn : n ≤ 16000000) (hp : 0 ≤ p ∧ p + n < 18446744073709551616) (IH : WalkOk zs.length) :
    Calls Try.prog 39 #[.int .u8 43, .slice A n c, .int .u64 p, .int .u64 told, .bool first, .bool mc, .bool al] w (Tells w (walk 43 zs p told first mc al)) := by
  obtain ⟨hl, hr, hc⟩ := slc_of hs
  obtain ⟨R, hR⟩ : ∃ R, walk 43 zs p told first mc al = R := ⟨_, rfl⟩
  rw [hR]
  rw [walk, if_neg (by omega), if_pos rfl] at hR
  obtain ⟨Z, hZ⟩ : ∃ Z, Z = zt := ⟨_, rfl⟩
  have hz : Hid (Z.toList.length = 10) := by rw [hZ]; exact rfl
  have VY := veil ((Lay.begin w).newA Z 54 (g := w.heap.size) rfl)
  have HL := veil hl
  have HS := veil hs
  have HR := veil hr
  have HB := veil hzs
  have HP := veil hp
  have HC := veil hc
  by_cases hm0 : hdr zs 4 = 0
  · rw [dif_pos hm0] at hR
    have K0 := veil (header_no A n c 4 zs (w.alloc (.cells Z 54)) hl hzs (hr.keep VY.out.below) hm0)
    clear hl hs hr hzs hp hc
    generalize Z.toList = ZL at *
    unfold zt at hZ
    subst hZ
    go_enter Try.func39, Try.ntmps39
    go_wp2_with fail
    refine (K0.out).mono ?_
    rintro e w1 ⟨rfl, rfl⟩
    subst hR
    clear K0
    have T := veil (told_store (t := errT 5) (v := nilV) VY.out mem0 hz.out rfl)
    have Y2 := veil (VY.out.put 0 rfl (tc (errT 5) nilV))
    simp only [List.set_cons_zero] at Y2
    have B := veil (fun u => made_err 5 u)
    have hr : Hid ((errT 5).rest = []) := rfl
    generalize errT 5 = te at *
    go_wp2_with (first
      | (refine wpList_build_of rfl _ _ rfl _ (by simp [Act.eval]) (B.out _) ?_)
      | (refine wpList_store_of rfl _ _ rfl rfl rfl T.out ?_))
    refine bodyPost_ret (told_ret Y2.out mem0 rfl rfl) rfl ?_
    exact ⟨none, 0, 0, rfl, by rw [hr.out]; exact slc_nil _, (fun _ h => by cases h), Y2.out.below⟩
  · rw [dif_neg hm0] at hR
    have K0 := header_yes A n c 4 zs (w.alloc (.cells Z 54)) hl hc hzs (hr.keep VY.out.below) hm0
    have hle := hdr_le zs 4
    have h8 := hdr_eight hm0
    generalize hdr zs 4 = m at *
    replace K0 := veil K0
    obtain ⟨a, rfl, ca0⟩ := hr 0 (by omega)
    obtain ⟨_, e3, ca3⟩ := hr 3 (by omega)
    injection e3 with e3
    subst e3
    have hblk := block_lt_of_cell ca0
    have c3h : w.cell? ⟨a.block, a.off + 3, none⟩ = some (.int .u8 (zs.getD 3 0)) := ca3
    have c0h : w.cell? a = some (.int .u8 (zs.getD 0 0)) := ca0
    have c3a := (VY.out.below.cell (block_lt_of_cell c3h)).trans c3h
    have c0a := veil ((VY.out.below.cell (block_lt_of_cell c0h)).trans c0h)
    have hne : Hid (a.block ≠ w.heap.size) := by have := block_lt_of_cell c0h; show a.block ≠ w.heap.size; omega
    have b0 := hzs.at_ 0
    have i3 : (3 : Int) < (m : Int) := by omega
    have im : ¬ (m : Int) = 0 := by omega
    clear hblk ca0 ca3 c3h c0h
    by_cases h3 : zs.getD 3 0 = 0
    · rw [if_neg (fun h => h h3)] at hR
      rw [h3] at c3a
      have KW : Hid (∀ u, Slc u (.slice (cutA (some a) c m) (n - m) (c - m)) (zs.drop m) → Calls Try.prog 39 #[.int .u8 (zs.getD 0 0), .slice (cutA (some a) c m) (n - m) (c - m), .int .u64 (p + m), .int .u64 p, .bool false, .bool mc, .bool al] u (Tells u R)) := fun u hsu => by
        have h := IH (zs.getD 0 0) (zs.drop m) (cutA (some a) c m) (n - m) (c - m) (p + m) p false mc al u (by simp; omega) b0 hsu (HB.out.drop m) (by omega) (by omega) (by omega)
        rwa [hR] at h
      generalize zs.getD 0 0 = x at *
      have hwm : IntKind.u64.wrap (m : Int) = (m : Int) := by rw [IntKind.wrap_u64]; omega
      have hwp : IntKind.u64.wrap (p + (m : Int)) = p + (m : Int) := by rw [IntKind.wrap_u64]; omega
      have imn : (m : Int) ≤ (n : Int) := by omega
      have im0 : (0 : Int) ≤ (m : Int) := by omega
      have i0n : 0 < n := by omega
      have hmn : m ≤ n := by omega
      clear hl hs hr hzs hp hc hR IH hle
      obtain ⟨w1, hw1⟩ : ∃ w1, w.alloc (.cells Z 54) = w1 := ⟨_, rfl⟩
      rw [hw1] at VY K0 c0a c3a
      generalize Z.toList = ZL at *
      unfold zt at hZ
      subst hZ
      go_enter Try.func39, Try.ntmps39
      go_wp2_with fail
      refine (K0.out).mono ?_
      rintro e w1' ⟨rfl, rfl⟩
      clear K0 hw1
      generalize R = tR at *
      go_wp2_with fail
      have VY := veil VY.out.drew
      have c1 := veil (show w1.drew.cell? a = some (.int .u8 x) from c0a.out)
      have VS := veil (slc_drop (HS.out.keep VY.out.below) hmn)
      rcases (by omega : c = m ∨ ¬ c = m) with ec | ec
      · subst ec
        simp only [cutA, if_pos, Nat.sub_self] at KW VS
        refine wp_region_noPanic ?_
        refine wp_region_held_drew (S := (fun w' => w'.cell? a = some (.int .u8 x))) (by kernel_rfl) c1.out (fun hHeld => ?_)
        refine wpAnyH_take (i := 0) (v := ?_) (by rfl) (by kernel_rfl) (by kernel_rfl) (by kernel_rfl) (fun _ _ _ h => h) (Or.inl ⟨by rfl, ?_⟩) hHeld ?_
        rotate_left
        · intro w' hSw
          (try dsimp only at hSw)
          simp only [List.getElem_toArray, List.getElem_cons_zero, List.getElem_cons_succ]
          go_simp
          all_goals (try with_reducible rfl)
        try simp only [Act.put, List.setIfInBounds_toArray, List.set_cons_zero, List.set_cons_succ, List.getElem_toArray, List.getElem_cons_zero, List.getElem_cons_succ]
        refine wpAnyH_take (i := 1) (v := ?_) (by rfl) (by kernel_rfl) (by kernel_rfl) (by kernel_rfl) (fun _ _ _ h => h) (Or.inl ⟨by rfl, ?_⟩) hHeld ?_
        rotate_left
        · intro w' hSw
          (try dsimp only at hSw)
          simp only [List.getElem_toArray, List.getElem_cons_zero, List.getElem_cons_succ]
          go_simp
          all_goals (try with_reducible rfl)
        try simp only [Act.put, List.setIfInBounds_toArray, List.set_cons_zero, List.set_cons_succ, List.getElem_toArray, List.getElem_cons_zero, List.getElem_cons_succ]
        refine wpAnyH_take (i := 2) (v := ?_) (by rfl) (by kernel_rfl) (by kernel_rfl) (by kernel_rfl) (fun _ _ _ h => h) (Or.inl ⟨by rfl, ?_⟩) hHeld ?_
        rotate_left
        · intro w' hSw
          (try dsimp only at hSw)
          simp only [List.getElem_toArray, List.getElem_cons_zero, List.getElem_cons_succ]
          go_simp
          all_goals (try with_reducible rfl)
        try simp only [Act.put, List.setIfInBounds_toArray, List.set_cons_zero, List.set_cons_succ, List.getElem_toArray, List.getElem_cons_zero, List.getElem_cons_succ]
        refine wpAnyH_take (i := 3) (v := ?_) (by rfl) (by kernel_rfl) (by kernel_rfl) (by kernel_rfl) (fun _ _ _ h => h) (Or.inl ⟨by rfl, ?_⟩) hHeld ?_
        rotate_left
        · intro w' hSw
          (try dsimp only at hSw)
          simp only [List.getElem_toArray, List.getElem_cons_zero, List.getElem_cons_succ]
          go_simp
          all_goals (try with_reducible rfl)
        try simp only [Act.put, List.setIfInBounds_toArray, List.set_cons_zero, List.set_cons_succ, List.getElem_toArray, List.getElem_cons_zero, List.getElem_cons_succ]
        refine wpAnyH_take (i := 4) (v := ?_) (by rfl) (by kernel_rfl) (by kernel_rfl) (by kernel_rfl) (fun _ _ _ h => h) (Or.inl ⟨by rfl, ?_⟩) hHeld ?_
        rotate_left
        · intro w' hSw
          (try dsimp only at hSw)
          simp only [List.getElem_toArray, List.getElem_cons_zero, List.getElem_cons_succ]
          go_simp
          all_goals (try with_reducible rfl)
        try simp only [Act.put, List.setIfInBounds_toArray, List.set_cons_zero, List.set_cons_succ, List.getElem_toArray, List.getElem_cons_zero, List.getElem_cons_succ]
        refine wpAnyH_take (i := 5) (v := ?_) (by rfl) (by kernel_rfl) (by kernel_rfl) (by kernel_rfl) (fun _ _ _ h => h) (Or.inl ⟨by rfl, ?_⟩) hHeld ?_
        rotate_left
        · intro w' hSw
          (try dsimp only at hSw)
          simp only [List.getElem_toArray, List.getElem_cons_zero, List.getElem_cons_succ]
          go_simp
          all_goals (try with_reducible rfl)
        try simp only [Act.put, List.setIfInBounds_toArray, List.set_cons_zero, List.set_cons_succ, List.getElem_toArray, List.getElem_cons_zero, List.getElem_cons_succ]
        refine wpAnyH_take (i := 6) (v := ?_) (by rfl) (by kernel_rfl) (by kernel_rfl) (by kernel_rfl) (fun _ _ _ h => h) (Or.inl ⟨by rfl, ?_⟩) hHeld ?_
        rotate_left
        · intro w' hSw
          (try dsimp only at hSw)
          simp only [List.getElem_toArray, List.getElem_cons_zero, List.getElem_cons_succ]
          go_simp
          all_goals (try with_reducible rfl)
        try simp only [Act.put, List.setIfInBounds_toArray, List.set_cons_zero, List.set_cons_succ, List.getElem_toArray, List.getElem_cons_zero, List.getElem_cons_succ]
        refine wpAnyH_take (i := 7) (v := ?_) (by rfl) (by kernel_rfl) (by kernel_rfl) (by kernel_rfl) (fun _ _ _ h => h) (Or.inl ⟨by rfl, ?_⟩) hHeld ?_
        rotate_left
        · intro w' hSw
          (try dsimp only at hSw)
          simp only [List.getElem_toArray, List.getElem_cons_zero, List.getElem_cons_succ]
          go_simp
          all_goals (try with_reducible rfl)
        try simp only [Act.put, List.setIfInBounds_toArray, List.set_cons_zero, List.set_cons_succ, List.getElem_toArray, List.getElem_cons_zero, List.getElem_cons_succ]
        refine wpAnyH_take (i := 8) (v := ?_) (by rfl) (by kernel_rfl) (by kernel_rfl) (by kernel_rfl) (fun _ _ _ h => h) (Or.inl ⟨by rfl, ?_⟩) hHeld ?_
        rotate_left
        · intro w' hSw
          (try dsimp only at hSw)
          simp only [List.getElem_toArray, List.getElem_cons_zero, List.getElem_cons_succ]
          go_simp
          all_goals (try with_reducible rfl)
        try simp only [Act.put, List.setIfInBounds_toArray, List.set_cons_zero, List.set_cons_succ, List.getElem_toArray, List.getElem_cons_zero, List.getElem_cons_succ]
        refine wpAnyH_take (i := 9) (v := ?_) (by rfl) (by kernel_rfl) (by kernel_rfl) (by kernel_rfl) (fun _ _ _ h => h) (Or.inl ⟨by rfl, ?_⟩) hHeld ?_
        rotate_left
        · intro w' hSw
          (try dsimp only at hSw)
          simp only [List.getElem_toArray, List.getElem_cons_zero, List.getElem_cons_succ]
          go_simp
          all_goals (try with_reducible rfl)
        try simp only [Act.put, List.setIfInBounds_toArray, List.set_cons_zero, List.set_cons_succ, List.getElem_toArray, List.getElem_cons_zero, List.getElem_cons_succ]
        refine wpAnyH_take (i := 10) (v := ?_) (by rfl) (by kernel_rfl) (by kernel_rfl) (by kernel_rfl) (fun _ _ _ h => h) (Or.inl ⟨by rfl, ?_⟩) hHeld ?_
        rotate_left
        · intro w' hSw
          (try dsimp only at hSw)
          simp only [List.getElem_toArray, List.getElem_cons_zero, List.getElem_cons_succ]
          go_simp
          all_goals (try with_reducible rfl)
        try simp only [Act.put, List.setIfInBounds_toArray, List.set_cons_zero, List.set_cons_succ, List.getElem_toArray, List.getElem_cons_zero, List.getElem_cons_succ]
        refine wpAnyH_take (i := 11) (v := ?_) (by rfl) (by kernel_rfl) (by kernel_rfl) (by kernel_rfl) (fun _ _ _ h => h) (Or.inl ⟨by rfl, ?_⟩) hHeld ?_
        rotate_left
        · intro w' hSw
          (try dsimp only at hSw)
          simp only [List.getElem_toArray, List.getElem_cons_zero, List.getElem_cons_succ]
          go_simp
          all_goals (try with_reducible rfl)
        try simp only [Act.put, List.setIfInBounds_toArray, List.set_cons_zero, List.set_cons_succ, List.getElem_toArray, List.getElem_cons_zero, List.getElem_cons_succ]
        refine wpAnyH_take (i := 12) (v := ?_) (by rfl) (by kernel_rfl) (by kernel_rfl) (by kernel_rfl) (fun _ _ _ h => h) (Or.inl ⟨by rfl, ?_⟩) hHeld ?_
        rotate_left
        · intro w' hSw
          (try dsimp only at hSw)
          simp only [List.getElem_toArray, List.getElem_cons_zero, List.getElem_cons_succ]
          go_simp
          all_goals (try with_reducible rfl)
        try simp only [Act.put, List.setIfInBounds_toArray, List.set_cons_zero, List.set_cons_succ, List.getElem_toArray, List.getElem_cons_zero, List.getElem_cons_succ]
        refine wpAnyH_take (i := 13) (v := ?_) (by rfl) (by kernel_rfl) (by kernel_rfl) (by kernel_rfl) (fun _ _ _ h => h) (Or.inl ⟨by rfl, ?_⟩) hHeld ?_
        rotate_left
        · intro w' hSw
          (try dsimp only at hSw)
          simp only [List.getElem_toArray, List.getElem_cons_zero, List.getElem_cons_succ]
          go_simp
          all_goals (try with_reducible rfl)
        try simp only [Act.put, List.setIfInBounds_toArray, List.set_cons_zero, List.set_cons_succ, List.getElem_toArray, List.getElem_cons_zero, List.getElem_cons_succ]
        refine wpAnyH_take (i := 14) (v := ?_) (by rfl) (by kernel_rfl) (by kernel_rfl) (by kernel_rfl) (fun _ _ _ h => h) (Or.inl ⟨by rfl, ?_⟩) hHeld ?_
        rotate_left
        · intro w' hSw
          (try dsimp only at hSw)
          simp only [List.getElem_toArray, List.getElem_cons_zero, List.getElem_cons_succ]
          go_simp
          all_goals (try with_reducible rfl)
        try simp only [Act.put, List.setIfInBounds_toArray, List.set_cons_zero, List.set_cons_succ, List.getElem_toArray, List.getElem_cons_zero, List.getElem_cons_succ]
        refine wpAnyH_ready (rs := [15]) (by kernel_rfl) (by simp) ?_
        refine AllReadyH.cons (by rfl) (fun K hK => ?_) AllReadyH.nil
        simp only [List.getElem_toArray, List.getElem_cons_zero, List.getElem_cons_succ]
        go_simp
        refine (KW.out _ VS.out).mono ?_
        rintro e w2 ⟨A2, n2, c2', rfl, hs2, hf2, q⟩
        have hoff : Off A2 w.heap.size := fun b hb e => by have := hf2 b hb; have := VY.out.lt mem0; omega
        have Y1 := VY.out.keep q
        have c2 := veil (show w2.cell? a = some (.int .u8 x) from (q.cell (block_lt_of_cell c1.out)).trans c1.out)
        have T := veil (told_store (t := tR) (v := .slice A2 n2 c2') Y1 mem0 hz.out rfl)
        have c3 := veil (cell_setRow c2.out hne.out (tc tR (.slice A2 n2 c2')).toArray)
        have S3 := veil (hs2.setRow hoff (tc tR (.slice A2 n2 c2')).toArray)
        have Y2 := veil (Y1.put 0 rfl (tc tR (.slice A2 n2 c2')))
        simp only [List.set_cons_zero, List.set_cons_succ] at Y2
        have hf3 : Hid (∀ b, A2 = some b → w.heap.size ≤ b.block) := fun b hb => Nat.le_trans VY.out.size (hf2 b hb)
        clear q Y1 KW hs2 hf2 hoff
        (try dsimp only)
        refine hK.out _ _ c2.out (fun hHeld => ?_)
        clear hK K
        try simp only [Act.put, List.setIfInBounds_toArray, List.set_cons_zero, List.set_cons_succ, List.getElem_toArray, List.getElem_cons_zero, List.getElem_cons_succ]
        refine wpAnyH_ready (rs := [16]) (by kernel_rfl) (by simp) ?_
        refine AllReadyH.cons (by rfl) (fun K hK => ?_) AllReadyH.nil
        simp only [List.getElem_toArray, List.getElem_cons_zero, List.getElem_cons_succ]
        refine wp_store_of (.tmp 14) (.tmp 111) rfl rfl rfl T.out ?_
        (try dsimp only)
        refine hK.out _ _ c3.out (fun hHeld => ?_)
        clear hK K
        try simp only [Act.put, List.setIfInBounds_toArray, List.set_cons_zero, List.set_cons_succ, List.getElem_toArray, List.getElem_cons_zero, List.getElem_cons_succ]
        refine wpAnyH_done (by kernel_rfl) ?_ _
        refine NoPanic.normal ?_
        clear hHeld
        go_wp2_with fail
        refine bodyPost_ret (told_ret Y2.out mem0 rfl rfl) rfl ?_
        exact ⟨A2, n2, c2', rfl, S3.out, hf3.out, Y2.out.below⟩
      · simp only [cutA, if_neg ec] at KW VS
        refine wp_region_noPanic ?_
        refine wp_region_held_drew (S := (fun w' => w'.cell? a = some (.int .u8 x))) (by kernel_rfl) c1.out (fun hHeld => ?_)
        refine wpAnyH_take (i := 0) (v := ?_) (by rfl) (by kernel_rfl) (by kernel_rfl) (by kernel_rfl) (fun _ _ _ h => h) (Or.inl ⟨by rfl, ?_⟩) hHeld ?_
        rotate_left
        · intro w' hSw
          (try dsimp only at hSw)
          simp only [List.getElem_toArray, List.getElem_cons_zero, List.getElem_cons_succ]
          go_simp
          all_goals (try with_reducible rfl)
        try simp only [Act.put, List.setIfInBounds_toArray, List.set_cons_zero, List.set_cons_succ, List.getElem_toArray, List.getElem_cons_zero, List.getElem_cons_succ]
        refine wpAnyH_take (i := 1) (v := ?_) (by rfl) (by kernel_rfl) (by kernel_rfl) (by kernel_rfl) (fun _ _ _ h => h) (Or.inl ⟨by rfl, ?_⟩) hHeld ?_
        rotate_left
        · intro w' hSw
          (try dsimp only at hSw)
          simp only [List.getElem_toArray, List.getElem_cons_zero, List.getElem_cons_succ]
          go_simp
          all_goals (try with_reducible rfl)
        try simp only [Act.put, List.setIfInBounds_toArray, List.set_cons_zero, List.set_cons_succ, List.getElem_toArray, List.getElem_cons_zero, List.getElem_cons_succ]
        refine wpAnyH_take (i := 2) (v := ?_) (by rfl) (by kernel_rfl) (by kernel_rfl) (by kernel_rfl) (fun _ _ _ h => h) (Or.inl ⟨by rfl, ?_⟩) hHeld ?_
        rotate_left
        · intro w' hSw
          (try dsimp only at hSw)
          simp only [List.getElem_toArray, List.getElem_cons_zero, List.getElem_cons_succ]
          go_simp
          all_goals (try with_reducible rfl)
        try simp only [Act.put, List.setIfInBounds_toArray, List.set_cons_zero, List.set_cons_succ, List.getElem_toArray, List.getElem_cons_zero, List.getElem_cons_succ]
        refine wpAnyH_take (i := 3) (v := ?_) (by rfl) (by kernel_rfl) (by kernel_rfl) (by kernel_rfl) (fun _ _ _ h => h) (Or.inl ⟨by rfl, ?_⟩) hHeld ?_
        rotate_left
        · intro w' hSw
          (try dsimp only at hSw)
          simp only [List.getElem_toArray, List.getElem_cons_zero, List.getElem_cons_succ]
          go_simp
          all_goals (try with_reducible rfl)
        try simp only [Act.put, List.setIfInBounds_toArray, List.set_cons_zero, List.set_cons_succ, List.getElem_toArray, List.getElem_cons_zero, List.getElem_cons_succ]
        refine wpAnyH_take (i := 4) (v := ?_) (by rfl) (by kernel_rfl) (by kernel_rfl) (by kernel_rfl) (fun _ _ _ h => h) (Or.inl ⟨by rfl, ?_⟩) hHeld ?_
        rotate_left
        · intro w' hSw
          (try dsimp only at hSw)
          simp only [List.getElem_toArray, List.getElem_cons_zero, List.getElem_cons_succ]
          go_simp
          all_goals (try with_reducible rfl)
        try simp only [Act.put, List.setIfInBounds_toArray, List.set_cons_zero, List.set_cons_succ, List.getElem_toArray, List.getElem_cons_zero, List.getElem_cons_succ]
        refine wpAnyH_take (i := 5) (v := ?_) (by rfl) (by kernel_rfl) (by kernel_rfl) (by kernel_rfl) (fun _ _ _ h => h) (Or.inl ⟨by rfl, ?_⟩) hHeld ?_
        rotate_left
        · intro w' hSw
          (try dsimp only at hSw)
          simp only [List.getElem_toArray, List.getElem_cons_zero, List.getElem_cons_succ]
          go_simp
          all_goals (try with_reducible rfl)
        try simp only [Act.put, List.setIfInBounds_toArray, List.set_cons_zero, List.set_cons_succ, List.getElem_toArray, List.getElem_cons_zero, List.getElem_cons_succ]
        refine wpAnyH_take (i := 6) (v := ?_) (by rfl) (by kernel_rfl) (by kernel_rfl) (by kernel_rfl) (fun _ _ _ h => h) (Or.inl ⟨by rfl, ?_⟩) hHeld ?_
        rotate_left
        · intro w' hSw
          (try dsimp only at hSw)
          simp only [List.getElem_toArray, List.getElem_cons_zero, List.getElem_cons_succ]
          go_simp
          all_goals (try with_reducible rfl)
        try simp only [Act.put, List.setIfInBounds_toArray, List.set_cons_zero, List.set_cons_succ, List.getElem_toArray, List.getElem_cons_zero, List.getElem_cons_succ]
        refine wpAnyH_take (i := 7) (v := ?_) (by rfl) (by kernel_rfl) (by kernel_rfl) (by kernel_rfl) (fun _ _ _ h => h) (Or.inl ⟨by rfl, ?_⟩) hHeld ?_
        rotate_left
        · intro w' hSw
          (try dsimp only at hSw)
          simp only [List.getElem_toArray, List.getElem_cons_zero, List.getElem_cons_succ]
          go_simp
          all_goals (try with_reducible rfl)
        try simp only [Act.put, List.setIfInBounds_toArray, List.set_cons_zero, List.set_cons_succ, List.getElem_toArray, List.getElem_cons_zero, List.getElem_cons_succ]
        refine wpAnyH_take (i := 8) (v := ?_) (by rfl) (by kernel_rfl) (by kernel_rfl) (by kernel_rfl) (fun _ _ _ h => h) (Or.inl ⟨by rfl, ?_⟩) hHeld ?_
        rotate_left
        · intro w' hSw
          (try dsimp only at hSw)
          simp only [List.getElem_toArray, List.getElem_cons_zero, List.getElem_cons_succ]
          go_simp
          all_goals (try with_reducible rfl)
        try simp only [Act.put, List.setIfInBounds_toArray, List.set_cons_zero, List.set_cons_succ, List.getElem_toArray, List.getElem_cons_zero, List.getElem_cons_succ]
        refine wpAnyH_take (i := 9) (v := ?_) (by rfl) (by kernel_rfl) (by kernel_rfl) (by kernel_rfl) (fun _ _ _ h => h) (Or.inl ⟨by rfl, ?_⟩) hHeld ?_
        rotate_left
        · intro w' hSw
          (try dsimp only at hSw)
          simp only [List.getElem_toArray, List.getElem_cons_zero, List.getElem_cons_succ]
          go_simp
          all_goals (try with_reducible rfl)
        try simp only [Act.put, List.setIfInBounds_toArray, List.set_cons_zero, List.set_cons_succ, List.getElem_toArray, List.getElem_cons_zero, List.getElem_cons_succ]
        refine wpAnyH_take (i := 10) (v := ?_) (by rfl) (by kernel_rfl) (by kernel_rfl) (by kernel_rfl) (fun _ _ _ h => h) (Or.inl ⟨by rfl, ?_⟩) hHeld ?_
        rotate_left
        · intro w' hSw
          (try dsimp only at hSw)
          simp only [List.getElem_toArray, List.getElem_cons_zero, List.getElem_cons_succ]
          go_simp
          all_goals (try with_reducible rfl)
        try simp only [Act.put, List.setIfInBounds_toArray, List.set_cons_zero, List.set_cons_succ, List.getElem_toArray, List.getElem_cons_zero, List.getElem_cons_succ]
        refine wpAnyH_take (i := 11) (v := ?_) (by rfl) (by kernel_rfl) (by kernel_rfl) (by kernel_rfl) (fun _ _ _ h => h) (Or.inl ⟨by rfl, ?_⟩) hHeld ?_
        rotate_left
        · intro w' hSw
          (try dsimp only at hSw)
          simp only [List.getElem_toArray, List.getElem_cons_zero, List.getElem_cons_succ]
          go_simp
          all_goals (try with_reducible rfl)
        try simp only [Act.put, List.setIfInBounds_toArray, List.set_cons_zero, List.set_cons_succ, List.getElem_toArray, List.getElem_cons_zero, List.getElem_cons_succ]
        refine wpAnyH_take (i := 12) (v := ?_) (by rfl) (by kernel_rfl) (by kernel_rfl) (by kernel_rfl) (fun _ _ _ h => h) (Or.inl ⟨by rfl, ?_⟩) hHeld ?_
        rotate_left
        · intro w' hSw
          (try dsimp only at hSw)
          simp only [List.getElem_toArray, List.getElem_cons_zero, List.getElem_cons_succ]
          go_simp
          all_goals (try with_reducible rfl)
        try simp only [Act.put, List.setIfInBounds_toArray, List.set_cons_zero, List.set_cons_succ, List.getElem_toArray, List.getElem_cons_zero, List.getElem_cons_succ]
        refine wpAnyH_take (i := 13) (v := ?_) (by rfl) (by kernel_rfl) (by kernel_rfl) (by kernel_rfl) (fun _ _ _ h => h) (Or.inl ⟨by rfl, ?_⟩) hHeld ?_
        rotate_left
        · intro w' hSw
          (try dsimp only at hSw)
          simp only [List.getElem_toArray, List.getElem_cons_zero, List.getElem_cons_succ]
          go_simp
          all_goals (try with_reducible rfl)
        try simp only [Act.put, List.setIfInBounds_toArray, List.set_cons_zero, List.set_cons_succ, List.getElem_toArray, List.getElem_cons_zero, List.getElem_cons_succ]
        refine wpAnyH_take (i := 14) (v := ?_) (by rfl) (by kernel_rfl) (by kernel_rfl) (by kernel_rfl) (fun _ _ _ h => h) (Or.inl ⟨by rfl, ?_⟩) hHeld ?_
        rotate_left
        · intro w' hSw
          (try dsimp only at hSw)
          simp only [List.getElem_toArray, List.getElem_cons_zero, List.getElem_cons_succ]
          go_simp
          all_goals (try with_reducible rfl)
        try simp only [Act.put, List.setIfInBounds_toArray, List.set_cons_zero, List.set_cons_succ, List.getElem_toArray, List.getElem_cons_zero, List.getElem_cons_succ]
        refine wpAnyH_ready (rs := [15]) (by kernel_rfl) (by simp) ?_
        refine AllReadyH.cons (by rfl) (fun K hK => ?_) AllReadyH.nil
        simp only [List.getElem_toArray, List.getElem_cons_zero, List.getElem_cons_succ]
        go_simp
        refine (KW.out _ VS.out).mono ?_
        rintro e w2 ⟨A2, n2, c2', rfl, hs2, hf2, q⟩
        have hoff : Off A2 w.heap.size := fun b hb e => by have := hf2 b hb; have := VY.out.lt mem0; omega
        have Y1 := VY.out.keep q
        have c2 := veil (show w2.cell? a = some (.int .u8 x) from (q.cell (block_lt_of_cell c1.out)).trans c1.out)
        have T := veil (told_store (t := tR) (v := .slice A2 n2 c2') Y1 mem0 hz.out rfl)
        have c3 := veil (cell_setRow c2.out hne.out (tc tR (.slice A2 n2 c2')).toArray)
        have S3 := veil (hs2.setRow hoff (tc tR (.slice A2 n2 c2')).toArray)
        have Y2 := veil (Y1.put 0 rfl (tc tR (.slice A2 n2 c2')))
        simp only [List.set_cons_zero, List.set_cons_succ] at Y2
        have hf3 : Hid (∀ b, A2 = some b → w.heap.size ≤ b.block) := fun b hb => Nat.le_trans VY.out.size (hf2 b hb)
        clear q Y1 KW hs2 hf2 hoff
        (try dsimp only)
        refine hK.out _ _ c2.out (fun hHeld => ?_)
        clear hK K
        try simp only [Act.put, List.setIfInBounds_toArray, List.set_cons_zero, List.set_cons_succ, List.getElem_toArray, List.getElem_cons_zero, List.getElem_cons_succ]
        refine wpAnyH_ready (rs := [16]) (by kernel_rfl) (by simp) ?_
        refine AllReadyH.cons (by rfl) (fun K hK => ?_) AllReadyH.nil
        simp only [List.getElem_toArray, List.getElem_cons_zero, List.getElem_cons_succ]
        refine wp_store_of (.tmp 14) (.tmp 111) rfl rfl rfl T.out ?_
        (try dsimp only)
        refine hK.out _ _ c3.out (fun hHeld => ?_)
        clear hK K
        try simp only [Act.put, List.setIfInBounds_toArray, List.set_cons_zero, List.set_cons_succ, List.getElem_toArray, List.getElem_cons_zero, List.getElem_cons_succ]
        refine wpAnyH_done (by kernel_rfl) ?_ _
        refine NoPanic.normal ?_
        clear hHeld
        go_wp2_with fail
        refine bodyPost_ret (told_ret Y2.out mem0 rfl rfl) rfl ?_
        exact ⟨A2, n2, c2', rfl, S3.out, hf3.out, Y2.out.below⟩
    · rw [if_pos h3] at hR
      have f3 : (zs.getD 3 0 == 0) = false := by simpa using h3
      generalize zs.getD 3 0 = x3 at *
      have hwp : (p + 3) % 18446744073709551616 = p + 3 := by omega
      clear hl hs hr hzs hc IH hle b0
      obtain ⟨w1, hw1⟩ : ∃ w1, w.alloc (.cells Z 54) = w1 := ⟨_, rfl⟩
      rw [hw1] at VY K0 c0a c3a
      generalize Z.toList = ZL at *
      unfold zt at hZ
      subst hZ
      go_enter Try.func39, Try.ntmps39
      go_wp2_with fail
      refine (K0.out).mono ?_
      rintro e w1' ⟨rfl, rfl⟩
      clear K0 hw1
      subst hR
      have K := veil (fun u => faulty_any 0 (p + 3) al u (by have := HP.out; omega))
      go_wp2_with fail
      refine (K.out _).mono ?_
      rintro e w2 ⟨rfl, q⟩
      have Y1 := VY.out.keep q
      have T := veil (told_store (t := faulT 0 (p + 3) al) (v := nilV) Y1 mem0 hz.out rfl)
      have Y2 := veil (Y1.put 0 rfl (tc (faulT 0 (p + 3) al) nilV))
      simp only [List.set_cons_zero] at Y2
      have hr : Hid ((faulT 0 (p + 3) al).rest = []) := rfl
      clear q Y1 K
      generalize faulT 0 (p + 3) al = te at *
      go_wp2_with (refine wpList_store_of rfl _ _ rfl rfl rfl T.out ?_)
      refine bodyPost_ret (told_ret Y2.out mem0 rfl rfl) rfl ?_
      exact ⟨none, 0, 0, rfl, by rw [hr.out]; exact slc_nil _, (fun _ h => by cases h), Y2.out.below⟩

end Go.Proofs.Ytfkjfdmepeahnaa.Hd
