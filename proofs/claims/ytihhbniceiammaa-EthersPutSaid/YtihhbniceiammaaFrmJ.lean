/-
  The frame of bytes, by the document's answer, where there is one.
  Conditions: 14 to 1514 bytes.
-/
import Derived.Test.YtihhbniceiammaaFrmH
namespace Go.Proofs.Ytihhbniceiammaa.Et
open Go.RowKit

theorem _root_.Go.Proofs.Ytihhbniceiammaa.Rd.setRow {w : World} {A : Option Addr} {zs : List Int} {g : Nat} (h : Rd w A zs) (ho : Off A g) (cs : Array Value) : Rd (w.setRow g cs) A zs := by
  intro j hj
  obtain ⟨a, rfl, hc⟩ := h j hj
  refine ⟨a, rfl, ?_⟩
  rw [← hc]
  refine World.cell?_of_block ?_
  unfold World.setRow
  rw [Array.getElem?_modify, if_neg (fun e => ho a rfl (by rw [block_add] at e; exact e.symm))]

theorem two {w : World} {a : Addr} {zs : List Int} {n : Nat} {x y : Int} (h : Rd w (some a) zs) (hl : zs.length = n) (h1 : 14 ≤ n) (hx : zs.getD 12 0 = x) (hy : zs.getD 13 0 = y) : w.cell? ⟨a.block, a.off + 12, none⟩ = some (.int .u8 x) ∧ w.cell? ⟨a.block, a.off + 13, none⟩ = some (.int .u8 y) := by
  obtain ⟨a1, e1, h12⟩ := h 12 (by omega)
  obtain ⟨a2, e2, h13⟩ := h 13 (by omega)
  injection e1 with e1
  injection e2 with e2
  subst e1 e2
  rw [hx] at h12
  rw [hy] at h13
  exact ⟨h12, h13⟩

set_option linter.unusedSimpArgs false in
set_option maxHeartbeats 4000000 in
theorem refGet_good (A : Option Addr) (n c : Nat) (zs : List Int) (w : World) (h1 : 14 ≤ n) (h2 : n ≤ 1514) (hz : Byt zs) (hr : Slc w (.slice A n c) zs) : Calls Try.prog 20 #[.slice A n c] w (RefFrame w zs) := by
  obtain ⟨hl, hd, hc⟩ := slc_of hr
  obtain ⟨a, rfl, _⟩ := hd 0 (by omega)
  obtain ⟨Z, hZ⟩ : ∃ Z, Z = zf := ⟨_, rfl⟩
  have e0 : Hid (Z.toList = fc z6 z6 0 (.slice none 0 0)) := by rw [hZ]; exact rfl
  have Y := (Lay.begin w).newA Z 27 (g := w.heap.size) rfl
  have VM := veil (get_macs (zs := zs) (by omega))
  have VL := veil hl
  have VZ := veil hz
  have VR := veil hr
  have VD := veil hd
  have VC := veil hc
  have VY := veil Y
  clear Y hl hz hr hd hc
  generalize Z.toList = ZL at *
  have i1 : ¬ (n : Int) < 14 := by omega
  have i2 : ¬ (1514 : Int) < (n : Int) := by omega
  obtain ⟨w1, hw1⟩ : ∃ w1, w.alloc (.cells Z 27) = w1 := ⟨_, rfl⟩
  rw [hw1] at VY
  obtain ⟨x, hx⟩ : ∃ x, zs.getD 12 0 = x := ⟨_, rfl⟩
  obtain ⟨y, hy⟩ : ∃ y, zs.getD 13 0 = y := ⟨_, rfl⟩
  have bx := VZ.out.at_ 12
  have bY := VZ.out.at_ 13
  rw [hx] at bx
  rw [hy] at bY
  obtain ⟨q, hq⟩ : ∃ q, 256 * x + y = q := ⟨_, rfl⟩
  have GQ : Hid (gk zs = q) := by
    show num ((zs.drop 12).take 2) = q
    have hl := VL.out
    have e1 := num_next (zs.drop 12) 1 (by simp; omega)
    have e2 := num_next (zs.drop 12) 0 (by simp; omega)
    have g0 : (zs.drop 12).getD 0 0 = x := by rw [← hx]; simp [List.getD]
    have g1 : (zs.drop 12).getD 1 0 = y := by rw [← hy]; simp [List.getD]
    rw [e1, e2, g0, g1, ← hq]
    simp [num]
  have HW : Hid (IntKind.u16.wrap (IntKind.u16.wrap (256 * IntKind.u16.wrap x) + IntKind.u16.wrap y) = q) := by
    show IntKind.u16.wrap (IntKind.u16.wrap (256 * IntKind.u16.wrap x) + IntKind.u16.wrap y) = q
    simp [IntKind.wrap, IntKind.signed, IntKind.bits]
    omega
  have VY1 := VY.out.drew
  obtain ⟨u1, hu1⟩ : ∃ u1, w1.drew.alloc (.cells zf 27) = u1 := ⟨_, rfl⟩
  have Y2 := VY1.newA zf 27 (g := w.heap.size + 1) (show w.heap.size + 1 = w1.heap.size by rw [← hw1]; simp)
  rw [hu1] at Y2
  have T := veil (frm_store (d := z6) (s := z6) (k := q) (v := .slice none 0 0) Y2 mem0 rfl z6_macs rfl)
  have Y3 := veil (Y2.put 0 rfl (fc z6 z6 q (.slice none 0 0)))
  simp only [List.set_cons_zero] at Y3
  obtain ⟨u2, hu2⟩ : ∃ u2, u1.setRow (w.heap.size + 1) (fc z6 z6 q (.slice none 0 0)).toArray = u2 := ⟨_, rfl⟩
  rw [hu2] at T Y3
  have d1 := VD.out.keep VY1.below
  have d2 := VD.out.keep Y2.below
  have d3 := VD.out.keep Y3.out.below
  have c1 := veil (two d1 VL.out h1 hx hy)
  have c2 := veil (two d2 VL.out h1 hx hy)
  have c3 := veil (two d3 VL.out h1 hx hy)
  have i12 : (12 : Int) < (n : Int) := by omega
  have i13 : (13 : Int) < (n : Int) := by omega
  clear d1 d2 d3 Y2 VY VY1 hx hy hq hu2
  unfold zf at hZ hu1
  subst hw1 hu1 hZ
  go_enter Try.func20, Try.ntmps20
  go_wp2_with fail
  -- region 5
  refine wp_region_noPanic ?_
  refine wp_region_held_drew (S := (fun w' => w'.cell? ⟨a.block, a.off + 12, none⟩ = some (.int .u8 x) ∧ w'.cell? ⟨a.block, a.off + 13, none⟩ = some (.int .u8 y))) (by kernel_rfl) c1.out (fun hHeld => ?_)
  refine wpAnyH_take (i := 0) (v := ?_) (by rfl) (by kernel_rfl) (by kernel_rfl) (by kernel_rfl) (fun _ _ _ h => h) (Or.inl ⟨by rfl, ?_⟩) hHeld ?_
  rotate_left
  · intro w' hSw
    (try dsimp only at hSw)
    simp only [List.getElem_toArray, List.getElem_cons_zero, List.getElem_cons_succ]
    go_simp
    all_goals (try with_reducible rfl)
  try simp only [Act.put, List.setIfInBounds_toArray, List.set_cons_zero, List.set_cons_succ, List.getElem_toArray, List.getElem_cons_zero, List.getElem_cons_succ]
  refine wpAnyH_take (i := 1) (v := ?_) (by rfl) (by kernel_rfl) (by kernel_rfl) (by kernel_rfl) (fun _ _ _ h => h) (Or.inl ⟨by rfl, ?_⟩) hHeld ?_
  rotate_left
  · intro w' hSw
    (try dsimp only at hSw)
    simp only [List.getElem_toArray, List.getElem_cons_zero, List.getElem_cons_succ]
    go_simp
    all_goals (try with_reducible rfl)
  try simp only [Act.put, List.setIfInBounds_toArray, List.set_cons_zero, List.set_cons_succ, List.getElem_toArray, List.getElem_cons_zero, List.getElem_cons_succ]
  refine wpAnyH_take (i := 2) (v := ?_) (by rfl) (by kernel_rfl) (by kernel_rfl) (by kernel_rfl) (fun _ _ _ h => h) (Or.inl ⟨by rfl, ?_⟩) hHeld ?_
  rotate_left
  · intro w' hSw
    (try dsimp only at hSw)
    simp only [List.getElem_toArray, List.getElem_cons_zero, List.getElem_cons_succ]
    go_simp
    all_goals (try with_reducible rfl)
  try simp only [Act.put, List.setIfInBounds_toArray, List.set_cons_zero, List.set_cons_succ, List.getElem_toArray, List.getElem_cons_zero, List.getElem_cons_succ]
  refine wpAnyH_take (i := 3) (v := ?_) (by rfl) (by kernel_rfl) (by kernel_rfl) (by kernel_rfl) (fun _ _ _ h => h) (Or.inl ⟨by rfl, ?_⟩) hHeld ?_
  rotate_left
  · intro w' hSw
    (try dsimp only at hSw)
    simp only [List.getElem_toArray, List.getElem_cons_zero, List.getElem_cons_succ]
    go_simp
    all_goals (try with_reducible rfl)
  try simp only [Act.put, List.setIfInBounds_toArray, List.set_cons_zero, List.set_cons_succ, List.getElem_toArray, List.getElem_cons_zero, List.getElem_cons_succ]
  refine wpAnyH_take (i := 4) (v := ?_) (by rfl) (by kernel_rfl) (by kernel_rfl) (by kernel_rfl) (fun _ _ _ h => h) (Or.inl ⟨by rfl, ?_⟩) hHeld ?_
  rotate_left
  · intro w' hSw
    (try dsimp only at hSw)
    simp only [List.getElem_toArray, List.getElem_cons_zero, List.getElem_cons_succ]
    go_simp
    all_goals (try with_reducible rfl)
  try simp only [Act.put, List.setIfInBounds_toArray, List.set_cons_zero, List.set_cons_succ, List.getElem_toArray, List.getElem_cons_zero, List.getElem_cons_succ]
  refine wpAnyH_take (i := 5) (v := ?_) (by rfl) (by kernel_rfl) (by kernel_rfl) (by kernel_rfl) (fun _ _ _ h => h) (Or.inl ⟨by rfl, ?_⟩) hHeld ?_
  rotate_left
  · intro w' hSw
    (try dsimp only at hSw)
    simp only [List.getElem_toArray, List.getElem_cons_zero, List.getElem_cons_succ]
    go_simp
    all_goals (try with_reducible rfl)
  try simp only [Act.put, List.setIfInBounds_toArray, List.set_cons_zero, List.set_cons_succ, List.getElem_toArray, List.getElem_cons_zero, List.getElem_cons_succ]
  refine wpAnyH_take (i := 6) (v := ?_) (by rfl) (by kernel_rfl) (by kernel_rfl) (by kernel_rfl) (fun _ _ _ h => h) (Or.inl ⟨by rfl, ?_⟩) hHeld ?_
  rotate_left
  · intro w' hSw
    (try dsimp only at hSw)
    simp only [List.getElem_toArray, List.getElem_cons_zero, List.getElem_cons_succ]
    go_simp
    all_goals (try with_reducible rfl)
  try simp only [Act.put, List.setIfInBounds_toArray, List.set_cons_zero, List.set_cons_succ, List.getElem_toArray, List.getElem_cons_zero, List.getElem_cons_succ]
  refine wpAnyH_take (i := 7) (v := ?_) (by rfl) (by kernel_rfl) (by kernel_rfl) (by kernel_rfl) (fun _ _ _ h => h) (Or.inl ⟨by rfl, ?_⟩) hHeld ?_
  rotate_left
  · intro w' hSw
    (try dsimp only at hSw)
    simp only [List.getElem_toArray, List.getElem_cons_zero, List.getElem_cons_succ]
    go_simp
    all_goals (try with_reducible rfl)
  try simp only [Act.put, List.setIfInBounds_toArray, List.set_cons_zero, List.set_cons_succ, List.getElem_toArray, List.getElem_cons_zero, List.getElem_cons_succ]
  refine wpAnyH_take (i := 8) (v := ?_) (by rfl) (by kernel_rfl) (by kernel_rfl) (by kernel_rfl) (fun _ _ _ h => h) (Or.inl ⟨by rfl, ?_⟩) hHeld ?_
  rotate_left
  · intro w' hSw
    (try dsimp only at hSw)
    simp only [List.getElem_toArray, List.getElem_cons_zero, List.getElem_cons_succ]
    go_simp
    all_goals (try with_reducible rfl)
  try simp only [Act.put, List.setIfInBounds_toArray, List.set_cons_zero, List.set_cons_succ, List.getElem_toArray, List.getElem_cons_zero, List.getElem_cons_succ]
  refine wpAnyH_take (i := 9) (v := ?_) (by rfl) (by kernel_rfl) (by kernel_rfl) (by kernel_rfl) (fun _ _ _ h => h) (Or.inl ⟨by rfl, ?_⟩) hHeld ?_
  rotate_left
  · intro w' hSw
    (try dsimp only at hSw)
    simp only [List.getElem_toArray, List.getElem_cons_zero, List.getElem_cons_succ]
    go_simp
    all_goals (try with_reducible rfl)
  try simp only [Act.put, List.setIfInBounds_toArray, List.set_cons_zero, List.set_cons_succ, List.getElem_toArray, List.getElem_cons_zero, List.getElem_cons_succ]
  refine wpAnyH_take (i := 10) (v := _) (by rfl) (by kernel_rfl) (by kernel_rfl) (by kernel_rfl) (fun _ _ _ h => h) (yieldsIf_build (by rfl) _ _ rfl _ (by simp [Act.eval, HW.out]) (fun u => kind_made q u)) hHeld ?_
  try simp only [Act.put, List.setIfInBounds_toArray, List.set_cons_zero, List.set_cons_succ, List.getElem_toArray, List.getElem_cons_zero, List.getElem_cons_succ]
  refine wpAnyH_ready (rs := [11]) (by kernel_rfl) (by simp) ?_
  refine AllReadyH.cons (by rfl) (fun K hK => ?_) AllReadyH.nil
  simp only [List.getElem_toArray, List.getElem_cons_zero, List.getElem_cons_succ]
  go_simp
  (try dsimp only)
  refine hK.out _ _ c2.out (fun hHeld => ?_)
  clear hK K
  try simp only [Act.put, List.setIfInBounds_toArray, List.set_cons_zero, List.set_cons_succ, List.getElem_toArray, List.getElem_cons_zero, List.getElem_cons_succ]
  refine wpAnyH_ready (rs := [12]) (by kernel_rfl) (by simp) ?_
  refine AllReadyH.cons (by rfl) (fun K hK => ?_) AllReadyH.nil
  simp only [List.getElem_toArray, List.getElem_cons_zero, List.getElem_cons_succ]
  refine wp_store_of (.tmp 4) (.tmp 24) rfl rfl rfl T.out ?_
  (try dsimp only)
  refine hK.out _ _ c3.out (fun hHeld => ?_)
  clear hK K
  try simp only [Act.put, List.setIfInBounds_toArray, List.set_cons_zero, List.set_cons_succ, List.getElem_toArray, List.getElem_cons_zero, List.getElem_cons_succ]
  refine wpAnyH_done (by kernel_rfl) ?_ _
  refine NoPanic.normal ?_
  clear hHeld
  -- end region 5
  clear c1 c2 c3 T HW
  go_wp2_with fail
  go_loopw [5] (fun i wr => ∃ j : Nat, j ≤ 6 ∧ i = .int .i64 j ∧ Hid (Lay w wr [(w.heap.size + 1, 27, fc (part (gd zs) j) (part (gs zs) j) q (.slice none 0 0)), (w.heap.size, 27, ZL)])) (fun i _ => 6 - (intOf i).toNat)
  case atStart => exact ⟨0, by omega, rfl, by rw [part_zero _ VM.out.d, part_zero _ VM.out.s]; exact Y3⟩
  case round =>
    obtain ⟨j, hj, rfl, hR⟩ := hrel
    by_cases hlt : j < 6
    · have m1 : Macs (part (gd zs) j) (part (gs zs) j) := ⟨by rw [part_len (by rw [VM.out.d]; omega), VM.out.d], by rw [part_len (by rw [VM.out.s]; omega), VM.out.s]⟩
      have m2 : Macs (part (gd zs) (j + 1)) (part (gs zs) j) := ⟨by rw [part_len (by rw [VM.out.d]; omega), VM.out.d], m1.s⟩
      obtain ⟨_, e1, ca⟩ := VD.out.keep hR.out.below j (by rw [VL.out]; omega)
      injection e1 with e1
      subst e1
      have g1 : zs.getD j 0 = (gd zs).getD j 0 := by simp [gd, List.getD, hlt]
      have g2 : zs.getD (6 + j) 0 = (gs zs).getD j 0 := by simp [gs, List.getD, hlt]
      have Y1 := hR.out.cell 0 rfl j (.int .u8 (zs.getD j 0))
      have p1 : (bv (part (gd zs) j)).set j (.int .u8 (zs.getD j 0)) = bv (part (gd zs) (j + 1)) := by rw [g1]; exact part_set (by rw [VM.out.d]; exact hlt)
      have p2 : (bv (part (gs zs) j)).set j (.int .u8 (zs.getD (6 + j) 0)) = bv (part (gs zs) (j + 1)) := by rw [g2]; exact part_set (by rw [VM.out.s]; exact hlt)
      rw [fc_setD p1 (by rw [m1.d]; exact hlt)] at Y1
      obtain ⟨_, e2, cb⟩ := VD.out.keep Y1.below (6 + j) (by rw [VL.out]; omega)
      injection e2 with e2
      subst e2
      have Y2 := Y1.cell 0 rfl (6 + j) (.int .u8 (zs.getD (6 + j) 0))
      rw [fc_setS m2.d p2 (by rw [m1.s]; exact hlt)] at Y2
      obtain ⟨v1, hv1⟩ : ∃ v, (fc (part (gd zs) j) (part (gs zs) j) q (.slice none 0 0))[j]? = some v := ⟨_, List.getElem?_eq_getElem (by rw [fc_len m1]; omega)⟩
      obtain ⟨v2, hv2⟩ : ∃ v, (fc (part (gd zs) (j + 1)) (part (gs zs) j) q (.slice none 0 0))[6 + j]? = some v := ⟨_, List.getElem?_eq_getElem (by rw [fc_len m2]; omega)⟩
      have c1 := hR.out.look mem0 hv1
      have c2 := Y1.look mem0 hv2
      have f1 := hR.out.free mem0 j
      have f2 := Y1.free mem0 (6 + j)
      have YE := veil (show Lay w ((wr.setCell ⟨w.heap.size + 1, j, none⟩ (.int .u8 (zs.getD j 0))).setCell ⟨w.heap.size + 1, 6 + j, none⟩ (.int .u8 (zs.getD (6 + j) 0))) [(w.heap.size + 1, 27, fc (part (gd zs) (j + 1)) (part (gs zs) (j + 1)) q (.slice none 0 0)), (w.heap.size, 27, ZL)] from Y2)
      clear Y1 Y2 hv1 hv2 p1 p2 g1 g2 m1 m2
      generalize zs.getD j 0 = z1 at *
      generalize zs.getD (6 + j) 0 = z2 at *
      have j6 : (j : Int) < 6 := by omega
      have jn : (j : Int) < (n : Int) := by omega
      have jm : (6 : Int) + (j : Int) < (n : Int) := by omega
      go_wp2_with fail
      go_roundw
      case rel => exact ⟨j + 1, by omega, by go_num, YE.out⟩
      case measure => simp [intOf]; omega
    · have e6 : j = 6 := by omega
      subst e6
      have Y := hR.out
      rw [show part (gd zs) 6 = gd zs by rw [← VM.out.d]; exact part_whole _, show part (gs zs) 6 = gs zs by rw [← VM.out.s]; exact part_whole _] at Y
      have VY := veil Y
      clear Y hR Y3
      have i6 : ¬ ((6 : Nat) : Int) < 6 := by omega
      have hu := slc_drop (k := 14) (VR.out.keep VY.out.below) h1
      obtain ⟨v5, w5, h5, G5⟩ := (Grow.begin VY.out).append hu (by simp [VL.out]; omega) 25
      obtain ⟨A5, c5, e5, r5, k5⟩ := G5.own.slc.slice
      have e5' : v5 = .slice A5 (n - 14) c5 := by rw [e5]; simp [VL.out]
      clear e5
      subst e5'
      have l0 := VY.out.lt mem0
      have l1 := VY.out.lt mem1
      have off : ∀ g, g < wr.heap.size → Off A5 g := fun g hg b hb e => by
        subst hb
        have := (World.ownsRow.lt G5.own b.block rfl).1
        omega
      have o0 := off _ l0
      have o1 := off _ l1
      rw [List.nil_append] at r5
      have c13 := G5.lay.look mem0 (fc_body VM.out)
      have f13 := G5.lay.free mem0 13
      have Y6 := G5.lay.cell 0 rfl 13 (.slice A5 (n - 14) c5)
      rw [fc_set VM.out] at Y6
      replace Y6 := veil (show Lay w (w5.setCell ⟨w.heap.size + 1, 13, none⟩ (.slice A5 (n - 14) c5)) [(w.heap.size + 1, 27, fc (gd zs) (gs zs) q (.slice A5 (n - 14) c5)), (w.heap.size, 27, ZL)] from Y6)
      have L := veil (frmAt Y6.out mem0 VM.out).all
      have T := veil (frm_store (d := gd zs) (s := gs zs) (k := q) (v := .slice A5 (n - 14) c5) Y6.out mem1 (by rw [e0.out]; exact fc_len z6_macs) VM.out rfl)
      have Y7 := veil (Y6.out.put 1 rfl (fc (gd zs) (gs zs) q (.slice A5 (n - 14) c5)))
      simp only [List.set_cons_zero, List.set_cons_succ] at Y7
      have R7 := veil ((r5.far o0 13 (.slice A5 (n - 14) c5)).setRow o1 (fc (gd zs) (gs zs) q (.slice A5 (n - 14) c5)).toArray)
      have i14 : (14 : Int) ≤ (n : Int) := by omega
      clear G5 Y6 r5 k5 off o0 o1 l0 l1 hlt hj
      rcases (by omega : c = 14 ∨ ¬ c = 14) with ec | ec
      · subst ec
        have H5 := veil h5
        simp only [cutA, if_pos] at H5
        clear h5 hu
        go_wp2_with (first
          | (at_builtin; refine wpList_append_run rfl (.const (.slice none 0 0)) (.tmp 45) rfl rfl rfl H5.out ?_)
          | (refine wpList_load_of rfl _ rfl rfl L.out ?_)
          | (refine wpList_store_of rfl _ _ rfl rfl rfl T.out ?_))
        refine bodyPost_ret (ret_row_tmp rfl rfl rfl (Y7.out.range mem1 (part_all _)) Try.underlying27 rfl (sizeFrm VM.out)) rfl ?_
        exact ⟨A5, c5, by rw [GQ.out, VL.out]; rfl, R7.out, Y7.out.below⟩
      · have H5 := veil h5
        simp only [cutA, if_neg ec] at H5
        clear h5 hu
        go_wp2_with (first
          | (at_builtin; refine wpList_append_run rfl (.const (.slice none 0 0)) (.tmp 45) rfl rfl rfl H5.out ?_)
          | (refine wpList_load_of rfl _ rfl rfl L.out ?_)
          | (refine wpList_store_of rfl _ _ rfl rfl rfl T.out ?_))
        refine bodyPost_ret (ret_row_tmp rfl rfl rfl (Y7.out.range mem1 (part_all _)) Try.underlying27 rfl (sizeFrm VM.out)) rfl ?_
        exact ⟨A5, c5, by rw [GQ.out, VL.out]; rfl, R7.out, Y7.out.below⟩

end Go.Proofs.Ytihhbniceiammaa.Et
