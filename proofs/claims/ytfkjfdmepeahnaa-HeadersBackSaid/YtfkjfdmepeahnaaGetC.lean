/-
  A packet out of bytes, by the code: bytes that hold none; and whatever bytes there are.
  Conditions: at most 16000000 bytes.
-/
import Derived.Test.YtfkjfdmepeahnaaGetB
namespace Go.Proofs.Ytfkjfdmepeahnaa.Hd
set_option maxRecDepth 100000
open Go.RowKit Ops

set_option linter.unusedSimpArgs false in
set_option maxHeartbeats 16000000 in
theorem codeGet_none (A : Option Addr) (n c : Nat) (zs : List Int) (w : World) (hs : Slc w (.slice A n c) zs) (hz : Byt zs) (hl : zs.length = n) (hn : n ≤ 16000000) (h : 40 ≤ n) (hf : zs.getD 0 0 / 16 = 6) (hge : 40 + manyB zs ≤ n) (he : ¬ (tellB zs).e = 0 ∧ ¬ (tellB zs).e = 7) : Calls Try.prog 18 #[.slice A n c] w (GotB w noPk [] 0 0 (tellB zs).e) := by
  obtain ⟨Z, hZ⟩ : ∃ Z, Z = zp := ⟨_, rfl⟩
  obtain ⟨X, hX⟩ : ∃ X : Array Value, X = #[.int .u8 0, .int .u32 0] := ⟨_, rfl⟩
  have hzl : Hid (Z.toList.length = 40) := by rw [hZ]; exact rfl
  have hxl : Hid (X.toList.length = 2) := by rw [hX]; exact rfl
  have Y := ((Lay.begin w).newA Z 30 (g := w.heap.size) rfl).newA X 45 (g := w.heap.size + 1) (by simp)
  have i1 : ¬ (n : Int) < 40 := by omega
  have i0 : (0 : Int) < (n : Int) := by omega
  have hb := hz.at_ 0
  have hb6 := hz.at_ 6
  obtain ⟨a, ha, ca⟩ := ((slc_rd hs).1.keep Y.below) 0 (by omega)
  subst ha
  rw [show a.add 0 = a by simp [Addr.add]] at ca
  obtain ⟨hm, hmb⟩ := many_bound hz (by omega)
  have hc := slc_cap hs
  have SH := veil (slice_hi (A := some a) (n := n) (c := c) (k := 40) (by omega))
  have SL := veil (slice_lo (A := some a) (n := n) (c := c) (k := 40) (by omega))
  have KF := getFixed_any (some a) c (zs.take 40) ((w.alloc (.cells Z 30)).alloc (.cells X 45)) (by simp; omega) (hz.take 40) (((slc_rd hs).1.keep Y.below).take 40)
  have e4 : ((zs.take 40).drop 4).take 2 = (zs.drop 4).take 2 := by rw [List.drop_take, List.take_take]; simp
  have e6 : (zs.take 40).getD 6 0 = zs.getD 6 0 := by simp [List.getD]
  rw [e4, e6, fix_base, hm] at KF
  replace KF := veil KF
  have HS := veil hs
  have HL := veil hl
  have HZ := veil hz
  have BE := veil (base_ends (zs := zs) (by omega))
  have V6 := veil hb6
  have VY := veil Y
  have VHM := veil hm
  generalize hx0 : zs.getD 0 0 = x at *
  obtain ⟨m, hmm⟩ : ∃ m, manyB zs = m := ⟨_, rfl⟩
  rw [hmm] at KF hmb VHM
  have VMM := veil hmm
  have d6 : (x / 16 == 6) = true := by simpa using hf
  obtain ⟨x6, hx6⟩ : ∃ x6, zs.getD 6 0 = x6 := ⟨_, rfl⟩
  rw [hx6] at KF V6
  have VX6 := veil hx6
  obtain ⟨kb, hkb⟩ : ∃ kb, baseK zs = kb := ⟨_, rfl⟩
  rw [hkb] at KF BE
  have VKB := veil hkb
  clear Y hs hz hl hb6 hm hmm e4 e6 hx6 hkb hf hx0
  have iL : ¬ ((n - 40 : Nat) : Int) < (m : Int) := by rw [VMM.out] at hge; omega
  have hge' : 40 + m ≤ n := by rw [← VMM.out]; exact hge
  obtain ⟨mcb, hmcb⟩ : ∃ b, decide (zs.getD 24 0 = 255) = b := ⟨_, rfl⟩
  have hT0 : tellB zs = chain x6 ((zs.drop 40).take m) 40 mcb := by unfold tellB; rw [VX6.out, VMM.out, hmcb]
  obtain ⟨T, hT⟩ : ∃ T, tellB zs = T := ⟨_, rfl⟩
  rw [hT] at hT0 he
  have VKK : Hid (gotK zs = { kb with alert := T.alert, frag := T.frag, next := T.last }) := veil (by unfold gotK; rw [hT, VKB.out])
  rw [hT]
  have KM : Hid (∀ u, Calls Try.prog 34 #[av kb.d] u fun e w' => e = .returned (.bool mcb) ∧ Below u.heap.size u w') := veil (fun u => by have h := codeMc kb.d u BE.out.d; rw [← VKB.out, base_dst, hmcb] at h; rw [← VKB.out]; exact h)
  have HD := slc_drop HS.out (k := 40) (by omega)
  have KC : Hid (∀ u, Below w.heap.size w u → Calls Try.prog 22 #[.int .u8 x6, .slice (cutA (some a) c 40) m (c - 40), .int .u32 40, .bool mcb] u (Told6 u T)) := veil (fun u hb => by rw [hT0]; exact codeChain x6 ((zs.drop 40).take m) (cutA (some a) c 40) m (c - 40) 40 mcb u V6.out (((slc_rd (HD.keep hb)).1).take m) (by simp; have := HL.out; omega) ((HZ.out.drop 40).take m) (by omega) (by omega))
  have SLH := veil (slice_hi (A := cutA (some a) c 40) (n := n - 40) (c := c - 40) (k := m) (by omega))
  have hc40 : ∀ (q : Option Addr), q = q := fun _ => rfl
  generalize cutA (some a) c 40 = A4 at *
  have VE := veil he
  clear hc40 HD hT0 hT hge hge' hc hmb hmcb he HS HL HZ V6 VX6 VMM VHM VKB
  generalize Z.toList = ZL at *
  generalize X.toList = XL at *
  unfold zp at hZ
  subst hZ hX
  go_enter Try.func18, Try.ntmps18
  go_wp2_with (refine wpList_slhi_of rfl _ (.tmp 22) (.const (.int .i64 40)) rfl rfl rfl (SH.out _) ?_)
  clear ca d6 hb
  refine (KF.out).mono ?_
  rintro e w1 ⟨rfl, q⟩
  have Y1 := VY.out.keep q
  obtain ⟨Z, hZ⟩ : ∃ Z, Z = zp := ⟨_, rfl⟩
  have hzl2 : Hid (Z.toList.length = 40) := by rw [hZ]; exact rfl
  have Y2 := Y1.newA Z 30 (g := w1.heap.size) rfl
  have T0 := veil (pkt_store (k := kb) (v := nilV) Y2 mem0 hzl2.out BE.out rfl)
  have Y3 := Y2.put 0 rfl (pc kb nilV)
  simp only [List.set_cons_zero] at Y3
  obtain ⟨u1, hu⟩ : ∃ u, (w1.alloc (.cells Z 30)).setRow w1.heap.size (pc kb nilV).toArray = u := ⟨_, rfl⟩
  rw [hu] at T0 Y3
  have VY3 := veil Y3
  clear KF q Y1 Y2 hu VY
  have L7 := veil (pktAt Y3 mem0 BE.out).all
  have T9 := veil (pkt_store (k := kb) (v := nilV) Y3 mem2 hzl.out BE.out rfl)
  have Y9 := Y3.put 2 rfl (pc kb nilV)
  simp only [List.set_cons_zero, List.set_cons_succ] at Y9
  obtain ⟨u9, hu9⟩ : ∃ u, u1.setRow w.heap.size (pc kb nilV).toArray = u := ⟨_, rfl⟩
  rw [hu9] at T9 Y9
  have VYD := veil Y9.drew
  have D0 := veil (VYD.out.range mem2 (pc_dst BE.out))
  clear Y3 VY3 Y9 hu9
  generalize Z.toList = ZL2 at *
  unfold zp at hZ
  subst hZ
  go_wp2_with (first
    | (refine wpList_store_of rfl _ _ rfl rfl rfl T0.out ?_)
    | (refine wpList_slice_of rfl _ (.tmp 28) (.const (.int .i64 40)) rfl rfl rfl (SL.out _) ?_)
    | (refine wpList_load_of rfl (.tmp 7) rfl rfl L7.out ?_)
    | (refine wpList_store_of rfl _ _ rfl rfl rfl T9.out ?_))
  refine wp_region_noPanic ?_
  refine wp_region_held_drew (S := (fun w' => w'.rangeAt w.heap.size 16 (bv kb.d))) (by kernel_rfl) D0.out (fun hHeld => ?_)
  refine wpAnyH_take (i := 0) (v := ?_) (by rfl) (by kernel_rfl) (by kernel_rfl) (by kernel_rfl) (fun _ _ _ h => h) (Or.inl ⟨by rfl, ?_⟩) hHeld ?_
  rotate_left
  · intro w' hSw
    (try dsimp only at hSw)
    simp only [List.getElem_toArray, List.getElem_cons_zero, List.getElem_cons_succ]
    go_simp
    all_goals (try with_reducible rfl)
  try simp only [Act.put, List.setIfInBounds_toArray, List.set_cons_zero, List.set_cons_succ, List.getElem_toArray, List.getElem_cons_zero, List.getElem_cons_succ]
  refine wpAnyH_take (i := 1) (v := ?_) (by rfl) (by kernel_rfl) (by kernel_rfl) (by kernel_rfl) (fun _ _ _ h => h) (Or.inl ⟨by rfl, ?_⟩) hHeld ?_
  rotate_left
  · intro w' hSw
    (try dsimp only at hSw)
    simp only [List.getElem_toArray, List.getElem_cons_zero, List.getElem_cons_succ]
    go_simp
    all_goals (try with_reducible rfl)
  try simp only [Act.put, List.setIfInBounds_toArray, List.set_cons_zero, List.set_cons_succ, List.getElem_toArray, List.getElem_cons_zero, List.getElem_cons_succ]
  refine wpAnyH_take (i := 2) (v := ?_) (by rfl) (by kernel_rfl) (by kernel_rfl) (by kernel_rfl) (fun _ _ _ h => h) (Or.inl ⟨by rfl, ?_⟩) hHeld ?_
  rotate_left
  · intro w' hSw
    (try dsimp only at hSw)
    simp only [List.getElem_toArray, List.getElem_cons_zero, List.getElem_cons_succ]
    go_simp
    all_goals (try with_reducible rfl)
  try simp only [Act.put, List.setIfInBounds_toArray, List.set_cons_zero, List.set_cons_succ, List.getElem_toArray, List.getElem_cons_zero, List.getElem_cons_succ]
  refine wpAnyH_take (i := 3) (v := _) (by rfl) (by kernel_rfl) (by kernel_rfl) (by kernel_rfl) (fun _ _ _ h => h) (yieldsIf_slhi (by rfl) _ (.tmp 39) (.tmp 40) (by rfl) rfl rfl SLH.out) hHeld ?_
  try simp only [Act.put, List.setIfInBounds_toArray, List.set_cons_zero, List.set_cons_succ, List.getElem_toArray, List.getElem_cons_zero, List.getElem_cons_succ]
  refine wpAnyH_take (i := 4) (v := ?_) (by rfl) (by kernel_rfl) (by kernel_rfl) (by kernel_rfl) (fun _ _ _ h => h) (Or.inl ⟨by rfl, ?_⟩) hHeld ?_
  rotate_left
  · intro w' hSw
    (try dsimp only at hSw)
    simp only [List.getElem_toArray, List.getElem_cons_zero, List.getElem_cons_succ]
    go_simp
    all_goals (try with_reducible rfl)
  try simp only [Act.put, List.setIfInBounds_toArray, List.set_cons_zero, List.set_cons_succ, List.getElem_toArray, List.getElem_cons_zero, List.getElem_cons_succ]
  refine wpAnyH_take (i := 5) (v := _) (by rfl) (by kernel_rfl) (by kernel_rfl) (by kernel_rfl) (fun _ _ _ h => h) (yieldsIf_load_mid (by rfl) _ _ (by rfl) _ _ rfl (bv kb.d) _ (fun _ h => h) Try.underlying23 rfl (sizeAddr BE.out.d)) hHeld ?_
  try simp only [Act.put, List.setIfInBounds_toArray, List.set_cons_zero, List.set_cons_succ, List.getElem_toArray, List.getElem_cons_zero, List.getElem_cons_succ]
  refine wpAnyH_ready (rs := [6]) (by kernel_rfl) (by simp) ?_
  refine AllReadyH.cons (by rfl) (fun K hK => ?_) AllReadyH.nil
  simp only [List.getElem_toArray, List.getElem_cons_zero, List.getElem_cons_succ]
  go_simp
  refine (KM.out _).mono ?_
  rintro e w5 ⟨rfl, q5⟩
  have Y5 := VYD.out.keep q5
  have D5 := veil (Y5.range mem2 (pc_dst BE.out))
  have VY5 := veil Y5
  clear q5 Y5
  (try dsimp only)
  refine hK.out _ _ D5.out (fun hHeld => ?_)
  clear hK K
  try simp only [Act.put, List.setIfInBounds_toArray, List.set_cons_zero, List.set_cons_succ, List.getElem_toArray, List.getElem_cons_zero, List.getElem_cons_succ]
  refine wpAnyH_ready (rs := [7]) (by kernel_rfl) (by simp) ?_
  refine AllReadyH.cons (by rfl) (fun K hK => ?_) AllReadyH.nil
  simp only [List.getElem_toArray, List.getElem_cons_zero, List.getElem_cons_succ]
  go_simp
  refine (KC.out _ VY5.out.below).mono ?_
  rintro e w6 ⟨A6, n6, rfl, hR, q6⟩
  have hw5 := (VY5.out.at mem1).lt
  have VR := veil hR
  have Y6 := VY5.out.keep q6
  have p38 : w6.cell? ⟨w.heap.size, 38, none⟩ = some (.int .u8 kb.next) := Y6.look mem2 (pc_next BE.out)
  have g38 := Y6.free mem2 38
  have Y7 := Y6.cell 2 rfl 38 (.int .u8 T.last)
  rw [pc_set_next BE.out] at Y7
  have E7 : Hid (Hd.Ends ({ kb with next := T.last } : Pk)) := veil ⟨BE.out.s, BE.out.d⟩
  have p39 : (w6.setCell ⟨w.heap.size, 38, none⟩ (.int .u8 T.last)).cell? ⟨w.heap.size, 39, none⟩ = some nilV := Y7.look mem2 (pc_body E7.out)
  have g39 := Y7.free mem2 39
  have Y8 := Y7.cell 2 rfl 39 (.slice A6 n6 n6)
  rw [pc_set E7.out] at Y8
  have p33 : ((w6.setCell ⟨w.heap.size, 38, none⟩ (.int .u8 T.last)).setCell ⟨w.heap.size, 39, none⟩ (.slice A6 n6 n6)).cell? ⟨w.heap.size, 33, none⟩ = some (.bool kb.alert) := Y8.look mem2 (pc_alert E7.out)
  have g33 := Y8.free mem2 33
  have Y9 := Y8.cell 2 rfl 33 (.bool T.alert)
  rw [pc_set_alert E7.out] at Y9
  have E9 : Hid (Hd.Ends ({ kb with next := T.last, alert := T.alert } : Pk)) := veil ⟨BE.out.s, BE.out.d⟩
  have T10 := store_part (P := Try.prog) (o := 34) (ty := 27) (vs := fgc T.frag) (Y9.at mem2) (by rw [pc_len E9.out]; show 34 + 4 ≤ 40; omega) (sizeFg) fgc_one'
  rw [pc_put_frag E9.out] at T10
  have Y10 := Y9.put 2 rfl (pc { kb with next := T.last, alert := T.alert, frag := T.frag } (.slice A6 n6 n6))
  simp only [List.set_cons_zero, List.set_cons_succ] at Y10
  have E10 : Hid (Hd.Ends ({ kb with next := T.last, alert := T.alert, frag := T.frag } : Pk)) := veil ⟨BE.out.s, BE.out.d⟩
  have T11 := store_all (P := Try.prog) (ty := 45) (vs := flc T.code T.place) (Y10.at mem1) (by rw [hxl.out]; rfl) (sizeFl _ _) (one_fl _ _)
  have Y11 := Y10.put 1 rfl (flc T.code T.place)
  simp only [List.set_cons_zero, List.set_cons_succ] at Y11
  have D6 := veil (Y6.range mem2 (pc_dst BE.out))
  have D7 := veil (Y7.range mem2 (pc_dst E7.out))
  have D8 := veil (Y8.range mem2 (pc_dst E7.out))
  have D9 := veil (Y9.range mem2 (pc_dst E9.out))
  have D10 := veil (Y10.range mem2 (pc_dst E10.out))
  have D11 := veil (Y11.range mem2 (pc_dst E10.out))
  replace T10 := veil T10
  replace T11 := veil T11
  have VY11 := veil Y11
  have VQ6 := veil q6
  clear hR q6 Y6 Y7 Y8 Y9 Y10 Y11 KC KM
  (try dsimp only)
  refine hK.out _ _ D6.out (fun hHeld => ?_)
  clear hK K
  try simp only [Act.put, List.setIfInBounds_toArray, List.set_cons_zero, List.set_cons_succ, List.getElem_toArray, List.getElem_cons_zero, List.getElem_cons_succ]
  refine wpAnyH_take (i := 8) (v := ?_) (by rfl) (by kernel_rfl) (by kernel_rfl) (by kernel_rfl) (fun _ _ _ h => h) (Or.inl ⟨by rfl, ?_⟩) hHeld ?_
  rotate_left
  · intro w' hSw
    (try dsimp only at hSw)
    simp only [List.getElem_toArray, List.getElem_cons_zero, List.getElem_cons_succ]
    go_simp
    all_goals (try with_reducible rfl)
  try simp only [Act.put, List.setIfInBounds_toArray, List.set_cons_zero, List.set_cons_succ, List.getElem_toArray, List.getElem_cons_zero, List.getElem_cons_succ]
  refine wpAnyH_take (i := 9) (v := ?_) (by rfl) (by kernel_rfl) (by kernel_rfl) (by kernel_rfl) (fun _ _ _ h => h) (Or.inl ⟨by rfl, ?_⟩) hHeld ?_
  rotate_left
  · intro w' hSw
    (try dsimp only at hSw)
    simp only [List.getElem_toArray, List.getElem_cons_zero, List.getElem_cons_succ]
    go_simp
    all_goals (try with_reducible rfl)
  try simp only [Act.put, List.setIfInBounds_toArray, List.set_cons_zero, List.set_cons_succ, List.getElem_toArray, List.getElem_cons_zero, List.getElem_cons_succ]
  refine wpAnyH_take (i := 10) (v := ?_) (by rfl) (by kernel_rfl) (by kernel_rfl) (by kernel_rfl) (fun _ _ _ h => h) (Or.inl ⟨by rfl, ?_⟩) hHeld ?_
  rotate_left
  · intro w' hSw
    (try dsimp only at hSw)
    simp only [List.getElem_toArray, List.getElem_cons_zero, List.getElem_cons_succ]
    go_simp
    all_goals (try with_reducible rfl)
  try simp only [Act.put, List.setIfInBounds_toArray, List.set_cons_zero, List.set_cons_succ, List.getElem_toArray, List.getElem_cons_zero, List.getElem_cons_succ]
  refine wpAnyH_take (i := 11) (v := ?_) (by rfl) (by kernel_rfl) (by kernel_rfl) (by kernel_rfl) (fun _ _ _ h => h) (Or.inl ⟨by rfl, ?_⟩) hHeld ?_
  rotate_left
  · intro w' hSw
    (try dsimp only at hSw)
    simp only [List.getElem_toArray, List.getElem_cons_zero, List.getElem_cons_succ]
    go_simp
    all_goals (try with_reducible rfl)
  try simp only [Act.put, List.setIfInBounds_toArray, List.set_cons_zero, List.set_cons_succ, List.getElem_toArray, List.getElem_cons_zero, List.getElem_cons_succ]
  refine wpAnyH_take (i := 12) (v := ?_) (by rfl) (by kernel_rfl) (by kernel_rfl) (by kernel_rfl) (fun _ _ _ h => h) (Or.inl ⟨by rfl, ?_⟩) hHeld ?_
  rotate_left
  · intro w' hSw
    (try dsimp only at hSw)
    simp only [List.getElem_toArray, List.getElem_cons_zero, List.getElem_cons_succ]
    go_simp
    all_goals (try with_reducible rfl)
  try simp only [Act.put, List.setIfInBounds_toArray, List.set_cons_zero, List.set_cons_succ, List.getElem_toArray, List.getElem_cons_zero, List.getElem_cons_succ]
  refine wpAnyH_take (i := 13) (v := ?_) (by rfl) (by kernel_rfl) (by kernel_rfl) (by kernel_rfl) (fun _ _ _ h => h) (Or.inl ⟨by rfl, ?_⟩) hHeld ?_
  rotate_left
  · intro w' hSw
    (try dsimp only at hSw)
    simp only [List.getElem_toArray, List.getElem_cons_zero, List.getElem_cons_succ]
    go_simp
    all_goals (try with_reducible rfl)
  try simp only [Act.put, List.setIfInBounds_toArray, List.set_cons_zero, List.set_cons_succ, List.getElem_toArray, List.getElem_cons_zero, List.getElem_cons_succ]
  refine wpAnyH_take (i := 14) (v := ?_) (by rfl) (by kernel_rfl) (by kernel_rfl) (by kernel_rfl) (fun _ _ _ h => h) (Or.inl ⟨by rfl, ?_⟩) hHeld ?_
  rotate_left
  · intro w' hSw
    (try dsimp only at hSw)
    simp only [List.getElem_toArray, List.getElem_cons_zero, List.getElem_cons_succ]
    go_simp
    all_goals (try with_reducible rfl)
  try simp only [Act.put, List.setIfInBounds_toArray, List.set_cons_zero, List.set_cons_succ, List.getElem_toArray, List.getElem_cons_zero, List.getElem_cons_succ]
  refine wpAnyH_take (i := 15) (v := ?_) (by rfl) (by kernel_rfl) (by kernel_rfl) (by kernel_rfl) (fun _ _ _ h => h) (Or.inl ⟨by rfl, ?_⟩) hHeld ?_
  rotate_left
  · intro w' hSw
    (try dsimp only at hSw)
    simp only [List.getElem_toArray, List.getElem_cons_zero, List.getElem_cons_succ]
    go_simp
    all_goals (try with_reducible rfl)
  try simp only [Act.put, List.setIfInBounds_toArray, List.set_cons_zero, List.set_cons_succ, List.getElem_toArray, List.getElem_cons_zero, List.getElem_cons_succ]
  refine wpAnyH_ready (rs := [16]) (by kernel_rfl) (by simp) ?_
  refine AllReadyH.cons (by rfl) (fun K hK => ?_) AllReadyH.nil
  simp only [List.getElem_toArray, List.getElem_cons_zero, List.getElem_cons_succ]
  go_simp
  (try dsimp only)
  refine hK.out _ _ D7.out (fun hHeld => ?_)
  clear hK K
  try simp only [Act.put, List.setIfInBounds_toArray, List.set_cons_zero, List.set_cons_succ, List.getElem_toArray, List.getElem_cons_zero, List.getElem_cons_succ]
  refine wpAnyH_take (i := 17) (v := ?_) (by rfl) (by kernel_rfl) (by kernel_rfl) (by kernel_rfl) (fun _ _ _ h => h) (Or.inl ⟨by rfl, ?_⟩) hHeld ?_
  rotate_left
  · intro w' hSw
    (try dsimp only at hSw)
    simp only [List.getElem_toArray, List.getElem_cons_zero, List.getElem_cons_succ]
    go_simp
    all_goals (try with_reducible rfl)
  try simp only [Act.put, List.setIfInBounds_toArray, List.set_cons_zero, List.set_cons_succ, List.getElem_toArray, List.getElem_cons_zero, List.getElem_cons_succ]
  refine wpAnyH_ready (rs := [18]) (by kernel_rfl) (by simp) ?_
  refine AllReadyH.cons (by rfl) (fun K hK => ?_) AllReadyH.nil
  simp only [List.getElem_toArray, List.getElem_cons_zero, List.getElem_cons_succ]
  go_simp
  (try dsimp only)
  refine hK.out _ _ D8.out (fun hHeld => ?_)
  clear hK K
  try simp only [Act.put, List.setIfInBounds_toArray, List.set_cons_zero, List.set_cons_succ, List.getElem_toArray, List.getElem_cons_zero, List.getElem_cons_succ]
  refine wpAnyH_take (i := 19) (v := ?_) (by rfl) (by kernel_rfl) (by kernel_rfl) (by kernel_rfl) (fun _ _ _ h => h) (Or.inl ⟨by rfl, ?_⟩) hHeld ?_
  rotate_left
  · intro w' hSw
    (try dsimp only at hSw)
    simp only [List.getElem_toArray, List.getElem_cons_zero, List.getElem_cons_succ]
    go_simp
    all_goals (try with_reducible rfl)
  try simp only [Act.put, List.setIfInBounds_toArray, List.set_cons_zero, List.set_cons_succ, List.getElem_toArray, List.getElem_cons_zero, List.getElem_cons_succ]
  refine wpAnyH_ready (rs := [20]) (by kernel_rfl) (by simp) ?_
  refine AllReadyH.cons (by rfl) (fun K hK => ?_) AllReadyH.nil
  simp only [List.getElem_toArray, List.getElem_cons_zero, List.getElem_cons_succ]
  go_simp
  (try dsimp only)
  refine hK.out _ _ D9.out (fun hHeld => ?_)
  clear hK K
  try simp only [Act.put, List.setIfInBounds_toArray, List.set_cons_zero, List.set_cons_succ, List.getElem_toArray, List.getElem_cons_zero, List.getElem_cons_succ]
  refine wpAnyH_take (i := 21) (v := ?_) (by rfl) (by kernel_rfl) (by kernel_rfl) (by kernel_rfl) (fun _ _ _ h => h) (Or.inl ⟨by rfl, ?_⟩) hHeld ?_
  rotate_left
  · intro w' hSw
    (try dsimp only at hSw)
    simp only [List.getElem_toArray, List.getElem_cons_zero, List.getElem_cons_succ]
    go_simp
    all_goals (try with_reducible rfl)
  try simp only [Act.put, List.setIfInBounds_toArray, List.set_cons_zero, List.set_cons_succ, List.getElem_toArray, List.getElem_cons_zero, List.getElem_cons_succ]
  refine wpAnyH_ready (rs := [22]) (by kernel_rfl) (by simp) ?_
  refine AllReadyH.cons (by rfl) (fun K hK => ?_) AllReadyH.nil
  simp only [List.getElem_toArray, List.getElem_cons_zero, List.getElem_cons_succ]
  refine wp_store_of (.tmp 55) (.tmp 49) rfl rfl rfl T10.out ?_
  (try dsimp only)
  refine hK.out _ _ D10.out (fun hHeld => ?_)
  clear hK K
  try simp only [Act.put, List.setIfInBounds_toArray, List.set_cons_zero, List.set_cons_succ, List.getElem_toArray, List.getElem_cons_zero, List.getElem_cons_succ]
  refine wpAnyH_ready (rs := [23]) (by kernel_rfl) (by simp) ?_
  refine AllReadyH.cons (by rfl) (fun K hK => ?_) AllReadyH.nil
  simp only [List.getElem_toArray, List.getElem_cons_zero, List.getElem_cons_succ]
  refine wp_store_of (.tmp 3) (.tmp 50) rfl rfl rfl T11.out ?_
  (try dsimp only)
  refine hK.out _ _ D11.out (fun hHeld => ?_)
  clear hK K
  try simp only [Act.put, List.setIfInBounds_toArray, List.set_cons_zero, List.set_cons_succ, List.getElem_toArray, List.getElem_cons_zero, List.getElem_cons_succ]
  refine wpAnyH_take (i := 24) (v := ?_) (by rfl) (by kernel_rfl) (by kernel_rfl) (by kernel_rfl) (fun _ _ _ h => h) (Or.inl ⟨by rfl, ?_⟩) hHeld ?_
  rotate_left
  · intro w' hSw
    (try dsimp only at hSw)
    simp only [List.getElem_toArray, List.getElem_cons_zero, List.getElem_cons_succ]
    go_simp
    all_goals (try with_reducible rfl)
  try simp only [Act.put, List.setIfInBounds_toArray, List.set_cons_zero, List.set_cons_succ, List.getElem_toArray, List.getElem_cons_zero, List.getElem_cons_succ]
  refine wpAnyH_done (by kernel_rfl) ?_ _
  refine NoPanic.normal ?_
  clear hHeld
  generalize hk9 : ({ kb with next := T.last, alert := T.alert, frag := T.frag } : Pk) = k9 at *
  generalize hw9 : (((((w6.setCell { block := w.heap.size, off := 38 } (Value.int IntKind.u8 T.last)).setCell { block := w.heap.size, off := 39 } (Value.slice A6 n6 n6)).setCell { block := w.heap.size, off := 33 } (Value.bool T.alert)).setRow w.heap.size (pc k9 (Value.slice A6 n6 n6)).toArray).setRow (w.heap.size + 1) (flc T.code T.place).toArray) = w9 at *
  clear T0 T9 T10 T11 L7 SH SL SLH D0 D5 D6 D7 D8 D9 D10 D11 VQ6 VR VYD VY5 hw5 hw9 hk9 VKK BE E7 E9
  obtain ⟨h0, h7⟩ := VE.out
  have b0 : (T.e != 0) = true := by simpa using h0
  have b7 : (T.e != 7) = true := by simpa using h7
  clear VE h0 h7
  have hzl3 : Hid ((pc k9 (.slice A6 n6 n6)).length = 40) := veil (pc_len E10.out)
  have T1 := veil (pkt_store (k := noPk) (v := nilV) VY11.out mem2 hzl3.out noPk_ends rfl)
  have Y8 := VY11.out.put 2 rfl (pc noPk nilV)
  simp only [List.set_cons_zero, List.set_cons_succ] at Y8
  have T2 := veil (store_all (P := Try.prog) (ty := 45) (vs := flc 0 0) (Y8.at mem1) (rfl) (sizeFl _ _) (one_fl _ _))
  have Y9 := veil (Y8.put 1 rfl (flc 0 0))
  simp only [List.set_cons_zero, List.set_cons_succ] at Y9
  have B1 := veil pkt_made
  have B2 := veil made_fl
  have VE := veil noPk_ends
  generalize noPk = kk at *
  clear Y8
  go_wp2_with (first
    | (refine wpList_build_of rfl 30 #[] rfl #[] (by simp) (B1.out _) ?_)
    | (refine wpList_build_of rfl 45 #[] rfl #[] (by simp) (B2.out _) ?_)
    | (refine wpList_store_of rfl _ _ rfl rfl rfl T1.out ?_)
    | (refine wpList_store_of rfl _ _ rfl rfl rfl T2.out ?_))
  refine bodyPost_ret (ret_cct rfl rfl rfl rfl (Y9.out.range mem2 (part_all _)) (Y9.out.range mem1 (part_all _)) Try.underlying30 rfl (sizePkt VE.out) Try.underlying45 rfl (sizeFl _ _)) rfl ?_
  exact ⟨none, 0, rfl, .inl ⟨rfl, rfl, rfl⟩, Y9.out.below⟩

/-- what Get answers, whatever bytes there are: packet, rest, code, place, error -/
def getB (zs : List Int) : Pk × List Int × Int × Int × Int :=
  if zs.length < 40 then (noPk, [], 0, 0, 5) else if ¬ zs.getD 0 0 / 16 = 6 then (noPk, [], 0, 0, 4) else if zs.length < 40 + manyB zs then (noPk, [], 0, 0, 5)
  else if (tellB zs).e = 0 ∨ (tellB zs).e = 7 then (gotK zs, (tellB zs).rest, (tellB zs).code, (tellB zs).place, (tellB zs).e) else (noPk, [], 0, 0, (tellB zs).e)
theorem codeGet (A : Option Addr) (n c : Nat) (zs : List Int) (w : World) (hs : Slc w (.slice A n c) zs) (hz : Byt zs) (hl : zs.length = n) (hn : n ≤ 16000000) :
    Calls Try.prog 18 #[.slice A n c] w (GotB w (getB zs).1 (getB zs).2.1 (getB zs).2.2.1 (getB zs).2.2.2.1 (getB zs).2.2.2.2) := by
  unfold getB
  rw [hl]
  by_cases h1 : n < 40
  · rw [if_pos h1]
    exact codeGet_short A n c zs w hs hz hl hn h1
  rw [if_neg h1]
  by_cases h2 : zs.getD 0 0 / 16 = 6
  · rw [if_neg (fun h => h h2)]
    by_cases h3 : n < 40 + manyB zs
    · rw [if_pos h3]
      exact codeGet_less A n c zs w hs hz hl hn (by omega) h2 h3
    rw [if_neg h3]
    by_cases h4 : (tellB zs).e = 0 ∨ (tellB zs).e = 7
    · rw [if_pos h4]
      exact codeGet_told A n c zs w hs hz hl hn (by omega) h2 (by omega) h4
    · rw [if_neg h4]
      exact codeGet_none A n c zs w hs hz hl hn (by omega) h2 (by omega) (not_or.1 h4)
  · rw [if_pos h2]
    exact codeGet_form A n c zs w hs hz hl hn (by omega) h2
end Go.Proofs.Ytfkjfdmepeahnaa.Hd
