/-
  EthersPut: whatever frame it is, its bytes are the chapter's; it stays, and nothing is shared: the law returns true for every input, and its arguments read as before.
  Conditions: none.
-/
import Derived.Test.YtihhbniceiammaaFrmO
namespace Go.Proofs.Ytihhbniceiammaa.ethersPut
open Go.ChangeShapes Go.WideShapes Go.ChangeAt Go.RowKit Go.Proofs.Ytihhbniceiammaa.Et

set_option linter.unusedSimpArgs false in
set_option maxHeartbeats 4000000 in
theorem walk (d s xs : List Int) (k : Int) (A : Option Addr) (n c : Nat) (zs : List Int) (w : World) (H : Fits w d s k A n c zs) (hx : xs.length = 16) (h5 : n ≤ 5000) :
    Calls Try.prog 3 #[fv d s k (.slice A n c), av xs] w fun e w' => e = .returned (.bool true) ∧ Below w.heap.size w w' := by
  have HS := veil H.slc
  have HR := veil (slc_rd H.slc).1
  have HL := veil H.len
  have HM := veil H.m
  have HK := veil H.k
  have HX := veil hx
  have FL : Hid ((fb d s k zs).length = 14 + n) := by rw [← H.len]; exact fb_len H.m
  have KR : Hid (∀ u, Below w.heap.size w u → Calls Try.prog 12 #[fv d s k (.slice A n c)] u (Gives u (fb d s k zs))) := fun u hb => refPut_any d s k A n c zs u HM.out HK.out (by omega) (HS.out.keep hb)
  have KG := veil (fun u => group_any xs u hx)
  have KH := veil (fun u => refGroup_any xs u hx)
  have GL := veil (grp_len hx)
  have n16 : n ≤ 16000000 := by omega
  have i3 : ¬ (5000 : Int) < (n : Int) := by omega
  have Y := ((Lay.begin w).new (fc d s k (.slice A n c)) 27 (g := w.heap.size) rfl).new (bv xs) 29 (g := w.heap.size + 1) (by simp)
  have b0 := (frmAt Y mem1 HM.out).body
  have L := veil (frmAt Y mem1 HM.out).all
  have K := veil (twinFrame_any d s k A n c zs _ HM.out HL.out n16 (HR.out.keep Y.below))
  have VY := veil Y
  clear Y H hx
  go_enter Try.func3, Try.ntmps3
  go_wp2_with (refine wpList_load_of rfl _ rfl rfl L.out ?_)
  refine (K.out).mono ?_
  rintro e w1 ⟨g, hg, rfl, t1, q⟩
  have hwg : w.heap.size ≤ g := Nat.le_trans VY.out.size hg
  have Y1 := VY.out.got q t1 hg
  clear K L q t1 b0 hg VY
  obtain ⟨Z, hZ⟩ : ∃ Z, Z = zf := ⟨_, rfl⟩
  have hzl : Hid (Z.toList.length = 14) := by rw [hZ]; exact rfl
  have Y2 := Y1.newA Z 27 (g := w1.heap.size) rfl
  have T := veil (frm_store (d := d) (s := s) (k := k) (v := .slice (some ⟨g, 0, none⟩) n (n + 4)) Y2 mem0 hzl.out HM.out rfl)
  have Y3 := Y2.put 0 rfl (fc d s k (.slice (some ⟨g, 0, none⟩) n (n + 4)))
  simp only [List.set_cons_zero] at Y3
  obtain ⟨u1, hu⟩ : ∃ u, (w1.alloc (.cells Z 27)).setRow w1.heap.size (fc d s k (.slice (some ⟨g, 0, none⟩) n (n + 4))).toArray = u := ⟨_, rfl⟩
  rw [hu] at T Y3
  have L := veil (frmAt Y3 mem0 HM.out).all
  have K := veil (put_any d s k (some ⟨g, 0, none⟩) n (n + 4) zs u1 HM.out HK.out HL.out n16 (TwinAt.rd (Y3.at mem1)))
  have VY := veil Y3
  clear Y1 Y2 Y3 hu
  generalize fb d s k zs = l at *
  unfold zf at hZ
  subst hZ
  go_wp2_with (first
    | (refine wpList_store_of rfl _ _ rfl rfl rfl T.out ?_)
    | (refine wpList_load_of rfl _ rfl rfl L.out ?_))
  clear T hzl L
  generalize w1.heap.size = gt at *
  refine (K.out).mono ?_
  rintro e w2 ⟨gp, hgp, rfl, r2, q⟩
  have hgl := VY.out.lt mem1
  have hne : g ≠ gp := by omega
  have hwp : w.heap.size ≤ gp := Nat.le_trans VY.out.size hgp
  have VY := veil (VY.out.got q r2 hgp)
  clear K q r2 hgp hgl
  have EN : ∀ u, (binOp .neq 23 (av (grp xs)) (av (grp xs))).run Try.prog u = .ok (.bool false) u := fun u => mac_neq (z := true) u GL.out GL.out (by simp)
  generalize grp xs = mx at *
  go_wp2_with fail
  have VY := veil VY.out.drew
  refine wp_region_noPanic ?_
  refine wp_region_held_drew (S := (fun w' => w'.rangeAt w.heap.size 0 (fc d s k (.slice A n c)) ∧ w'.rangeAt gt 0 (fc d s k (.slice (some ⟨g, 0, none⟩) n (n + 4))) ∧ w'.rangeAt (w.heap.size + 1) 0 (bv xs))) (by kernel_rfl) ⟨VY.out.range mem4 (part_all _), VY.out.range mem1 (part_all _), VY.out.range mem3 (part_all _)⟩ (fun hHeld => ?_)
  refine wpAnyH_take (i := 0) (v := ?_) (by rfl) (by kernel_rfl) (by kernel_rfl) (by kernel_rfl) (fun _ _ _ h => h) (Or.inl ⟨by rfl, ?_⟩) hHeld ?_
  rotate_left
  · intro w' hSw
    (try dsimp only at hSw)
    simp only [List.getElem_toArray, List.getElem_cons_zero, List.getElem_cons_succ]
    go_simp
    all_goals (try with_reducible rfl)
  try simp only [Act.put, List.setIfInBounds_toArray, List.set_cons_zero, List.set_cons_succ, List.getElem_toArray, List.getElem_cons_zero, List.getElem_cons_succ]
  refine wpAnyH_take (i := 1) (v := _) (by rfl) (by kernel_rfl) (by kernel_rfl) (by kernel_rfl) (fun _ _ _ h => h) (yieldsIf_load_mid (by rfl) _ _ (by rfl) _ _ rfl (fc d s k (.slice A n c)) _ (fun _ h => h.1) Try.underlying27 rfl (sizeFrm HM.out)) hHeld ?_
  try simp only [Act.put, List.setIfInBounds_toArray, List.set_cons_zero, List.set_cons_succ, List.getElem_toArray, List.getElem_cons_zero, List.getElem_cons_succ]
  refine wpAnyH_ready (rs := [2]) (by kernel_rfl) (by simp) ?_
  refine AllReadyH.cons (by rfl) (fun K hK => ?_) AllReadyH.nil
  simp only [List.getElem_toArray, List.getElem_cons_zero, List.getElem_cons_succ]
  go_simp
  refine (KR.out _ VY.out.below).mono ?_
  rintro e v1 ⟨A3, m3, c3, rfl, hm3, ho3, q⟩
  obtain rfl : m3 = 14 + n := by rw [hm3]; exact FL.out
  have d3 := veil (slc_rd ho3.slc).1
  clear hm3 ho3 KR
  have VY := veil (VY.out.keep q)
  clear q
  (try dsimp only)
  refine hK.out _ _ ⟨VY.out.range mem4 (part_all _), VY.out.range mem1 (part_all _), VY.out.range mem3 (part_all _)⟩ (fun hHeld => ?_)
  clear hK K
  try simp only [Act.put, List.setIfInBounds_toArray, List.set_cons_zero, List.set_cons_succ, List.getElem_toArray, List.getElem_cons_zero, List.getElem_cons_succ]
  refine wpAnyH_ready (rs := [3]) (by kernel_rfl) (by simp) ?_
  refine AllReadyH.cons (by rfl) (fun K hK => ?_) AllReadyH.nil
  simp only [List.getElem_toArray, List.getElem_cons_zero, List.getElem_cons_succ]
  go_simp
  refine (sameBytes_eq (some ⟨gp, 0, none⟩) A3 (14 + n) (14 + n) c3 l v1 FL.out (by unfold maxLen; omega) (rd_lit (VY.out.at mem0) rfl) d3.out).mono ?_
  rintro e v2 ⟨rfl, hst⟩
  have VY := veil (VY.out.still hst)
  clear hst d3
  (try dsimp only)
  refine hK.out _ _ ⟨VY.out.range mem4 (part_all _), VY.out.range mem1 (part_all _), VY.out.range mem3 (part_all _)⟩ (fun hHeld => ?_)
  clear hK K
  try simp only [Act.put, List.setIfInBounds_toArray, List.set_cons_zero, List.set_cons_succ, List.getElem_toArray, List.getElem_cons_zero, List.getElem_cons_succ]
  refine wpAnyH_take (i := 4) (v := ?_) (by rfl) (by kernel_rfl) (by kernel_rfl) (by kernel_rfl) (fun _ _ _ h => h) (Or.inl ⟨by rfl, ?_⟩) hHeld ?_
  rotate_left
  · intro w' hSw
    (try dsimp only at hSw)
    simp only [List.getElem_toArray, List.getElem_cons_zero, List.getElem_cons_succ]
    go_simp
    all_goals (try with_reducible rfl)
  try simp only [Act.put, List.setIfInBounds_toArray, List.set_cons_zero, List.set_cons_succ, List.getElem_toArray, List.getElem_cons_zero, List.getElem_cons_succ]
  refine wpAnyH_take (i := 5) (v := ?_) (by rfl) (by kernel_rfl) (by kernel_rfl) (by kernel_rfl) (fun _ _ _ h => h) (Or.inl ⟨by rfl, ?_⟩) hHeld ?_
  rotate_left
  · intro w' hSw
    (try dsimp only at hSw)
    simp only [List.getElem_toArray, List.getElem_cons_zero, List.getElem_cons_succ]
    go_simp
    all_goals (try with_reducible rfl)
  try simp only [Act.put, List.setIfInBounds_toArray, List.set_cons_zero, List.set_cons_succ, List.getElem_toArray, List.getElem_cons_zero, List.getElem_cons_succ]
  refine wpAnyH_take (i := 6) (v := _) (by rfl) (by kernel_rfl) (by kernel_rfl) (by kernel_rfl) (fun _ _ _ h => h) (yieldsIf_load_mid (by rfl) _ _ (by rfl) _ _ rfl (fc d s k (.slice (some ⟨g, 0, none⟩) n (n + 4))) _ (fun _ h => h.2.1) Try.underlying27 rfl (sizeFrm HM.out)) hHeld ?_
  try simp only [Act.put, List.setIfInBounds_toArray, List.set_cons_zero, List.set_cons_succ, List.getElem_toArray, List.getElem_cons_zero, List.getElem_cons_succ]
  refine wpAnyH_take (i := 7) (v := _) (by rfl) (by kernel_rfl) (by kernel_rfl) (by kernel_rfl) (fun _ _ _ h => h) (yieldsIf_load_mid (by rfl) _ _ (by rfl) _ _ rfl (fc d s k (.slice A n c)) _ (fun _ h => h.1) Try.underlying27 rfl (sizeFrm HM.out)) hHeld ?_
  try simp only [Act.put, List.setIfInBounds_toArray, List.set_cons_zero, List.set_cons_succ, List.getElem_toArray, List.getElem_cons_zero, List.getElem_cons_succ]
  refine wpAnyH_ready (rs := [8]) (by kernel_rfl) (by simp) ?_
  refine AllReadyH.cons (by rfl) (fun K hK => ?_) AllReadyH.nil
  simp only [List.getElem_toArray, List.getElem_cons_zero, List.getElem_cons_succ]
  go_simp
  refine (leftFrame_true d s k g A n (n + 4) c zs v2 HM.out HL.out n16 (VY.out.at mem2) (HR.out.keep VY.out.below) (Nat.le_refl _)).mono ?_
  rintro e v3 ⟨rfl, q⟩
  have VY := veil (VY.out.keep q)
  clear q
  (try dsimp only)
  refine hK.out _ _ ⟨VY.out.range mem4 (part_all _), VY.out.range mem1 (part_all _), VY.out.range mem3 (part_all _)⟩ (fun hHeld => ?_)
  clear hK K
  try simp only [Act.put, List.setIfInBounds_toArray, List.set_cons_zero, List.set_cons_succ, List.getElem_toArray, List.getElem_cons_zero, List.getElem_cons_succ]
  refine wpAnyH_take (i := 9) (v := ?_) (by rfl) (by kernel_rfl) (by kernel_rfl) (by kernel_rfl) (fun _ _ _ h => h) (Or.inl ⟨by rfl, ?_⟩) hHeld ?_
  rotate_left
  · intro w' hSw
    (try dsimp only at hSw)
    simp only [List.getElem_toArray, List.getElem_cons_zero, List.getElem_cons_succ]
    go_simp
    all_goals (try with_reducible rfl)
  try simp only [Act.put, List.setIfInBounds_toArray, List.set_cons_zero, List.set_cons_succ, List.getElem_toArray, List.getElem_cons_zero, List.getElem_cons_succ]
  refine wpAnyH_take (i := 10) (v := ?_) (by rfl) (by kernel_rfl) (by kernel_rfl) (by kernel_rfl) (fun _ _ _ h => h) (Or.inl ⟨by rfl, ?_⟩) hHeld ?_
  rotate_left
  · intro w' hSw
    (try dsimp only at hSw)
    simp only [List.getElem_toArray, List.getElem_cons_zero, List.getElem_cons_succ]
    go_simp
    all_goals (try with_reducible rfl)
  try simp only [Act.put, List.setIfInBounds_toArray, List.set_cons_zero, List.set_cons_succ, List.getElem_toArray, List.getElem_cons_zero, List.getElem_cons_succ]
  refine wpAnyH_take (i := 11) (v := ?_) (by rfl) (by kernel_rfl) (by kernel_rfl) (by kernel_rfl) (fun _ _ _ h => h) (Or.inl ⟨by rfl, ?_⟩) hHeld ?_
  rotate_left
  · intro w' hSw
    (try dsimp only at hSw)
    simp only [List.getElem_toArray, List.getElem_cons_zero, List.getElem_cons_succ]
    go_simp
    all_goals (try with_reducible rfl)
  try simp only [Act.put, List.setIfInBounds_toArray, List.set_cons_zero, List.set_cons_succ, List.getElem_toArray, List.getElem_cons_zero, List.getElem_cons_succ]
  refine wpAnyH_take (i := 12) (v := _) (by rfl) (by kernel_rfl) (by kernel_rfl) (by kernel_rfl) (fun _ _ _ h => h) (yieldsIf_load_mid (by rfl) _ _ (by rfl) _ _ rfl (bv xs) _ (fun _ h => h.2.2) Try.underlying29 rfl (sizeAddr HX.out)) hHeld ?_
  try simp only [Act.put, List.setIfInBounds_toArray, List.set_cons_zero, List.set_cons_succ, List.getElem_toArray, List.getElem_cons_zero, List.getElem_cons_succ]
  refine wpAnyH_take (i := 14) (v := _) (by rfl) (by kernel_rfl) (by kernel_rfl) (by kernel_rfl) (fun _ _ _ h => h) (yieldsIf_load_mid (by rfl) _ _ (by rfl) _ _ rfl (bv xs) _ (fun _ h => h.2.2) Try.underlying29 rfl (sizeAddr HX.out)) hHeld ?_
  try simp only [Act.put, List.setIfInBounds_toArray, List.set_cons_zero, List.set_cons_succ, List.getElem_toArray, List.getElem_cons_zero, List.getElem_cons_succ]
  refine wpAnyH_ready (rs := [13]) (by kernel_rfl) (by simp) ?_
  refine AllReadyH.cons (by rfl) (fun K hK => ?_) AllReadyH.nil
  simp only [List.getElem_toArray, List.getElem_cons_zero, List.getElem_cons_succ]
  go_simp
  refine (KG.out _).mono ?_
  rintro e v4 ⟨rfl, q⟩
  have VY := veil (VY.out.keep q)
  clear q
  (try dsimp only)
  refine hK.out _ _ ⟨VY.out.range mem4 (part_all _), VY.out.range mem1 (part_all _), VY.out.range mem3 (part_all _)⟩ (fun hHeld => ?_)
  clear hK K
  try simp only [Act.put, List.setIfInBounds_toArray, List.set_cons_zero, List.set_cons_succ, List.getElem_toArray, List.getElem_cons_zero, List.getElem_cons_succ]
  refine wpAnyH_ready (rs := [15]) (by kernel_rfl) (by simp) ?_
  refine AllReadyH.cons (by rfl) (fun K hK => ?_) AllReadyH.nil
  simp only [List.getElem_toArray, List.getElem_cons_zero, List.getElem_cons_succ]
  go_simp
  refine (KH.out _).mono ?_
  rintro e v5 ⟨rfl, q⟩
  have VY := veil (VY.out.keep q)
  clear q
  (try dsimp only)
  refine hK.out _ _ ⟨VY.out.range mem4 (part_all _), VY.out.range mem1 (part_all _), VY.out.range mem3 (part_all _)⟩ (fun hHeld => ?_)
  clear hK K
  try simp only [Act.put, List.setIfInBounds_toArray, List.set_cons_zero, List.set_cons_succ, List.getElem_toArray, List.getElem_cons_zero, List.getElem_cons_succ]
  refine wpAnyH_take (i := 16) (v := ?_) (by rfl) (by kernel_rfl) (by kernel_rfl) (by kernel_rfl) (fun _ _ _ h => h) (Or.inl ⟨by rfl, ?_⟩) hHeld ?_
  rotate_left
  · intro w' hSw
    (try dsimp only at hSw)
    simp only [List.getElem_toArray, List.getElem_cons_zero, List.getElem_cons_succ]
    go_simp
    all_goals (try with_reducible rfl)
  try simp only [Act.put, List.setIfInBounds_toArray, List.set_cons_zero, List.set_cons_succ, List.getElem_toArray, List.getElem_cons_zero, List.getElem_cons_succ]
  refine wpAnyH_take (i := 17) (v := ?_) (by rfl) (by kernel_rfl) (by kernel_rfl) (by kernel_rfl) (fun _ _ _ h => h) (Or.inl ⟨by rfl, ?_⟩) hHeld ?_
  rotate_left
  · intro w' hSw
    (try dsimp only at hSw)
    simp only [List.getElem_toArray, List.getElem_cons_zero, List.getElem_cons_succ]
    go_simp
    all_goals (try with_reducible rfl)
  try simp only [Act.put, List.setIfInBounds_toArray, List.set_cons_zero, List.set_cons_succ, List.getElem_toArray, List.getElem_cons_zero, List.getElem_cons_succ]
  refine wpAnyH_done (by kernel_rfl) ?_ _
  refine NoPanic.normal ?_
  clear hHeld
  clear EN
  have hB := book_new v5
  have Y1 := VY.out.keep (below_new v5 (.cells #[.slice none 0 0] 38))
  have s6 : v5.heap.size ≤ (v5.alloc (.cells #[.slice none 0 0] 38)).heap.size := by simp
  have s5 : w.heap.size ≤ v5.heap.size := VY.out.size
  have b0 := (frmAt Y1 mem1 HM.out).body
  have VY := veil Y1
  replace hB := veil hB
  clear Y1
  go_wp2_with fail
  replace hB := hB.out
  generalize v5.alloc (.cells #[.slice none 0 0] 38) = w6 at *
  generalize v5.heap.size = kb at *
  refine (note_any w6 kb kb [] _ _ _ hB (by simp) s6).mono ?_
  rintro e w7 ⟨rfl, ⟨x7, y7, hB7⟩, hf7⟩
  have Y2 := VY.out.bfB hf7 s5 (by rfl)
  have s7 : kb ≤ w7.heap.size := Nat.le_trans s6 hf7.1.size
  have VY := veil Y2
  have HB := veil hB7
  clear hB hB7 hf7 Y2 s6 b0
  go_wp2_with fail
  refine (note_any w7 kb kb _ _ _ _ HB.out (by simp) s7).mono ?_
  rintro e w8 ⟨rfl, ⟨x8, y8, hB8⟩, hf8⟩
  have Y3 := VY.out.bfB hf8 s5 (by rfl)
  have hA : Hid (Calls Try.prog 17 #[.pointer (some ⟨kb, 0, none⟩)] w8 fun e w' => e = .returned (.bool true) ∧ Below w.heap.size w w') := by
    have hl' := HL.out
    have fl' := FL.out
    refine apart_any w.heap.size w w8 kb kb _ hB8 (by simp) Y3.below Y3.below.size ?_ ?_ ?_
    · intro i L hi
      match i with
      | 0 => simp at hi; subst hi; exact ⟨by simp, by simp; omega, fun _ => ⟨_, _, _, rfl, Y3.at mem2, by simp [bv_length, hl']⟩⟩
      | 1 => simp at hi; subst hi; exact ⟨by simp, by simp; omega, fun _ => ⟨_, _, _, rfl, Y3.at mem0, by simp [bv_length, fl']⟩⟩
      | i + 2 => simp at hi
    · intro i j L M hi hj hij b1 o1 o2 h3 h4
      exfalso
      match i, j with
      | 0, 0 => exact hij rfl
      | 1, 1 => exact hij rfl
      | 0, 1 => simp at hi hj; subst hi hj; simp at h3 h4; omega
      | 1, 0 => simp at hi hj; subst hi hj; simp at h3 h4; omega
      | i + 2, _ => simp at hi
      | 0, j + 2 => simp at hj
      | 1, j + 2 => simp at hj
    · intro i L a hi ha
      match i with
      | 0 => simp at hi; subst hi; simp at ha; subst ha; exact hwg
      | 1 => simp at hi; subst hi; simp at ha; subst ha; exact hwp
      | i + 2 => simp at hi
  clear hB8 hf8 HB Y3 VY
  go_wp2_with fail
  refine (hA.out).mono ?_
  rintro e w9 ⟨rfl, b9⟩
  clear hA
  go_wp2_with fail
  refine (lives_true _).mono ?_
  rintro e w10 ⟨rfl, q⟩
  go_wp2_with fail
  go_ret
  exact ⟨rfl, b9.trans (q.mono b9.size)⟩

/-- more than are gone through -/
theorem walk_more (d s xs : List Int) (k : Int) (A : Option Addr) (n c : Nat) (w : World) (M : Macs d s) (h : 5000 < n) :
    Calls Try.prog 3 #[fv d s k (.slice A n c), av xs] w fun e w' => e = .returned (.bool true) ∧ Below w.heap.size w w' := by
  have Y := ((Lay.begin w).new (fc d s k (.slice A n c)) 27 (g := w.heap.size) rfl).new (bv xs) 29 (g := w.heap.size + 1) (by simp)
  have b0 := (frmAt Y mem1 M).body
  have VY := veil Y
  have i1 : (5000 : Int) < (n : Int) := by omega
  clear Y M
  go_enter Try.func3, Try.ntmps3
  go_wp2_with fail
  refine (lives_true _).mono ?_
  rintro e w1 ⟨rfl, q⟩
  have VY := veil (VY.out.keep q)
  clear q b0
  go_wp2_with fail
  go_ret
  exact ⟨rfl, VY.out.below⟩

theorem own : ownKnob Try.prog.godebug = none := by kernel_rfl
theorem readable : ∀ t ∈ Try.f3.params.toList, Try.prog.readableRec t = true ∧ t < Try.prog.types.size := by
  rw [Try.params3]
  intro t ht
  simp at ht
  rcases ht with rfl | rfl
  · exact ⟨by kernel_rfl, of_decide_eq_true (by kernel_rfl)⟩
  · exact ⟨by kernel_rfl, of_decide_eq_true (by kernel_rfl)⟩

set_option maxRecDepth 100000 in
theorem lifted (os : Os) (started : os.Started) (H : Type) (enc : TypeId × Value → H) :
    ReturnsInHanded {} Try.checked os 3 .any (Rows.ethersPutSpec.pre6 enc Try.prog Try.f3 Rows.ethersPutRow.domain false) (Rows.ethersPutSpec.post enc Try.prog Try.f3 false true false false) := by
  refine returnsInHanded_of_change_sized (C := Try.checked) own started (by kernel_rfl) Try.func3
    (ChangeSpec.witness6 (enc := enc) (C := Try.checked) false ⟨#[], #[.agg #[.int .u8 0, .int .u8 0, .int .u8 0, .int .u8 0, .int .u8 0, .int .u8 0, .int .u8 0, .int .u8 0, .int .u8 0, .int .u8 0, .int .u8 0, .int .u8 0, .int .u16 0, .slice none 0 0], .agg #[.int .u8 0, .int .u8 0, .int .u8 0, .int .u8 0, .int .u8 0, .int .u8 0, .int .u8 0, .int .u8 0, .int .u8 0, .int .u8 0, .int .u8 0, .int .u8 0, .int .u8 0, .int .u8 0, .int .u8 0, .int .u8 0]], []⟩ 8 (by kernel_rfl) (by kernel_rfl) (by kernel_rfl) (by kernel_rfl)) ?_
  intro W base args ds gs before hval0 hW _ hsz0 _
  have hval : ∀ (j : Nat) t v, Try.f3.params[j]? = some t → args[j]? = some v → Value.okWide Try.prog W .any base t v := hval0
  have hW' := hW
  obtain ⟨p, q, hA0, hV, rfl, _, _⟩ := hW
  have hA : DataW.TrodAll enc Try.prog W 0 (fun _ => true) true Try.f3.params.toList args.toList ds p := hA0
  rw [Try.params3] at hA hval
  obtain ⟨v0, vs0, d0, ds0, p0, q0, hargs, rfl, rfl, h0, r0⟩ := trodAll_cons hA
  obtain ⟨v1, vs1, d1, ds1, p1, q1, rfl, rfl, rfl, h1, r1⟩ := trodAll_cons r0
  obtain ⟨rfl, rfl, rfl⟩ := trodAll_nil r1
  obtain rfl : args = #[v0, v1] := by cases args; simp_all
  obtain ⟨rfl, rfl⟩ := trodVars_none hV
  obtain ⟨d, s, k, A, n, c, zs, rfl, F⟩ := open_frame (hval 0 27 v0 rfl rfl) (opens_arg h0 (slim_of hsz0 (j := 0) rfl rfl))
  obtain ⟨xs, rfl, hx, _⟩ := open_addr (hval 1 29 v1 rfl rfl) (opens_arg h1 (slim_of hsz0 (j := 1) rfl rfl))
  have hw : Calls Try.prog 3 #[fv d s k (.slice A n c), av xs] W fun e w' => e = .returned (.bool true) ∧ Below W.heap.size W w' := by
    by_cases h : n ≤ 5000
    · exact walk d s xs k A n c zs W F hx h
    · exact walk_more d s xs k A n c W F.m (by omega)
  refine hw.mono fun e W' ⟨he, hb⟩ => ?_
  subst he
  exact ⟨_, rfl, law_post (by kernel_rfl) rfl rfl Try.underlying4 readable hW' rfl hb⟩

/-- EthersPut, as given -/
theorem holds : Rows.EthersPutSaid :=
  OpenClaim.holds_of_wide 3 Try.f3 rfl rfl rfl rfl rfl rfl rfl ⟨rfl, rfl, rfl, rfl, rfl⟩ rfl rfl rfl rfl rfl (by kernel_rfl) Try.func3 (by kernel_rfl)
    (of_decide_eq_true (by kernel_rfl)) (by unfold Func.isWrapper; first | (rw [if_pos (by decide +kernel)]; kernel_rfl) | (rw [if_neg (by decide +kernel)]; exact ⟨rfl, rfl⟩))
    (fun os started H enc _ => lifted os started H enc)

#print axioms holds
end Go.Proofs.Ytihhbniceiammaa.ethersPut
