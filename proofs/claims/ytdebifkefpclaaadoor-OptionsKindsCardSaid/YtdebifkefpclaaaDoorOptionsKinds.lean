/-
  OptionsKinds: of another kind nothing is read from an option, but that six bytes may be an address of the link, or the greatest packet; with a byte more, or fewer, nothing is: the law returns true for every input, and its arguments read as before; the tables that the row lists are tied to the program's text.
  Conditions: none.
-/
import Derived.Test.YtdebifkefpclaaaDoorOpoKl
namespace Go.Proofs.YtdebifkefpclaaaDoor.optionsKinds
set_option maxRecDepth 100000
open Go.ChangeShapes Go.WideShapes Go.ChangeAt Go.RowKit Go.Proofs.YtdebifkefpclaaaDoor.Oz Ops


set_option linter.unusedSimpArgs false in
set_option maxHeartbeats 32000000 in
theorem walk_all (p : Pt) (bs0 : List Int) (az : List (List Int)) (ss : List Str) (q : Int) (w : World) (H : Oz.Has w p bs0 az ss) (hm : Mx w) (hl4 : lenP p ss ≤ 4000) (hs1 : 0 < p.sn) :
    Calls Tryd.prog 8 #[.agg (ptc p).toArray, .int .u8 q] w fun e w' => e = .returned (.bool true) ∧ Below w.heap.size w w' := by
  have Y0 := (Lay.begin w).new (ptc p) 58 (g := w.heap.size) rfl
  have L1 := veil (Y0.load (P := Tryd.prog) (ty := 58) (vs := ptc p) mem0 (part_all _) Tryd.underlying58 rfl (by rw [ptc_len H.mac H.info H.non]; exact sizePT))
  have K := long_any p bs0 az ss w _ H Y0.below
  rw [decide_eq_false (by omega)] at K
  replace K := veil K
  have VY := veil Y0
  have HM := veil hm
  have hsn : p.sn ≤ 250 := by unfold lenP at hl4; omega
  have HAT := veil (And.intro H.at.2.1 (And.intro H.at.2.2.1 (And.intro H.at.2.2.2.2.1 H.at.2.2.2.2.2.2.1)))
  have h36 := H.at.2.2.2.2.2.2.1
  have HH := veil H
  have HSN := veil (And.intro hs1 hsn)
  have i1 : ((p.sn : Int) == 0) = false := by simp; omega
  have HPL := veil (pic_len H.info)
  have KI := veil (fun v (hv : Below w.heap.size w v) => info_any p.info v H.info)
  clear Y0 hm H hl4 hs1
  generalize ptc p = C at *
  obtain ⟨PC, hPC⟩ : ∃ PC, pic p.info = PC := ⟨_, rfl⟩
  rw [hPC] at HPL HAT KI
  generalize hw1 : w.alloc (.cells C.toArray 58) = w1 at *
  obtain ⟨g0, hg0⟩ : ∃ g, w.heap.size = g := ⟨_, rfl⟩
  have HG0 := veil hg0
  rw [hg0] at VY L1
  go_enter Tryd.func8, Tryd.ntmps8
  go_wp2_with (refine wpList_load_of rfl (.tmp 2) rfl rfl L1.out ?_)
  clear hw1
  refine (K.out).mono ?_
  rintro e w2 ⟨rfl, q2⟩
  have VY := veil (VY.out.keep q2)
  have c36 := VY.out.look mem0 h36
  clear K q2 L1 h36 hg0 hPC
  go_wp2_with fail
  clear c36
  have CC : Hid (∀ (v : World) (L : List Blk), Lay w v L → (g0, 58, C) ∈ L → v.rangeAt g0 1 (bv p.mac) ∧ v.rangeAt g0 7 PC ∧ v.cell? ⟨g0, 29, none⟩ = some (.int .u32 p.n) ∧ v.cell? ⟨g0, 36, none⟩ = some (.slice p.sA p.sn p.sc)) :=
    veil (fun v L hl hm => ⟨hl.range hm HAT.out.1, hl.range hm HAT.out.2.1, hl.look hm HAT.out.2.2.1, hl.look hm HAT.out.2.2.2⟩)
  have VY := veil VY.out.drew
  have C0 := veil (CC.out _ _ VY.out mem0)
  have K1 := veil (fun v (_ : Below w.heap.size w v) => link_any 1 p.mac v HH.out.mac)
  have K2 := KI
  have K3 := veil (fun v (_ : Below w.heap.size w v) => mtu_any p.n v HH.out.n)
  have K4 := veil (fun v (hv : Below w.heap.size w v) => servers_any p.n p.sA p.sn p.sc az v HH.out.n HH.out.sl (by have := HSN.out; omega) (HH.out.s.keep hv))
  clear KI
  refine wp_region_noPanic ?_
  refine wp_region_held_drew (S := fun w' => w'.rangeAt g0 1 (bv p.mac) ∧ w'.rangeAt g0 7 PC ∧ w'.cell? ⟨g0, 29, none⟩ = some (.int .u32 p.n) ∧ w'.cell? ⟨g0, 36, none⟩ = some (.slice p.sA p.sn p.sc)) (by kernel_rfl) C0.out (fun hHeld => ?_)
  refine wpAnyH_take (i := 0) (v := ?_) (by rfl) (by kernel_rfl) (by kernel_rfl) (by kernel_rfl) (fun _ _ _ h => h) (Or.inl ⟨by rfl, ?_⟩) hHeld ?_
  rotate_left
  · intro w' hSw
    (try dsimp only at hSw)
    simp only [List.getElem_toArray, List.getElem_cons_zero, List.getElem_cons_succ]
    go_simp
    all_goals (try with_reducible rfl)
  try simp only [Act.put, List.setIfInBounds_toArray, List.set_cons_zero, List.set_cons_succ, List.getElem_toArray, List.getElem_cons_zero, List.getElem_cons_succ]
  refine wpAnyH_take (i := 1) (v := _) (by rfl) (by kernel_rfl) (by kernel_rfl) (by kernel_rfl) (fun _ _ _ h => h) (yieldsIf_load_mid (by rfl) _ _ (by rfl) _ _ rfl (bv p.mac) _ (fun _ h => h.1) Tryd.underlying47 rfl (by rw [bv_length, HH.out.mac]; kernel_rfl)) hHeld ?_
  try simp only [Act.put, List.setIfInBounds_toArray, List.set_cons_zero, List.set_cons_succ, List.getElem_toArray, List.getElem_cons_zero, List.getElem_cons_succ]
  refine wpAnyH_take (i := 3) (v := ?_) (by rfl) (by kernel_rfl) (by kernel_rfl) (by kernel_rfl) (fun _ _ _ h => h) (Or.inl ⟨by rfl, ?_⟩) hHeld ?_
  rotate_left
  · intro w' hSw
    (try dsimp only at hSw)
    simp only [List.getElem_toArray, List.getElem_cons_zero, List.getElem_cons_succ]
    go_simp
    all_goals (try with_reducible rfl)
  try simp only [Act.put, List.setIfInBounds_toArray, List.set_cons_zero, List.set_cons_succ, List.getElem_toArray, List.getElem_cons_zero, List.getElem_cons_succ]
  refine wpAnyH_take (i := 4) (v := _) (by rfl) (by kernel_rfl) (by kernel_rfl) (by kernel_rfl) (fun _ _ _ h => h) (yieldsIf_load_mid (by rfl) _ _ (by rfl) _ _ rfl PC _ (fun _ h => h.2.1) Tryd.underlying54 rfl (by rw [HPL.out]; exact sizePI)) hHeld ?_
  try simp only [Act.put, List.setIfInBounds_toArray, List.set_cons_zero, List.set_cons_succ, List.getElem_toArray, List.getElem_cons_zero, List.getElem_cons_succ]
  refine wpAnyH_take (i := 6) (v := ?_) (by rfl) (by kernel_rfl) (by kernel_rfl) (by kernel_rfl) (fun _ _ _ h => h) (Or.inl ⟨by rfl, ?_⟩) hHeld ?_
  rotate_left
  · intro w' hSw
    (try dsimp only at hSw)
    simp only [List.getElem_toArray, List.getElem_cons_zero, List.getElem_cons_succ]
    go_simp
    all_goals (try with_reducible rfl)
  try simp only [Act.put, List.setIfInBounds_toArray, List.set_cons_zero, List.set_cons_succ, List.getElem_toArray, List.getElem_cons_zero, List.getElem_cons_succ]
  refine wpAnyH_take (i := 7) (v := ?_) (by rfl) (by kernel_rfl) (by kernel_rfl) (by kernel_rfl) (fun _ _ _ h => h) (Or.inl ⟨by rfl, ?_⟩) hHeld ?_
  rotate_left
  · intro w' hSw
    (try dsimp only at hSw)
    simp only [List.getElem_toArray, List.getElem_cons_zero, List.getElem_cons_succ]
    go_simp
    all_goals (try with_reducible rfl)
  try simp only [Act.put, List.setIfInBounds_toArray, List.set_cons_zero, List.set_cons_succ, List.getElem_toArray, List.getElem_cons_zero, List.getElem_cons_succ]
  refine wpAnyH_take (i := 9) (v := ?_) (by rfl) (by kernel_rfl) (by kernel_rfl) (by kernel_rfl) (fun _ _ _ h => h) (Or.inl ⟨by rfl, ?_⟩) hHeld ?_
  rotate_left
  · intro w' hSw
    (try dsimp only at hSw)
    simp only [List.getElem_toArray, List.getElem_cons_zero, List.getElem_cons_succ]
    go_simp
    all_goals (try with_reducible rfl)
  try simp only [Act.put, List.setIfInBounds_toArray, List.set_cons_zero, List.set_cons_succ, List.getElem_toArray, List.getElem_cons_zero, List.getElem_cons_succ]
  refine wpAnyH_take (i := 10) (v := ?_) (by rfl) (by kernel_rfl) (by kernel_rfl) (by kernel_rfl) (fun _ _ _ h => h) (Or.inl ⟨by rfl, ?_⟩) hHeld ?_
  rotate_left
  · intro w' hSw
    (try dsimp only at hSw)
    simp only [List.getElem_toArray, List.getElem_cons_zero, List.getElem_cons_succ]
    go_simp
    all_goals (try with_reducible rfl)
  try simp only [Act.put, List.setIfInBounds_toArray, List.set_cons_zero, List.set_cons_succ, List.getElem_toArray, List.getElem_cons_zero, List.getElem_cons_succ]
  refine wpAnyH_take (i := 11) (v := ?_) (by rfl) (by kernel_rfl) (by kernel_rfl) (by kernel_rfl) (fun _ _ _ h => h) (Or.inl ⟨by rfl, ?_⟩) hHeld ?_
  rotate_left
  · intro w' hSw
    (try dsimp only at hSw)
    simp only [List.getElem_toArray, List.getElem_cons_zero, List.getElem_cons_succ]
    go_simp
    all_goals (try with_reducible rfl)
  try simp only [Act.put, List.setIfInBounds_toArray, List.set_cons_zero, List.set_cons_succ, List.getElem_toArray, List.getElem_cons_zero, List.getElem_cons_succ]
  refine wpAnyH_take (i := 12) (v := ?_) (by rfl) (by kernel_rfl) (by kernel_rfl) (by kernel_rfl) (fun _ _ _ h => h) (Or.inl ⟨by rfl, ?_⟩) hHeld ?_
  rotate_left
  · intro w' hSw
    (try dsimp only at hSw)
    simp only [List.getElem_toArray, List.getElem_cons_zero, List.getElem_cons_succ]
    go_simp
    all_goals (try with_reducible rfl)
  try simp only [Act.put, List.setIfInBounds_toArray, List.set_cons_zero, List.set_cons_succ, List.getElem_toArray, List.getElem_cons_zero, List.getElem_cons_succ]
  refine wpAnyH_ready (rs := [2]) (by kernel_rfl) (by simp) ?_
  refine AllReadyH.cons (by rfl) (fun K hK => ?_) AllReadyH.nil
  simp only [List.getElem_toArray, List.getElem_cons_zero, List.getElem_cons_succ]
  go_simp
  refine (K1.out _ (VY.out.below)).mono ?_
  rintro e w3 ⟨g1, hg1, rfl, r1, q1⟩
  have VY := veil (VY.out.got q1 r1 hg1)
  have C1 := veil (CC.out _ _ VY.out mem1)
  clear K1 q1 r1 hg1
  (try dsimp only)
  refine hK.out _ _ C1.out (fun hHeld => ?_)
  clear hK K
  try simp only [Act.put, List.setIfInBounds_toArray, List.set_cons_zero, List.set_cons_succ, List.getElem_toArray, List.getElem_cons_zero, List.getElem_cons_succ]
  refine wpAnyH_ready (rs := [5]) (by kernel_rfl) (by simp) ?_
  refine AllReadyH.cons (by rfl) (fun K hK => ?_) AllReadyH.nil
  simp only [List.getElem_toArray, List.getElem_cons_zero, List.getElem_cons_succ]
  go_simp
  refine (K2.out _ (VY.out.below)).mono ?_
  rintro e w4 ⟨g2, hg2, rfl, r2, q2⟩
  have VY := veil (VY.out.got q2 r2 hg2)
  have C2 := veil (CC.out _ _ VY.out mem2)
  clear K2 q2 r2 hg2
  (try dsimp only)
  refine hK.out _ _ C2.out (fun hHeld => ?_)
  clear hK K
  try simp only [Act.put, List.setIfInBounds_toArray, List.set_cons_zero, List.set_cons_succ, List.getElem_toArray, List.getElem_cons_zero, List.getElem_cons_succ]
  refine wpAnyH_ready (rs := [8]) (by kernel_rfl) (by simp) ?_
  refine AllReadyH.cons (by rfl) (fun K hK => ?_) AllReadyH.nil
  simp only [List.getElem_toArray, List.getElem_cons_zero, List.getElem_cons_succ]
  go_simp
  refine (K3.out _ (VY.out.below)).mono ?_
  rintro e w5 ⟨g3, hg3, rfl, r3, q3⟩
  have VY := veil (VY.out.got q3 r3 hg3)
  have C3 := veil (CC.out _ _ VY.out mem3)
  clear K3 q3 r3 hg3
  (try dsimp only)
  refine hK.out _ _ C3.out (fun hHeld => ?_)
  clear hK K
  try simp only [Act.put, List.setIfInBounds_toArray, List.set_cons_zero, List.set_cons_succ, List.getElem_toArray, List.getElem_cons_zero, List.getElem_cons_succ]
  refine wpAnyH_ready (rs := [13]) (by kernel_rfl) (by simp) ?_
  refine AllReadyH.cons (by rfl) (fun K hK => ?_) AllReadyH.nil
  simp only [List.getElem_toArray, List.getElem_cons_zero, List.getElem_cons_succ]
  go_simp
  refine (K4.out _ (VY.out.below)).mono ?_
  rintro e w6 ⟨g4, hg4, rfl, r4, q4⟩
  have VY := veil (VY.out.got q4 r4 hg4)
  have C4 := veil (CC.out _ _ VY.out mem4)
  clear K4 q4 r4 hg4
  have VYB := veil (VY.out.new (cv [⟨1, some ⟨g1, 0, none⟩, p.mac.length, p.mac.length⟩, ⟨3, some ⟨g2, 0, none⟩, (infoB p.info).length, (infoB p.info).length⟩, ⟨5, some ⟨g3, 0, none⟩, (lifeB p.n).length, (lifeB p.n).length⟩, ⟨25, some ⟨g4, 0, none⟩, (serB p.n az).length, (serB p.n az).length⟩]) 29 (g := w6.heap.size) rfl)
  have C5 := veil (CC.out _ _ VYB.out mem5)
  (try dsimp only)
  refine hK.out _ _ C4.out (fun hHeld => ?_)
  clear hK K
  try simp only [Act.put, List.setIfInBounds_toArray, List.set_cons_zero, List.set_cons_succ, List.getElem_toArray, List.getElem_cons_zero, List.getElem_cons_succ]
  refine wpAnyH_ready (rs := [14]) (by kernel_rfl) (by simp) ?_
  refine AllReadyH.cons (by rfl) (fun K hK => ?_) AllReadyH.nil
  simp only [List.getElem_toArray, List.getElem_cons_zero, List.getElem_cons_succ]
  go_simp
  (try dsimp only)
  refine hK.out _ _ C5.out (fun hHeld => ?_)
  clear hK K
  try simp only [Act.put, List.setIfInBounds_toArray, List.set_cons_zero, List.set_cons_succ, List.getElem_toArray, List.getElem_cons_zero, List.getElem_cons_succ]
  refine wpAnyH_take (i := 15) (v := ?_) (by rfl) (by kernel_rfl) (by kernel_rfl) (by kernel_rfl) (fun _ _ _ h => h) (Or.inl ⟨by rfl, ?_⟩) hHeld ?_
  rotate_left
  · intro w' hSw
    (try dsimp only at hSw)
    simp only [List.getElem_toArray, List.getElem_cons_zero, List.getElem_cons_succ]
    go_simp
    all_goals (try with_reducible rfl)
  try simp only [Act.put, List.setIfInBounds_toArray, List.set_cons_zero, List.set_cons_succ, List.getElem_toArray, List.getElem_cons_zero, List.getElem_cons_succ]
  refine wpAnyH_done (by kernel_rfl) ?_ _
  refine NoPanic.normal ?_
  clear hHeld
  clear C0 C1 C2 C3 C4 C5
  have hEO : EachO [⟨1, some ⟨g1, 0, none⟩, p.mac.length, p.mac.length⟩, ⟨3, some ⟨g2, 0, none⟩, (infoB p.info).length, (infoB p.info).length⟩, ⟨5, some ⟨g3, 0, none⟩, (lifeB p.n).length, (lifeB p.n).length⟩, ⟨25, some ⟨g4, 0, none⟩, (serB p.n az).length, (serB p.n az).length⟩] [(g4, 5, bv (serB p.n az)), (g3, 5, bv (lifeB p.n)), (g2, 5, bv (infoB p.info)), (g1, 5, bv p.mac)] := fun i hi => by
    have hz : ∀ zs ∈ az, zs.length = 16 := fun zs hz => by
      obtain ⟨j, hj⟩ := List.getElem?_of_mem hz
      exact (HH.out.s j zs hj).1
    match i, hi with
    | 0, _ => exact ⟨_, p.mac, g1, rfl, rfl, rfl, mem3, rfl, rfl, HH.out.macB, .inl ⟨rfl, HH.out.mac⟩⟩
    | 1, _ => exact ⟨_, infoB p.info, g2, rfl, rfl, rfl, mem2, rfl, rfl, infoB_byt HH.out.info, .inr (.inl ⟨rfl, infoB_len HH.out.info⟩)⟩
    | 2, _ => exact ⟨_, lifeB p.n, g3, rfl, rfl, rfl, mem1, rfl, rfl, lifeB_byt _, .inr (.inr (.inl ⟨rfl, lifeB_len _⟩))⟩
    | 3, _ => exact ⟨_, serB p.n az, g4, rfl, rfl, rfl, mem0, rfl, rfl, serB_byt HH.out.sB, .inr (.inr (.inr ⟨rfl, p.sn, by have := HSN.out; omega, HSN.out.2, by rw [serB_len hz, HH.out.sl]⟩))⟩
  have EO := veil hEO
  have Y8 := VYB.out.new (bv [1, 3, 5, 25]) 5 (g := w6.heap.size + 1) (by simp)
  have Y8 := Y8.sub (L' := [(w6.heap.size + 1, 5, bv [1, 3, 5, 25]), (w6.heap.size, 29, _), (g4, 5, bv (serB p.n az)), (g3, 5, bv (lifeB p.n)), (g2, 5, bv (infoB p.info)), (g1, 5, bv p.mac)]) (List.Sublist.cons_cons _ (List.Sublist.cons_cons _ (List.Sublist.cons_cons _ (List.Sublist.cons_cons _ (List.Sublist.cons_cons _ (List.Sublist.cons_cons _ (List.nil_sublist _)))))))
  obtain ⟨LR, hLR⟩ : ∃ LR : List Blk, LR = [(g4, 5, bv (serB p.n az)), (g3, 5, bv (lifeB p.n)), (g2, 5, bv (infoB p.info)), (g1, 5, bv p.mac)] := ⟨_, rfl⟩
  rw [← hLR] at Y8 EO
  obtain ⟨XS, hXS⟩ : ∃ XS : List El, XS = [⟨1, some ⟨g1, 0, none⟩, p.mac.length, p.mac.length⟩, ⟨3, some ⟨g2, 0, none⟩, (infoB p.info).length, (infoB p.info).length⟩, ⟨5, some ⟨g3, 0, none⟩, (lifeB p.n).length, (lifeB p.n).length⟩, ⟨25, some ⟨g4, 0, none⟩, (serB p.n az).length, (serB p.n az).length⟩] := ⟨_, rfl⟩
  have ecv := congrArg (fun x => (cv x).toArray) hXS
  rw [← hXS] at Y8 EO
  obtain ⟨u8, hu8⟩ : ∃ u, (w6.alloc (.cells (cv XS).toArray 29)).alloc (.cells (bv [1, 3, 5, 25]).toArray 5) = u := ⟨_, rfl⟩
  rw [hu8] at Y8
  have VY8 := veil Y8
  have hu8' : (w6.alloc (.cells #[.int .u8 1, .slice (some ⟨g1, 0, none⟩) p.mac.length p.mac.length, .int .u8 3, .slice (some ⟨g2, 0, none⟩) (infoB p.info).length (infoB p.info).length, .int .u8 5, .slice (some ⟨g3, 0, none⟩) (lifeB p.n).length (lifeB p.n).length, .int .u8 25, .slice (some ⟨g4, 0, none⟩) (serB p.n az).length (serB p.n az).length] 29)).alloc (.cells #[.int .u8 1, .int .u8 3, .int .u8 5, .int .u8 25] 5) = u8 := by rw [← hu8, ecv]; rfl
  clear Y8 VYB VY hEO hLR hXS ecv hu8 CC HAT HPL HH HSN
  generalize p.mac.length = l1 at *
  generalize (infoB p.info).length = l2 at *
  generalize (lifeB p.n).length = l3 at *
  generalize (serB p.n az).length = l4 at *
  go_wp2_with fail
  clear hu8'
  generalize w6.heap.size = gl at *
  go_loopw [7] (fun s7 wr => ∃ i : Nat, i ≤ 4 ∧ s7 = .int .i64 i ∧ Hid (Lay w wr ((gl + 1, 5, bv [1, 3, 5, 25]) :: (gl, 29, cv XS) :: LR))) (fun s7 _ => 4 - (intOf s7).toNat)
  case atStart => exact ⟨0, Nat.zero_le _, rfl, VY8⟩
  case round =>
    rename World => wr
    obtain ⟨i, hi, rfl, VR⟩ := hrel
    clear VY8
    by_cases hlt : i < 4
    · have ij : (i : Int) < 4 := by omega
      obtain ⟨x, zs, g, hx, hk, hA, hg, hn, hc, hz, hkp⟩ := EO.out i hlt
      obtain ⟨xk, xA, xn, xc⟩ := x
      simp only at hk hA hn hc hkp
      subst hA hn hc
      have X : ElAt wr ⟨gl, i * 2, none⟩ ⟨xk, some ⟨g, 0, none⟩, zs.length, zs.length⟩ := by
        obtain ⟨h1, h2⟩ := cv_at hx
        exact ⟨VR.out.look mem1 h1, VR.out.look mem1 h2⟩
      have L0 := veil X.load
      have YA := VR.out.new (tv ⟨xk, some ⟨g, 0, none⟩, zs.length, zs.length⟩) 29 (g := wr.heap.size) rfl
      have hown : (bv [1, 3, 5, 25])[i]? = some (.int .u8 xk) := by rw [show (bv [1, 3, 5, 25])[i]? = (([1, 3, 5, 25] : List Int)[i]?).map (Value.int .u8) by simp only [bv, List.getElem?_map], hk]; rfl
      have HZ := veil hz
      have HKP := veil hkp
      have HG := veil hg
      have hpos : 0 < zs.length := by rcases hkp with ⟨_, h⟩ | ⟨_, h⟩ | ⟨_, h⟩ | ⟨_, m, h1, _, h⟩ <;> omega
      have hbig : zs.length ≤ 4006 := by rcases hkp with ⟨_, h⟩ | ⟨_, h⟩ | ⟨_, h⟩ | ⟨_, m, h1, _, h⟩ <;> omega
      obtain ⟨n, hn⟩ : ∃ n, zs.length = n := ⟨_, rfl⟩
      have HN := veil hn
      rw [hn] at L0 YA HKP hpos hbig
      have d2 : ((n : Int) == 0) = false := by simp; omega
      have in6 : (n : Int) ≤ 4006 := by omega
      obtain ⟨ua, hua⟩ : ∃ u, wr.alloc (.cells #[.int .u8 xk, .slice (some ⟨g, 0, none⟩) n n] 29) = u := ⟨_, rfl⟩
      have hua' : wr.alloc (.cells (tv ⟨xk, some ⟨g, 0, none⟩, n, n⟩).toArray 29) = ua := hua
      rw [hua'] at YA
      obtain ⟨ga, hga⟩ : ∃ x, wr.heap.size = x := ⟨_, rfl⟩
      rw [hga] at YA
      have a0 := YA.look mem0 (o := 0) (v := .int .u8 xk) rfl
      have a1 := YA.look mem0 (o := 1) (v := .slice (some ⟨g, 0, none⟩) n n) rfl
      have a2 := YA.look mem1 hown
      have VYA := veil YA
      clear X hx hk hg hz hkp hua' YA VR hn hown
      go_wp2_with (refine wpList_load_of rfl (.tmp 46) rfl rfl L0.out ?_)
      clear hua hga L0
      go_quiet (fail)
      have YB := VYA.out.drewN nq
      generalize ua.drewN nq = ub at *
      have b0 := YB.look mem0 (o := 0) (v := .int .u8 xk) rfl
      have b1 := YB.look mem0 (o := 1) (v := .slice (some ⟨g, 0, none⟩) n n) rfl
      have YC := YB.new (tv ⟨q, some ⟨g, 0, none⟩, n, n⟩) 29 (g := ub.heap.size) rfl
      obtain ⟨uc, huc⟩ : ∃ u, ub.alloc (.cells #[.int .u8 q, .slice (some ⟨g, 0, none⟩) n n] 29) = u := ⟨_, rfl⟩
      have huc' : ub.alloc (.cells (tv ⟨q, some ⟨g, 0, none⟩, n, n⟩).toArray 29) = uc := huc
      rw [huc'] at YC
      obtain ⟨gb, hgb⟩ : ∃ x, ub.heap.size = x := ⟨_, rfl⟩
      rw [hgb] at YC
      have VYC := veil YC
      clear YB YC huc' a0 a1 a2 VYA
      go_upto_region 12 with fail
      clear huc hgb b0 b1
      go_cut [10] from 65 to 82 (fun c wx => ∃ (g3 : Nat) (A3 : Option Addr) (n3 c3 : Nat), c = .pointer (some ⟨g3, 0, none⟩) ∧ Mid w wx ((g3, 29, tv ⟨xk, A3, n3, c3⟩) :: (gb, 29, tv ⟨q, some ⟨g, 0, none⟩, n, n⟩) :: (ga, 29, tv ⟨xk, some ⟨g, 0, none⟩, n, n⟩) :: (gl + 1, 5, bv [1, 3, 5, 25]) :: (gl, 29, cv XS) :: LR) (.slice A3 n3 c3) (zs ++ [0]))
      case first =>
        have CA : Hid (∀ (v : World) (L : List Blk), Lay w v L → (ga, 29, tv ⟨xk, some ⟨g, 0, none⟩, n, n⟩) ∈ L → v.cell? ⟨ga, 0, none⟩ = some (.int .u8 xk) ∧ v.cell? ⟨ga, 1, none⟩ = some (.slice (some ⟨g, 0, none⟩) n n)) :=
          veil (fun v L hl hm => ⟨hl.look hm rfl, hl.look hm rfl⟩)
        have M0 := veil (Mid.begin VYC.out).drew
        have C0 := veil (CA.out _ _ M0.out.lay mem1)
        clear VYC EO
        have hnz : zs.length = n := HN.out
        obtain ⟨l1z, hl1z⟩ : ∃ l, (zs ++ [0]).length = l := ⟨_, rfl⟩
        have HL1 := veil hl1z
        clear hl1z
        refine wp_region_noPanic ?_
        refine wp_region_held_drew (S := fun w' => w'.cell? ⟨ga, 0, none⟩ = some (.int .u8 xk) ∧ w'.cell? ⟨ga, 1, none⟩ = some (.slice (some ⟨g, 0, none⟩) n n)) (by kernel_rfl) C0.out (fun hHeld => ?_)
        generalize uc.drew = ud at *
        refine wpAnyH_take (i := 0) (v := ?_) (by rfl) (by kernel_rfl) (by kernel_rfl) (by kernel_rfl) (fun _ _ _ h => h) (Or.inl ⟨by rfl, ?_⟩) hHeld ?_
        rotate_left
        · intro w' hSw
          (try dsimp only at hSw)
          simp only [List.getElem_toArray, List.getElem_cons_zero, List.getElem_cons_succ]
          go_simp
          all_goals (try with_reducible rfl)
        try simp only [Act.put, List.setIfInBounds_toArray, List.set_cons_zero, List.set_cons_succ, List.getElem_toArray, List.getElem_cons_zero, List.getElem_cons_succ]
        refine wpAnyH_take (i := 1) (v := ?_) (by rfl) (by kernel_rfl) (by kernel_rfl) (by kernel_rfl) (fun _ _ _ h => h) (Or.inl ⟨by rfl, ?_⟩) hHeld ?_
        rotate_left
        · intro w' hSw
          (try dsimp only at hSw)
          simp only [List.getElem_toArray, List.getElem_cons_zero, List.getElem_cons_succ]
          go_simp
          all_goals (try with_reducible rfl)
        try simp only [Act.put, List.setIfInBounds_toArray, List.set_cons_zero, List.set_cons_succ, List.getElem_toArray, List.getElem_cons_zero, List.getElem_cons_succ]
        refine wpAnyH_take (i := 2) (v := ?_) (by rfl) (by kernel_rfl) (by kernel_rfl) (by kernel_rfl) (fun _ _ _ h => h) (Or.inl ⟨by rfl, ?_⟩) hHeld ?_
        rotate_left
        · intro w' hSw
          (try dsimp only at hSw)
          simp only [List.getElem_toArray, List.getElem_cons_zero, List.getElem_cons_succ]
          go_simp
          all_goals (try with_reducible rfl)
        try simp only [Act.put, List.setIfInBounds_toArray, List.set_cons_zero, List.set_cons_succ, List.getElem_toArray, List.getElem_cons_zero, List.getElem_cons_succ]
        refine wpAnyH_take (i := 3) (v := ?_) (by rfl) (by kernel_rfl) (by kernel_rfl) (by kernel_rfl) (fun _ _ _ h => h) (Or.inl ⟨by rfl, ?_⟩) hHeld ?_
        rotate_left
        · intro w' hSw
          (try dsimp only at hSw)
          simp only [List.getElem_toArray, List.getElem_cons_zero, List.getElem_cons_succ]
          go_simp
          all_goals (try with_reducible rfl)
        try simp only [Act.put, List.setIfInBounds_toArray, List.set_cons_zero, List.set_cons_succ, List.getElem_toArray, List.getElem_cons_zero, List.getElem_cons_succ]
        refine wpAnyH_ready (rs := [4, 5, 8]) (by kernel_rfl) (by simp) ?_
        refine AllReadyH.cons (by rfl) (fun K hK => ?_) (AllReadyH.cons (by rfl) (fun K hK => ?_) (AllReadyH.cons (by rfl) (fun K hK => ?_) AllReadyH.nil))
        · simp only [List.getElem_toArray, List.getElem_cons_zero, List.getElem_cons_succ]
          obtain ⟨v1, x1, h1, N1⟩ := M0.out.append (slc_part (M0.out.lay.at (List.mem_cons_of_mem _ (List.mem_cons_of_mem _ (List.mem_cons_of_mem _ (List.mem_cons_of_mem _ HG.out))))) (part_all _) HN.out (Nat.le_refl _)) (by simp; omega) 26
          rw [List.nil_append] at N1
          have H1 := veil h1
          have M1 := veil N1
          clear h1 N1
          first | (refine wp_append_of (.const (.slice none 0 0)) (.tmp 68) rfl rfl rfl H1.out ?_) | (rw [if_pos (by rfl)]; refine wp_append_of (.const (.slice none 0 0)) (.tmp 68) rfl rfl rfl H1.out ?_)
          (try dsimp only)
          refine hK.out _ _ (CA.out _ _ M1.out.lay (List.mem_cons_of_mem _ List.mem_cons_self)) (fun hHeld => ?_)
          clear hK K
          try simp only [Act.put, List.setIfInBounds_toArray, List.set_cons_zero, List.set_cons_succ, List.getElem_toArray, List.getElem_cons_zero, List.getElem_cons_succ]
          refine wpAnyH_ready (rs := [5, 8]) (by kernel_rfl) (by simp) ?_
          refine AllReadyH.cons (by rfl) (fun K hK => ?_) (AllReadyH.cons (by rfl) (fun K hK => ?_) AllReadyH.nil)
          · simp only [List.getElem_toArray, List.getElem_cons_zero, List.getElem_cons_succ]
            go_simp
            have M2 := veil (M1.out.newG (bv [0]) 5 (g := x1.heap.size) rfl)
            (try dsimp only)
            refine hK.out _ _ (CA.out _ _ M2.out.lay (List.mem_cons_of_mem _ (List.mem_cons_of_mem _ List.mem_cons_self))) (fun hHeld => ?_)
            clear hK K
            try simp only [Act.put, List.setIfInBounds_toArray, List.set_cons_zero, List.set_cons_succ, List.getElem_toArray, List.getElem_cons_zero, List.getElem_cons_succ]
            refine wpAnyH_ready (rs := [6, 8]) (by kernel_rfl) (by simp) ?_
            refine AllReadyH.cons (by rfl) (fun K hK => ?_) (AllReadyH.cons (by rfl) (fun K hK => ?_) AllReadyH.nil)
            · simp only [List.getElem_toArray, List.getElem_cons_zero, List.getElem_cons_succ]
              obtain ⟨v3, x3, h3, N3⟩ := M2.out.append (slc_part (n := 1) (c := 1) (M2.out.lay.at List.mem_cons_self) (part_all _) rfl (Nat.le_refl _)) (by simp; omega) 26
              obtain ⟨A3, c3, e3, _, _⟩ := N3.own.slc.slice
              rw [HL1.out] at e3
              subst e3
              have H3 := veil h3
              have M3 := veil N3
              clear h3 N3
              first | (refine wp_append_of (.tmp 69) (.tmp 70) rfl rfl rfl H3.out ?_) | (rw [if_pos (by rfl)]; refine wp_append_of (.tmp 69) (.tmp 70) rfl rfl rfl H3.out ?_)
              (try dsimp only)
              refine hK.out _ _ (CA.out _ _ M3.out.lay (List.mem_cons_of_mem _ (List.mem_cons_of_mem _ List.mem_cons_self))) (fun hHeld => ?_)
              clear hK K
              try simp only [Act.put, List.setIfInBounds_toArray, List.set_cons_zero, List.set_cons_succ, List.getElem_toArray, List.getElem_cons_zero, List.getElem_cons_succ]
              refine wpAnyH_take (i := 7) (v := ?_) (by rfl) (by kernel_rfl) (by kernel_rfl) (by kernel_rfl) (fun _ _ _ h => h) (Or.inl ⟨by rfl, ?_⟩) hHeld ?_
              rotate_left
              · intro w' hSw
                (try dsimp only at hSw)
                simp only [List.getElem_toArray, List.getElem_cons_zero, List.getElem_cons_succ]
                go_simp
                all_goals (try with_reducible rfl)
              try simp only [Act.put, List.setIfInBounds_toArray, List.set_cons_zero, List.set_cons_succ, List.getElem_toArray, List.getElem_cons_zero, List.getElem_cons_succ]
              refine wpAnyH_ready (rs := [8]) (by kernel_rfl) (by simp) ?_
              refine AllReadyH.cons (by rfl) (fun K hK => ?_) AllReadyH.nil
              · simp only [List.getElem_toArray, List.getElem_cons_zero, List.getElem_cons_succ]
                go_simp
                have M4 := veil (M3.out.newG [.int .u8 0, .slice none 0 0] 29 (g := x3.heap.size) rfl)
                (try dsimp only)
                refine hK.out _ _ (CA.out _ _ M4.out.lay (List.mem_cons_of_mem _ (List.mem_cons_of_mem _ (List.mem_cons_of_mem _ List.mem_cons_self)))) (fun hHeld => ?_)
                clear hK K
                try simp only [Act.put, List.setIfInBounds_toArray, List.set_cons_zero, List.set_cons_succ, List.getElem_toArray, List.getElem_cons_zero, List.getElem_cons_succ]
                refine wpAnyH_ready (rs := [9]) (by kernel_rfl) (by simp) ?_
                refine AllReadyH.cons (by rfl) (fun K hK => ?_) AllReadyH.nil
                · simp only [List.getElem_toArray, List.getElem_cons_zero, List.getElem_cons_succ]
                  have T9 := veil (store_all (P := Tryd.prog) (ty := 29) (vs := tv ⟨xk, A3, l1z, c3⟩) (M4.out.lay.at List.mem_cons_self) rfl zeroO (by intro v hv; simp at hv; rcases hv with rfl | rfl <;> rfl))
                  have N9 := M4.out.put 0 rfl (tv ⟨xk, A3, l1z, c3⟩)
                  simp only [List.set_cons_zero, List.set_cons_succ] at N9
                  have M5 := veil N9
                  clear N9
                  refine wp_store_of (.tmp 10) (.tmp 72) rfl rfl rfl T9.out ?_
                  (try dsimp only)
                  refine hK.out _ _ (CA.out _ _ M5.out.lay (List.mem_cons_of_mem _ (List.mem_cons_of_mem _ (List.mem_cons_of_mem _ List.mem_cons_self)))) (fun hHeld => ?_)
                  clear hK K
                  try simp only [Act.put, List.setIfInBounds_toArray, List.set_cons_zero, List.set_cons_succ, List.getElem_toArray, List.getElem_cons_zero, List.getElem_cons_succ]
                  refine wpAnyH_done (by kernel_rfl) ?_ _
                  refine NoPanic.normal ?_
                  clear hHeld
                  (try go_wp2_with fail)
                  go_meet
                  exact ⟨_, _, _, _, rfl, M5.out.sub (List.Sublist.cons_cons _ (List.Sublist.cons _ (List.Sublist.refl _)))⟩
            · simp only [List.getElem_toArray, List.getElem_cons_zero, List.getElem_cons_succ]
              go_simp
              have M3 := veil (M2.out.newG [.int .u8 0, .slice none 0 0] 29 (g := x1.heap.size + 1) (by simp))
              (try dsimp only)
              refine hK.out _ _ (CA.out _ _ M3.out.lay (List.mem_cons_of_mem _ (List.mem_cons_of_mem _ (List.mem_cons_of_mem _ List.mem_cons_self)))) (fun hHeld => ?_)
              clear hK K
              try simp only [Act.put, List.setIfInBounds_toArray, List.set_cons_zero, List.set_cons_succ, List.getElem_toArray, List.getElem_cons_zero, List.getElem_cons_succ]
              refine wpAnyH_ready (rs := [6]) (by kernel_rfl) (by simp) ?_
              refine AllReadyH.cons (by rfl) (fun K hK => ?_) AllReadyH.nil
              · simp only [List.getElem_toArray, List.getElem_cons_zero, List.getElem_cons_succ]
                obtain ⟨v4, x4, h4, N4⟩ := M3.out.append (slc_part (n := 1) (c := 1) (M3.out.lay.at (List.mem_cons_of_mem _ List.mem_cons_self)) (part_all _) rfl (Nat.le_refl _)) (by simp; omega) 26
                obtain ⟨A4, c4, e4, _, _⟩ := N4.own.slc.slice
                rw [HL1.out] at e4
                subst e4
                have H4 := veil h4
                have M4 := veil N4
                clear h4 N4
                first | (refine wp_append_of (.tmp 69) (.tmp 70) rfl rfl rfl H4.out ?_) | (rw [if_pos (by rfl)]; refine wp_append_of (.tmp 69) (.tmp 70) rfl rfl rfl H4.out ?_)
                (try dsimp only)
                refine hK.out _ _ (CA.out _ _ M4.out.lay (List.mem_cons_of_mem _ (List.mem_cons_of_mem _ (List.mem_cons_of_mem _ List.mem_cons_self)))) (fun hHeld => ?_)
                clear hK K
                try simp only [Act.put, List.setIfInBounds_toArray, List.set_cons_zero, List.set_cons_succ, List.getElem_toArray, List.getElem_cons_zero, List.getElem_cons_succ]
                refine wpAnyH_take (i := 7) (v := ?_) (by rfl) (by kernel_rfl) (by kernel_rfl) (by kernel_rfl) (fun _ _ _ h => h) (Or.inl ⟨by rfl, ?_⟩) hHeld ?_
                rotate_left
                · intro w' hSw
                  (try dsimp only at hSw)
                  simp only [List.getElem_toArray, List.getElem_cons_zero, List.getElem_cons_succ]
                  go_simp
                  all_goals (try with_reducible rfl)
                try simp only [Act.put, List.setIfInBounds_toArray, List.set_cons_zero, List.set_cons_succ, List.getElem_toArray, List.getElem_cons_zero, List.getElem_cons_succ]
                refine wpAnyH_ready (rs := [9]) (by kernel_rfl) (by simp) ?_
                refine AllReadyH.cons (by rfl) (fun K hK => ?_) AllReadyH.nil
                · simp only [List.getElem_toArray, List.getElem_cons_zero, List.getElem_cons_succ]
                  have T9 := veil (store_all (P := Tryd.prog) (ty := 29) (vs := tv ⟨xk, A4, l1z, c4⟩) (M4.out.lay.at List.mem_cons_self) rfl zeroO (by intro v hv; simp at hv; rcases hv with rfl | rfl <;> rfl))
                  have N9 := M4.out.put 0 rfl (tv ⟨xk, A4, l1z, c4⟩)
                  simp only [List.set_cons_zero, List.set_cons_succ] at N9
                  have M5 := veil N9
                  clear N9
                  refine wp_store_of (.tmp 10) (.tmp 72) rfl rfl rfl T9.out ?_
                  (try dsimp only)
                  refine hK.out _ _ (CA.out _ _ M5.out.lay (List.mem_cons_of_mem _ (List.mem_cons_of_mem _ (List.mem_cons_of_mem _ List.mem_cons_self)))) (fun hHeld => ?_)
                  clear hK K
                  try simp only [Act.put, List.setIfInBounds_toArray, List.set_cons_zero, List.set_cons_succ, List.getElem_toArray, List.getElem_cons_zero, List.getElem_cons_succ]
                  refine wpAnyH_done (by kernel_rfl) ?_ _
                  refine NoPanic.normal ?_
                  clear hHeld
                  (try go_wp2_with fail)
                  go_meet
                  exact ⟨_, _, _, _, rfl, M5.out.sub (List.Sublist.cons_cons _ (List.Sublist.cons _ (List.Sublist.refl _)))⟩
          · simp only [List.getElem_toArray, List.getElem_cons_zero, List.getElem_cons_succ]
            go_simp
            have M2 := veil (M1.out.newG [.int .u8 0, .slice none 0 0] 29 (g := x1.heap.size) rfl)
            (try dsimp only)
            refine hK.out _ _ (CA.out _ _ M2.out.lay (List.mem_cons_of_mem _ (List.mem_cons_of_mem _ List.mem_cons_self))) (fun hHeld => ?_)
            clear hK K
            try simp only [Act.put, List.setIfInBounds_toArray, List.set_cons_zero, List.set_cons_succ, List.getElem_toArray, List.getElem_cons_zero, List.getElem_cons_succ]
            refine wpAnyH_ready (rs := [5]) (by kernel_rfl) (by simp) ?_
            refine AllReadyH.cons (by rfl) (fun K hK => ?_) AllReadyH.nil
            · simp only [List.getElem_toArray, List.getElem_cons_zero, List.getElem_cons_succ]
              go_simp
              have M3 := veil (M2.out.newG (bv [0]) 5 (g := x1.heap.size + 1) (by simp))
              (try dsimp only)
              refine hK.out _ _ (CA.out _ _ M3.out.lay (List.mem_cons_of_mem _ (List.mem_cons_of_mem _ (List.mem_cons_of_mem _ List.mem_cons_self)))) (fun hHeld => ?_)
              clear hK K
              try simp only [Act.put, List.setIfInBounds_toArray, List.set_cons_zero, List.set_cons_succ, List.getElem_toArray, List.getElem_cons_zero, List.getElem_cons_succ]
              refine wpAnyH_ready (rs := [6]) (by kernel_rfl) (by simp) ?_
              refine AllReadyH.cons (by rfl) (fun K hK => ?_) AllReadyH.nil
              · simp only [List.getElem_toArray, List.getElem_cons_zero, List.getElem_cons_succ]
                obtain ⟨v4, x4, h4, N4⟩ := M3.out.append (slc_part (n := 1) (c := 1) (M3.out.lay.at List.mem_cons_self) (part_all _) rfl (Nat.le_refl _)) (by simp; omega) 26
                obtain ⟨A4, c4, e4, _, _⟩ := N4.own.slc.slice
                rw [HL1.out] at e4
                subst e4
                have H4 := veil h4
                have M4 := veil N4
                clear h4 N4
                first | (refine wp_append_of (.tmp 69) (.tmp 70) rfl rfl rfl H4.out ?_) | (rw [if_pos (by rfl)]; refine wp_append_of (.tmp 69) (.tmp 70) rfl rfl rfl H4.out ?_)
                (try dsimp only)
                refine hK.out _ _ (CA.out _ _ M4.out.lay (List.mem_cons_of_mem _ (List.mem_cons_of_mem _ (List.mem_cons_of_mem _ List.mem_cons_self)))) (fun hHeld => ?_)
                clear hK K
                try simp only [Act.put, List.setIfInBounds_toArray, List.set_cons_zero, List.set_cons_succ, List.getElem_toArray, List.getElem_cons_zero, List.getElem_cons_succ]
                refine wpAnyH_take (i := 7) (v := ?_) (by rfl) (by kernel_rfl) (by kernel_rfl) (by kernel_rfl) (fun _ _ _ h => h) (Or.inl ⟨by rfl, ?_⟩) hHeld ?_
                rotate_left
                · intro w' hSw
                  (try dsimp only at hSw)
                  simp only [List.getElem_toArray, List.getElem_cons_zero, List.getElem_cons_succ]
                  go_simp
                  all_goals (try with_reducible rfl)
                try simp only [Act.put, List.setIfInBounds_toArray, List.set_cons_zero, List.set_cons_succ, List.getElem_toArray, List.getElem_cons_zero, List.getElem_cons_succ]
                refine wpAnyH_ready (rs := [9]) (by kernel_rfl) (by simp) ?_
                refine AllReadyH.cons (by rfl) (fun K hK => ?_) AllReadyH.nil
                · simp only [List.getElem_toArray, List.getElem_cons_zero, List.getElem_cons_succ]
                  have T9 := veil (store_all (P := Tryd.prog) (ty := 29) (vs := tv ⟨xk, A4, l1z, c4⟩) (M4.out.lay.at (List.mem_cons_of_mem _ List.mem_cons_self)) rfl zeroO (by intro v hv; simp at hv; rcases hv with rfl | rfl <;> rfl))
                  have N9 := M4.out.put 1 rfl (tv ⟨xk, A4, l1z, c4⟩)
                  simp only [List.set_cons_zero, List.set_cons_succ] at N9
                  have M5 := veil N9
                  clear N9
                  refine wp_store_of (.tmp 10) (.tmp 72) rfl rfl rfl T9.out ?_
                  (try dsimp only)
                  refine hK.out _ _ (CA.out _ _ M5.out.lay (List.mem_cons_of_mem _ (List.mem_cons_of_mem _ (List.mem_cons_of_mem _ List.mem_cons_self)))) (fun hHeld => ?_)
                  clear hK K
                  try simp only [Act.put, List.setIfInBounds_toArray, List.set_cons_zero, List.set_cons_succ, List.getElem_toArray, List.getElem_cons_zero, List.getElem_cons_succ]
                  refine wpAnyH_done (by kernel_rfl) ?_ _
                  refine NoPanic.normal ?_
                  clear hHeld
                  (try go_wp2_with fail)
                  go_meet
                  exact ⟨_, _, _, _, rfl, M5.out.sub (List.Sublist.cons _ (List.Sublist.cons_cons _ (List.Sublist.refl _)))⟩
        · simp only [List.getElem_toArray, List.getElem_cons_zero, List.getElem_cons_succ]
          go_simp
          have M1 := veil (M0.out.newG (bv [0]) 5 (g := ud.heap.size) rfl)
          (try dsimp only)
          refine hK.out _ _ (CA.out _ _ M1.out.lay (List.mem_cons_of_mem _ (List.mem_cons_of_mem _ List.mem_cons_self))) (fun hHeld => ?_)
          clear hK K
          try simp only [Act.put, List.setIfInBounds_toArray, List.set_cons_zero, List.set_cons_succ, List.getElem_toArray, List.getElem_cons_zero, List.getElem_cons_succ]
          refine wpAnyH_ready (rs := [4, 8]) (by kernel_rfl) (by simp) ?_
          refine AllReadyH.cons (by rfl) (fun K hK => ?_) (AllReadyH.cons (by rfl) (fun K hK => ?_) AllReadyH.nil)
          · simp only [List.getElem_toArray, List.getElem_cons_zero, List.getElem_cons_succ]
            obtain ⟨v2, x2, h2, N2⟩ := M1.out.append (slc_part (M1.out.lay.at (List.mem_cons_of_mem _ (List.mem_cons_of_mem _ (List.mem_cons_of_mem _ (List.mem_cons_of_mem _ (List.mem_cons_of_mem _ HG.out)))))) (part_all _) HN.out (Nat.le_refl _)) (by simp; omega) 26
            rw [List.nil_append] at N2
            have H2 := veil h2
            have M2 := veil N2
            clear h2 N2
            first | (refine wp_append_of (.const (.slice none 0 0)) (.tmp 68) rfl rfl rfl H2.out ?_) | (rw [if_pos (by rfl)]; refine wp_append_of (.const (.slice none 0 0)) (.tmp 68) rfl rfl rfl H2.out ?_)
            (try dsimp only)
            refine hK.out _ _ (CA.out _ _ M2.out.lay (List.mem_cons_of_mem _ (List.mem_cons_of_mem _ List.mem_cons_self))) (fun hHeld => ?_)
            clear hK K
            try simp only [Act.put, List.setIfInBounds_toArray, List.set_cons_zero, List.set_cons_succ, List.getElem_toArray, List.getElem_cons_zero, List.getElem_cons_succ]
            refine wpAnyH_ready (rs := [6, 8]) (by kernel_rfl) (by simp) ?_
            refine AllReadyH.cons (by rfl) (fun K hK => ?_) (AllReadyH.cons (by rfl) (fun K hK => ?_) AllReadyH.nil)
            · simp only [List.getElem_toArray, List.getElem_cons_zero, List.getElem_cons_succ]
              obtain ⟨v3, x3, h3, N3⟩ := M2.out.append (slc_part (n := 1) (c := 1) (M2.out.lay.at List.mem_cons_self) (part_all _) rfl (Nat.le_refl _)) (by simp; omega) 26
              obtain ⟨A3, c3, e3, _, _⟩ := N3.own.slc.slice
              rw [HL1.out] at e3
              subst e3
              have H3 := veil h3
              have M3 := veil N3
              clear h3 N3
              first | (refine wp_append_of (.tmp 69) (.tmp 70) rfl rfl rfl H3.out ?_) | (rw [if_pos (by rfl)]; refine wp_append_of (.tmp 69) (.tmp 70) rfl rfl rfl H3.out ?_)
              (try dsimp only)
              refine hK.out _ _ (CA.out _ _ M3.out.lay (List.mem_cons_of_mem _ (List.mem_cons_of_mem _ List.mem_cons_self))) (fun hHeld => ?_)
              clear hK K
              try simp only [Act.put, List.setIfInBounds_toArray, List.set_cons_zero, List.set_cons_succ, List.getElem_toArray, List.getElem_cons_zero, List.getElem_cons_succ]
              refine wpAnyH_take (i := 7) (v := ?_) (by rfl) (by kernel_rfl) (by kernel_rfl) (by kernel_rfl) (fun _ _ _ h => h) (Or.inl ⟨by rfl, ?_⟩) hHeld ?_
              rotate_left
              · intro w' hSw
                (try dsimp only at hSw)
                simp only [List.getElem_toArray, List.getElem_cons_zero, List.getElem_cons_succ]
                go_simp
                all_goals (try with_reducible rfl)
              try simp only [Act.put, List.setIfInBounds_toArray, List.set_cons_zero, List.set_cons_succ, List.getElem_toArray, List.getElem_cons_zero, List.getElem_cons_succ]
              refine wpAnyH_ready (rs := [8]) (by kernel_rfl) (by simp) ?_
              refine AllReadyH.cons (by rfl) (fun K hK => ?_) AllReadyH.nil
              · simp only [List.getElem_toArray, List.getElem_cons_zero, List.getElem_cons_succ]
                go_simp
                have M4 := veil (M3.out.newG [.int .u8 0, .slice none 0 0] 29 (g := x3.heap.size) rfl)
                (try dsimp only)
                refine hK.out _ _ (CA.out _ _ M4.out.lay (List.mem_cons_of_mem _ (List.mem_cons_of_mem _ (List.mem_cons_of_mem _ List.mem_cons_self)))) (fun hHeld => ?_)
                clear hK K
                try simp only [Act.put, List.setIfInBounds_toArray, List.set_cons_zero, List.set_cons_succ, List.getElem_toArray, List.getElem_cons_zero, List.getElem_cons_succ]
                refine wpAnyH_ready (rs := [9]) (by kernel_rfl) (by simp) ?_
                refine AllReadyH.cons (by rfl) (fun K hK => ?_) AllReadyH.nil
                · simp only [List.getElem_toArray, List.getElem_cons_zero, List.getElem_cons_succ]
                  have T9 := veil (store_all (P := Tryd.prog) (ty := 29) (vs := tv ⟨xk, A3, l1z, c3⟩) (M4.out.lay.at List.mem_cons_self) rfl zeroO (by intro v hv; simp at hv; rcases hv with rfl | rfl <;> rfl))
                  have N9 := M4.out.put 0 rfl (tv ⟨xk, A3, l1z, c3⟩)
                  simp only [List.set_cons_zero, List.set_cons_succ] at N9
                  have M5 := veil N9
                  clear N9
                  refine wp_store_of (.tmp 10) (.tmp 72) rfl rfl rfl T9.out ?_
                  (try dsimp only)
                  refine hK.out _ _ (CA.out _ _ M5.out.lay (List.mem_cons_of_mem _ (List.mem_cons_of_mem _ (List.mem_cons_of_mem _ List.mem_cons_self)))) (fun hHeld => ?_)
                  clear hK K
                  try simp only [Act.put, List.setIfInBounds_toArray, List.set_cons_zero, List.set_cons_succ, List.getElem_toArray, List.getElem_cons_zero, List.getElem_cons_succ]
                  refine wpAnyH_done (by kernel_rfl) ?_ _
                  refine NoPanic.normal ?_
                  clear hHeld
                  (try go_wp2_with fail)
                  go_meet
                  exact ⟨_, _, _, _, rfl, M5.out.sub (List.Sublist.cons_cons _ (List.Sublist.cons _ (List.Sublist.refl _)))⟩
            · simp only [List.getElem_toArray, List.getElem_cons_zero, List.getElem_cons_succ]
              go_simp
              have M3 := veil (M2.out.newG [.int .u8 0, .slice none 0 0] 29 (g := x2.heap.size) rfl)
              (try dsimp only)
              refine hK.out _ _ (CA.out _ _ M3.out.lay (List.mem_cons_of_mem _ (List.mem_cons_of_mem _ (List.mem_cons_of_mem _ List.mem_cons_self)))) (fun hHeld => ?_)
              clear hK K
              try simp only [Act.put, List.setIfInBounds_toArray, List.set_cons_zero, List.set_cons_succ, List.getElem_toArray, List.getElem_cons_zero, List.getElem_cons_succ]
              refine wpAnyH_ready (rs := [6]) (by kernel_rfl) (by simp) ?_
              refine AllReadyH.cons (by rfl) (fun K hK => ?_) AllReadyH.nil
              · simp only [List.getElem_toArray, List.getElem_cons_zero, List.getElem_cons_succ]
                obtain ⟨v4, x4, h4, N4⟩ := M3.out.append (slc_part (n := 1) (c := 1) (M3.out.lay.at (List.mem_cons_of_mem _ List.mem_cons_self)) (part_all _) rfl (Nat.le_refl _)) (by simp; omega) 26
                obtain ⟨A4, c4, e4, _, _⟩ := N4.own.slc.slice
                rw [HL1.out] at e4
                subst e4
                have H4 := veil h4
                have M4 := veil N4
                clear h4 N4
                first | (refine wp_append_of (.tmp 69) (.tmp 70) rfl rfl rfl H4.out ?_) | (rw [if_pos (by rfl)]; refine wp_append_of (.tmp 69) (.tmp 70) rfl rfl rfl H4.out ?_)
                (try dsimp only)
                refine hK.out _ _ (CA.out _ _ M4.out.lay (List.mem_cons_of_mem _ (List.mem_cons_of_mem _ (List.mem_cons_of_mem _ List.mem_cons_self)))) (fun hHeld => ?_)
                clear hK K
                try simp only [Act.put, List.setIfInBounds_toArray, List.set_cons_zero, List.set_cons_succ, List.getElem_toArray, List.getElem_cons_zero, List.getElem_cons_succ]
                refine wpAnyH_take (i := 7) (v := ?_) (by rfl) (by kernel_rfl) (by kernel_rfl) (by kernel_rfl) (fun _ _ _ h => h) (Or.inl ⟨by rfl, ?_⟩) hHeld ?_
                rotate_left
                · intro w' hSw
                  (try dsimp only at hSw)
                  simp only [List.getElem_toArray, List.getElem_cons_zero, List.getElem_cons_succ]
                  go_simp
                  all_goals (try with_reducible rfl)
                try simp only [Act.put, List.setIfInBounds_toArray, List.set_cons_zero, List.set_cons_succ, List.getElem_toArray, List.getElem_cons_zero, List.getElem_cons_succ]
                refine wpAnyH_ready (rs := [9]) (by kernel_rfl) (by simp) ?_
                refine AllReadyH.cons (by rfl) (fun K hK => ?_) AllReadyH.nil
                · simp only [List.getElem_toArray, List.getElem_cons_zero, List.getElem_cons_succ]
                  have T9 := veil (store_all (P := Tryd.prog) (ty := 29) (vs := tv ⟨xk, A4, l1z, c4⟩) (M4.out.lay.at List.mem_cons_self) rfl zeroO (by intro v hv; simp at hv; rcases hv with rfl | rfl <;> rfl))
                  have N9 := M4.out.put 0 rfl (tv ⟨xk, A4, l1z, c4⟩)
                  simp only [List.set_cons_zero, List.set_cons_succ] at N9
                  have M5 := veil N9
                  clear N9
                  refine wp_store_of (.tmp 10) (.tmp 72) rfl rfl rfl T9.out ?_
                  (try dsimp only)
                  refine hK.out _ _ (CA.out _ _ M5.out.lay (List.mem_cons_of_mem _ (List.mem_cons_of_mem _ (List.mem_cons_of_mem _ List.mem_cons_self)))) (fun hHeld => ?_)
                  clear hK K
                  try simp only [Act.put, List.setIfInBounds_toArray, List.set_cons_zero, List.set_cons_succ, List.getElem_toArray, List.getElem_cons_zero, List.getElem_cons_succ]
                  refine wpAnyH_done (by kernel_rfl) ?_ _
                  refine NoPanic.normal ?_
                  clear hHeld
                  (try go_wp2_with fail)
                  go_meet
                  exact ⟨_, _, _, _, rfl, M5.out.sub (List.Sublist.cons_cons _ (List.Sublist.cons _ (List.Sublist.refl _)))⟩
          · simp only [List.getElem_toArray, List.getElem_cons_zero, List.getElem_cons_succ]
            go_simp
            have M2 := veil (M1.out.newG [.int .u8 0, .slice none 0 0] 29 (g := ud.heap.size + 1) (by simp))
            (try dsimp only)
            refine hK.out _ _ (CA.out _ _ M2.out.lay (List.mem_cons_of_mem _ (List.mem_cons_of_mem _ (List.mem_cons_of_mem _ List.mem_cons_self)))) (fun hHeld => ?_)
            clear hK K
            try simp only [Act.put, List.setIfInBounds_toArray, List.set_cons_zero, List.set_cons_succ, List.getElem_toArray, List.getElem_cons_zero, List.getElem_cons_succ]
            refine wpAnyH_ready (rs := [4]) (by kernel_rfl) (by simp) ?_
            refine AllReadyH.cons (by rfl) (fun K hK => ?_) AllReadyH.nil
            · simp only [List.getElem_toArray, List.getElem_cons_zero, List.getElem_cons_succ]
              obtain ⟨v3, x3, h3, N3⟩ := M2.out.append (slc_part (M2.out.lay.at (List.mem_cons_of_mem _ (List.mem_cons_of_mem _ (List.mem_cons_of_mem _ (List.mem_cons_of_mem _ (List.mem_cons_of_mem _ (List.mem_cons_of_mem _ HG.out))))))) (part_all _) HN.out (Nat.le_refl _)) (by simp; omega) 26
              rw [List.nil_append] at N3
              have H3 := veil h3
              have M3 := veil N3
              clear h3 N3
              first | (refine wp_append_of (.const (.slice none 0 0)) (.tmp 68) rfl rfl rfl H3.out ?_) | (rw [if_pos (by rfl)]; refine wp_append_of (.const (.slice none 0 0)) (.tmp 68) rfl rfl rfl H3.out ?_)
              (try dsimp only)
              refine hK.out _ _ (CA.out _ _ M3.out.lay (List.mem_cons_of_mem _ (List.mem_cons_of_mem _ (List.mem_cons_of_mem _ List.mem_cons_self)))) (fun hHeld => ?_)
              clear hK K
              try simp only [Act.put, List.setIfInBounds_toArray, List.set_cons_zero, List.set_cons_succ, List.getElem_toArray, List.getElem_cons_zero, List.getElem_cons_succ]
              refine wpAnyH_ready (rs := [6]) (by kernel_rfl) (by simp) ?_
              refine AllReadyH.cons (by rfl) (fun K hK => ?_) AllReadyH.nil
              · simp only [List.getElem_toArray, List.getElem_cons_zero, List.getElem_cons_succ]
                obtain ⟨v4, x4, h4, N4⟩ := M3.out.append (slc_part (n := 1) (c := 1) (M3.out.lay.at (List.mem_cons_of_mem _ List.mem_cons_self)) (part_all _) rfl (Nat.le_refl _)) (by simp; omega) 26
                obtain ⟨A4, c4, e4, _, _⟩ := N4.own.slc.slice
                rw [HL1.out] at e4
                subst e4
                have H4 := veil h4
                have M4 := veil N4
                clear h4 N4
                first | (refine wp_append_of (.tmp 69) (.tmp 70) rfl rfl rfl H4.out ?_) | (rw [if_pos (by rfl)]; refine wp_append_of (.tmp 69) (.tmp 70) rfl rfl rfl H4.out ?_)
                (try dsimp only)
                refine hK.out _ _ (CA.out _ _ M4.out.lay (List.mem_cons_of_mem _ (List.mem_cons_of_mem _ (List.mem_cons_of_mem _ List.mem_cons_self)))) (fun hHeld => ?_)
                clear hK K
                try simp only [Act.put, List.setIfInBounds_toArray, List.set_cons_zero, List.set_cons_succ, List.getElem_toArray, List.getElem_cons_zero, List.getElem_cons_succ]
                refine wpAnyH_take (i := 7) (v := ?_) (by rfl) (by kernel_rfl) (by kernel_rfl) (by kernel_rfl) (fun _ _ _ h => h) (Or.inl ⟨by rfl, ?_⟩) hHeld ?_
                rotate_left
                · intro w' hSw
                  (try dsimp only at hSw)
                  simp only [List.getElem_toArray, List.getElem_cons_zero, List.getElem_cons_succ]
                  go_simp
                  all_goals (try with_reducible rfl)
                try simp only [Act.put, List.setIfInBounds_toArray, List.set_cons_zero, List.set_cons_succ, List.getElem_toArray, List.getElem_cons_zero, List.getElem_cons_succ]
                refine wpAnyH_ready (rs := [9]) (by kernel_rfl) (by simp) ?_
                refine AllReadyH.cons (by rfl) (fun K hK => ?_) AllReadyH.nil
                · simp only [List.getElem_toArray, List.getElem_cons_zero, List.getElem_cons_succ]
                  have T9 := veil (store_all (P := Tryd.prog) (ty := 29) (vs := tv ⟨xk, A4, l1z, c4⟩) (M4.out.lay.at List.mem_cons_self) rfl zeroO (by intro v hv; simp at hv; rcases hv with rfl | rfl <;> rfl))
                  have N9 := M4.out.put 0 rfl (tv ⟨xk, A4, l1z, c4⟩)
                  simp only [List.set_cons_zero, List.set_cons_succ] at N9
                  have M5 := veil N9
                  clear N9
                  refine wp_store_of (.tmp 10) (.tmp 72) rfl rfl rfl T9.out ?_
                  (try dsimp only)
                  refine hK.out _ _ (CA.out _ _ M5.out.lay (List.mem_cons_of_mem _ (List.mem_cons_of_mem _ (List.mem_cons_of_mem _ List.mem_cons_self)))) (fun hHeld => ?_)
                  clear hK K
                  try simp only [Act.put, List.setIfInBounds_toArray, List.set_cons_zero, List.set_cons_succ, List.getElem_toArray, List.getElem_cons_zero, List.getElem_cons_succ]
                  refine wpAnyH_done (by kernel_rfl) ?_ _
                  refine NoPanic.normal ?_
                  clear hHeld
                  (try go_wp2_with fail)
                  go_meet
                  exact ⟨_, _, _, _, rfl, M5.out.sub (List.Sublist.cons_cons _ (List.Sublist.cons _ (List.Sublist.refl _)))⟩
        · simp only [List.getElem_toArray, List.getElem_cons_zero, List.getElem_cons_succ]
          go_simp
          have M1 := veil (M0.out.newG [.int .u8 0, .slice none 0 0] 29 (g := ud.heap.size) rfl)
          (try dsimp only)
          refine hK.out _ _ (CA.out _ _ M1.out.lay (List.mem_cons_of_mem _ (List.mem_cons_of_mem _ List.mem_cons_self))) (fun hHeld => ?_)
          clear hK K
          try simp only [Act.put, List.setIfInBounds_toArray, List.set_cons_zero, List.set_cons_succ, List.getElem_toArray, List.getElem_cons_zero, List.getElem_cons_succ]
          refine wpAnyH_ready (rs := [4, 5]) (by kernel_rfl) (by simp) ?_
          refine AllReadyH.cons (by rfl) (fun K hK => ?_) (AllReadyH.cons (by rfl) (fun K hK => ?_) AllReadyH.nil)
          · simp only [List.getElem_toArray, List.getElem_cons_zero, List.getElem_cons_succ]
            obtain ⟨v2, x2, h2, N2⟩ := M1.out.append (slc_part (M1.out.lay.at (List.mem_cons_of_mem _ (List.mem_cons_of_mem _ (List.mem_cons_of_mem _ (List.mem_cons_of_mem _ (List.mem_cons_of_mem _ HG.out)))))) (part_all _) HN.out (Nat.le_refl _)) (by simp; omega) 26
            rw [List.nil_append] at N2
            have H2 := veil h2
            have M2 := veil N2
            clear h2 N2
            first | (refine wp_append_of (.const (.slice none 0 0)) (.tmp 68) rfl rfl rfl H2.out ?_) | (rw [if_pos (by rfl)]; refine wp_append_of (.const (.slice none 0 0)) (.tmp 68) rfl rfl rfl H2.out ?_)
            (try dsimp only)
            refine hK.out _ _ (CA.out _ _ M2.out.lay (List.mem_cons_of_mem _ (List.mem_cons_of_mem _ List.mem_cons_self))) (fun hHeld => ?_)
            clear hK K
            try simp only [Act.put, List.setIfInBounds_toArray, List.set_cons_zero, List.set_cons_succ, List.getElem_toArray, List.getElem_cons_zero, List.getElem_cons_succ]
            refine wpAnyH_ready (rs := [5]) (by kernel_rfl) (by simp) ?_
            refine AllReadyH.cons (by rfl) (fun K hK => ?_) AllReadyH.nil
            · simp only [List.getElem_toArray, List.getElem_cons_zero, List.getElem_cons_succ]
              go_simp
              have M3 := veil (M2.out.newG (bv [0]) 5 (g := x2.heap.size) rfl)
              (try dsimp only)
              refine hK.out _ _ (CA.out _ _ M3.out.lay (List.mem_cons_of_mem _ (List.mem_cons_of_mem _ (List.mem_cons_of_mem _ List.mem_cons_self)))) (fun hHeld => ?_)
              clear hK K
              try simp only [Act.put, List.setIfInBounds_toArray, List.set_cons_zero, List.set_cons_succ, List.getElem_toArray, List.getElem_cons_zero, List.getElem_cons_succ]
              refine wpAnyH_ready (rs := [6]) (by kernel_rfl) (by simp) ?_
              refine AllReadyH.cons (by rfl) (fun K hK => ?_) AllReadyH.nil
              · simp only [List.getElem_toArray, List.getElem_cons_zero, List.getElem_cons_succ]
                obtain ⟨v4, x4, h4, N4⟩ := M3.out.append (slc_part (n := 1) (c := 1) (M3.out.lay.at List.mem_cons_self) (part_all _) rfl (Nat.le_refl _)) (by simp; omega) 26
                obtain ⟨A4, c4, e4, _, _⟩ := N4.own.slc.slice
                rw [HL1.out] at e4
                subst e4
                have H4 := veil h4
                have M4 := veil N4
                clear h4 N4
                first | (refine wp_append_of (.tmp 69) (.tmp 70) rfl rfl rfl H4.out ?_) | (rw [if_pos (by rfl)]; refine wp_append_of (.tmp 69) (.tmp 70) rfl rfl rfl H4.out ?_)
                (try dsimp only)
                refine hK.out _ _ (CA.out _ _ M4.out.lay (List.mem_cons_of_mem _ (List.mem_cons_of_mem _ (List.mem_cons_of_mem _ List.mem_cons_self)))) (fun hHeld => ?_)
                clear hK K
                try simp only [Act.put, List.setIfInBounds_toArray, List.set_cons_zero, List.set_cons_succ, List.getElem_toArray, List.getElem_cons_zero, List.getElem_cons_succ]
                refine wpAnyH_take (i := 7) (v := ?_) (by rfl) (by kernel_rfl) (by kernel_rfl) (by kernel_rfl) (fun _ _ _ h => h) (Or.inl ⟨by rfl, ?_⟩) hHeld ?_
                rotate_left
                · intro w' hSw
                  (try dsimp only at hSw)
                  simp only [List.getElem_toArray, List.getElem_cons_zero, List.getElem_cons_succ]
                  go_simp
                  all_goals (try with_reducible rfl)
                try simp only [Act.put, List.setIfInBounds_toArray, List.set_cons_zero, List.set_cons_succ, List.getElem_toArray, List.getElem_cons_zero, List.getElem_cons_succ]
                refine wpAnyH_ready (rs := [9]) (by kernel_rfl) (by simp) ?_
                refine AllReadyH.cons (by rfl) (fun K hK => ?_) AllReadyH.nil
                · simp only [List.getElem_toArray, List.getElem_cons_zero, List.getElem_cons_succ]
                  have T9 := veil (store_all (P := Tryd.prog) (ty := 29) (vs := tv ⟨xk, A4, l1z, c4⟩) (M4.out.lay.at (List.mem_cons_of_mem _ List.mem_cons_self)) rfl zeroO (by intro v hv; simp at hv; rcases hv with rfl | rfl <;> rfl))
                  have N9 := M4.out.put 1 rfl (tv ⟨xk, A4, l1z, c4⟩)
                  simp only [List.set_cons_zero, List.set_cons_succ] at N9
                  have M5 := veil N9
                  clear N9
                  refine wp_store_of (.tmp 10) (.tmp 72) rfl rfl rfl T9.out ?_
                  (try dsimp only)
                  refine hK.out _ _ (CA.out _ _ M5.out.lay (List.mem_cons_of_mem _ (List.mem_cons_of_mem _ (List.mem_cons_of_mem _ List.mem_cons_self)))) (fun hHeld => ?_)
                  clear hK K
                  try simp only [Act.put, List.setIfInBounds_toArray, List.set_cons_zero, List.set_cons_succ, List.getElem_toArray, List.getElem_cons_zero, List.getElem_cons_succ]
                  refine wpAnyH_done (by kernel_rfl) ?_ _
                  refine NoPanic.normal ?_
                  clear hHeld
                  (try go_wp2_with fail)
                  go_meet
                  exact ⟨_, _, _, _, rfl, M5.out.sub (List.Sublist.cons _ (List.Sublist.cons_cons _ (List.Sublist.refl _)))⟩
          · simp only [List.getElem_toArray, List.getElem_cons_zero, List.getElem_cons_succ]
            go_simp
            have M2 := veil (M1.out.newG (bv [0]) 5 (g := ud.heap.size + 1) (by simp))
            (try dsimp only)
            refine hK.out _ _ (CA.out _ _ M2.out.lay (List.mem_cons_of_mem _ (List.mem_cons_of_mem _ (List.mem_cons_of_mem _ List.mem_cons_self)))) (fun hHeld => ?_)
            clear hK K
            try simp only [Act.put, List.setIfInBounds_toArray, List.set_cons_zero, List.set_cons_succ, List.getElem_toArray, List.getElem_cons_zero, List.getElem_cons_succ]
            refine wpAnyH_ready (rs := [4]) (by kernel_rfl) (by simp) ?_
            refine AllReadyH.cons (by rfl) (fun K hK => ?_) AllReadyH.nil
            · simp only [List.getElem_toArray, List.getElem_cons_zero, List.getElem_cons_succ]
              obtain ⟨v3, x3, h3, N3⟩ := M2.out.append (slc_part (M2.out.lay.at (List.mem_cons_of_mem _ (List.mem_cons_of_mem _ (List.mem_cons_of_mem _ (List.mem_cons_of_mem _ (List.mem_cons_of_mem _ (List.mem_cons_of_mem _ HG.out))))))) (part_all _) HN.out (Nat.le_refl _)) (by simp; omega) 26
              rw [List.nil_append] at N3
              have H3 := veil h3
              have M3 := veil N3
              clear h3 N3
              first | (refine wp_append_of (.const (.slice none 0 0)) (.tmp 68) rfl rfl rfl H3.out ?_) | (rw [if_pos (by rfl)]; refine wp_append_of (.const (.slice none 0 0)) (.tmp 68) rfl rfl rfl H3.out ?_)
              (try dsimp only)
              refine hK.out _ _ (CA.out _ _ M3.out.lay (List.mem_cons_of_mem _ (List.mem_cons_of_mem _ (List.mem_cons_of_mem _ List.mem_cons_self)))) (fun hHeld => ?_)
              clear hK K
              try simp only [Act.put, List.setIfInBounds_toArray, List.set_cons_zero, List.set_cons_succ, List.getElem_toArray, List.getElem_cons_zero, List.getElem_cons_succ]
              refine wpAnyH_ready (rs := [6]) (by kernel_rfl) (by simp) ?_
              refine AllReadyH.cons (by rfl) (fun K hK => ?_) AllReadyH.nil
              · simp only [List.getElem_toArray, List.getElem_cons_zero, List.getElem_cons_succ]
                obtain ⟨v4, x4, h4, N4⟩ := M3.out.append (slc_part (n := 1) (c := 1) (M3.out.lay.at List.mem_cons_self) (part_all _) rfl (Nat.le_refl _)) (by simp; omega) 26
                obtain ⟨A4, c4, e4, _, _⟩ := N4.own.slc.slice
                rw [HL1.out] at e4
                subst e4
                have H4 := veil h4
                have M4 := veil N4
                clear h4 N4
                first | (refine wp_append_of (.tmp 69) (.tmp 70) rfl rfl rfl H4.out ?_) | (rw [if_pos (by rfl)]; refine wp_append_of (.tmp 69) (.tmp 70) rfl rfl rfl H4.out ?_)
                (try dsimp only)
                refine hK.out _ _ (CA.out _ _ M4.out.lay (List.mem_cons_of_mem _ (List.mem_cons_of_mem _ (List.mem_cons_of_mem _ List.mem_cons_self)))) (fun hHeld => ?_)
                clear hK K
                try simp only [Act.put, List.setIfInBounds_toArray, List.set_cons_zero, List.set_cons_succ, List.getElem_toArray, List.getElem_cons_zero, List.getElem_cons_succ]
                refine wpAnyH_take (i := 7) (v := ?_) (by rfl) (by kernel_rfl) (by kernel_rfl) (by kernel_rfl) (fun _ _ _ h => h) (Or.inl ⟨by rfl, ?_⟩) hHeld ?_
                rotate_left
                · intro w' hSw
                  (try dsimp only at hSw)
                  simp only [List.getElem_toArray, List.getElem_cons_zero, List.getElem_cons_succ]
                  go_simp
                  all_goals (try with_reducible rfl)
                try simp only [Act.put, List.setIfInBounds_toArray, List.set_cons_zero, List.set_cons_succ, List.getElem_toArray, List.getElem_cons_zero, List.getElem_cons_succ]
                refine wpAnyH_ready (rs := [9]) (by kernel_rfl) (by simp) ?_
                refine AllReadyH.cons (by rfl) (fun K hK => ?_) AllReadyH.nil
                · simp only [List.getElem_toArray, List.getElem_cons_zero, List.getElem_cons_succ]
                  have T9 := veil (store_all (P := Tryd.prog) (ty := 29) (vs := tv ⟨xk, A4, l1z, c4⟩) (M4.out.lay.at (List.mem_cons_of_mem _ List.mem_cons_self)) rfl zeroO (by intro v hv; simp at hv; rcases hv with rfl | rfl <;> rfl))
                  have N9 := M4.out.put 1 rfl (tv ⟨xk, A4, l1z, c4⟩)
                  simp only [List.set_cons_zero, List.set_cons_succ] at N9
                  have M5 := veil N9
                  clear N9
                  refine wp_store_of (.tmp 10) (.tmp 72) rfl rfl rfl T9.out ?_
                  (try dsimp only)
                  refine hK.out _ _ (CA.out _ _ M5.out.lay (List.mem_cons_of_mem _ (List.mem_cons_of_mem _ (List.mem_cons_of_mem _ List.mem_cons_self)))) (fun hHeld => ?_)
                  clear hK K
                  try simp only [Act.put, List.setIfInBounds_toArray, List.set_cons_zero, List.set_cons_succ, List.getElem_toArray, List.getElem_cons_zero, List.getElem_cons_succ]
                  refine wpAnyH_done (by kernel_rfl) ?_ _
                  refine NoPanic.normal ?_
                  clear hHeld
                  (try go_wp2_with fail)
                  go_meet
                  exact ⟨_, _, _, _, rfl, M5.out.sub (List.Sublist.cons _ (List.Sublist.cons_cons _ (List.Sublist.refl _)))⟩
      case rest =>
        obtain ⟨g3, A3, n3, c3, rfl, M3⟩ := hcut
        have hs3 := M3.own.slc
        have hlen3 : zs.length = n := HN.out
        obtain ⟨m, hm⟩ : ∃ m, n = m + 1 := ⟨n - 1, by omega⟩
        have nm1 : (n : Int) - 1 = (m : Int) := by omega
        have hwm : IntKind.i64.wrap (m : Int) = (m : Int) := by rw [IntKind.wrap_i64]; omega
        have hmn : (m : Int) ≤ (n : Int) := by omega
        have E81 := fun u => slice_hi (A := some ⟨g, 0, none⟩) (n := n) (c := n) (k := m) (by omega) u
        have HS3 := veil (show Byt (zs ++ [0]) ∧ (zs ++ [0]).length ≤ 16000000 ∧ rdN xk (zs ++ [0]) = 0 from ⟨byt_app HZ.out (fun z hz => by simp at hz; omega), by simp; omega, rd_no HKP.out _ (.inl (by simp; omega))⟩)
        have HS4 := veil (show Byt (zs.take m) ∧ (zs.take m).length ≤ 16000000 ∧ rdN xk (zs.take m) = 0 from ⟨fun z hz => HZ.out z (List.mem_of_mem_take hz), by simp; omega, rd_no HKP.out _ (.inr (by simp; omega))⟩)
        have HMN := veil (show m ≤ n by omega)
        have HS5 := veil (rd_other (q := q) HKP.out zs HN.out)
        obtain ⟨r3, hr3⟩ : ∃ r, rdN q zs = r := ⟨_, rfl⟩
        rw [hr3] at HS5
        have HR3 := veil hr3
        have hzn : zs.length ≤ 16000000 := by omega
        have HZN := veil hzn
        have VS3 := veil hs3
        have YD := veil M3.lay.drew
        have HBD := veil (show Below wc.heap.size wc wc.drew from still_below (Below.refl _ _))
        obtain ⟨wd, hwd⟩ : ∃ u, wc.drew = u := ⟨_, rfl⟩
        rw [hwd] at YD HBD
        have C0 := veil (show wd.cell? ⟨ga, 0, none⟩ = some (.int .u8 xk) ∧ wd.cell? ⟨ga, 1, none⟩ = some (.slice (some ⟨g, 0, none⟩) n n) from ⟨YD.out.look mem2 rfl, YD.out.look mem2 rfl⟩)
        have YE := veil (YD.out.new [.int .u8 0, .slice none 0 0] 29 (g := wd.heap.size) rfl)
        have C1 := veil (show (wd.alloc (.cells #[.int .u8 0, .slice none 0 0] 29)).cell? ⟨ga, 0, none⟩ = some (.int .u8 xk) ∧ (wd.alloc (.cells #[.int .u8 0, .slice none 0 0] 29)).cell? ⟨ga, 1, none⟩ = some (.slice (some ⟨g, 0, none⟩) n n) from ⟨YE.out.look mem3 rfl, YE.out.look mem3 rfl⟩)
        have T11 := veil (store_all (P := Tryd.prog) (ty := 29) (vs := tv ⟨xk, some ⟨g, 0, none⟩, m, n⟩) (YE.out.at mem0) rfl zeroO (by intro v hv; simp at hv; rcases hv with rfl | rfl <;> rfl))
        have YF := YE.out.put 0 rfl (tv ⟨xk, some ⟨g, 0, none⟩, m, n⟩)
        simp only [List.set_cons_zero] at YF
        obtain ⟨gd, hgd⟩ : ∃ x, wd.heap.size = x := ⟨_, rfl⟩
        obtain ⟨uf, huf⟩ : ∃ u, (wd.alloc (.cells [.int .u8 0, .slice none 0 0].toArray 29)).setRow wd.heap.size (tv ⟨xk, some ⟨g, 0, none⟩, m, n⟩).toArray = u := ⟨_, rfl⟩
        rw [huf] at T11 YF
        rw [hgd] at T11 YF
        have C2 := veil (show uf.cell? ⟨ga, 0, none⟩ = some (.int .u8 xk) ∧ uf.cell? ⟨ga, 1, none⟩ = some (.slice (some ⟨g, 0, none⟩) n n) from ⟨YF.look mem3 rfl, YF.look mem3 rfl⟩)
        have VYF := veil YF
        have q3 := YF.below
        have VS3' := veil (show Slc uf (.slice A3 n3 c3) (zs ++ [0]) from by
          have hb : Below wc.heap.size wc uf := by
            have := ((Lay.begin wd).new [.int .u8 0, .slice none 0 0] 29 (g := wd.heap.size) rfl).put 0 rfl (tv ⟨xk, some ⟨g, 0, none⟩, m, n⟩)
            rw [huf] at this
            exact HBD.out.trans (this.below.mono HBD.out.size)
          exact VS3.out.keep hb)
        clear M3 hs3 hlen3 hm hr3 hzn YD YE YF VS3 VYC q3 huf
        go_wp2_with fail
        refine wp_region_noPanic ?_
        refine wp_region_held_drew (S := fun w' => w'.cell? ⟨ga, 0, none⟩ = some (.int .u8 xk) ∧ w'.cell? ⟨ga, 1, none⟩ = some (.slice (some ⟨g, 0, none⟩) n n)) (by kernel_rfl) (by rw [hwd]; exact C0.out) (fun hHeld => ?_)
        rw [hwd]
        rw [hwd] at hHeld
        clear hwd
        refine wpAnyH_take (i := 0) (v := ?_) (by rfl) (by kernel_rfl) (by kernel_rfl) (by kernel_rfl) (fun _ _ _ h => h) (Or.inl ⟨by rfl, ?_⟩) hHeld ?_
        rotate_left
        · intro w' hSw
          (try dsimp only at hSw)
          simp only [List.getElem_toArray, List.getElem_cons_zero, List.getElem_cons_succ]
          go_simp
          all_goals (try with_reducible rfl)
        try simp only [Act.put, List.setIfInBounds_toArray, List.set_cons_zero, List.set_cons_succ, List.getElem_toArray, List.getElem_cons_zero, List.getElem_cons_succ]
        refine wpAnyH_take (i := 1) (v := ?_) (by rfl) (by kernel_rfl) (by kernel_rfl) (by kernel_rfl) (fun _ _ _ h => h) (Or.inl ⟨by rfl, ?_⟩) hHeld ?_
        rotate_left
        · intro w' hSw
          (try dsimp only at hSw)
          simp only [List.getElem_toArray, List.getElem_cons_zero, List.getElem_cons_succ]
          go_simp
          all_goals (try with_reducible rfl)
        try simp only [Act.put, List.setIfInBounds_toArray, List.set_cons_zero, List.set_cons_succ, List.getElem_toArray, List.getElem_cons_zero, List.getElem_cons_succ]
        refine wpAnyH_take (i := 2) (v := ?_) (by rfl) (by kernel_rfl) (by kernel_rfl) (by kernel_rfl) (fun _ _ _ h => h) (Or.inl ⟨by rfl, ?_⟩) hHeld ?_
        rotate_left
        · intro w' hSw
          (try dsimp only at hSw)
          simp only [List.getElem_toArray, List.getElem_cons_zero, List.getElem_cons_succ]
          go_simp
          all_goals (try with_reducible rfl)
        try simp only [Act.put, List.setIfInBounds_toArray, List.set_cons_zero, List.set_cons_succ, List.getElem_toArray, List.getElem_cons_zero, List.getElem_cons_succ]
        refine wpAnyH_take (i := 3) (v := ?_) (by rfl) (by kernel_rfl) (by kernel_rfl) (by kernel_rfl) (fun _ _ _ h => h) (Or.inl ⟨by rfl, ?_⟩) hHeld ?_
        rotate_left
        · intro w' hSw
          (try dsimp only at hSw)
          simp only [List.getElem_toArray, List.getElem_cons_zero, List.getElem_cons_succ]
          go_simp
          all_goals (try with_reducible rfl)
        try simp only [Act.put, List.setIfInBounds_toArray, List.set_cons_zero, List.set_cons_succ, List.getElem_toArray, List.getElem_cons_zero, List.getElem_cons_succ]
        refine wpAnyH_take (i := 4) (v := ?_) (by rfl) (by kernel_rfl) (by kernel_rfl) (by kernel_rfl) (fun _ _ _ h => h) (Or.inl ⟨by rfl, ?_⟩) hHeld ?_
        rotate_left
        · intro w' hSw
          (try dsimp only at hSw)
          simp only [List.getElem_toArray, List.getElem_cons_zero, List.getElem_cons_succ]
          go_simp
          all_goals (try with_reducible rfl)
        try simp only [Act.put, List.setIfInBounds_toArray, List.set_cons_zero, List.set_cons_succ, List.getElem_toArray, List.getElem_cons_zero, List.getElem_cons_succ]
        refine wpAnyH_take (i := 5) (v := ?_) (by rfl) (by kernel_rfl) (by kernel_rfl) (by kernel_rfl) (fun _ _ _ h => h) (Or.inl ⟨by rfl, ?_⟩) hHeld ?_
        rotate_left
        · intro w' hSw
          (try dsimp only at hSw)
          simp only [List.getElem_toArray, List.getElem_cons_zero, List.getElem_cons_succ]
          go_simp
          all_goals (try with_reducible rfl)
        try simp only [Act.put, List.setIfInBounds_toArray, List.set_cons_zero, List.set_cons_succ, List.getElem_toArray, List.getElem_cons_zero, List.getElem_cons_succ]
        refine wpAnyH_take (i := 6) (v := ?_) (by rfl) (by kernel_rfl) (by kernel_rfl) (by kernel_rfl) (fun _ _ _ h => h) (Or.inl ⟨by rfl, ?_⟩) hHeld ?_
        rotate_left
        · intro w' hSw
          (try dsimp only at hSw)
          simp only [List.getElem_toArray, List.getElem_cons_zero, List.getElem_cons_succ]
          go_simp
          all_goals (try with_reducible rfl)
        try simp only [Act.put, List.setIfInBounds_toArray, List.set_cons_zero, List.set_cons_succ, List.getElem_toArray, List.getElem_cons_zero, List.getElem_cons_succ]
        refine wpAnyH_take (i := 7) (v := ?_) (by rfl) (by kernel_rfl) (by kernel_rfl) (by kernel_rfl) (fun _ _ _ h => h) (Or.inl ⟨by rfl, ?_⟩) hHeld ?_
        rotate_left
        · intro w' hSw
          (try dsimp only at hSw)
          simp only [List.getElem_toArray, List.getElem_cons_zero, List.getElem_cons_succ]
          go_simp
          all_goals (try with_reducible rfl)
        try simp only [Act.put, List.setIfInBounds_toArray, List.set_cons_zero, List.set_cons_succ, List.getElem_toArray, List.getElem_cons_zero, List.getElem_cons_succ]
        refine wpAnyH_take (i := 8) (v := ?_) (by rfl) (by kernel_rfl) (by kernel_rfl) (by kernel_rfl) (fun _ _ _ h => h) (Or.inl ⟨by rfl, ?_⟩) hHeld ?_
        rotate_left
        · intro w' hSw
          (try dsimp only at hSw)
          simp only [List.getElem_toArray, List.getElem_cons_zero, List.getElem_cons_succ]
          go_simp
          all_goals (try with_reducible rfl)
        try simp only [Act.put, List.setIfInBounds_toArray, List.set_cons_zero, List.set_cons_succ, List.getElem_toArray, List.getElem_cons_zero, List.getElem_cons_succ]
        refine wpAnyH_take (i := 9) (v := ?_) (by rfl) (by kernel_rfl) (by kernel_rfl) (by kernel_rfl) (fun _ _ _ h => h) (Or.inl ⟨by rfl, ?_⟩) hHeld ?_
        rotate_left
        · intro w' hSw
          (try dsimp only at hSw)
          simp only [List.getElem_toArray, List.getElem_cons_zero, List.getElem_cons_succ]
          go_simp
          all_goals (try with_reducible rfl)
        try simp only [Act.put, List.setIfInBounds_toArray, List.set_cons_zero, List.set_cons_succ, List.getElem_toArray, List.getElem_cons_zero, List.getElem_cons_succ]
        refine wpAnyH_ready (rs := [10]) (by kernel_rfl) (by simp) ?_
        refine AllReadyH.cons (by rfl) (fun K hK => ?_) AllReadyH.nil
        simp only [List.getElem_toArray, List.getElem_cons_zero, List.getElem_cons_succ]
        go_simp
        (try dsimp only)
        refine hK.out _ _ C1.out (fun hHeld => ?_)
        clear hK K
        try simp only [Act.put, List.setIfInBounds_toArray, List.set_cons_zero, List.set_cons_succ, List.getElem_toArray, List.getElem_cons_zero, List.getElem_cons_succ]
        refine wpAnyH_ready (rs := [11]) (by kernel_rfl) (by simp) ?_
        refine AllReadyH.cons (by rfl) (fun K hK => ?_) AllReadyH.nil
        simp only [List.getElem_toArray, List.getElem_cons_zero, List.getElem_cons_succ]
        refine wp_store_of (.tmp 11) (.tmp 82) rfl rfl rfl T11.out ?_
        (try dsimp only)
        refine hK.out _ _ C2.out (fun hHeld => ?_)
        clear hK K
        try simp only [Act.put, List.setIfInBounds_toArray, List.set_cons_zero, List.set_cons_succ, List.getElem_toArray, List.getElem_cons_zero, List.getElem_cons_succ]
        refine wpAnyH_done (by kernel_rfl) ?_ _
        refine NoPanic.normal ?_
        clear hHeld
        clear C0 C1 C2 T11 E81 nm1 hwm hmn hgd
        have L14 := veil (VYF.out.load (P := Tryd.prog) (ty := 29) (vs := tv ⟨xk, A3, n3, c3⟩) mem1 (part_all _) Tryd.underlying29 rfl zeroO)
        have K14 : Hid (Calls Tryd.prog 56 #[ov ⟨xk, A3, n3, c3⟩] uf fun e w' => e = .returned (.int .i64 0) ∧ Below uf.heap.size uf w') := veil (by
          have h := reads_any ⟨xk, A3, n3, c3⟩ (zs ++ [0]) uf VS3'.out HS3.out.1 HS3.out.2.1
          rw [show rdN (El.mk xk A3 n3 c3).k (zs ++ [0]) = 0 from HS3.out.2.2] at h
          exact h)
        clear HBD VS3'
        go_wp2_with (refine wpList_load_of rfl (.tmp 10) rfl rfl L14.out ?_)
        refine (K14.out).mono ?_
        rintro e x1 ⟨rfl, qx⟩
        have V1 := veil (VYF.out.keep qx)
        have L15 := veil (V1.out.load (P := Tryd.prog) (ty := 29) (vs := tv ⟨xk, some ⟨g, 0, none⟩, m, n⟩) mem0 (part_all _) Tryd.underlying29 rfl zeroO)
        have SZ := veil (slc_part (V1.out.at (List.mem_cons_of_mem _ (List.mem_cons_of_mem _ (List.mem_cons_of_mem _ (List.mem_cons_of_mem _ (List.mem_cons_of_mem _ (List.mem_cons_of_mem _ HG.out))))))) (part_all _) HN.out (Nat.le_refl n))
        have K15 : Hid (Calls Tryd.prog 56 #[ov ⟨xk, some ⟨g, 0, none⟩, m, n⟩] x1 fun e w' => e = .returned (.int .i64 0) ∧ Below x1.heap.size x1 w') := veil (by
          have h := reads_any ⟨xk, some ⟨g, 0, none⟩, m, n⟩ (zs.take m) x1 (slc_front SZ.out HMN.out) HS4.out.1 HS4.out.2.1
          rw [show rdN (El.mk xk (some ⟨g, 0, none⟩) m n).k (zs.take m) = 0 from HS4.out.2.2] at h
          exact h)
        clear K14 L14 VYF qx
        go_wp2_with (refine wpList_load_of rfl (.tmp 11) rfl rfl L15.out ?_)
        refine (K15.out).mono ?_
        rintro e x2 ⟨rfl, qx⟩
        have V2 := veil (V1.out.keep qx)
        have L17 := veil (V2.out.load (P := Tryd.prog) (ty := 29) (vs := tv ⟨q, some ⟨g, 0, none⟩, n, n⟩) mem2 (part_all _) Tryd.underlying29 rfl zeroO)
        have KR : Hid (∀ v, Below x2.heap.size x2 v → Calls Tryd.prog 56 #[ov ⟨q, some ⟨g, 0, none⟩, n, n⟩] v fun e w' => e = .returned (.int .i64 r3) ∧ Below v.heap.size v w') := veil (fun v hv => by
          have h := reads_any ⟨q, some ⟨g, 0, none⟩, n, n⟩ zs v ((SZ.out.keep qx).keep hv) HZ.out HZN.out
          rw [show rdN (El.mk q (some ⟨g, 0, none⟩) n n).k zs = r3 from HR3.out] at h
          exact h)
        have a0 := V2.out.look mem3 (o := 0) (v := .int .u8 xk) rfl
        have a1 := V2.out.look mem3 (o := 1) (v := .slice (some ⟨g, 0, none⟩) n n) rfl
        clear K15 L15 V1 qx SZ
        obtain ⟨b6, hb6⟩ : ∃ b, ((n : Int) == 6) = b := ⟨_, rfl⟩
        obtain ⟨b1, hb1⟩ : ∃ b, (q == 1) = b := ⟨_, rfl⟩
        obtain ⟨b2, hb2⟩ : ∃ b, (q == 2) = b := ⟨_, rfl⟩
        obtain ⟨b5, hb5⟩ : ∃ b, (q == 5) = b := ⟨_, rfl⟩
        obtain ⟨bk, hbk⟩ : ∃ b, (q != xk) = b := ⟨_, rfl⟩
        have HE : Hid (bk = true → (r3 == 1) = (b6 && (b1 || (b2 || b5)))) := veil (fun h => by
          have hne : ¬ q = xk := by rw [h] at hbk; simpa using hbk
          have h3 := HS5.out.2.2 hne
          rw [← hb6, ← hb1, ← hb2, ← hb5, Bool.eq_iff_iff]
          simp only [beq_iff_eq, Bool.and_eq_true, Bool.or_eq_true, h3]
          omega)
        have hgt : ¬ (1 : Int) < r3 := by have := HS5.out.1; omega
        have hcs : b6 = false ∨ (b6 = true ∧ b1 = true) ∨ (b6 = true ∧ b1 = false ∧ b2 = true) ∨ (b6 = true ∧ b1 = false ∧ b2 = false ∧ b5 = true) ∨ (b6 = true ∧ b1 = false ∧ b2 = false ∧ b5 = false) := by
          cases b6 <;> cases b1 <;> cases b2 <;> cases b5 <;> simp
        cases bk
        · rcases hcs with rfl | ⟨rfl, rfl⟩ | ⟨rfl, rfl, rfl⟩ | ⟨rfl, rfl, rfl, rfl⟩ | ⟨rfl, rfl, rfl, rfl⟩
          · go_wp2_with (refine wpList_load_of rfl (.tmp 9) rfl rfl L17.out ?_)
            refine (KR.out _ (Below.refl _ _)).mono ?_
            rintro e x3 ⟨rfl, q3⟩
            have V3 := veil (V2.out.keep q3)
            clear L17 V2 KR q3 a0 a1
            go_wp2_with fail
            go_roundw
            case rel => exact ⟨i + 1, by omega, by go_num, veil (V3.out.sub (List.Sublist.cons _ (List.Sublist.cons _ (List.Sublist.cons _ (List.Sublist.cons _ (List.Sublist.refl _))))))⟩
            case measure => simp [intOf]; omega
          · go_wp2_with (refine wpList_load_of rfl (.tmp 9) rfl rfl L17.out ?_)
            refine (KR.out _ (Below.refl _ _)).mono ?_
            rintro e x3 ⟨rfl, q3⟩
            have V3 := veil (V2.out.keep q3)
            clear L17 V2 KR q3 a0 a1
            go_wp2_with fail
            go_roundw
            case rel => exact ⟨i + 1, by omega, by go_num, veil (V3.out.sub (List.Sublist.cons _ (List.Sublist.cons _ (List.Sublist.cons _ (List.Sublist.cons _ (List.Sublist.refl _))))))⟩
            case measure => simp [intOf]; omega
          · go_wp2_with (refine wpList_load_of rfl (.tmp 9) rfl rfl L17.out ?_)
            refine (KR.out _ (Below.refl _ _)).mono ?_
            rintro e x3 ⟨rfl, q3⟩
            have V3 := veil (V2.out.keep q3)
            clear L17 V2 KR q3 a0 a1
            go_wp2_with fail
            go_roundw
            case rel => exact ⟨i + 1, by omega, by go_num, veil (V3.out.sub (List.Sublist.cons _ (List.Sublist.cons _ (List.Sublist.cons _ (List.Sublist.cons _ (List.Sublist.refl _))))))⟩
            case measure => simp [intOf]; omega
          · go_wp2_with (refine wpList_load_of rfl (.tmp 9) rfl rfl L17.out ?_)
            refine (KR.out _ (Below.refl _ _)).mono ?_
            rintro e x3 ⟨rfl, q3⟩
            have V3 := veil (V2.out.keep q3)
            clear L17 V2 KR q3 a0 a1
            go_wp2_with fail
            go_roundw
            case rel => exact ⟨i + 1, by omega, by go_num, veil (V3.out.sub (List.Sublist.cons _ (List.Sublist.cons _ (List.Sublist.cons _ (List.Sublist.cons _ (List.Sublist.refl _))))))⟩
            case measure => simp [intOf]; omega
          · go_wp2_with (refine wpList_load_of rfl (.tmp 9) rfl rfl L17.out ?_)
            refine (KR.out _ (Below.refl _ _)).mono ?_
            rintro e x3 ⟨rfl, q3⟩
            have V3 := veil (V2.out.keep q3)
            clear L17 V2 KR q3 a0 a1
            go_wp2_with fail
            go_roundw
            case rel => exact ⟨i + 1, by omega, by go_num, veil (V3.out.sub (List.Sublist.cons _ (List.Sublist.cons _ (List.Sublist.cons _ (List.Sublist.cons _ (List.Sublist.refl _))))))⟩
            case measure => simp [intOf]; omega
        · rcases hcs with rfl | ⟨rfl, rfl⟩ | ⟨rfl, rfl, rfl⟩ | ⟨rfl, rfl, rfl, rfl⟩ | ⟨rfl, rfl, rfl, rfl⟩
          · have e1 : (r3 == 1) = false := by rw [HE.out rfl]; simp
            go_wp2_with (refine wpList_load_of rfl (.tmp 9) rfl rfl L17.out ?_)
            refine (KR.out _ (Below.refl _ _)).mono ?_
            rintro e x3 ⟨rfl, q3⟩
            have V3 := veil (V2.out.keep q3)
            have L18 := veil (V3.out.load (P := Tryd.prog) (ty := 29) (vs := tv ⟨q, some ⟨g, 0, none⟩, n, n⟩) mem2 (part_all _) Tryd.underlying29 rfl zeroO)
            have K18 := veil (KR.out x3 q3)
            clear L17 V2 KR q3 a0 a1
            go_wp2_with (refine wpList_load_of rfl (.tmp 9) rfl rfl L18.out ?_)
            refine (K18.out).mono ?_
            rintro e x4 ⟨rfl, q4⟩
            have V4 := veil (V3.out.keep q4)
            clear L18 K18 V3 q4
            go_wp2_with fail
            go_roundw
            case rel => exact ⟨i + 1, by omega, by go_num, veil (V4.out.sub (List.Sublist.cons _ (List.Sublist.cons _ (List.Sublist.cons _ (List.Sublist.cons _ (List.Sublist.refl _))))))⟩
            case measure => simp [intOf]; omega
          · have e1 : (r3 == 1) = true := by rw [HE.out rfl]; simp
            go_wp2_with (refine wpList_load_of rfl (.tmp 9) rfl rfl L17.out ?_)
            refine (KR.out _ (Below.refl _ _)).mono ?_
            rintro e x3 ⟨rfl, q3⟩
            have V3 := veil (V2.out.keep q3)
            have L18 := veil (V3.out.load (P := Tryd.prog) (ty := 29) (vs := tv ⟨q, some ⟨g, 0, none⟩, n, n⟩) mem2 (part_all _) Tryd.underlying29 rfl zeroO)
            have K18 := veil (KR.out x3 q3)
            clear L17 V2 KR q3 a0 a1
            go_wp2_with (refine wpList_load_of rfl (.tmp 9) rfl rfl L18.out ?_)
            refine (K18.out).mono ?_
            rintro e x4 ⟨rfl, q4⟩
            have V4 := veil (V3.out.keep q4)
            clear L18 K18 V3 q4
            go_wp2_with fail
            go_roundw
            case rel => exact ⟨i + 1, by omega, by go_num, veil (V4.out.sub (List.Sublist.cons _ (List.Sublist.cons _ (List.Sublist.cons _ (List.Sublist.cons _ (List.Sublist.refl _))))))⟩
            case measure => simp [intOf]; omega
          · have e1 : (r3 == 1) = true := by rw [HE.out rfl]; simp
            go_wp2_with (refine wpList_load_of rfl (.tmp 9) rfl rfl L17.out ?_)
            refine (KR.out _ (Below.refl _ _)).mono ?_
            rintro e x3 ⟨rfl, q3⟩
            have V3 := veil (V2.out.keep q3)
            have L18 := veil (V3.out.load (P := Tryd.prog) (ty := 29) (vs := tv ⟨q, some ⟨g, 0, none⟩, n, n⟩) mem2 (part_all _) Tryd.underlying29 rfl zeroO)
            have K18 := veil (KR.out x3 q3)
            clear L17 V2 KR q3 a0 a1
            go_wp2_with (refine wpList_load_of rfl (.tmp 9) rfl rfl L18.out ?_)
            refine (K18.out).mono ?_
            rintro e x4 ⟨rfl, q4⟩
            have V4 := veil (V3.out.keep q4)
            clear L18 K18 V3 q4
            go_wp2_with fail
            go_roundw
            case rel => exact ⟨i + 1, by omega, by go_num, veil (V4.out.sub (List.Sublist.cons _ (List.Sublist.cons _ (List.Sublist.cons _ (List.Sublist.cons _ (List.Sublist.refl _))))))⟩
            case measure => simp [intOf]; omega
          · have e1 : (r3 == 1) = true := by rw [HE.out rfl]; simp
            go_wp2_with (refine wpList_load_of rfl (.tmp 9) rfl rfl L17.out ?_)
            refine (KR.out _ (Below.refl _ _)).mono ?_
            rintro e x3 ⟨rfl, q3⟩
            have V3 := veil (V2.out.keep q3)
            have L18 := veil (V3.out.load (P := Tryd.prog) (ty := 29) (vs := tv ⟨q, some ⟨g, 0, none⟩, n, n⟩) mem2 (part_all _) Tryd.underlying29 rfl zeroO)
            have K18 := veil (KR.out x3 q3)
            clear L17 V2 KR q3 a0 a1
            go_wp2_with (refine wpList_load_of rfl (.tmp 9) rfl rfl L18.out ?_)
            refine (K18.out).mono ?_
            rintro e x4 ⟨rfl, q4⟩
            have V4 := veil (V3.out.keep q4)
            clear L18 K18 V3 q4
            go_wp2_with fail
            go_roundw
            case rel => exact ⟨i + 1, by omega, by go_num, veil (V4.out.sub (List.Sublist.cons _ (List.Sublist.cons _ (List.Sublist.cons _ (List.Sublist.cons _ (List.Sublist.refl _))))))⟩
            case measure => simp [intOf]; omega
          · have e1 : (r3 == 1) = false := by rw [HE.out rfl]; simp
            go_wp2_with (refine wpList_load_of rfl (.tmp 9) rfl rfl L17.out ?_)
            refine (KR.out _ (Below.refl _ _)).mono ?_
            rintro e x3 ⟨rfl, q3⟩
            have V3 := veil (V2.out.keep q3)
            have L18 := veil (V3.out.load (P := Tryd.prog) (ty := 29) (vs := tv ⟨q, some ⟨g, 0, none⟩, n, n⟩) mem2 (part_all _) Tryd.underlying29 rfl zeroO)
            have K18 := veil (KR.out x3 q3)
            clear L17 V2 KR q3 a0 a1
            go_wp2_with (refine wpList_load_of rfl (.tmp 9) rfl rfl L18.out ?_)
            refine (K18.out).mono ?_
            rintro e x4 ⟨rfl, q4⟩
            have V4 := veil (V3.out.keep q4)
            clear L18 K18 V3 q4
            go_wp2_with fail
            go_roundw
            case rel => exact ⟨i + 1, by omega, by go_num, veil (V4.out.sub (List.Sublist.cons _ (List.Sublist.cons _ (List.Sublist.cons _ (List.Sublist.cons _ (List.Sublist.refl _))))))⟩
            case measure => simp [intOf]; omega
    · obtain rfl : i = 4 := by omega
      have KV := veil (lives_true wr (HM.out.keep VR.out.below))
      have VQ := veil VR.out.below
      clear VR
      go_wp2_with fail
      refine (KV.out).mono ?_
      rintro e w9 ⟨rfl, q9⟩
      clear KV
      go_wp2_with fail
      go_ret
      exact ⟨rfl, VQ.out.trans (q9.mono VQ.out.size)⟩

theorem own : ownKnob Tryd.prog.godebug = none := by kernel_rfl
theorem readable : ∀ t ∈ Tryd.f8.params.toList, Tryd.prog.readableRec t = true ∧ t < Tryd.prog.types.size := by
  rw [Tryd.params8]
  intro t ht
  simp at ht
  rcases ht with rfl | rfl
  · exact ⟨by kernel_rfl, of_decide_eq_true (by kernel_rfl)⟩
  · exact ⟨by kernel_rfl, of_decide_eq_true (by kernel_rfl)⟩

set_option maxRecDepth 100000 in
theorem lifted (os : Os) (started : os.Started) (H : Type) (enc : TypeId × Value → H) :
    ReturnsInHanded {} Tryd.checked os 8 .any (fun w args => (Rows.optionsKindsSpec.pre enc Tryd.prog Tryd.f8 [] false w args ∧ laidMetH Tryd.prog laid2 w) ∧ sizedMet enc Tryd.prog Tryd.f8 (OpenSpec.ofChange Rows.optionsKindsSpec) false w args)
      (Rows.optionsKindsSpec.post enc Tryd.prog Tryd.f8 false true false false) := by
  refine returns_sized (C := Tryd.checked) (X := fun w _ => laidMetH Tryd.prog laid2 w) (fun _ _ _ hh h => h.of_heap hh) own started (by kernel_rfl) Tryd.func8
    (ChangeSpec.witness_shaped (enc := enc) (C := Tryd.checked) (os := os) (X := fun w _ => laidMetH Tryd.prog laid2 w) false (World.laidAll Tryd.prog os laid2) #[.agg #[.int .u8 0, .int .u8 0, .int .u8 0, .int .u8 0, .int .u8 0, .int .u8 0, .int .u8 0, .int .u8 0, .int .u8 0, .int .u8 0, .int .u8 0, .int .u8 0, .int .u8 0, .int .u8 0, .int .u8 0, .int .u8 0, .int .u8 0, .int .u8 0, .int .u8 0, .int .u8 0, .int .u8 0, .int .u8 0, .int .u8 0, .int .u8 0, .bool false, .bool false, .int .u32 0, .int .u32 0, .slice none 0 0, .int .u32 0, .int .u8 0, .int .u8 0, .int .u8 0, .int .u8 0, .int .u8 0, .int .u8 0, .slice none 0 0, .slice none 0 0], .int .u8 0] 8 (World.laidAll_os _ _ _) (World.shaped_of_ZipB (by kernel_rfl) (by kernel_rfl)) (by kernel_rfl) (by kernel_rfl) (by kernel_rfl) (door_met os _)) ?_
  intro W base args ds gs before hval0 hW hL hSh hsz0
  have hval : ∀ (j : Nat) t v, Tryd.f8.params[j]? = some t → args[j]? = some v → Value.okWide Tryd.prog W .any base t v := hval0
  have hW' := hW
  obtain ⟨p, q, hA0, hV, rfl, _, _⟩ := hW
  have hA : DataW.TrodAll enc Tryd.prog W 0 (fun _ => true) true Tryd.f8.params.toList args.toList ds p := hA0
  rw [Tryd.params8] at hA hval
  obtain ⟨v0, vs0, d0, ds0, p0, q0, hargs, rfl, rfl, h0, r0⟩ := trodAll_cons hA
  obtain ⟨v1, vs1, d1, ds1, p1, q1, rfl, rfl, rfl, h1, r1⟩ := trodAll_cons r0
  obtain ⟨rfl, rfl, rfl⟩ := trodAll_nil r1
  obtain rfl : args = #[v0, v1] := by cases args; simp_all
  obtain ⟨rfl, rfl⟩ := trodVars_none hV
  have hk := mx_met hL hSh
  obtain ⟨p, bs0, az, ss, e0, HP⟩ := open_parts (opens_arg h0 (slim_of hsz0 (j := 0) rfl rfl))
  obtain rfl : v0 = .agg (ptc p).toArray := by
    obtain ⟨cs, rfl, _⟩ := okWide_struct Tryd.underlying58 (hval 0 58 v0 rfl rfl)
    have : cs.toList = ptc p := by simpa [Value.cells] using e0
    rw [← this]
  obtain ⟨q, rfl, rfl, rfl, w1⟩ := open_int Tryd.underlying5 (hval 1 5 v1 rfl rfl) h1
  have hq : 0 ≤ q ∧ q ≤ 255 := by simpa [Lit.wf, IntKind.min, IntKind.max, IntKind.signed, IntKind.bits] using w1
  have hw : Calls Tryd.prog 8 #[.agg (ptc p).toArray, .int .u8 q] W fun e w' => e = .returned (.bool true) ∧ Below W.heap.size W w' := by
    by_cases hg : 4000 < lenP p ss ∨ p.sn = 0
    · exact walk_none p bs0 az ss q W HP hk hg
    · exact walk_all p bs0 az ss q W HP hk (by omega) (by omega)
  refine hw.mono fun e W' ⟨he, hb⟩ => ?_
  subst he
  exact ⟨_, rfl, law_post (by kernel_rfl) rfl rfl Tryd.underlying4 readable hW' rfl hb⟩

/-- OptionsKinds: the row, as given -/
theorem row : Rows.OptionsKindsSaid :=
  OpenClaim.holds_of_wide 8 Tryd.f8 rfl rfl rfl rfl rfl rfl rfl ⟨rfl, rfl, rfl, rfl, rfl⟩ rfl rfl rfl rfl rfl (by kernel_rfl) Tryd.func8 (by kernel_rfl)
    (of_decide_eq_true (by kernel_rfl)) (by unfold Func.isWrapper; first | (rw [if_pos (by decide +kernel)]; kernel_rfl) | (rw [if_neg (by decide +kernel)]; exact ⟨rfl, rfl⟩))
    (fun os started H enc _ => lifted os started H enc)

/-- OptionsKinds: the tied card, as given -/
theorem holds : Rows.OptionsKindsCardSaid :=
  Claim7.holds_tied_plain_at .later [] [.data, .pinned] true Rows.optionsKindsCard.stood.harness false
    row (fun _ h => by cases h) (by kernel_rfl) (fun _ h => by cases h) optionsKinds_row_tie rfl ⟨rfl, rfl⟩ (by kernel_rfl) rfl
    (fun f fn hf hfn => by
      obtain rfl : f = 8 := Option.some.inj ((show Tryd.prog.funcNamed "sojourner/sojournerlaw10.OptionsKinds" = some 8 by kernel_rfl).symm.trans hf) |>.symm
      obtain rfl : fn = Tryd.f8 := (Option.some.inj (Tryd.func8.symm.trans hfn)).symm
      exact ⟨by kernel_rfl, fun j t ht => by
        rw [Tryd.params8] at ht
        have hm : t ∈ [58, 5] := by simpa using Array.mem_of_getElem? ht
        have hall : ([58, 5].all fun u => !Tryd.prog.wantsStandIn u) = true := by kernel_rfl
        exact (show Tryd.prog.wantsStandIn t = false by simpa using List.all_eq_true.1 hall t hm)⟩)
    (by kernel_rfl)

#print axioms holds
end Go.Proofs.YtdebifkefpclaaaDoor.optionsKinds
