/-
  What the code reads out of a cutter in whatever state: an address of the link, an address, a number, a prefix, servers.
  Conditions: the cutter, and the bytes that it cuts, lie in two blocks that are known whole.
-/
import Derived.Test.YtdebifkefpclaaaDoorOpoH
import Derived.Test.YtdebifkefpclaaaDoorAdvD
import Derived.Deep.RegionHeld3
import Derived.BigRegion
namespace Go.Proofs.YtdebifkefpclaaaDoor.Oz
set_option maxRecDepth 100000
open Go.RowKit Ops

/-- so many bytes, filled up with noughts -/
def padV (n : Nat) (ds : List Int) : List Int := ds.take n ++ List.replicate (n - ds.length) 0
theorem padV_len (n : Nat) (ds : List Int) : (padV n ds).length = n := by simp [padV]; omega
theorem padV_byt {ds : List Int} (h : Byt ds) (n : Nat) : Byt (padV n ds) := fun z hz => by
  rcases List.mem_append.1 hz with hz | hz
  · exact h z (List.mem_of_mem_take hz)
  · rw [List.eq_of_mem_replicate hz]; omega
theorem pad_copy {n : Nat} {ds : List Int} {Z : List Value} (hd : ds.length ≤ n) (hZ : Z = bv (List.replicate n 0)) : Z.take 0 ++ bv (ds.take ds.length) ++ Z.drop (0 + ds.length) = bv (padV n ds) := by
  subst hZ
  rw [List.take_zero, List.nil_append, Nat.zero_add, List.take_length]
  have : (bv (List.replicate n 0)).drop ds.length = bv (List.replicate (n - ds.length) 0) := by simp [bv]
  rw [this]
  simp [padV, bv, List.take_of_length_le hd]

set_option linter.unusedSimpArgs false in
set_option maxHeartbeats 8000000 in
theorem readMac_any {w0 w : World} {L : List Blk} {i g b : Nat} {t : TypeId} {zs : List Int} {s : St} (h : Lay w0 w L) (hi : L[i]? = some (g, 130, cS b s)) (hb : (b, t, bv zs) ∈ L) (hr : okS zs s) :
    Calls Tryd.prog 84 #[.pointer (some ⟨g, 0, none⟩)] w fun e w' => e = .returned (.tuple #[.agg (bv (padV 6 (cutV zs s 6))).toArray, .bool true]) ∧ Lay w0 w' (L.set i (g, 130, cS b (nextS s 6))) := by
  obtain ⟨ZA, hZA⟩ : ∃ Z : Array Value, Z = #[.int .u8 0, .int .u8 0, .int .u8 0, .int .u8 0, .int .u8 0, .int .u8 0] := ⟨_, rfl⟩
  have hza : ZA.toList = bv (List.replicate 6 0) := by rw [hZA]; rfl
  have Y1 := h.newA ZA 47 (g := w.heap.size) rfl
  have KB := veil (Lay.bytesS (i := i + 1) Y1.drew (by simpa using hi) (List.mem_cons_of_mem _ hb) hr 6)
  have HL := veil (cutV_len hr 6)
  have HZ := veil hza
  obtain ⟨ds, hds⟩ : ∃ ds, cutV zs s 6 = ds := ⟨_, rfl⟩
  rw [hds] at KB HL
  have HDS := veil hds
  clear h hi hb hr hza Y1 hds
  generalize hw1 : w.alloc (.cells ZA 47) = w1 at *
  obtain ⟨g2, hg2⟩ : ∃ x, w.heap.size = x := ⟨_, rfl⟩
  rw [hg2] at KB
  have hsz := veil hZA
  subst hZA
  go_enter Tryd.func84, Tryd.ntmps84
  go_wp2_with fail
  clear hw1 hg2
  have C0 : Hid True := veil trivial
  refine wp_region_noPanic ?_
  refine wp_region_held_drew (S := fun _ => True) (by kernel_rfl) C0.out (fun hHeld => ?_)
  refine wpAnyH_take (i := 0) (v := ?_) (by rfl) (by kernel_rfl) (by kernel_rfl) (by kernel_rfl) (fun _ _ _ h => h) (Or.inl ⟨by rfl, ?_⟩) hHeld ?_
  rotate_left
  · intro w' hSw
    (try dsimp only at hSw)
    simp only [List.getElem_toArray, List.getElem_cons_zero, List.getElem_cons_succ]
    go_simp
    all_goals (try with_reducible rfl)
  try simp only [Act.put, List.setIfInBounds_toArray, List.set_cons_zero, List.set_cons_succ, List.getElem_toArray, List.getElem_cons_zero, List.getElem_cons_succ]
  refine wpAnyH_take (i := 1) (v := ?_) (by rfl) (by kernel_rfl) (by kernel_rfl) (by kernel_rfl) (fun _ _ _ h => h) (Or.inl ⟨by rfl, ?_⟩) hHeld ?_
  rotate_left
  · intro w' hSw
    (try dsimp only at hSw)
    simp only [List.getElem_toArray, List.getElem_cons_zero, List.getElem_cons_succ]
    go_simp
    all_goals (try with_reducible rfl)
  try simp only [Act.put, List.setIfInBounds_toArray, List.set_cons_zero, List.set_cons_succ, List.getElem_toArray, List.getElem_cons_zero, List.getElem_cons_succ]
  refine wpAnyH_ready (rs := [2]) (by kernel_rfl) (by simp) ?_
  refine AllReadyH.cons (by rfl) (fun K hK => ?_) AllReadyH.nil
  simp only [List.getElem_toArray, List.getElem_cons_zero, List.getElem_cons_succ]
  go_simp
  refine (KB.out).mono ?_
  rintro e w3 ⟨A, m, rfl, hm, S, Y3, _⟩
  simp only [List.set_cons_succ] at Y3
  have hm16 : m ≤ 6 := by
    rcases HL.out with h | ⟨h, _⟩
    · omega
    · rw [h] at hm; simp at hm; omega
  have C := veil (copy_min (o := 0) (N := 6) (c := 6) 3 S (Y3.at mem0) (by omega : min m 6 = m) (by rw [HZ.out, bv_length, List.length_replicate]; omega))
  subst hm
  rw [pad_copy hm16 HZ.out] at C
  have Y4 := Y3.put 0 rfl (bv (padV 6 ds))
  simp only [List.set_cons_zero] at Y4
  have L1 := veil (Y4.load (P := Tryd.prog) (ty := 47) mem0 (part_all _) Tryd.underlying47 rfl (by rw [bv_length, padV_len]; kernel_rfl))
  have T1 := veil (store_all (P := Tryd.prog) (ty := 47) (vs := bv (padV 6 ds)) (Y4.at mem0) rfl (by rw [bv_length, padV_len]; kernel_rfl) (bv_one _))
  have Y5 := Y4.put 0 rfl (bv (padV 6 ds))
  simp only [List.set_cons_zero] at Y5
  have VY5 := veil Y5
  clear KB S Y3 Y4 Y5 hm16 HL
  (try dsimp only)
  refine hK.out _ _ trivial (fun hHeld => ?_)
  clear hK K
  try simp only [Act.put, List.setIfInBounds_toArray, List.set_cons_zero, List.set_cons_succ, List.getElem_toArray, List.getElem_cons_zero, List.getElem_cons_succ]
  refine wpAnyH_ready (rs := [3]) (by kernel_rfl) (by simp) ?_
  refine AllReadyH.cons (by rfl) (fun K hK => ?_) AllReadyH.nil
  simp only [List.getElem_toArray, List.getElem_cons_zero, List.getElem_cons_succ]
  refine wp_copy_of (.tmp 4) (.tmp 6) rfl rfl rfl C.out ?_
  (try dsimp only)
  refine hK.out _ _ trivial (fun hHeld => ?_)
  clear hK K
  try simp only [Act.put, List.setIfInBounds_toArray, List.set_cons_zero, List.set_cons_succ, List.getElem_toArray, List.getElem_cons_zero, List.getElem_cons_succ]
  refine wpAnyH_done (by kernel_rfl) ?_ _
  refine NoPanic.normal ?_
  clear hHeld
  clear C
  go_wp2_with (first
    | (refine wpList_load_of rfl (.tmp 2) rfl rfl L1.out ?_)
    | (refine wpList_store_of rfl _ _ rfl rfl rfl T1.out ?_))
  refine bodyPost_ret (ret_row_tmp rfl rfl rfl (VY5.out.range mem0 (part_all _)) Tryd.underlying47 rfl (by rw [bv_length, padV_len]; kernel_rfl)) rfl ?_
  rw [HDS.out]
  exact ⟨rfl, VY5.out.sub (List.sublist_cons_self _ _)⟩

set_option linter.unusedSimpArgs false in
set_option maxHeartbeats 8000000 in
theorem readAddr_any {w0 w : World} {L : List Blk} {i g b : Nat} {t : TypeId} {zs : List Int} {s : St} (h : Lay w0 w L) (hi : L[i]? = some (g, 130, cS b s)) (hb : (b, t, bv zs) ∈ L) (hr : okS zs s) :
    Calls Tryd.prog 100 #[.pointer (some ⟨g, 0, none⟩)] w fun e w' => e = .returned (.agg (bv (padV 16 (cutV zs s 16))).toArray) ∧ Lay w0 w' (L.set i (g, 130, cS b (nextS s 16))) := by
  obtain ⟨ZA, hZA⟩ : ∃ Z : Array Value, Z = #[.int .u8 0, .int .u8 0, .int .u8 0, .int .u8 0, .int .u8 0, .int .u8 0, .int .u8 0, .int .u8 0, .int .u8 0, .int .u8 0, .int .u8 0, .int .u8 0, .int .u8 0, .int .u8 0, .int .u8 0, .int .u8 0] := ⟨_, rfl⟩
  have hza : ZA.toList = bv (List.replicate 16 0) := by rw [hZA]; rfl
  have Y1 := h.newA ZA 49 (g := w.heap.size) rfl
  have KB := veil (Lay.bytesS (i := i + 1) Y1.drew (by simpa using hi) (List.mem_cons_of_mem _ hb) hr 16)
  have HL := veil (cutV_len hr 16)
  have HZ := veil hza
  obtain ⟨ds, hds⟩ : ∃ ds, cutV zs s 16 = ds := ⟨_, rfl⟩
  rw [hds] at KB HL
  have HDS := veil hds
  clear h hi hb hr hza Y1 hds
  generalize hw1 : w.alloc (.cells ZA 49) = w1 at *
  obtain ⟨g2, hg2⟩ : ∃ x, w.heap.size = x := ⟨_, rfl⟩
  rw [hg2] at KB
  have hsz := veil hZA
  subst hZA
  go_enter Tryd.func100, Tryd.ntmps100
  go_wp2_with fail
  clear hw1 hg2
  have C0 : Hid True := veil trivial
  refine wp_region_noPanic ?_
  refine wp_region_held_drew (S := fun _ => True) (by kernel_rfl) C0.out (fun hHeld => ?_)
  refine wpAnyH_take (i := 0) (v := ?_) (by rfl) (by kernel_rfl) (by kernel_rfl) (by kernel_rfl) (fun _ _ _ h => h) (Or.inl ⟨by rfl, ?_⟩) hHeld ?_
  rotate_left
  · intro w' hSw
    (try dsimp only at hSw)
    simp only [List.getElem_toArray, List.getElem_cons_zero, List.getElem_cons_succ]
    go_simp
    all_goals (try with_reducible rfl)
  try simp only [Act.put, List.setIfInBounds_toArray, List.set_cons_zero, List.set_cons_succ, List.getElem_toArray, List.getElem_cons_zero, List.getElem_cons_succ]
  refine wpAnyH_take (i := 1) (v := ?_) (by rfl) (by kernel_rfl) (by kernel_rfl) (by kernel_rfl) (fun _ _ _ h => h) (Or.inl ⟨by rfl, ?_⟩) hHeld ?_
  rotate_left
  · intro w' hSw
    (try dsimp only at hSw)
    simp only [List.getElem_toArray, List.getElem_cons_zero, List.getElem_cons_succ]
    go_simp
    all_goals (try with_reducible rfl)
  try simp only [Act.put, List.setIfInBounds_toArray, List.set_cons_zero, List.set_cons_succ, List.getElem_toArray, List.getElem_cons_zero, List.getElem_cons_succ]
  refine wpAnyH_ready (rs := [2]) (by kernel_rfl) (by simp) ?_
  refine AllReadyH.cons (by rfl) (fun K hK => ?_) AllReadyH.nil
  simp only [List.getElem_toArray, List.getElem_cons_zero, List.getElem_cons_succ]
  go_simp
  refine (KB.out).mono ?_
  rintro e w3 ⟨A, m, rfl, hm, S, Y3, _⟩
  simp only [List.set_cons_succ] at Y3
  have hm16 : m ≤ 16 := by
    rcases HL.out with h | ⟨h, _⟩
    · omega
    · rw [h] at hm; simp at hm; omega
  have C := veil (copy_min (o := 0) (N := 16) (c := 16) 3 S (Y3.at mem0) (by omega : min m 16 = m) (by rw [HZ.out, bv_length, List.length_replicate]; omega))
  subst hm
  rw [pad_copy hm16 HZ.out] at C
  have Y4 := Y3.put 0 rfl (bv (padV 16 ds))
  simp only [List.set_cons_zero] at Y4
  have L1 := veil (Y4.load (P := Tryd.prog) (ty := 49) mem0 (part_all _) Tryd.underlying49 rfl (by rw [bv_length, padV_len]; kernel_rfl))
  have T1 := veil (store_all (P := Tryd.prog) (ty := 49) (vs := bv (padV 16 ds)) (Y4.at mem0) rfl (by rw [bv_length, padV_len]; kernel_rfl) (bv_one _))
  have Y5 := Y4.put 0 rfl (bv (padV 16 ds))
  simp only [List.set_cons_zero] at Y5
  have VY5 := veil Y5
  clear KB S Y3 Y4 Y5 hm16 HL
  (try dsimp only)
  refine hK.out _ _ trivial (fun hHeld => ?_)
  clear hK K
  try simp only [Act.put, List.setIfInBounds_toArray, List.set_cons_zero, List.set_cons_succ, List.getElem_toArray, List.getElem_cons_zero, List.getElem_cons_succ]
  refine wpAnyH_ready (rs := [3]) (by kernel_rfl) (by simp) ?_
  refine AllReadyH.cons (by rfl) (fun K hK => ?_) AllReadyH.nil
  simp only [List.getElem_toArray, List.getElem_cons_zero, List.getElem_cons_succ]
  refine wp_copy_of (.tmp 3) (.tmp 5) rfl rfl rfl C.out ?_
  (try dsimp only)
  refine hK.out _ _ trivial (fun hHeld => ?_)
  clear hK K
  try simp only [Act.put, List.setIfInBounds_toArray, List.set_cons_zero, List.set_cons_succ, List.getElem_toArray, List.getElem_cons_zero, List.getElem_cons_succ]
  refine wpAnyH_done (by kernel_rfl) ?_ _
  refine NoPanic.normal ?_
  clear hHeld
  clear C
  go_wp2_with (first
    | (refine wpList_load_of rfl (.tmp 2) rfl rfl L1.out ?_)
    | (refine wpList_store_of rfl _ _ rfl rfl rfl T1.out ?_))
  refine bodyPost_ret (ret_row rfl rfl (VY5.out.range mem0 (part_all _)) Tryd.underlying49 rfl (by rw [bv_length, padV_len]; kernel_rfl)) rfl ?_
  rw [HDS.out]
  exact ⟨rfl, VY5.out.sub (List.sublist_cons_self _ _)⟩

theorem numV_bound {zs : List Int} {s : St} (hz : Byt zs) (hr : okS zs s) (k : Nat) : 0 ≤ num (cutV zs s k) ∧ num (cutV zs s k) < 256 ^ k := by
  rcases cutV_len hr k with h | ⟨h, _⟩
  · have := num_bound (cutV zs s k) (byt_cutV hz s k) k (by omega)
    rwa [List.take_of_length_le (by omega)] at this
  · rw [h]
    exact ⟨by simp [num], by rw [show num [] = 0 from rfl]; exact Int.pow_pos (by omega)⟩
theorem set_getE {α : Type} {L : List α} {i : Nat} {x : α} (h : L[i]? = some x) (y : α) : (L.set i y)[i]? = some y := List.getElem?_set_self (List.getElem?_eq_some_iff.1 h).1
theorem mem_setE {L : List Blk} {i g b : Nat} {t u : TypeId} {cs ds es : List Value} (hi : L[i]? = some (g, t, cs)) (hb : (b, u, es) ∈ L) (hne : b ≠ g) : (b, u, es) ∈ L.set i (g, t, ds) := by
  obtain ⟨j, hj⟩ := List.getElem?_of_mem hb
  refine List.mem_of_getElem? (i := j) ?_
  rw [List.getElem?_set_ne (fun e => ?_)]
  · exact hj
  · subst e
    rw [hi] at hj
    injection hj with hj
    exact hne (congrArg (fun x : Blk => x.1) hj).symm
/-- the state behind a number, and the number -/
def numS6 (s : St) : St := nextS (nextS s 2) 4
def num6 (zs : List Int) (s : St) : Int := num (cutV zs (nextS s 2) 4)
theorem num6_bound {zs : List Int} {s : St} (hz : Byt zs) (hr : okS zs s) : 0 ≤ num6 zs s ∧ num6 zs s ≤ 4294967295 := by
  have := numV_bound hz (okS_next hr 2) 4
  unfold num6
  omega

set_option linter.unusedSimpArgs false in
set_option maxHeartbeats 4000000 in
theorem readNumber_any {w0 w : World} {L : List Blk} {i g b : Nat} {t : TypeId} {zs : List Int} {s : St} (h : Lay w0 w L) (hi : L[i]? = some (g, 130, cS b s)) (hb : (b, t, bv zs) ∈ L) (hne : b ≠ g) (hz : Byt zs) (hr : okS zs s) :
    Calls Tryd.prog 88 #[.pointer (some ⟨g, 0, none⟩)] w fun e w' => e = .returned (.tuple #[.int .u32 (num6 zs s), .bool true]) ∧ Lay w0 w' (L.set i (g, 130, cS b (numS6 s))) := by
  have KB := veil (Lay.bytesS h hi hb hr 2)
  have HB := num6_bound hz hr
  have hwn : IntKind.u32.wrap (num6 zs s) = num6 zs s := by rw [IntKind.wrap_u32]; omega
  have HI := veil hi
  have HM := veil hb
  have HZ := veil hz
  have HR := veil hr
  have HNE := veil hne
  clear h hi hb hz hr hne HB
  go_enter Tryd.func88, Tryd.ntmps88
  go_wp2_with fail
  refine (KB.out).mono ?_
  rintro e w1 ⟨A, m, rfl, _, _, Y1, _⟩
  have KN := veil (Lay.numS Y1 (set_getE HI.out _) (mem_setE HI.out HM.out HNE.out) HNE.out HZ.out (okS_next HR.out 2) 4 (by omega) (by omega))
  clear KB Y1
  go_wp2_with fail
  refine (KN.out).mono ?_
  rintro e w2 ⟨rfl, Y2, _⟩
  rw [List.set_set] at Y2
  have VY2 := veil Y2
  clear KN Y2
  change IntKind.u32.wrap (num (cutV zs (nextS s 2) 4)) = num (cutV zs (nextS s 2) 4) at hwn
  go_wp2_with fail
  refine bodyPost_ret (results_tmp2 rfl _ _ _) rfl ?_
  exact ⟨rfl, VY2.out⟩

theorem flag_on {f : Int} (h : 0 ≤ f ∧ f ≤ 255) : ((bits .and .u8 f 128 != 0) = decide (128 ≤ f)) :=
  Ad.fin256 (p := fun f => ((bits .and .u8 f 128 != 0) = decide (128 ≤ f))) (by decide +kernel) h
theorem flag_auto {f : Int} (h : 0 ≤ f ∧ f ≤ 255) : ((bits .and .u8 f 64 != 0) = decide (f / 64 % 2 = 1)) :=
  Ad.fin256 (p := fun f => ((bits .and .u8 f 64 != 0) = decide (f / 64 % 2 = 1))) (by decide +kernel) h
abbrev st1 (s : St) : St := nextS s 1
abbrev st2 (s : St) : St := nextS (st1 s) 1
abbrev st3 (s : St) : St := nextS (st2 s) 4
abbrev st4 (s : St) : St := nextS (st3 s) 4
abbrev st5 (s : St) : St := nextS (st4 s) 4
abbrev st6 (s : St) : St := nextS (st5 s) 16
/-- what is told of a prefix -/
def prefV (zs : List Int) (s : St) : PI := ⟨Ad.msk (padV 16 (cutV zs (st5 s) 16)) (num (cutV zs s 1)).toNat, num (cutV zs s 1), decide (128 ≤ num (cutV zs (st1 s) 1)), decide (num (cutV zs (st1 s) 1) / 64 % 2 = 1), num (cutV zs (st2 s) 4), num (cutV zs (st3 s) 4)⟩
theorem prefV_fit {zs : List Int} {s : St} (hz : Byt zs) (hr : okS zs s) : Fit (prefV zs s) := by
  have h1 := numV_bound hz hr 1
  have h2 := numV_bound hz (show okS zs (st2 s) from okS_next (okS_next hr 1) 1) 4
  have h3 := numV_bound hz (show okS zs (st3 s) from okS_next (okS_next (okS_next hr 1) 1) 4) 4
  have h4 := Ad.msk_ok (xs := padV 16 (cutV zs (st5 s) 16)) ⟨padV_len _ _, padV_byt (byt_cutV hz _ _) _⟩ (num (cutV zs s 1)).toNat
  exact ⟨h4.len, h4.byt, by simp only [prefV]; omega, by simp only [prefV]; omega, by simp only [prefV]; omega⟩

theorem pv_lit (a0 a1 a2 a3 a4 a5 a6 a7 a8 a9 a10 a11 a12 a13 a14 a15 b : Int) (w : World) : (Instr.build 51 #[(0, .agg (bv [a0, a1, a2, a3, a4, a5, a6, a7, a8, a9, a10, a11, a12, a13, a14, a15]).toArray), (1, .int .u8 b)]).run Tryd.prog w = .ok (.agg (bv [a0, a1, a2, a3, a4, a5, a6, a7, a8, a9, a10, a11, a12, a13, a14, a15] ++ [Value.int .u8 b]).toArray) w := by kernel_rfl
theorem build_pv {ys : List Int} (h : ys.length = 16) (b : Int) (w : World) : (Instr.build 51 #[(0, .agg (bv ys).toArray), (1, .int .u8 b)]).run Tryd.prog w = .ok (.agg (bv ys ++ [Value.int .u8 b]).toArray) w := by
  match ys, h with
  | [a0, a1, a2, a3, a4, a5, a6, a7, a8, a9, a10, a11, a12, a13, a14, a15], _ => exact pv_lit a0 a1 a2 a3 a4 a5 a6 a7 a8 a9 a10 a11 a12 a13 a14 a15 b w
theorem sizePV : (Tryd.prog.info? 51).map (·.size) = some 17 := by kernel_rfl
theorem pic_one (p : PI) : ∀ v ∈ pic p, v.oneCell' = true := by
  intro v hv
  rcases List.mem_append.1 hv with hv | hv
  · exact bv_one _ v hv
  · simp at hv
    rcases hv with rfl | rfl | rfl | rfl | rfl <;> rfl

set_option linter.unusedSimpArgs false in
set_option maxHeartbeats 16000000 in
theorem readPrefix_any {w0 w : World} {L : List Blk} {i g b : Nat} {t : TypeId} {zs : List Int} {s : St} (h : Lay w0 w L) (hi : L[i]? = some (g, 130, cS b s)) (hb : (b, t, bv zs) ∈ L) (hne : b ≠ g) (hz : Byt zs) (hr : okS zs s) :
    Calls Tryd.prog 86 #[.pointer (some ⟨g, 0, none⟩)] w fun e w' => e = .returned (.tuple #[.agg (pic (prefV zs s)).toArray, .bool (decide (num (cutV zs s 1) ≤ 128))]) ∧ Lay w0 w' (L.set i (g, 130, cS b (st6 s))) := by
  obtain ⟨ZP, hZP⟩ : ∃ Z : Array Value, Z = #[.int .u8 0, .int .u8 0, .int .u8 0, .int .u8 0, .int .u8 0, .int .u8 0, .int .u8 0, .int .u8 0, .int .u8 0, .int .u8 0, .int .u8 0, .int .u8 0, .int .u8 0, .int .u8 0, .int .u8 0, .int .u8 0, .int .u8 0, .bool false, .bool false, .int .u32 0, .int .u32 0] := ⟨_, rfl⟩
  have hzp : ZP.toList = bv (List.replicate 16 0) ++ [Value.int .u8 0, Value.bool false, Value.bool false, Value.int .u32 0, Value.int .u32 0] := by rw [hZP]; rfl
  have Y1 := h.newA ZP 54 (g := w.heap.size) rfl
  rw [hzp] at Y1
  have hb1 : (b, t, bv zs) ∈ (w.heap.size, 54, bv (List.replicate 16 0) ++ [Value.int .u8 0, Value.bool false, Value.bool false, Value.int .u32 0, Value.int .u32 0]) :: L := List.mem_cons_of_mem _ hb
  have r1 : okS zs (st1 s) := okS_next hr 1
  have r2 : okS zs (st2 s) := okS_next r1 1
  have r3 : okS zs (st3 s) := okS_next r2 4
  have r4 : okS zs (st4 s) := okS_next r3 4
  have r5 : okS zs (st5 s) := okS_next r4 4
  have K1 := veil (Lay.numS (i := i + 1) Y1 (by simpa using hi) hb1 hne hz hr 1 (by omega) (by omega))
  obtain ⟨P, hP⟩ : ∃ P, prefV zs s = P := ⟨_, rfl⟩
  have HP := veil hP
  have HF := veil (hP ▸ prefV_fit hz hr)
  have n1 := numV_bound hz hr 1
  have n2 := numV_bound hz r1 1
  have n3 := numV_bound hz r2 4
  have n4 := numV_bound hz r3 4
  obtain ⟨v1, hv1⟩ : ∃ v : Nat, num (cutV zs s 1) = (v : Int) := ⟨(num (cutV zs s 1)).toNat, by omega⟩
  obtain ⟨v2, hv2⟩ : ∃ v, num (cutV zs (st1 s) 1) = v := ⟨_, rfl⟩
  obtain ⟨v3, hv3⟩ : ∃ v, num (cutV zs (st2 s) 4) = v := ⟨_, rfl⟩
  obtain ⟨v4, hv4⟩ : ∃ v, num (cutV zs (st3 s) 4) = v := ⟨_, rfl⟩
  rw [hv1] at n1 K1
  rw [hv2] at n2
  rw [hv3] at n3
  rw [hv4] at n4
  have w1' : IntKind.u8.wrap (v1 : Int) = (v1 : Int) := by rw [IntKind.wrap_u8]; omega
  have w2' : IntKind.u8.wrap v2 = v2 := by rw [IntKind.wrap_u8]; omega
  have w3' : IntKind.u32.wrap v3 = v3 := by rw [IntKind.wrap_u32]; omega
  have w4' : IntKind.u32.wrap v4 = v4 := by rw [IntKind.wrap_u32]; omega
  have f1 := flag_on (f := v2) (by omega)
  have f2 := flag_auto (f := v2) (by omega)
  have HV : Hid (num (cutV zs s 1) = v1 ∧ num (cutV zs (st1 s) 1) = v2 ∧ num (cutV zs (st2 s) 4) = v3 ∧ num (cutV zs (st3 s) 4) = v4 ∧ v1 ≤ 255) := veil ⟨hv1, hv2, hv3, hv4, by omega⟩
  have HI := veil hi
  have HM := veil hb
  have HZ := veil hz
  have HR := veil (And.intro r1 (And.intro r2 (And.intro r3 (And.intro r4 r5))))
  have HNE := veil hne
  obtain ⟨z1, hz1⟩ : ∃ z, decide (128 ≤ v2) = z := ⟨_, rfl⟩
  obtain ⟨z2, hz2⟩ : ∃ z, decide (v2 / 64 % 2 = 1) = z := ⟨_, rfl⟩
  rw [hz1] at f1
  rw [hz2] at f2
  have HZZ := veil (And.intro hz1 hz2)
  generalize hw1 : w.alloc (.cells ZP 54) = u1 at *
  obtain ⟨g2, hg2⟩ : ∃ x, w.heap.size = x := ⟨_, rfl⟩
  rw [hg2] at K1
  clear h hi hb hb1 hz hr hne r1 r2 r3 r4 r5 hP n1 n2 n3 n4 hv1 hv2 hv3 hv4 Y1 hzp hz1 hz2
  subst hZP
  go_enter Tryd.func86, Tryd.ntmps86
  go_wp2_with fail
  clear hw1 hg2
  refine (K1.out).mono ?_
  rintro e u2 ⟨rfl, Y2, _⟩
  simp only [List.set_cons_succ] at Y2
  have K2 := veil (Lay.numS (i := i + 1) Y2 (by simpa using set_getE HI.out _) (List.mem_cons_of_mem _ (mem_setE HI.out HM.out HNE.out)) HNE.out HZ.out HR.out.1 1 (by omega) (by omega))
  rw [show num (cutV zs (st1 s) 1) = v2 from HV.out.2.1] at K2
  clear K1 Y2
  go_wp2_with fail
  refine (K2.out).mono ?_
  rintro e u3 ⟨rfl, Y3, _⟩
  simp only [List.set_cons_succ, List.set_set] at Y3
  have c17 := Y3.look mem0 (o := 17) (v := .bool false) rfl
  have c18 := Y3.look mem0 (o := 18) (v := .bool false) rfl
  have d17 := Y3.free mem0 17
  have d18 := Y3.free mem0 18
  have Y4 := (Y3.cell 0 rfl 17 (.bool z1)).cell 0 rfl 18 (.bool z2)
  obtain ⟨u4, hu4⟩ : ∃ u, (u3.setCell ⟨g2, 17, none⟩ (.bool z1)).setCell ⟨g2, 18, none⟩ (.bool z2) = u := ⟨_, rfl⟩
  rw [hu4] at Y4
  have Y4 : Lay w0 u4 ((g2, 54, bv (List.replicate 16 0) ++ [Value.int .u8 0, Value.bool z1, Value.bool z2, Value.int .u32 0, Value.int .u32 0]) :: L.set i (g, 130, cS b (st2 s))) := Y4
  have K3 := veil (Lay.numS (i := i + 1) Y4 (by simpa using set_getE HI.out _) (List.mem_cons_of_mem _ (mem_setE HI.out HM.out HNE.out)) HNE.out HZ.out HR.out.2.1 4 (by omega) (by omega))
  rw [show num (cutV zs (st2 s) 4) = v3 from HV.out.2.2.1] at K3
  clear K2 Y3 Y4
  go_wp2_with fail
  clear hu4 c17 c18 d17 d18 f1 f2
  refine (K3.out).mono ?_
  rintro e u5 ⟨rfl, Y5, _⟩
  simp only [List.set_cons_succ, List.set_set] at Y5
  have K4 := veil (Lay.numS (i := i + 1) Y5 (by simpa using set_getE HI.out _) (List.mem_cons_of_mem _ (mem_setE HI.out HM.out HNE.out)) HNE.out HZ.out HR.out.2.2.1 4 (by omega) (by omega))
  rw [show num (cutV zs (st3 s) 4) = v4 from HV.out.2.2.2.1] at K4
  clear K3 Y5
  go_wp2_with fail
  refine (K4.out).mono ?_
  rintro e u6 ⟨rfl, Y6, _⟩
  simp only [List.set_cons_succ, List.set_set] at Y6
  have c19 := Y6.look mem0 (o := 19) (v := .int .u32 0) rfl
  have c20 := Y6.look mem0 (o := 20) (v := .int .u32 0) rfl
  have d19 := Y6.free mem0 19
  have d20 := Y6.free mem0 20
  have Y7 := (Y6.cell 0 rfl 19 (.int .u32 v3)).cell 0 rfl 20 (.int .u32 v4)
  obtain ⟨u7, hu7⟩ : ∃ u, (u6.setCell ⟨g2, 19, none⟩ (.int .u32 v3)).setCell ⟨g2, 20, none⟩ (.int .u32 v4) = u := ⟨_, rfl⟩
  rw [hu7] at Y7
  have Y7 : Lay w0 u7 ((g2, 54, bv (List.replicate 16 0) ++ [Value.int .u8 0, Value.bool z1, Value.bool z2, Value.int .u32 v3, Value.int .u32 v4]) :: L.set i (g, 130, cS b (st4 s))) := Y7
  have K5 := veil (Lay.bytesS (i := i + 1) Y7 (by simpa using set_getE HI.out _) (List.mem_cons_of_mem _ (mem_setE HI.out HM.out HNE.out)) HR.out.2.2.2.1 4)
  clear K4 Y6 Y7
  go_wp2_with fail
  clear hu7 c19 c20 d19 d20
  refine (K5.out).mono ?_
  rintro e u8 ⟨A8, m8, rfl, _, _, Y8, _⟩
  simp only [List.set_cons_succ, List.set_set] at Y8
  have K6 := veil (readAddr_any (i := i + 1) Y8 (by simpa using set_getE HI.out _) (List.mem_cons_of_mem _ (mem_setE HI.out HM.out HNE.out)) HR.out.2.2.2.2)
  clear K5 Y8
  go_wp2_with fail
  refine (K6.out).mono ?_
  rintro e u9 ⟨rfl, Y9⟩
  simp only [List.set_cons_succ, List.set_set] at Y9
  have K7 := veil (Ad.masked_any (padV 16 (cutV zs (st5 s) 16)) v1 u9 ⟨padV_len _ _, padV_byt (byt_cutV HZ.out _ _) _⟩ HV.out.2.2.2.2)
  have VY9 := veil Y9
  obtain ⟨ad, had⟩ : ∃ x, padV 16 (cutV zs (st5 s) 16) = x := ⟨_, rfl⟩
  rw [had] at K7
  have HAD := veil had
  clear K6 Y9
  go_wp2_with fail
  clear had
  refine (K7.out).mono ?_
  rintro e ua ⟨rfl, qa⟩
  have Ya := VY9.out.keep qa
  have hms := Ad.msk_len ad v1
  obtain ⟨ms, hmm⟩ : ∃ x, Ad.msk ad v1 = x := ⟨_, rfl⟩
  rw [hmm] at hms
  have BP := veil (build_pv hms (v1 : Int) ua)
  have T1 := veil (store_part (P := Tryd.prog) (o := 0) (ty := 51) (vs := bv ms ++ [Value.int .u8 v1]) (Ya.at mem0) (by simp [bv_length, hms]) (by rw [List.length_append, bv_length, hms]; exact sizePV) (by
    intro v hv
    rcases List.mem_append.1 hv with hv | hv
    · exact bv_one _ v hv
    · simp at hv; subst hv; rfl))
  have Yb := Ya.put 0 rfl ((bv (List.replicate 16 0) ++ [Value.int .u8 0, Value.bool z1, Value.bool z2, Value.int .u32 v3, Value.int .u32 v4]).take 0 ++ (bv ms ++ [Value.int .u8 v1]) ++ (bv (List.replicate 16 0) ++ [Value.int .u8 0, Value.bool z1, Value.bool z2, Value.int .u32 v3, Value.int .u32 v4]).drop (0 + (bv ms ++ [Value.int .u8 v1]).length))
  simp only [List.set_cons_zero] at Yb
  have hP : P = ⟨ms, v1, z1, z2, v3, v4⟩ := by
    rw [← HP.out]
    unfold prefV
    rw [HV.out.1, HV.out.2.1, HV.out.2.2.1, HV.out.2.2.2.1, HZZ.out.1, HZZ.out.2, HAD.out, Int.toNat_natCast, hmm]
  have hcs : (bv (List.replicate 16 0) ++ [Value.int .u8 0, Value.bool z1, Value.bool z2, Value.int .u32 v3, Value.int .u32 v4]).take 0 ++ (bv ms ++ [Value.int .u8 v1]) ++ (bv (List.replicate 16 0) ++ [Value.int .u8 0, Value.bool z1, Value.bool z2, Value.int .u32 v3, Value.int .u32 v4]).drop (0 + (bv ms ++ [Value.int .u8 v1]).length) = pic P := by
    rw [hP, show 0 + (bv ms ++ [Value.int .u8 v1]).length = 17 by simp [bv_length, hms]]
    simp [bv, pic]
  rw [hcs] at T1 Yb
  have L1 := veil (Yb.load (P := Tryd.prog) (ty := 54) mem0 (part_all _) Tryd.underlying54 rfl (by rw [pic_len HF.out]; exact sizePI))
  have T2 := veil (store_all (P := Tryd.prog) (ty := 54) (vs := pic P) (Yb.at mem0) rfl (by rw [pic_len HF.out]; exact sizePI) (pic_one P))
  have Yc := Yb.put 0 rfl (pic P)
  simp only [List.set_cons_zero] at Yc
  have VYc := veil Yc
  clear K7 Ya Yb Yc qa hcs hms VY9 hP
  go_wp2_with (first
    | (refine wpList_build_of rfl 51 #[(0, .tmp 33), (1, .tmp 34)] rfl #[(0, .agg (bv ms).toArray), (1, .int .u8 v1)] (by simp [Act.eval]) BP.out ?_)
    | (refine wpList_store_of rfl _ _ rfl rfl rfl T1.out ?_)
    | (refine wpList_load_of rfl (.tmp 2) rfl rfl L1.out ?_)
    | (refine wpList_store_of rfl _ _ rfl rfl rfl T2.out ?_))

  refine bodyPost_ret (ret_row_tmp rfl rfl rfl (VYc.out.range mem0 (part_all _)) Tryd.underlying54 rfl (by rw [pic_len HF.out]; exact sizePI)) rfl ?_
  rw [HP.out, HV.out.1]
  exact ⟨rfl, VYc.out.sub (List.sublist_cons_self _ _)⟩

def nextA (s : St) : Nat → St
  | 0 => s
  | k + 1 => nextS (nextA s k) 16
def rdA (zs : List Int) (s : St) : Nat → List (List Int)
  | 0 => []
  | k + 1 => rdA zs s k ++ [padV 16 (cutV zs (nextA s k) 16)]
theorem okS_nextA {zs : List Int} {s : St} (h : okS zs s) : ∀ k, okS zs (nextA s k)
  | 0 => h
  | k + 1 => okS_next (okS_nextA h k) 16
theorem rdA_len (zs : List Int) (s : St) : ∀ k, (rdA zs s k).flatten.length = 16 * k
  | 0 => rfl
  | k + 1 => by
    simp only [rdA, List.flatten_append, List.length_append, rdA_len zs s k, List.flatten_cons, List.flatten_nil, padV_len, List.length_nil]
    omega
theorem rd_next {l ad : List Int} {j k : Nat} (hl : l.length = 16 * j) (ha : ad.length = 16) (hj : j < k) : (bv (l ++ List.replicate (16 * (k - j)) 0)).take (j * 16) ++ bv ad ++ (bv (l ++ List.replicate (16 * (k - j)) 0)).drop (j * 16 + (bv ad).length) = bv ((l ++ ad) ++ List.replicate (16 * (k - (j + 1))) 0) := by
  have t : ∀ (l : List Int) (k : Nat), (bv l).take k = bv (l.take k) := fun l k => by simp [bv]
  have u : ∀ (l : List Int) (k : Nat), (bv l).drop k = bv (l.drop k) := fun l k => by simp [bv]
  have v : ∀ (l m : List Int), bv l ++ bv m = bv (l ++ m) := fun l m => by simp [bv]
  rw [bv_length, ha, t, u, v, v, List.take_left' (by omega), ← List.drop_drop, List.drop_left' (by omega), List.drop_replicate, show 16 * (k - j) - 16 = 16 * (k - (j + 1)) by omega]
theorem made_addrs (m : Nat) : madeCells #[.int .u8 0, .int .u8 0, .int .u8 0, .int .u8 0, .int .u8 0, .int .u8 0, .int .u8 0, .int .u8 0, .int .u8 0, .int .u8 0, .int .u8 0, .int .u8 0, .int .u8 0, .int .u8 0, .int .u8 0, .int .u8 0] (m * 16) = (bv (List.replicate (16 * m) 0)).toArray := by
  apply Array.ext_getElem?
  intro j
  by_cases hj : j < m * 16
  · have h0 : (#[.int .u8 0, .int .u8 0, .int .u8 0, .int .u8 0, .int .u8 0, .int .u8 0, .int .u8 0, .int .u8 0, .int .u8 0, .int .u8 0, .int .u8 0, .int .u8 0, .int .u8 0, .int .u8 0, .int .u8 0, .int .u8 0] : Array Value) = Array.replicate 16 (.int .u8 0) := rfl
    have h1 : (Array.replicate 16 (Value.int .u8 0))[j % 16]! = .int .u8 0 := by
      rw [getElem!_pos _ _ (by simp; omega)]
      simp
    have h2 : (bv (List.replicate (16 * m) 0)).toArray[j]? = some (.int .u8 0) := by
      rw [List.getElem?_toArray, bv, List.map_replicate, List.getElem?_replicate, if_pos (by omega)]
    rw [h2, h0]
    simp only [madeCells, Array.getElem?_map, Array.size_replicate]
    rw [Array.getElem?_range, if_pos hj]
    exact congrArg some h1
  · rw [Array.getElem?_eq_none (by rw [size_madeCells]; omega), Array.getElem?_eq_none (by simp [bv]; omega)]
theorem run_make_addr (n : Nat) (hn : n ≤ 1000000) (u : World) : (Instr.makeSlice 55 (.int .i64 n) (.int .i64 n)).run Tryd.prog u = .ok (.slice (some ⟨u.heap.size, 0, none⟩) n n) (u.alloc (.cells (bv (List.replicate (16 * n) 0)).toArray 49)) := by
  have hT : (Tryd.prog.info? 49).map (fun i => (i.zero, i.size, i.bytes)) = some (some (.agg #[.int .u8 0, .int .u8 0, .int .u8 0, .int .u8 0, .int .u8 0, .int .u8 0, .int .u8 0, .int .u8 0, .int .u8 0, .int .u8 0, .int .u8 0, .int .u8 0, .int .u8 0, .int .u8 0, .int .u8 0, .int .u8 0]), 16, 16) := by kernel_rfl
  obtain ⟨i, hi, hz0, hz1, hz2⟩ := info_parts hT
  have h := run_make (P := Tryd.prog) u 55 49 i _ Tryd.underlying55 hi hz0 .i64 .i64 n n (by omega) (by omega) (by rw [hz2]; omega) (by omega)
  rw [← made_addrs]
  simpa [hz1, Value.cells] using h

set_option linter.unusedSimpArgs false in
set_option maxHeartbeats 16000000 in
theorem readServers_any {w0 w : World} {L : List Blk} {i g b : Nat} {t : TypeId} {zs : List Int} {s : St} (h : Lay w0 w L) (hi : L[i]? = some (g, 130, cS b s)) (hb : (b, t, bv zs) ∈ L) (hne : b ≠ g) (hz : Byt zs) (hr : okS zs s) (hl : leftS (numS6 s) ≤ 16000000) :
    Calls Tryd.prog 90 #[.pointer (some ⟨g, 0, none⟩)] w fun e w' => ∃ gl, w.heap.size ≤ gl ∧ e = .returned (.tuple #[.agg #[.int .u32 (num6 zs s), .slice (some ⟨gl, 0, none⟩) (leftS (numS6 s) / 16) (leftS (numS6 s) / 16)], .bool (decide (0 < leftS (numS6 s) / 16))]) ∧
      Lay w0 w' ((gl, 49, bv (rdA zs (numS6 s) (leftS (numS6 s) / 16)).flatten) :: L.set i (g, 130, cS b (nextA (numS6 s) (leftS (numS6 s) / 16)))) := by
  obtain ⟨ZL, hZL⟩ : ∃ Z : Array Value, Z = #[.int .u32 0, .slice none 0 0] := ⟨_, rfl⟩
  have hzl : ZL.toList = [.int .u32 0, .slice none 0 0] := by rw [hZL]
  have Y1 := h.newA ZL 120 (g := w.heap.size) rfl
  rw [hzl] at Y1
  have K1 := veil (readNumber_any (i := i + 1) Y1 (by simpa using hi) (List.mem_cons_of_mem _ hb) hne hz hr)
  have hr' : okS zs (numS6 s) := okS_next (okS_next hr 2) 4
  obtain ⟨v, hv⟩ : ∃ v, num6 zs s = v := ⟨_, rfl⟩
  obtain ⟨s', hs'⟩ : ∃ x, numS6 s = x := ⟨_, rfl⟩
  rw [hs'] at K1 hr' hl
  rw [hv] at K1
  rw [hs', hv]
  obtain ⟨N, hN⟩ : ∃ N, leftS s' = N := ⟨_, rfl⟩
  rw [hN] at hl
  rw [hN]
  obtain ⟨kk, hK⟩ : ∃ kk, N / 16 = kk := ⟨_, rfl⟩
  have t1 : (N : Int).tdiv 16 = (kk : Int) := by rw [Int.tdiv_eq_ediv_of_nonneg (by omega)]; omega
  have t2 : IntKind.i64.wrap (kk : Int) = (kk : Int) := by rw [IntKind.wrap_i64]; omega
  rw [hK]
  have hK1 : kk ≤ 1000000 := by omega
  have HN := veil hN
  have HI := veil hi
  have HM := veil hb
  have HZ := veil hz
  have HR := veil hr'
  have HNE := veil hne
  clear h hi hb hz hr hne hr' Y1 hs' hv hN hK hzl
  generalize hw1 : w.alloc (.cells ZL 120) = u1 at *
  obtain ⟨g2, hg2⟩ : ∃ x, w.heap.size = x := ⟨_, rfl⟩
  have HG2 := veil hg2
  rw [hg2] at K1
  subst hZL
  go_enter Tryd.func90, Tryd.ntmps90
  go_wp2_with fail
  clear hw1 hg2
  refine (K1.out).mono ?_
  rintro e u2 ⟨rfl, Y2⟩
  simp only [List.set_cons_succ] at Y2
  have c0 := Y2.look mem0 (o := 0) (v := .int .u32 0) rfl
  have d0 := Y2.free mem0 0
  have Y3 := Y2.cell 0 rfl 0 (.int .u32 v)
  simp only [List.set_cons_zero] at Y3
  obtain ⟨u3, hu3⟩ : ∃ u, u2.setCell ⟨g2, 0, none⟩ (.int .u32 v) = u := ⟨_, rfl⟩
  rw [hu3] at Y3
  have K3 := veil (Lay.leftS (b := b) (s := s') (g := g) Y3 (List.mem_cons_of_mem _ (List.mem_of_getElem? (set_getE HI.out _))))
  rw [HN.out] at K3
  have VY3 := veil Y3
  clear K1 Y2 Y3
  go_wp2_with fail
  clear hu3 c0 d0
  refine (K3.out).mono ?_
  rintro e u4 ⟨rfl, rfl⟩
  have hmk := run_make_addr kk hK1 u3
  have Y4 := VY3.out.new (bv (List.replicate (16 * kk) 0)) 49 (g := u3.heap.size) rfl
  have c1 := Y4.look mem1 (o := 1) (v := .slice none 0 0) rfl
  have d1 := Y4.free mem1 1
  have Y5 := Y4.cell 1 rfl 1 (.slice (some ⟨u3.heap.size, 0, none⟩) kk kk)
  simp only [List.set_cons_zero, List.set_cons_succ] at Y5
  have hg3 : w.heap.size ≤ u3.heap.size := by have := VY3.out.lt mem0; have := HG2.out; omega
  obtain ⟨u5, hu5⟩ : ∃ u, (u3.alloc (.cells (bv (List.replicate (16 * kk) 0)).toArray 49)).setCell ⟨g2, 1, none⟩ (.slice (some ⟨u3.heap.size, 0, none⟩) kk kk) = u := ⟨_, rfl⟩
  rw [hu5] at Y5
  obtain ⟨gl, hgl⟩ : ∃ x, u3.heap.size = x := ⟨_, rfl⟩
  rw [hgl] at Y5 hg3 hu5
  have VY5 := veil Y5
  have C1 := Y5.look mem1 (o := 1) (v := .slice (some ⟨gl, 0, none⟩) kk kk) rfl
  clear K3 Y4 Y5 VY3
  go_wp2_with fail
  clear hu5 c1 d1 hmk hgl C1
  go_loopw [19] (fun s19 wr => ∃ j : Nat, j ≤ kk ∧ s19 = .int .i64 j ∧ Hid (Lay w0 wr ((gl, 49, bv ((rdA zs s' j).flatten ++ List.replicate (16 * (kk - j)) 0)) :: (g2, 120, [.int .u32 v, .slice (some ⟨gl, 0, none⟩) kk kk]) :: L.set i (g, 130, cS b (nextA s' j))))) (fun s19 _ => kk - (intOf s19).toNat)
  case atStart => exact ⟨0, Nat.zero_le _, rfl, by simpa [rdA, nextA] using VY5⟩
  case round =>
    rename World => wr
    obtain ⟨j, hj, rfl, VR⟩ := hrel
    clear VY5
    by_cases hlt : j < kk
    · have ij : (j : Int) < (kk : Int) := by omega
      have VRD := veil VR.out.drew
      have C5 := veil (VRD.out.look mem1 (o := 1) (v := .slice (some ⟨gl, 0, none⟩) kk kk) rfl)
      have KA := veil (readAddr_any (i := i + 2) VRD.out (by simpa using set_getE HI.out _) (List.mem_cons_of_mem _ (List.mem_cons_of_mem _ (mem_setE HI.out HM.out HNE.out))) (okS_nextA HR.out j))
      clear VR
      go_wp2_with fail
      refine wp_region_noPanic ?_
      refine wp_region_held_drew (S := fun w' => w'.cell? ⟨g2, 1, none⟩ = some (.slice (some ⟨gl, 0, none⟩) kk kk)) (by kernel_rfl) C5.out (fun hHeld => ?_)
      refine wpAnyH_take (i := 0) (v := ?_) (by rfl) (by kernel_rfl) (by kernel_rfl) (by kernel_rfl) (fun _ _ _ h => h) (Or.inl ⟨by rfl, ?_⟩) hHeld ?_
      rotate_left
      · intro w' hSw
        (try dsimp only at hSw)
        simp only [List.getElem_toArray, List.getElem_cons_zero, List.getElem_cons_succ]
        go_simp
        all_goals (try with_reducible rfl)
      try simp only [Act.put, List.setIfInBounds_toArray, List.set_cons_zero, List.set_cons_succ, List.getElem_toArray, List.getElem_cons_zero, List.getElem_cons_succ]
      refine wpAnyH_take (i := 1) (v := ?_) (by rfl) (by kernel_rfl) (by kernel_rfl) (by kernel_rfl) (fun _ _ _ h => h) (Or.inl ⟨by rfl, ?_⟩) hHeld ?_
      rotate_left
      · intro w' hSw
        (try dsimp only at hSw)
        simp only [List.getElem_toArray, List.getElem_cons_zero, List.getElem_cons_succ]
        go_simp
        all_goals (try with_reducible rfl)
      try simp only [Act.put, List.setIfInBounds_toArray, List.set_cons_zero, List.set_cons_succ, List.getElem_toArray, List.getElem_cons_zero, List.getElem_cons_succ]
      refine wpAnyH_take (i := 2) (v := ?_) (by rfl) (by kernel_rfl) (by kernel_rfl) (by kernel_rfl) (fun _ _ _ h => h) (Or.inl ⟨by rfl, ?_⟩) hHeld ?_
      rotate_left
      · intro w' hSw
        (try dsimp only at hSw)
        simp only [List.getElem_toArray, List.getElem_cons_zero, List.getElem_cons_succ]
        go_simp
        all_goals (try with_reducible rfl)
      try simp only [Act.put, List.setIfInBounds_toArray, List.set_cons_zero, List.set_cons_succ, List.getElem_toArray, List.getElem_cons_zero, List.getElem_cons_succ]
      refine wpAnyH_take (i := 3) (v := ?_) (by rfl) (by kernel_rfl) (by kernel_rfl) (by kernel_rfl) (fun _ _ _ h => h) (Or.inl ⟨by rfl, ?_⟩) hHeld ?_
      rotate_left
      · intro w' hSw
        (try dsimp only at hSw)
        simp only [List.getElem_toArray, List.getElem_cons_zero, List.getElem_cons_succ]
        go_simp
        all_goals (try with_reducible rfl)
      try simp only [Act.put, List.setIfInBounds_toArray, List.set_cons_zero, List.set_cons_succ, List.getElem_toArray, List.getElem_cons_zero, List.getElem_cons_succ]
      refine wpAnyH_ready (rs := [4]) (by kernel_rfl) (by simp) ?_
      refine AllReadyH.cons (by rfl) (fun K hK => ?_) AllReadyH.nil
      simp only [List.getElem_toArray, List.getElem_cons_zero, List.getElem_cons_succ]
      go_simp
      refine (KA.out).mono ?_
      rintro e u6 ⟨rfl, Y6⟩
      simp only [List.set_cons_succ, List.set_set] at Y6
      generalize had : padV 16 (cutV zs (nextA s' j) 16) = ad
      have had16 : ad.length = 16 := by rw [← had]; exact padV_len _ _
      have T6 := veil (store_part (P := Tryd.prog) (o := j * 16) (ty := 49) (vs := bv ad) (Y6.at mem0) (by rw [bv_length, bv_length, had16, List.length_append, rdA_len]; simp; omega) (by rw [bv_length, had16]; kernel_rfl) (bv_one _))
      have Y7 := Y6.put 0 rfl ((bv ((rdA zs s' j).flatten ++ List.replicate (16 * (kk - j)) 0)).take (j * 16) ++ bv ad ++ (bv ((rdA zs s' j).flatten ++ List.replicate (16 * (kk - j)) 0)).drop (j * 16 + (bv ad).length))
      simp only [List.set_cons_zero] at Y7
      rw [rd_next (by rw [rdA_len]) had16 (by omega)] at T6 Y7
      have e7 : (rdA zs s' j).flatten ++ ad = (rdA zs s' (j + 1)).flatten := by simp [rdA, had]
      rw [e7] at T6 Y7
      have C6 := veil (Y6.look mem1 (o := 1) (v := .slice (some ⟨gl, 0, none⟩) kk kk) rfl)
      have C7 := veil (Y7.look mem1 (o := 1) (v := .slice (some ⟨gl, 0, none⟩) kk kk) rfl)
      have VY7 := veil Y7
      clear KA Y6 Y7 had had16 e7
      (try dsimp only)
      refine hK.out _ _ C6.out (fun hHeld => ?_)
      clear hK K
      try simp only [Act.put, List.setIfInBounds_toArray, List.set_cons_zero, List.set_cons_succ, List.getElem_toArray, List.getElem_cons_zero, List.getElem_cons_succ]
      refine wpAnyH_take (i := 5) (v := ?_) (by rfl) (by kernel_rfl) (by kernel_rfl) (by kernel_rfl) (fun _ _ _ h => h) (Or.inl ⟨by rfl, ?_⟩) hHeld ?_
      rotate_left
      · intro w' hSw
        (try dsimp only at hSw)
        simp only [List.getElem_toArray, List.getElem_cons_zero, List.getElem_cons_succ]
        go_simp
        all_goals (try with_reducible rfl)
      try simp only [Act.put, List.setIfInBounds_toArray, List.set_cons_zero, List.set_cons_succ, List.getElem_toArray, List.getElem_cons_zero, List.getElem_cons_succ]
      refine wpAnyH_ready (rs := [6]) (by kernel_rfl) (by simp) ?_
      refine AllReadyH.cons (by rfl) (fun K hK => ?_) AllReadyH.nil
      simp only [List.getElem_toArray, List.getElem_cons_zero, List.getElem_cons_succ]
      refine wp_store_of (.tmp 27) (.tmp 26) rfl rfl rfl T6.out ?_
      (try dsimp only)
      refine hK.out _ _ C7.out (fun hHeld => ?_)
      clear hK K
      try simp only [Act.put, List.setIfInBounds_toArray, List.set_cons_zero, List.set_cons_succ, List.getElem_toArray, List.getElem_cons_zero, List.getElem_cons_succ]
      refine wpAnyH_done (by kernel_rfl) ?_ _
      refine NoPanic.normal ?_
      clear hHeld
      clear C5 C6 C7 T6 VRD
      go_wp2_with fail
      go_roundw
      case rel => exact ⟨j + 1, by omega, by go_num, VY7⟩
      case measure => simp [intOf]; omega
    · obtain rfl : j = kk := by omega
      have ij : ¬ (j : Int) < (j : Int) := by omega
      rw [Nat.sub_self, Nat.mul_zero, List.replicate_zero, List.append_nil] at VR
      have L1 := veil (VR.out.load (P := Tryd.prog) (ty := 120) mem1 (part_all _) Tryd.underlying120 rfl (by kernel_rfl))
      have c2 := VR.out.look mem1 (o := 1) (v := .slice (some ⟨gl, 0, none⟩) j j) rfl
      have T1 := veil (store_all (P := Tryd.prog) (ty := 120) (vs := [.int .u32 v, .slice (some ⟨gl, 0, none⟩) j j]) (VR.out.at mem1) rfl (by kernel_rfl) (by intro v hv; simp at hv; rcases hv with rfl | rfl <;> rfl))
      have Y8 := VR.out.put 1 rfl [.int .u32 v, .slice (some ⟨gl, 0, none⟩) j j]
      simp only [List.set_cons_zero, List.set_cons_succ] at Y8
      have VY8 := veil Y8
      clear VR Y8
      go_wp2_with (first
        | (refine wpList_load_of rfl (.tmp 2) rfl rfl L1.out ?_)
        | (refine wpList_store_of rfl _ _ rfl rfl rfl T1.out ?_))
      refine bodyPost_ret (ret_row_tmp rfl rfl rfl (VY8.out.range mem1 (part_all _)) Tryd.underlying120 rfl (by kernel_rfl)) rfl ?_
      exact ⟨gl, hg3, by simp, VY8.out.sub (List.Sublist.cons_cons _ (List.sublist_cons_self _ _))⟩

end Go.Proofs.YtdebifkefpclaaaDoor.Oz
