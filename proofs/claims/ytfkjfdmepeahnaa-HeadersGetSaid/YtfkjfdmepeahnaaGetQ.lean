/-
  A packet out of bytes, by the document's answer, where the bytes hold none.
  Conditions: at most 16000000 bytes.
-/
import Derived.Test.YtfkjfdmepeahnaaGetP
namespace Go.Proofs.Ytfkjfdmepeahnaa.Hd
set_option maxRecDepth 100000
open Go.RowKit Ops

/-- what a call of the document's Get answers -/
def GotR (w : World) (k : Pk) (rs : List Int) (c p er : Int) (e : Ending) (w' : World) : Prop := ∃ A n cc, e = .returned (.tuple #[pv k (.slice A n cc), .agg (flc c p).toArray, .int .i64 er]) ∧ Slc w' (.slice A n cc) rs ∧ (∀ b, A = some b → w.heap.size ≤ b.block) ∧ Below w.heap.size w w'
/-- a byte's cell -/
theorem Rd.here {w : World} {a : Addr} {zs : List Int} (h : Rd w (some a) zs) (i : Nat) (h0 : 0 < i) (hi : i < zs.length) {x : Int} (hx : zs.getD i 0 = x) : w.cell? ⟨a.block, a.off + i, none⟩ = some (.int .u8 x) := by
  obtain ⟨a1, e1, h1⟩ := h i hi
  injection e1 with e1
  subst e1
  rw [hx] at h1
  rw [← h1]
  simp [Addr.add, Nat.ne_of_gt h0]

set_option linter.unusedSimpArgs false in
set_option maxHeartbeats 16000000 in
theorem refGet_short (A : Option Addr) (n c : Nat) (zs : List Int) (w : World) (_hs : Slc w (.slice A n c) zs) (_hz : Byt zs) (_hl : zs.length = n) (_hn : n ≤ 16000000) (h : n < 40) : Calls Try.prog 19 #[.slice A n c] w (GotR w noPk [] 0 0 5) := by
  obtain ⟨Z, hZ⟩ : ∃ Z, Z = zp := ⟨_, rfl⟩
  obtain ⟨X, hX⟩ : ∃ X : Array Value, X = #[.int .u8 0, .int .u32 0] := ⟨_, rfl⟩
  have hzl : Hid (Z.toList.length = 40) := by rw [hZ]; exact rfl
  have hxl : Hid (X.toList.length = 2) := by rw [hX]; exact rfl
  have Y := ((Lay.begin w).newA Z 30 (g := w.heap.size) rfl).newA X 45 (g := w.heap.size + 1) (by simp)
  have T1 := veil (pkt_store (k := noPk) (v := nilV) Y mem1 hzl.out noPk_ends rfl)
  have Y8 := Y.put 1 rfl (pc noPk nilV)
  simp only [List.set_cons_zero, List.set_cons_succ] at Y8
  have T2 := veil (store_all (P := Try.prog) (ty := 45) (vs := flc 0 0) (Y8.at mem0) (by rw [hxl.out]; rfl) (sizeFl _ _) (one_fl _ _))
  have Y9 := veil (Y8.put 0 rfl (flc 0 0))
  simp only [List.set_cons_zero, List.set_cons_succ] at Y9
  have B1 := veil pkt_made
  have B2 := veil made_fl
  have VE := veil noPk_ends
  have i1 : (n : Int) < 40 := by omega
  clear Y Y8
  generalize noPk = kk at *
  generalize Z.toList = ZL at *
  generalize X.toList = XL at *
  unfold zp at hZ
  subst hZ hX
  go_enter Try.func19, Try.ntmps19
  go_wp2_with (first
    | (refine wpList_build_of rfl 30 #[] rfl #[] (by simp) (B1.out _) ?_)
    | (refine wpList_build_of rfl 45 #[] rfl #[] (by simp) (B2.out _) ?_)
    | (refine wpList_store_of rfl _ _ rfl rfl rfl T1.out ?_)
    | (refine wpList_store_of rfl _ _ rfl rfl rfl T2.out ?_))
  refine bodyPost_ret (ret_cct rfl rfl rfl rfl (Y9.out.range mem1 (part_all _)) (Y9.out.range mem0 (part_all _)) Try.underlying30 rfl (sizePkt VE.out) Try.underlying45 rfl (sizeFl _ _)) rfl ?_
  exact ⟨none, 0, 0, rfl, .inl ⟨rfl, rfl⟩, by simp, Y9.out.below⟩

set_option linter.unusedSimpArgs false in
set_option maxHeartbeats 16000000 in
theorem refGet_form (A : Option Addr) (n c : Nat) (zs : List Int) (w : World) (hs : Slc w (.slice A n c) zs) (hz : Byt zs) (hl : zs.length = n) (_hn : n ≤ 16000000) (h : 40 ≤ n) (hf : ¬ zs.getD 0 0 / 16 = 6) : Calls Try.prog 19 #[.slice A n c] w (GotR w noPk [] 0 0 4) := by
  obtain ⟨Z, hZ⟩ : ∃ Z, Z = zp := ⟨_, rfl⟩
  obtain ⟨X, hX⟩ : ∃ X : Array Value, X = #[.int .u8 0, .int .u32 0] := ⟨_, rfl⟩
  have hzl : Hid (Z.toList.length = 40) := by rw [hZ]; exact rfl
  have hxl : Hid (X.toList.length = 2) := by rw [hX]; exact rfl
  have Y := ((Lay.begin w).newA Z 30 (g := w.heap.size) rfl).newA X 45 (g := w.heap.size + 1) (by simp)
  have T1 := veil (pkt_store (k := noPk) (v := nilV) Y mem1 hzl.out noPk_ends rfl)
  have Y8 := Y.put 1 rfl (pc noPk nilV)
  simp only [List.set_cons_zero, List.set_cons_succ] at Y8
  have T2 := veil (store_all (P := Try.prog) (ty := 45) (vs := flc 0 0) (Y8.at mem0) (by rw [hxl.out]; rfl) (sizeFl _ _) (one_fl _ _))
  have Y9 := veil (Y8.put 0 rfl (flc 0 0))
  simp only [List.set_cons_zero, List.set_cons_succ] at Y9
  have B1 := veil pkt_made
  have B2 := veil made_fl
  have VE := veil noPk_ends
  have i1 : ¬ (n : Int) < 40 := by omega
  have i0 : (0 : Int) < (n : Int) := by omega
  have hb := hz.at_ 0
  obtain ⟨a, ha, ca⟩ := ((slc_rd hs).1.keep Y.below) 0 (by omega)
  subst ha
  rw [show a.add 0 = a by simp [Addr.add]] at ca
  generalize hx0 : zs.getD 0 0 = x at *
  have dq : x.tdiv 16 = x / 16 := Int.tdiv_eq_ediv_of_nonneg hb.1
  have dw : IntKind.u8.wrap (x / 16) = x / 16 := by rw [IntKind.wrap_u8]; omega
  have d6 : (x / 16 == 6) = false := by simpa using hf
  clear Y Y8 hs hz hl hf hx0
  generalize noPk = kk at *
  generalize Z.toList = ZL at *
  generalize X.toList = XL at *
  unfold zp at hZ
  subst hZ hX
  go_enter Try.func19, Try.ntmps19
  go_wp2_with (first
    | (refine wpList_build_of rfl 30 #[] rfl #[] (by simp) (B1.out _) ?_)
    | (refine wpList_build_of rfl 45 #[] rfl #[] (by simp) (B2.out _) ?_)
    | (refine wpList_store_of rfl _ _ rfl rfl rfl T1.out ?_)
    | (refine wpList_store_of rfl _ _ rfl rfl rfl T2.out ?_))
  refine bodyPost_ret (ret_cct rfl rfl rfl rfl (Y9.out.range mem1 (part_all _)) (Y9.out.range mem0 (part_all _)) Try.underlying30 rfl (sizePkt VE.out) Try.underlying45 rfl (sizeFl _ _)) rfl ?_
  exact ⟨none, 0, 0, rfl, .inl ⟨rfl, rfl⟩, by simp, Y9.out.below⟩

set_option linter.unusedSimpArgs false in
set_option maxHeartbeats 16000000 in
theorem refGet_less (A : Option Addr) (n c : Nat) (zs : List Int) (w : World) (hs : Slc w (.slice A n c) zs) (hz : Byt zs) (hl : zs.length = n) (_hn : n ≤ 16000000) (h : 40 ≤ n) (hf : zs.getD 0 0 / 16 = 6) (hlt : n < 40 + manyB zs) : Calls Try.prog 19 #[.slice A n c] w (GotR w noPk [] 0 0 5) := by
  obtain ⟨Z, hZ⟩ : ∃ Z, Z = zp := ⟨_, rfl⟩
  obtain ⟨X, hX⟩ : ∃ X : Array Value, X = #[.int .u8 0, .int .u32 0] := ⟨_, rfl⟩
  have hzl : Hid (Z.toList.length = 40) := by rw [hZ]; exact rfl
  have hxl : Hid (X.toList.length = 2) := by rw [hX]; exact rfl
  have Y := ((Lay.begin w).newA Z 30 (g := w.heap.size) rfl).newA X 45 (g := w.heap.size + 1) (by simp)
  have i1 : ¬ (n : Int) < 40 := by omega
  have i0 : (0 : Int) < (n : Int) := by omega
  have hb := hz.at_ 0
  obtain ⟨a, ha, ca⟩ := ((slc_rd hs).1.keep Y.below) 0 (by omega)
  subst ha
  rw [show a.add 0 = a by simp [Addr.add]] at ca
  generalize hx0 : zs.getD 0 0 = x at *
  have dq : x.tdiv 16 = x / 16 := Int.tdiv_eq_ediv_of_nonneg hb.1
  have dw : IntKind.u8.wrap (x / 16) = x / 16 := by rw [IntKind.wrap_u8]; omega
  have d6 : (x / 16 == 6) = true := by simpa using hf
  obtain ⟨hm, hmb⟩ := many_bound hz (by omega)
  obtain ⟨m, hmm⟩ : ∃ m, manyB zs = m := ⟨_, rfl⟩
  obtain ⟨x4, hx4⟩ : ∃ x, zs.getD 4 0 = x := ⟨_, rfl⟩
  obtain ⟨x5, hx5⟩ : ∃ x, zs.getD 5 0 = x := ⟨_, rfl⟩
  have b4 := hz.at_ 4
  have b5 := hz.at_ 5
  rw [hx4] at b4
  rw [hx5] at b5
  have hm2 : 256 * x4 + x5 = (m : Int) := by rw [← hmm, ← hm, num_two 4 (by omega), hx4, hx5]
  have HW : Hid (IntKind.i64.wrap (IntKind.i64.wrap (256 * IntKind.i64.wrap x4) + IntKind.i64.wrap x5) = (m : Int)) := by
    show IntKind.i64.wrap (IntKind.i64.wrap (256 * IntKind.i64.wrap x4) + IntKind.i64.wrap x5) = (m : Int)
    simp only [IntKind.wrap_i64]
    omega
  have VYD := veil Y.drew
  have RD := (slc_rd hs).1
  have S0 := veil (And.intro (Rd.here (RD.keep VYD.out.below) 4 (by omega) (by omega) hx4) (Rd.here (RD.keep VYD.out.below) 5 (by omega) (by omega) hx5))
  have i4 : (4 : Int) < (n : Int) := by omega
  have i5 : (5 : Int) < (n : Int) := by omega
  have hw40 : IntKind.i64.wrap (40 + (m : Int)) = 40 + (m : Int) := by rw [hmm] at hmb; rw [IntKind.wrap_i64]; omega
  have T1 := veil (pkt_store (k := noPk) (v := nilV) VYD.out mem1 hzl.out noPk_ends rfl)
  have Y8 := VYD.out.put 1 rfl (pc noPk nilV)
  simp only [List.set_cons_zero, List.set_cons_succ] at Y8
  have T2 := veil (store_all (P := Try.prog) (ty := 45) (vs := flc 0 0) (Y8.at mem0) (by rw [hxl.out]; rfl) (sizeFl _ _) (one_fl _ _))
  have Y9 := veil (Y8.put 0 rfl (flc 0 0))
  simp only [List.set_cons_zero, List.set_cons_succ] at Y9
  have B1 := veil pkt_made
  have B2 := veil made_fl
  have VE := veil noPk_ends
  have iL : (n : Int) < 40 + (m : Int) := by omega
  clear Y Y8 hs hz hl hf hx0 hm hmb hmm hx4 hx5 hm2 RD hlt b4 b5
  generalize noPk = kk at *
  generalize Z.toList = ZL at *
  generalize X.toList = XL at *
  unfold zp at hZ
  subst hZ hX
  go_enter Try.func19, Try.ntmps19
  go_wp2_with fail
  refine wp_region_noPanic ?_
  refine wp_region_held_drew (S := (fun w' => w'.cell? ⟨a.block, a.off + 4, none⟩ = some (.int .u8 x4) ∧ w'.cell? ⟨a.block, a.off + 5, none⟩ = some (.int .u8 x5))) (by kernel_rfl) S0.out (fun hHeld => ?_)
  refine wpAnyH_take (i := 0) (v := ?_) (by rfl) (by kernel_rfl) (by kernel_rfl) (by kernel_rfl) (fun _ _ _ h => h) (Or.inl ⟨by rfl, ?_⟩) hHeld ?_
  rotate_left
  · intro w' hSw
    (try dsimp only at hSw)
    simp only [List.getElem_toArray, List.getElem_cons_zero, List.getElem_cons_succ]
    go_simp
    all_goals (try with_reducible rfl)
  try simp only [Act.put, List.setIfInBounds_toArray, List.set_cons_zero, List.set_cons_succ, List.getElem_toArray, List.getElem_cons_zero, List.getElem_cons_succ]
  refine wpAnyH_take (i := 1) (v := ?_) (by rfl) (by kernel_rfl) (by kernel_rfl) (by kernel_rfl) (fun _ _ _ h => h) (Or.inl ⟨by rfl, ?_⟩) hHeld ?_
  rotate_left
  · intro w' hSw
    (try dsimp only at hSw)
    simp only [List.getElem_toArray, List.getElem_cons_zero, List.getElem_cons_succ]
    go_simp
    all_goals (try with_reducible rfl)
  try simp only [Act.put, List.setIfInBounds_toArray, List.set_cons_zero, List.set_cons_succ, List.getElem_toArray, List.getElem_cons_zero, List.getElem_cons_succ]
  refine wpAnyH_take (i := 2) (v := ?_) (by rfl) (by kernel_rfl) (by kernel_rfl) (by kernel_rfl) (fun _ _ _ h => h) (Or.inl ⟨by rfl, ?_⟩) hHeld ?_
  rotate_left
  · intro w' hSw
    (try dsimp only at hSw)
    simp only [List.getElem_toArray, List.getElem_cons_zero, List.getElem_cons_succ]
    go_simp
    all_goals (try with_reducible rfl)
  try simp only [Act.put, List.setIfInBounds_toArray, List.set_cons_zero, List.set_cons_succ, List.getElem_toArray, List.getElem_cons_zero, List.getElem_cons_succ]
  refine wpAnyH_take (i := 3) (v := ?_) (by rfl) (by kernel_rfl) (by kernel_rfl) (by kernel_rfl) (fun _ _ _ h => h) (Or.inl ⟨by rfl, ?_⟩) hHeld ?_
  rotate_left
  · intro w' hSw
    (try dsimp only at hSw)
    simp only [List.getElem_toArray, List.getElem_cons_zero, List.getElem_cons_succ]
    go_simp
    all_goals (try with_reducible rfl)
  try simp only [Act.put, List.setIfInBounds_toArray, List.set_cons_zero, List.set_cons_succ, List.getElem_toArray, List.getElem_cons_zero, List.getElem_cons_succ]
  refine wpAnyH_take (i := 4) (v := ?_) (by rfl) (by kernel_rfl) (by kernel_rfl) (by kernel_rfl) (fun _ _ _ h => h) (Or.inl ⟨by rfl, ?_⟩) hHeld ?_
  rotate_left
  · intro w' hSw
    (try dsimp only at hSw)
    simp only [List.getElem_toArray, List.getElem_cons_zero, List.getElem_cons_succ]
    go_simp
    all_goals (try with_reducible rfl)
  try simp only [Act.put, List.setIfInBounds_toArray, List.set_cons_zero, List.set_cons_succ, List.getElem_toArray, List.getElem_cons_zero, List.getElem_cons_succ]
  refine wpAnyH_take (i := 5) (v := ?_) (by rfl) (by kernel_rfl) (by kernel_rfl) (by kernel_rfl) (fun _ _ _ h => h) (Or.inl ⟨by rfl, ?_⟩) hHeld ?_
  rotate_left
  · intro w' hSw
    (try dsimp only at hSw)
    simp only [List.getElem_toArray, List.getElem_cons_zero, List.getElem_cons_succ]
    go_simp
    all_goals (try with_reducible rfl)
  try simp only [Act.put, List.setIfInBounds_toArray, List.set_cons_zero, List.set_cons_succ, List.getElem_toArray, List.getElem_cons_zero, List.getElem_cons_succ]
  refine wpAnyH_take (i := 6) (v := ?_) (by rfl) (by kernel_rfl) (by kernel_rfl) (by kernel_rfl) (fun _ _ _ h => h) (Or.inl ⟨by rfl, ?_⟩) hHeld ?_
  rotate_left
  · intro w' hSw
    (try dsimp only at hSw)
    simp only [List.getElem_toArray, List.getElem_cons_zero, List.getElem_cons_succ]
    go_simp
    all_goals (try with_reducible rfl)
  try simp only [Act.put, List.setIfInBounds_toArray, List.set_cons_zero, List.set_cons_succ, List.getElem_toArray, List.getElem_cons_zero, List.getElem_cons_succ]
  refine wpAnyH_take (i := 7) (v := ?_) (by rfl) (by kernel_rfl) (by kernel_rfl) (by kernel_rfl) (fun _ _ _ h => h) (Or.inl ⟨by rfl, ?_⟩) hHeld ?_
  rotate_left
  · intro w' hSw
    (try dsimp only at hSw)
    simp only [List.getElem_toArray, List.getElem_cons_zero, List.getElem_cons_succ]
    go_simp
    all_goals (try with_reducible rfl)
  try simp only [Act.put, List.setIfInBounds_toArray, List.set_cons_zero, List.set_cons_succ, List.getElem_toArray, List.getElem_cons_zero, List.getElem_cons_succ]
  refine wpAnyH_take (i := 8) (v := ?_) (by rfl) (by kernel_rfl) (by kernel_rfl) (by kernel_rfl) (fun _ _ _ h => h) (Or.inl ⟨by rfl, ?_⟩) hHeld ?_
  rotate_left
  · intro w' hSw
    (try dsimp only at hSw)
    simp only [List.getElem_toArray, List.getElem_cons_zero, List.getElem_cons_succ]
    go_simp
    all_goals (try with_reducible rfl)
  try simp only [Act.put, List.setIfInBounds_toArray, List.set_cons_zero, List.set_cons_succ, List.getElem_toArray, List.getElem_cons_zero, List.getElem_cons_succ]
  refine wpAnyH_take (i := 9) (v := ?_) (by rfl) (by kernel_rfl) (by kernel_rfl) (by kernel_rfl) (fun _ _ _ h => h) (Or.inl ⟨by rfl, ?_⟩) hHeld ?_
  rotate_left
  · intro w' hSw
    (try dsimp only at hSw)
    simp only [List.getElem_toArray, List.getElem_cons_zero, List.getElem_cons_succ]
    go_simp
    all_goals (try with_reducible rfl)
  try simp only [Act.put, List.setIfInBounds_toArray, List.set_cons_zero, List.set_cons_succ, List.getElem_toArray, List.getElem_cons_zero, List.getElem_cons_succ]
  rw [HW.out]
  refine wpAnyH_take (i := 10) (v := ?_) (by rfl) (by kernel_rfl) (by kernel_rfl) (by kernel_rfl) (fun _ _ _ h => h) (Or.inl ⟨by rfl, ?_⟩) hHeld ?_
  rotate_left
  · intro w' hSw
    (try dsimp only at hSw)
    simp only [List.getElem_toArray, List.getElem_cons_zero, List.getElem_cons_succ]
    go_simp
    all_goals (try with_reducible rfl)
  try simp only [Act.put, List.setIfInBounds_toArray, List.set_cons_zero, List.set_cons_succ, List.getElem_toArray, List.getElem_cons_zero, List.getElem_cons_succ]
  refine wpAnyH_done (by kernel_rfl) ?_ _
  refine NoPanic.normal ?_
  clear hHeld
  go_wp2_with (first
    | (refine wpList_build_of rfl 30 #[] rfl #[] (by simp) (B1.out _) ?_)
    | (refine wpList_build_of rfl 45 #[] rfl #[] (by simp) (B2.out _) ?_)
    | (refine wpList_store_of rfl _ _ rfl rfl rfl T1.out ?_)
    | (refine wpList_store_of rfl _ _ rfl rfl rfl T2.out ?_))
  refine bodyPost_ret (ret_cct rfl rfl rfl rfl (Y9.out.range mem1 (part_all _)) (Y9.out.range mem0 (part_all _)) Try.underlying30 rfl (sizePkt VE.out) Try.underlying45 rfl (sizeFl _ _)) rfl ?_
  exact ⟨none, 0, 0, rfl, .inl ⟨rfl, rfl⟩, by simp, Y9.out.below⟩


end Go.Proofs.Ytfkjfdmepeahnaa.Hd
