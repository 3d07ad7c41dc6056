/-
  The bytes of a frame, by the code: whatever frame it is.
  Conditions: addresses of six bytes; a kind of two bytes; a body that reads as bytes, 16000000 at most.
-/
import Derived.Test.YtihhbniceiammaaFrmN
import Derived.Test.YtihhbniceiammaaOctK
namespace Go.Proofs.Ytihhbniceiammaa.Et
open Go.RowKit

/-- a frame's bytes -/
def fb (d s : List Int) (k : Int) (zs : List Int) : List Int := d ++ (s ++ (be k 2 ++ zs))
theorem fb_len {d s : List Int} {k : Int} {zs : List Int} (M : Macs d s) : (fb d s k zs).length = 14 + zs.length := by simp [fb, M.d, M.s, be_length]; omega

theorem zeros_row (n : Nat) : zeros n = (bv (List.replicate n 0)).toArray := by
  apply Array.toList_inj.1
  rw [zeros_bv]

/-- bytes copied behind those that are there already -/
theorem copy_step (p zs : List Int) (m g o k N c c2 : Nat) (A : Option Addr) (w : World) (ty : TypeId) (h : Row w g 5 (bv (p ++ List.replicate m 0)).toArray) (hr : Rd w A zs) (ho : o = p.length) (hk : zs.length = k) (h0 : 0 < k) (hle : k ≤ m) (hN : k ≤ N) :
    (Builtin.copy_ #[25, 25] ty #[.slice (some ⟨g, o, none⟩) N c, .slice A k c2]).run Try.prog w = .ok (goInt k) (w.setRow g (bv (p ++ zs ++ List.replicate (m - k) 0)).toArray) := by
  subst ho
  have := run_copy_at g p.length N c 5 _ A k c2 zs w ty hk hr h0 h hN (by rw [bv_length]; simp; omega)
  rw [this]
  congr 3
  simp [bv, List.drop_append]

/-- one copy as one step of a region that draws -/
theorem wp_copy_of {P : Program} {o : Oper} {a : Act} {w w' : World} {K : Act → World → Prop} {Q : Exit → Act → World → Prop} {t t' : TypeId} {v u r : Value} (s x : Operand)
    (ho : o.op = .call { callee := .builtin .copy, args := #[s, x], argTypes := #[t, t'] }) (hs : a.eval s = v) (hx : a.eval x = u)
    (hrun : (Builtin.copy_ #[t, t'] o.type #[v, u]).run P w = .ok r w') (h : K (a.put o.dst r) w') : Oper.wp P o a w K Q := by
  unfold Oper.wp execOp
  simp only [ho, resolve, invoke, builtin, Sem.run_bind, Sem.run_pure, Result.andThen_ok, List.map_toArray, List.map_cons, List.map_nil, hs, hx, hrun]
  exact h

/-- a kind's two bytes -/
theorem putKind (w : World) (k : Int) : Calls Try.prog 23 #[.slice none 0 0, .int .u64 k, .int .i64 2] w fun e w' => e = .returned (.slice (some ⟨w.heap.size, 0, none⟩) 2 2) ∧ w.alloc (.cells (bv (be k 2)).toArray 5) = w' := by
  have h := put_int none 0 0 [] k 2 2 w rfl (by omega) (by simp [Rd]) rfl (by omega) (by omega)
  rw [Nat.zero_add, List.nil_append] at h
  exact h

set_option linter.unusedSimpArgs false in
set_option maxHeartbeats 4000000 in
theorem put_any (d s : List Int) (k : Int) (A : Option Addr) (n c : Nat) (zs : List Int) (w : World) (M : Macs d s) (hk : 0 ≤ k ∧ k < 65536) (hl : zs.length = n) (hn : n ≤ 16000000) (ha : Rd w A zs) :
    Calls Try.prog 10 #[fv d s k (.slice A n c)] w fun e w' => ∃ g, w.heap.size ≤ g ∧ e = .returned (.slice (some ⟨g, 0, none⟩) (14 + n) (14 + n)) ∧ Row w' g 5 (bv (fb d s k zs)).toArray ∧ Below w.heap.size w w' := by
  obtain ⟨N, hN⟩ : ∃ N, N = 14 + n := ⟨_, rfl⟩
  have Y := ((Lay.begin w).new (fc d s k (.slice A n c)) 27 rfl).new (bv (List.replicate N 0)) 5 (g := w.heap.size + 1) (by simp)
  have b0 := (frmAt ((Lay.begin w).new (fc d s k (.slice A n c)) 27 rfl) mem0 M).body
  have mk := run_make_u8 N (by omega) (w.alloc (.cells (fc d s k (.slice A n c)).toArray 27))
  rw [zeros_row] at mk
  have eN : (14 : Int) + (n : Int) = (N : Int) := by omega
  have hN1 : 14 ≤ N := by omega
  have hN2 : N ≤ 16000014 := by omega
  have C := veil (copy_step [] d N (w.heap.size + 1) 0 6 N N 6 (some ⟨w.heap.size, 0, none⟩) _ 3 (Y.at mem0) (rd_row (Y.at mem1) (fun j hj => fc_dst j _ (bv_get d j hj))) rfl M.d (by omega) (by omega) (by omega))
  have Y1 := veil (Y.put 0 rfl (bv (d ++ List.replicate (N - 6) 0)))
  simp only [List.nil_append] at C
  simp only [List.set_cons_zero] at Y1
  have HN := veil hN
  have VM := veil M
  have VL := veil hl
  have VA := veil ha
  clear Y M hl ha hN
  go_enter Try.func10, Try.ntmps10
  go_wp2_with (refine wpList_copy_of rfl _ _ rfl rfl rfl C.out ?_)
  clear C mk b0
  generalize ((w.alloc (.cells (fc d s k (.slice A n c)).toArray 27)).alloc (.cells (bv (List.replicate N 0)).toArray 5)).setRow (w.heap.size + 1) (bv (d ++ List.replicate (N - 6) 0)).toArray = w1 at *
  have D1 := veil Y1.out.drew
  have C := veil (copy_step d s (N - 6) (w.heap.size + 1) 6 6 (N - 6) (N - 6) 6 (some ⟨w.heap.size, 6, none⟩) w1.drew 3 (D1.out.at mem0) (rd_row (D1.out.at mem1) (fun j hj => fc_src VM.out j _ (bv_get s j hj))) VM.out.d.symm VM.out.s (by omega) (by omega) (by omega))
  have Y2 := veil (D1.out.put 0 rfl (bv (d ++ s ++ List.replicate (N - 6 - 6) 0)))
  simp only [List.set_cons_zero] at Y2
  have i6 : (6 : Int) ≤ (N : Int) := by omega
  have n6 : ¬ N = 6 := by omega
  obtain ⟨l2, e2⟩ : ∃ l, d ++ s ++ List.replicate (N - 6 - 6) 0 = l := ⟨_, rfl⟩
  rw [e2] at C Y2
  have E2 := veil e2
  clear Y1 D1 e2
  -- region 3
  refine wp_region_noPanic ?_
  refine wp_region_held_drew (S := (fun _ => True)) (by kernel_rfl) trivial (fun hHeld => ?_)
  refine wpAnyH_take (i := 0) (v := ?_) (by rfl) (by kernel_rfl) (by kernel_rfl) (by kernel_rfl) (fun _ _ _ h => h) (Or.inl ⟨by rfl, ?_⟩) hHeld ?_
  rotate_left
  · intro w' hSw
    (try dsimp only at hSw)
    simp only [List.getElem_toArray, List.getElem_cons_zero, List.getElem_cons_succ]
    go_simp
    all_goals (try with_reducible rfl)
  try simp only [Act.put, List.setIfInBounds_toArray, List.set_cons_zero, List.set_cons_succ, List.getElem_toArray, List.getElem_cons_zero, List.getElem_cons_succ]
  refine wpAnyH_take (i := 1) (v := ?_) (by rfl) (by kernel_rfl) (by kernel_rfl) (by kernel_rfl) (fun _ _ _ h => h) (Or.inl ⟨by rfl, ?_⟩) hHeld ?_
  rotate_left
  · intro w' hSw
    (try dsimp only at hSw)
    simp only [List.getElem_toArray, List.getElem_cons_zero, List.getElem_cons_succ]
    go_simp
    all_goals (try with_reducible rfl)
  try simp only [Act.put, List.setIfInBounds_toArray, List.set_cons_zero, List.set_cons_succ, List.getElem_toArray, List.getElem_cons_zero, List.getElem_cons_succ]
  refine wpAnyH_take (i := 2) (v := ?_) (by rfl) (by kernel_rfl) (by kernel_rfl) (by kernel_rfl) (fun _ _ _ h => h) (Or.inl ⟨by rfl, ?_⟩) hHeld ?_
  rotate_left
  · intro w' hSw
    (try dsimp only at hSw)
    simp only [List.getElem_toArray, List.getElem_cons_zero, List.getElem_cons_succ]
    go_simp
    all_goals (try with_reducible rfl)
  try simp only [Act.put, List.setIfInBounds_toArray, List.set_cons_zero, List.set_cons_succ, List.getElem_toArray, List.getElem_cons_zero, List.getElem_cons_succ]
  refine wpAnyH_take (i := 3) (v := ?_) (by rfl) (by kernel_rfl) (by kernel_rfl) (by kernel_rfl) (fun _ _ _ h => h) (Or.inl ⟨by rfl, ?_⟩) hHeld ?_
  rotate_left
  · intro w' hSw
    (try dsimp only at hSw)
    simp only [List.getElem_toArray, List.getElem_cons_zero, List.getElem_cons_succ]
    go_simp
    all_goals (try with_reducible rfl)
  try simp only [Act.put, List.setIfInBounds_toArray, List.set_cons_zero, List.set_cons_succ, List.getElem_toArray, List.getElem_cons_zero, List.getElem_cons_succ]
  refine wpAnyH_take (i := 4) (v := ?_) (by rfl) (by kernel_rfl) (by kernel_rfl) (by kernel_rfl) (fun _ _ _ h => h) (Or.inl ⟨by rfl, ?_⟩) hHeld ?_
  rotate_left
  · intro w' hSw
    (try dsimp only at hSw)
    simp only [List.getElem_toArray, List.getElem_cons_zero, List.getElem_cons_succ]
    go_simp
    all_goals (try with_reducible rfl)
  try simp only [Act.put, List.setIfInBounds_toArray, List.set_cons_zero, List.set_cons_succ, List.getElem_toArray, List.getElem_cons_zero, List.getElem_cons_succ]
  refine wpAnyH_take (i := 5) (v := ?_) (by rfl) (by kernel_rfl) (by kernel_rfl) (by kernel_rfl) (fun _ _ _ h => h) (Or.inl ⟨by rfl, ?_⟩) hHeld ?_
  rotate_left
  · intro w' hSw
    (try dsimp only at hSw)
    simp only [List.getElem_toArray, List.getElem_cons_zero, List.getElem_cons_succ]
    go_simp
    all_goals (try with_reducible rfl)
  try simp only [Act.put, List.setIfInBounds_toArray, List.set_cons_zero, List.set_cons_succ, List.getElem_toArray, List.getElem_cons_zero, List.getElem_cons_succ]
  refine wpAnyH_ready (rs := [6]) (by kernel_rfl) (by simp) ?_
  refine AllReadyH.cons (by rfl) (fun K hK => ?_) AllReadyH.nil
  simp only [List.getElem_toArray, List.getElem_cons_zero, List.getElem_cons_succ]
  refine wp_copy_of (.tmp 17) (.tmp 19) rfl rfl rfl C.out ?_
  (try dsimp only)
  refine hK.out _ _ trivial (fun hHeld => ?_)
  clear hK K
  try simp only [Act.put, List.setIfInBounds_toArray, List.set_cons_zero, List.set_cons_succ, List.getElem_toArray, List.getElem_cons_zero, List.getElem_cons_succ]
  refine wpAnyH_take (i := 7) (v := ?_) (by rfl) (by kernel_rfl) (by kernel_rfl) (by kernel_rfl) (fun _ _ _ h => h) (Or.inl ⟨by rfl, ?_⟩) hHeld ?_
  rotate_left
  · intro w' hSw
    (try dsimp only at hSw)
    simp only [List.getElem_toArray, List.getElem_cons_zero, List.getElem_cons_succ]
    go_simp
    all_goals (try with_reducible rfl)
  try simp only [Act.put, List.setIfInBounds_toArray, List.set_cons_zero, List.set_cons_succ, List.getElem_toArray, List.getElem_cons_zero, List.getElem_cons_succ]
  refine wpAnyH_take (i := 8) (v := ?_) (by rfl) (by kernel_rfl) (by kernel_rfl) (by kernel_rfl) (fun _ _ _ h => h) (Or.inl ⟨by rfl, ?_⟩) hHeld ?_
  rotate_left
  · intro w' hSw
    (try dsimp only at hSw)
    simp only [List.getElem_toArray, List.getElem_cons_zero, List.getElem_cons_succ]
    go_simp
    all_goals (try with_reducible rfl)
  try simp only [Act.put, List.setIfInBounds_toArray, List.set_cons_zero, List.set_cons_succ, List.getElem_toArray, List.getElem_cons_zero, List.getElem_cons_succ]
  refine wpAnyH_done (by kernel_rfl) ?_ _
  refine NoPanic.normal ?_
  clear hHeld
  -- end region 3
  clear C
  generalize w1.drew.setRow (w.heap.size + 1) (bv l2).toArray = w2 at *
  clear i6 n6
  go_wp2_with fail
  rw [← E2.out] at Y2
  have D2 := veil Y2.out.drew
  have Y3 := veil (D2.out.new (bv (be k 2)) 5 (g := w2.drew.heap.size) rfl)
  have KP := veil (putKind w2.drew k)
  have C := veil (copy_step (d ++ s) (be k 2) (N - 6 - 6) (w.heap.size + 1) 12 2 (N - 12) (N - 12) 2 (some ⟨w2.drew.heap.size, 0, none⟩) (w2.drew.alloc (.cells (bv (be k 2)).toArray 5)) 3 (Y3.out.at mem1) (rd_lit (Y3.out.at mem0) rfl) (by simp [VM.out.d, VM.out.s]) (be_length k 2) (by omega) (by omega) (by omega))
  have Y4 := veil (Y3.out.put 1 rfl (bv (d ++ s ++ be k 2 ++ List.replicate (N - 6 - 6 - 2) 0)))
  simp only [List.set_cons_zero, List.set_cons_succ] at Y4
  obtain ⟨l4, e4⟩ : ∃ l, d ++ s ++ be k 2 ++ List.replicate (N - 6 - 6 - 2) 0 = l := ⟨_, rfl⟩
  rw [e4] at C Y4
  have E4 := veil e4
  clear e4 E2
  have c1 := veil (frmAt D2.out mem1 VM.out).kind
  have c2 := veil (frmAt Y3.out mem2 VM.out).kind
  have c3 := veil (frmAt Y4.out mem2 VM.out).kind
  have hwk : IntKind.u64.wrap k = k := by rw [IntKind.wrap_u64]; omega
  have hw12 : IntKind.i64.wrap 12 = 12 := by decide
  have i12 : (12 : Int) ≤ (N : Int) := by omega
  have n12 : ¬ N = 12 := by omega
  clear Y2 D2 Y3
  -- region 4
  refine wp_region_noPanic ?_
  refine wp_region_held_drew (S := (fun w' => w'.cell? ⟨w.heap.size, 12, none⟩ = some (.int .u16 k))) (by kernel_rfl) c1.out (fun hHeld => ?_)
  refine wpAnyH_take (i := 0) (v := ?_) (by rfl) (by kernel_rfl) (by kernel_rfl) (by kernel_rfl) (fun _ _ _ h => h) (Or.inl ⟨by rfl, ?_⟩) hHeld ?_
  rotate_left
  · intro w' hSw
    (try dsimp only at hSw)
    simp only [List.getElem_toArray, List.getElem_cons_zero, List.getElem_cons_succ]
    go_simp
    all_goals (try with_reducible rfl)
  try simp only [Act.put, List.setIfInBounds_toArray, List.set_cons_zero, List.set_cons_succ, List.getElem_toArray, List.getElem_cons_zero, List.getElem_cons_succ]
  refine wpAnyH_take (i := 1) (v := ?_) (by rfl) (by kernel_rfl) (by kernel_rfl) (by kernel_rfl) (fun _ _ _ h => h) (Or.inl ⟨by rfl, ?_⟩) hHeld ?_
  rotate_left
  · intro w' hSw
    (try dsimp only at hSw)
    simp only [List.getElem_toArray, List.getElem_cons_zero, List.getElem_cons_succ]
    go_simp
    all_goals (try with_reducible rfl)
  try simp only [Act.put, List.setIfInBounds_toArray, List.set_cons_zero, List.set_cons_succ, List.getElem_toArray, List.getElem_cons_zero, List.getElem_cons_succ]
  refine wpAnyH_take (i := 2) (v := ?_) (by rfl) (by kernel_rfl) (by kernel_rfl) (by kernel_rfl) (fun _ _ _ h => h) (Or.inl ⟨by rfl, ?_⟩) hHeld ?_
  rotate_left
  · intro w' hSw
    (try dsimp only at hSw)
    simp only [List.getElem_toArray, List.getElem_cons_zero, List.getElem_cons_succ]
    go_simp
    all_goals (try with_reducible rfl)
  try simp only [Act.put, List.setIfInBounds_toArray, List.set_cons_zero, List.set_cons_succ, List.getElem_toArray, List.getElem_cons_zero, List.getElem_cons_succ]
  refine wpAnyH_take (i := 3) (v := ?_) (by rfl) (by kernel_rfl) (by kernel_rfl) (by kernel_rfl) (fun _ _ _ h => h) (Or.inl ⟨by rfl, ?_⟩) hHeld ?_
  rotate_left
  · intro w' hSw
    (try dsimp only at hSw)
    simp only [List.getElem_toArray, List.getElem_cons_zero, List.getElem_cons_succ]
    go_simp
    all_goals (try with_reducible rfl)
  try simp only [Act.put, List.setIfInBounds_toArray, List.set_cons_zero, List.set_cons_succ, List.getElem_toArray, List.getElem_cons_zero, List.getElem_cons_succ]
  refine wpAnyH_take (i := 4) (v := ?_) (by rfl) (by kernel_rfl) (by kernel_rfl) (by kernel_rfl) (fun _ _ _ h => h) (Or.inl ⟨by rfl, ?_⟩) hHeld ?_
  rotate_left
  · intro w' hSw
    (try dsimp only at hSw)
    simp only [List.getElem_toArray, List.getElem_cons_zero, List.getElem_cons_succ]
    go_simp
    all_goals (try with_reducible rfl)
  try simp only [Act.put, List.setIfInBounds_toArray, List.set_cons_zero, List.set_cons_succ, List.getElem_toArray, List.getElem_cons_zero, List.getElem_cons_succ]
  refine wpAnyH_take (i := 5) (v := ?_) (by rfl) (by kernel_rfl) (by kernel_rfl) (by kernel_rfl) (fun _ _ _ h => h) (Or.inl ⟨by rfl, ?_⟩) hHeld ?_
  rotate_left
  · intro w' hSw
    (try dsimp only at hSw)
    simp only [List.getElem_toArray, List.getElem_cons_zero, List.getElem_cons_succ]
    go_simp
    all_goals (try with_reducible rfl)
  try simp only [Act.put, List.setIfInBounds_toArray, List.set_cons_zero, List.set_cons_succ, List.getElem_toArray, List.getElem_cons_zero, List.getElem_cons_succ]
  refine wpAnyH_take (i := 6) (v := ?_) (by rfl) (by kernel_rfl) (by kernel_rfl) (by kernel_rfl) (fun _ _ _ h => h) (Or.inl ⟨by rfl, ?_⟩) hHeld ?_
  rotate_left
  · intro w' hSw
    (try dsimp only at hSw)
    simp only [List.getElem_toArray, List.getElem_cons_zero, List.getElem_cons_succ]
    go_simp
    all_goals (try with_reducible rfl)
  try simp only [Act.put, List.setIfInBounds_toArray, List.set_cons_zero, List.set_cons_succ, List.getElem_toArray, List.getElem_cons_zero, List.getElem_cons_succ]
  refine wpAnyH_ready (rs := [7]) (by kernel_rfl) (by simp) ?_
  refine AllReadyH.cons (by rfl) (fun K hK => ?_) AllReadyH.nil
  simp only [List.getElem_toArray, List.getElem_cons_zero, List.getElem_cons_succ]
  go_simp
  refine (KP.out).mono ?_
  rintro e w3 ⟨rfl, rfl⟩
  (try dsimp only)
  refine hK.out _ _ c2.out (fun hHeld => ?_)
  clear hK K
  try simp only [Act.put, List.setIfInBounds_toArray, List.set_cons_zero, List.set_cons_succ, List.getElem_toArray, List.getElem_cons_zero, List.getElem_cons_succ]
  refine wpAnyH_ready (rs := [8]) (by kernel_rfl) (by simp) ?_
  refine AllReadyH.cons (by rfl) (fun K hK => ?_) AllReadyH.nil
  simp only [List.getElem_toArray, List.getElem_cons_zero, List.getElem_cons_succ]
  refine wp_copy_of (.tmp 25) (.tmp 29) rfl rfl rfl C.out ?_
  (try dsimp only)
  refine hK.out _ _ c3.out (fun hHeld => ?_)
  clear hK K
  try simp only [Act.put, List.setIfInBounds_toArray, List.set_cons_zero, List.set_cons_succ, List.getElem_toArray, List.getElem_cons_zero, List.getElem_cons_succ]
  refine wpAnyH_take (i := 9) (v := ?_) (by rfl) (by kernel_rfl) (by kernel_rfl) (by kernel_rfl) (fun _ _ _ h => h) (Or.inl ⟨by rfl, ?_⟩) hHeld ?_
  rotate_left
  · intro w' hSw
    (try dsimp only at hSw)
    simp only [List.getElem_toArray, List.getElem_cons_zero, List.getElem_cons_succ]
    go_simp
    all_goals (try with_reducible rfl)
  try simp only [Act.put, List.setIfInBounds_toArray, List.set_cons_zero, List.set_cons_succ, List.getElem_toArray, List.getElem_cons_zero, List.getElem_cons_succ]
  refine wpAnyH_take (i := 10) (v := ?_) (by rfl) (by kernel_rfl) (by kernel_rfl) (by kernel_rfl) (fun _ _ _ h => h) (Or.inl ⟨by rfl, ?_⟩) hHeld ?_
  rotate_left
  · intro w' hSw
    (try dsimp only at hSw)
    simp only [List.getElem_toArray, List.getElem_cons_zero, List.getElem_cons_succ]
    go_simp
    all_goals (try with_reducible rfl)
  try simp only [Act.put, List.setIfInBounds_toArray, List.set_cons_zero, List.set_cons_succ, List.getElem_toArray, List.getElem_cons_zero, List.getElem_cons_succ]
  refine wpAnyH_done (by kernel_rfl) ?_ _
  refine NoPanic.normal ?_
  clear hHeld
  -- end region 4
  generalize (w2.drew.alloc (.cells (bv (be k 2)).toArray 5)).setRow (w.heap.size + 1) (bv l4).toArray = w4 at *
  have hw14 : IntKind.i64.wrap 14 = 14 := by decide
  generalize hgk : w2.drew.heap.size = gk at *
  clear C KP c1 c2 c3 hwk hw12 i12 n12 hgk
  rw [← E4.out] at Y4
  clear E4
  go_wp2_with fail
  simp only [hw14]
  have D4 := veil Y4.out.drew
  have c1 := veil (frmAt D4.out mem2 VM.out).body
  have i14 : (14 : Int) ≤ (N : Int) := by omega
  have VN := veil hN1
  rcases Nat.eq_zero_or_pos n with h0 | h0
  · have e0 := VL.out
    subst h0
    have e14 : N = 14 := HN.out
    subst e14
    obtain ⟨iu, hiu, hz0, hz1, hz2⟩ := info_parts info_u8
    have hsz : (Try.prog.info? 5).map (·.size) = some 1 := by rw [hiu]; simp [hz1]
    have C := veil (run_copy_none (P := Try.prog) w4.drew 25 25 3 5 (some ⟨w.heap.size + 1, 0, none⟩) A 0 0 0 c Try.underlying25 hsz (by simp))
    have R := veil (D4.out.at mem1)
    have Q := veil D4.out.below
    rw [show d ++ s ++ be k 2 ++ List.replicate (14 - 6 - 6 - 2) 0 = fb d s k zs by
      rw [List.eq_nil_of_length_eq_zero e0]
      simp [fb]] at R
    clear Y4 D4 hiu hz0 hz1 hz2 hsz e0
    -- region 5z
    refine wp_region_noPanic ?_
    refine wp_region_held_drew (S := (fun w' => w'.cell? ⟨w.heap.size, 13, none⟩ = some (.slice A 0 c))) (by kernel_rfl) c1.out (fun hHeld => ?_)
    refine wpAnyH_take (i := 0) (v := ?_) (by rfl) (by kernel_rfl) (by kernel_rfl) (by kernel_rfl) (fun _ _ _ h => h) (Or.inl ⟨by rfl, ?_⟩) hHeld ?_
    rotate_left
    · intro w' hSw
      (try dsimp only at hSw)
      simp only [List.getElem_toArray, List.getElem_cons_zero, List.getElem_cons_succ]
      go_simp
      all_goals (try with_reducible rfl)
    try simp only [Act.put, List.setIfInBounds_toArray, List.set_cons_zero, List.set_cons_succ, List.getElem_toArray, List.getElem_cons_zero, List.getElem_cons_succ]
    refine wpAnyH_take (i := 1) (v := ?_) (by rfl) (by kernel_rfl) (by kernel_rfl) (by kernel_rfl) (fun _ _ _ h => h) (Or.inl ⟨by rfl, ?_⟩) hHeld ?_
    rotate_left
    · intro w' hSw
      (try dsimp only at hSw)
      simp only [List.getElem_toArray, List.getElem_cons_zero, List.getElem_cons_succ]
      go_simp
      all_goals (try with_reducible rfl)
    try simp only [Act.put, List.setIfInBounds_toArray, List.set_cons_zero, List.set_cons_succ, List.getElem_toArray, List.getElem_cons_zero, List.getElem_cons_succ]
    refine wpAnyH_take (i := 2) (v := ?_) (by rfl) (by kernel_rfl) (by kernel_rfl) (by kernel_rfl) (fun _ _ _ h => h) (Or.inl ⟨by rfl, ?_⟩) hHeld ?_
    rotate_left
    · intro w' hSw
      (try dsimp only at hSw)
      simp only [List.getElem_toArray, List.getElem_cons_zero, List.getElem_cons_succ]
      go_simp
      all_goals (try with_reducible rfl)
    try simp only [Act.put, List.setIfInBounds_toArray, List.set_cons_zero, List.set_cons_succ, List.getElem_toArray, List.getElem_cons_zero, List.getElem_cons_succ]
    refine wpAnyH_take (i := 3) (v := ?_) (by rfl) (by kernel_rfl) (by kernel_rfl) (by kernel_rfl) (fun _ _ _ h => h) (Or.inl ⟨by rfl, ?_⟩) hHeld ?_
    rotate_left
    · intro w' hSw
      (try dsimp only at hSw)
      simp only [List.getElem_toArray, List.getElem_cons_zero, List.getElem_cons_succ]
      go_simp
      all_goals (try with_reducible rfl)
    try simp only [Act.put, List.setIfInBounds_toArray, List.set_cons_zero, List.set_cons_succ, List.getElem_toArray, List.getElem_cons_zero, List.getElem_cons_succ]
    refine wpAnyH_take (i := 4) (v := ?_) (by rfl) (by kernel_rfl) (by kernel_rfl) (by kernel_rfl) (fun _ _ _ h => h) (Or.inl ⟨by rfl, ?_⟩) hHeld ?_
    rotate_left
    · intro w' hSw
      (try dsimp only at hSw)
      simp only [List.getElem_toArray, List.getElem_cons_zero, List.getElem_cons_succ]
      go_simp
      all_goals (try with_reducible rfl)
    try simp only [Act.put, List.setIfInBounds_toArray, List.set_cons_zero, List.set_cons_succ, List.getElem_toArray, List.getElem_cons_zero, List.getElem_cons_succ]
    refine wpAnyH_ready (rs := [5]) (by kernel_rfl) (by simp) ?_
    refine AllReadyH.cons (by rfl) (fun K hK => ?_) AllReadyH.nil
    simp only [List.getElem_toArray, List.getElem_cons_zero, List.getElem_cons_succ]
    refine wp_copy_of (.tmp 34) (.tmp 36) rfl rfl rfl C.out ?_
    (try dsimp only)
    refine hK.out _ _ c1.out (fun hHeld => ?_)
    clear hK K
    try simp only [Act.put, List.setIfInBounds_toArray, List.set_cons_zero, List.set_cons_succ, List.getElem_toArray, List.getElem_cons_zero, List.getElem_cons_succ]
    refine wpAnyH_done (by kernel_rfl) ?_ _
    refine NoPanic.normal ?_
    clear hHeld
    -- end region 5z
    clear C c1
    go_wp2_with fail
    go_ret
    exact ⟨w.heap.size + 1, by omega, rfl, R.out, Q.out⟩
  · have n14 : ¬ N = 14 := by have := HN.out; omega
    have C := veil (copy_step (d ++ s ++ be k 2) zs (N - 6 - 6 - 2) (w.heap.size + 1) 14 n (N - 14) (N - 14) c A w4.drew 3 (D4.out.at mem1) (VA.out.keep D4.out.below) (by simp [VM.out.d, VM.out.s, be_length]) VL.out h0 (by have := HN.out; omega) (by have := HN.out; omega))
    have Y5 := veil (D4.out.put 1 rfl (bv (d ++ s ++ be k 2 ++ zs ++ List.replicate (N - 6 - 6 - 2 - n) 0)))
    simp only [List.set_cons_zero, List.set_cons_succ] at Y5
    obtain ⟨l5, e5⟩ : ∃ l, d ++ s ++ be k 2 ++ zs ++ List.replicate (N - 6 - 6 - 2 - n) 0 = l := ⟨_, rfl⟩
    rw [e5] at C Y5
    have E5 : Hid (l5 = fb d s k zs) := by
      have := HN.out
      show l5 = _
      rw [← e5, show N - 6 - 6 - 2 - n = 0 by omega]
      simp [fb]
    have c2 := veil (frmAt Y5.out mem2 VM.out).body
    clear e5 Y4 D4
    -- region 5
    refine wp_region_noPanic ?_
    refine wp_region_held_drew (S := (fun w' => w'.cell? ⟨w.heap.size, 13, none⟩ = some (.slice A n c))) (by kernel_rfl) c1.out (fun hHeld => ?_)
    refine wpAnyH_take (i := 0) (v := ?_) (by rfl) (by kernel_rfl) (by kernel_rfl) (by kernel_rfl) (fun _ _ _ h => h) (Or.inl ⟨by rfl, ?_⟩) hHeld ?_
    rotate_left
    · intro w' hSw
      (try dsimp only at hSw)
      simp only [List.getElem_toArray, List.getElem_cons_zero, List.getElem_cons_succ]
      go_simp
      all_goals (try with_reducible rfl)
    try simp only [Act.put, List.setIfInBounds_toArray, List.set_cons_zero, List.set_cons_succ, List.getElem_toArray, List.getElem_cons_zero, List.getElem_cons_succ]
    refine wpAnyH_take (i := 1) (v := ?_) (by rfl) (by kernel_rfl) (by kernel_rfl) (by kernel_rfl) (fun _ _ _ h => h) (Or.inl ⟨by rfl, ?_⟩) hHeld ?_
    rotate_left
    · intro w' hSw
      (try dsimp only at hSw)
      simp only [List.getElem_toArray, List.getElem_cons_zero, List.getElem_cons_succ]
      go_simp
      all_goals (try with_reducible rfl)
    try simp only [Act.put, List.setIfInBounds_toArray, List.set_cons_zero, List.set_cons_succ, List.getElem_toArray, List.getElem_cons_zero, List.getElem_cons_succ]
    refine wpAnyH_take (i := 2) (v := ?_) (by rfl) (by kernel_rfl) (by kernel_rfl) (by kernel_rfl) (fun _ _ _ h => h) (Or.inl ⟨by rfl, ?_⟩) hHeld ?_
    rotate_left
    · intro w' hSw
      (try dsimp only at hSw)
      simp only [List.getElem_toArray, List.getElem_cons_zero, List.getElem_cons_succ]
      go_simp
      all_goals (try with_reducible rfl)
    try simp only [Act.put, List.setIfInBounds_toArray, List.set_cons_zero, List.set_cons_succ, List.getElem_toArray, List.getElem_cons_zero, List.getElem_cons_succ]
    refine wpAnyH_take (i := 3) (v := ?_) (by rfl) (by kernel_rfl) (by kernel_rfl) (by kernel_rfl) (fun _ _ _ h => h) (Or.inl ⟨by rfl, ?_⟩) hHeld ?_
    rotate_left
    · intro w' hSw
      (try dsimp only at hSw)
      simp only [List.getElem_toArray, List.getElem_cons_zero, List.getElem_cons_succ]
      go_simp
      all_goals (try with_reducible rfl)
    try simp only [Act.put, List.setIfInBounds_toArray, List.set_cons_zero, List.set_cons_succ, List.getElem_toArray, List.getElem_cons_zero, List.getElem_cons_succ]
    refine wpAnyH_take (i := 4) (v := ?_) (by rfl) (by kernel_rfl) (by kernel_rfl) (by kernel_rfl) (fun _ _ _ h => h) (Or.inl ⟨by rfl, ?_⟩) hHeld ?_
    rotate_left
    · intro w' hSw
      (try dsimp only at hSw)
      simp only [List.getElem_toArray, List.getElem_cons_zero, List.getElem_cons_succ]
      go_simp
      all_goals (try with_reducible rfl)
    try simp only [Act.put, List.setIfInBounds_toArray, List.set_cons_zero, List.set_cons_succ, List.getElem_toArray, List.getElem_cons_zero, List.getElem_cons_succ]
    refine wpAnyH_ready (rs := [5]) (by kernel_rfl) (by simp) ?_
    refine AllReadyH.cons (by rfl) (fun K hK => ?_) AllReadyH.nil
    simp only [List.getElem_toArray, List.getElem_cons_zero, List.getElem_cons_succ]
    refine wp_copy_of (.tmp 34) (.tmp 36) rfl rfl rfl C.out ?_
    (try dsimp only)
    refine hK.out _ _ c2.out (fun hHeld => ?_)
    clear hK K
    try simp only [Act.put, List.setIfInBounds_toArray, List.set_cons_zero, List.set_cons_succ, List.getElem_toArray, List.getElem_cons_zero, List.getElem_cons_succ]
    refine wpAnyH_done (by kernel_rfl) ?_ _
    refine NoPanic.normal ?_
    clear hHeld
    -- end region 5
    generalize w4.drew.setRow (w.heap.size + 1) (bv l5).toArray = w5 at *
    clear C c1 c2
    go_wp2_with fail
    go_ret
    have R := Y5.out.at mem1
    rw [E5.out] at R
    refine ⟨w.heap.size + 1, by omega, ?_, R, Y5.out.below⟩
    have e := HN.out
    subst e
    rfl

end Go.Proofs.Ytihhbniceiammaa.Et
