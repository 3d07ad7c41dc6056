/-
  What fills and addrOf answer: eight groups as sixteen bytes.
  Conditions: none.
-/
import Derived.Test.YtfaaogidbpfelaaDoorTxtD
import Derived.StillTailTactics
namespace Go.Proofs.YtfaaogidbpfelaaDoor.Tx
open Go.RowKit Ad

theorem fills_any (n : Nat) (cut : Bool) (w : World) : Calls Tryd.prog 24 #[.int .i64 n, .bool cut] w fun e w' => e = .returned (.bool (if cut = true then decide (n < 8) else decide (n = 8))) ∧ w = w' := by
  cases cut
  · go_enter Tryd.func24, Tryd.ntmps24
    go_wp2_with fail
    go_ret
    refine ⟨?_, rfl⟩
    show Ending.returned (Value.bool _) = _
    congr 2
    by_cases h : n = 8
    · subst h; rfl
    · have : ¬ (n : Int) = 8 := by omega
      simp [h, this]
  · go_enter Tryd.func24, Tryd.ntmps24
    go_wp2_with fail
    go_ret
    refine ⟨?_, rfl⟩
    show Ending.returned (Value.bool _) = _
    congr 2
    by_cases h : n < 8
    · have : (n : Int) < 8 := by omega
      simp [h, this]
    · have : ¬ (n : Int) < 8 := by omega
      simp [h, this]

/-- groups by value -/
def gv (gs : List Nat) : Value := .agg (W16.bv (ints gs)).toArray
/-- the bytes of groups -/
def bys (gs : List Nat) : List Int := gs.flatMap fun g => [((g / 256 : Nat) : Int), ((g % 256 : Nat) : Int)]
theorem bys_len (gs : List Nat) : (bys gs).length = 2 * gs.length := by
  induction gs with
  | nil => rfl
  | cons g r ih => simp [bys] at ih ⊢; omega
theorem bys_app (a b : List Nat) : bys (a ++ b) = bys a ++ bys b := by simp [bys]
def half (gs : List Nat) (j : Nat) : List Int := bys (gs.take j) ++ List.replicate (16 - 2 * j) 0
theorem half_len {gs : List Nat} {j : Nat} (h8 : gs.length = 8) (hj : j ≤ 8) : (half gs j).length = 16 := by
  have : (gs.take j).length = j := by simp; omega
  simp [half, bys_len, h8]; omega
theorem half_set {gs : List Nat} {j : Nat} (h8 : gs.length = 8) (hj : j < 8) : ((half gs j).set (2 * j) ((gs.getD j 0 / 256 : Nat) : Int)).set (2 * j + 1) ((gs.getD j 0 % 256 : Nat) : Int) = half gs (j + 1) := by
  have hl : (bys (gs.take j)).length = 2 * j := by rw [bys_len]; simp; omega
  have ht : gs.take (j + 1) = gs.take j ++ [gs.getD j 0] := by
    rw [List.take_add_one]
    simp [List.getD, h8, hj]
  have hb : bys [gs.getD j 0] = [((gs.getD j 0 / 256 : Nat) : Int), ((gs.getD j 0 % 256 : Nat) : Int)] := rfl
  unfold half
  rw [ht, bys_app, hb]
  generalize ((gs.getD j 0 / 256 : Nat) : Int) = x
  generalize ((gs.getD j 0 % 256 : Nat) : Int) = y
  generalize bys (gs.take j) = l at *
  obtain ⟨k, hk⟩ : ∃ k, 16 - 2 * j = k + 2 := ⟨14 - 2 * j, by omega⟩
  have hk2 : 16 - 2 * (j + 1) = k := by omega
  rw [hk, hk2]
  simp [hl, List.replicate_succ]
theorem half_end {gs : List Nat} (h8 : gs.length = 8) : half gs 8 = bys gs := by
  unfold half
  rw [List.take_of_length_le (by omega)]
  simp

theorem index_u16 {cs : Array Value} {j : Nat} {v : Value} (w : World) (hj : j < 8) (hc : cs[j]? = some v) : (Instr.index 41 (.agg cs) (.int .i64 j)).run Tryd.prog w = .ok v w := by
  simp [Instr.index, run_underlying Tryd.underlying41, asIntOf, hj, hc, go_sem]

set_option maxRecDepth 100000 in
set_option maxHeartbeats 2000000 in
theorem addrOf_any (gs : List Nat) (w : World) (h8 : gs.length = 8) (hg : ∀ g ∈ gs, g < 65536) : Calls Tryd.prog 25 #[gv gs] w fun e w' => e = .returned (av (bys gs)) ∧ Below w.heap.size w w' := by
  unfold gv
  obtain ⟨Z, hZ⟩ : ∃ Z : Array Value, Z = #[.int .u8 0, .int .u8 0, .int .u8 0, .int .u8 0, .int .u8 0, .int .u8 0, .int .u8 0, .int .u8 0, .int .u8 0, .int .u8 0, .int .u8 0, .int .u8 0, .int .u8 0, .int .u8 0, .int .u8 0, .int .u8 0] := ⟨_, rfl⟩
  have hz2 : Hid (Z = (bv (half gs 0)).toArray) := by rw [hZ]; rfl
  obtain ⟨G, hG⟩ : ∃ G : Array Value, G = (W16.bv (ints gs)).toArray := ⟨_, rfl⟩
  rw [← hG]
  have q0 := below_new w (.cells G 41)
  have r0 := row_new (w := w) (g := w.heap.size) (cs := G) (t := 41) rfl
  have z0 : (w.alloc (.cells G 41)).heap.size = w.heap.size + 1 := by simp
  obtain ⟨w0, hw0⟩ : ∃ w0, w.alloc (.cells G 41) = w0 := ⟨_, rfl⟩
  rw [hw0] at q0 r0 z0
  have q1 := below_new w0 (.cells Z 23)
  have R1 := veil (row_new (w := w0) (g := w.heap.size + 1) (cs := Z) (t := 23) z0.symm)
  have r1 := r0.keep q1
  have Q := veil (q0.trans (q1.mono q0.size))
  have hGs : G.size = 8 := by rw [hG]; simp [W16.bv, ints_len, h8]
  obtain ⟨w1, hw1⟩ : ∃ w1, w0.alloc (.cells Z 23) = w1 := ⟨_, rfl⟩
  rw [hw1] at R1 r1 Q
  have L := veil (load_row (P := Tryd.prog) (ty := 41) r1 Tryd.underlying41 rfl (by rw [hGs]; kernel_rfl))
  have HW : Hid (w0.alloc (.cells #[.int .u8 0, .int .u8 0, .int .u8 0, .int .u8 0, .int .u8 0, .int .u8 0, .int .u8 0, .int .u8 0, .int .u8 0, .int .u8 0, .int .u8 0, .int .u8 0, .int .u8 0, .int .u8 0, .int .u8 0, .int .u8 0] 23) = w1) := by rw [← hZ]; exact hw1
  have HG := veil hG
  have HS := veil hGs
  have H8 := veil h8
  have HL := veil hg
  clear hw1 q0 r0 z0 q1 r1 hG hGs hg
  subst hw0
  have L' : Hid ((Instr.loadAt 41 (.pointer (some ⟨w.heap.size, 0, none⟩))).run Tryd.prog ((w.alloc (.cells G 41)).alloc (.cells #[.int .u8 0, .int .u8 0, .int .u8 0, .int .u8 0, .int .u8 0, .int .u8 0, .int .u8 0, .int .u8 0, .int .u8 0, .int .u8 0, .int .u8 0, .int .u8 0, .int .u8 0, .int .u8 0, .int .u8 0, .int .u8 0] 23)) = .ok (.agg G) ((w.alloc (.cells G 41)).alloc (.cells #[.int .u8 0, .int .u8 0, .int .u8 0, .int .u8 0, .int .u8 0, .int .u8 0, .int .u8 0, .int .u8 0, .int .u8 0, .int .u8 0, .int .u8 0, .int .u8 0, .int .u8 0, .int .u8 0, .int .u8 0, .int .u8 0] 23))) := by
    rw [HW.out]
    exact L.out
  clear L hZ
  rw [hz2.out] at R1
  clear hz2
  go_enter Tryd.func25, Tryd.ntmps25
  go_wp2_with (refine wpList_load_of rfl _ rfl rfl L'.out ?_)
  rw [HW.out]
  clear HW L'
  go_loopw [6] (fun i wr => ∃ j : Nat, j ≤ 8 ∧ i = .int .i64 j ∧ Hid (Row wr (w.heap.size + 1) 23 (bv (half gs j)).toArray ∧ Below w.heap.size w wr)) (fun i _ => 8 - (intOf i).toNat)
  case atStart => exact ⟨0, by omega, rfl, R1.out, Q.out⟩
  case round =>
    obtain ⟨j, hj, rfl, hR⟩ := hrel
    clear R1 Q
    by_cases hlt : j < 8
    · obtain ⟨hr, hb⟩ := hR.out
      have hGj : G[j]? = some (.int .u16 (gs.getD j 0 : Nat)) := by
        rw [HG.out]
        simp [W16.bv, ints, List.getD, H8.out, hlt]
      have hgl : gs.getD j 0 < 65536 := HL.out _ (by simp [List.getD, H8.out, hlt])
      have hl := half_len H8.out hj
      have c0 : wr.cell? ⟨w.heap.size + 1, 2 * j, none⟩ = some (.int .u8 ((half gs j).getD (2 * j) 0)) := rng_at (rng_row hr) (by rw [hl]; omega)
      have c1 : wr.cell? ⟨w.heap.size + 1, 2 * j + 1, none⟩ = some (.int .u8 ((half gs j).getD (2 * j + 1) 0)) := rng_at (rng_row hr) (by rw [hl]; omega)
      have R3 := (hr.set (2 * j) (.int .u8 ((gs.getD j 0 / 256 : Nat) : Int))).set (2 * j + 1) (.int .u8 ((gs.getD j 0 % 256 : Nat) : Int))
      rw [List.setIfInBounds_toArray, List.setIfInBounds_toArray, bv_set, bv_set, half_set H8.out hlt] at R3
      have f0 : wr.frozen? ⟨w.heap.size + 1, 2 * j, none⟩ = false := hr.frozen _
      have f1 : wr.frozen? ⟨w.heap.size + 1, 2 * j + 1, none⟩ = false := hr.frozen _
      have R3 := veil R3
      have Q := veil hb
      have hix := index_u16 wr hlt hGj
      generalize (half gs j).getD (2 * j) 0 = x0 at *
      generalize (half gs j).getD (2 * j + 1) 0 = x1 at *
      generalize gs.getD j 0 = x at *
      clear hR hr hb hl hGj
      go_wp2_with fail
      go_roundw
      case rel => exact ⟨j + 1, by omega, by go_num, R3.out, (Q.out.setCell (p := ⟨w.heap.size + 1, 2 * j, none⟩) (by simp) _).setCell (p := ⟨w.heap.size + 1, 2 * j + 1, none⟩) (by simp) _⟩
      case measure => simp [intOf]; omega
    · obtain rfl : j = 8 := by omega
      obtain ⟨hr, hb⟩ := hR.out
      rw [half_end H8.out] at hr
      have hl : (bys gs).length = 16 := by rw [bys_len, H8.out]
      have L := veil (load_rng (rng_row hr) hl)
      have T := veil (store_row hr (by simp [bv, hl]) hl)
      have R5 := veil (hr.setRow (bv (bys gs)).toArray)
      have Q5 := veil (below_setRow hb (w.heap.size + 1) (bv (bys gs)).toArray (by omega))
      have hk := sizeOk hl
      clear hR hr hb hl
      go_wp2_with (first
        | (refine wpList_load_of rfl _ rfl rfl L.out ?_)
        | (refine wpList_store_of rfl _ _ rfl rfl rfl T.out ?_))
      refine bodyPost_ret (results_cell_row rfl _ _ (w.heap.size + 1) _ _ (0, 0) _ rfl R5.out Tryd.underlying23 rfl (by simpa using hk)) rfl ?_
      exact ⟨rfl, Q5.out⟩
end Go.Proofs.YtfaaogidbpfelaaDoor.Tx
