/-
  What groupsOf answers: sixteen bytes as eight groups; and back.
  Conditions: none.
-/
import Derived.Test.YtfaaogidbpfelaaDoorTxtE
namespace Go.Proofs.YtfaaogidbpfelaaDoor.Tx
open Go.RowKit Ad

/-- the groups of an address -/
def grp (xs : List Int) : List Nat := (List.range 8).map fun i => (xs.getD (2 * i) 0).toNat * 256 + (xs.getD (2 * i + 1) 0).toNat
theorem grp_len (xs : List Int) : (grp xs).length = 8 := by simp [grp]
theorem grp_at (xs : List Int) {j : Nat} (h : j < 8) : (grp xs).getD j 0 = (xs.getD (2 * j) 0).toNat * 256 + (xs.getD (2 * j + 1) 0).toNat := by
  simp [grp, List.getD, h]
theorem grp_lt {xs : List Int} (h : Ok xs) : ∀ g ∈ grp xs, g < 65536 := by
  intro g hg
  simp only [grp, List.mem_map, List.mem_range] at hg
  obtain ⟨i, hi, rfl⟩ := hg
  have := h.at (2 * i)
  have := h.at (2 * i + 1)
  omega
theorem bys_grp {xs : List Int} (h : Ok xs) : bys (grp xs) = xs := by
  match xs, h with
  | [a, b, c, d, e, f, g, i, j, k, l, m, n, o, p, q], h =>
    have hb := h.byt
    simp only [Byt, List.mem_cons, List.not_mem_nil, or_false, forall_eq_or_imp, forall_eq] at hb
    simp [grp, bys, List.range, List.range.loop]
    omega
def ghalf (xs : List Int) (j : Nat) : List Nat := (grp xs).take j ++ List.replicate (8 - j) 0
theorem ghalf_len (xs : List Int) {j : Nat} (hj : j ≤ 8) : (ghalf xs j).length = 8 := by simp [ghalf, grp_len]; omega
theorem ghalf_set (xs : List Int) {j : Nat} (hj : j < 8) : (ghalf xs j).set j ((grp xs).getD j 0) = ghalf xs (j + 1) := by
  have ht : (grp xs).take (j + 1) = (grp xs).take j ++ [(grp xs).getD j 0] := by
    rw [List.take_add_one]
    simp [List.getD, grp_len, hj]
  have hl : ((grp xs).take j).length = j := by simp [grp_len]; omega
  unfold ghalf
  rw [ht]
  obtain ⟨k, hk⟩ : ∃ k, 8 - j = k + 1 := ⟨7 - j, by omega⟩
  have hk2 : 8 - (j + 1) = k := by omega
  rw [hk, hk2]
  generalize (grp xs).getD j 0 = x
  generalize (grp xs).take j = l at *
  simp [hl, List.replicate_succ]
theorem ghalf_end (xs : List Int) : ghalf xs 8 = grp xs := by
  unfold ghalf
  rw [List.take_of_length_le (by rw [grp_len]; omega)]
  simp
theorem w16_set (l : List Nat) (j n : Nat) : (W16.bv (ints l)).toArray.setIfInBounds j (.int .u16 n) = (W16.bv (ints (l.set j n))).toArray := by
  simp [W16.bv, ints, List.map_set]
theorem store_row16 {w : World} {g : Nat} {t : TypeId} {cs : Array Value} {gs : List Nat} (h : Row w g t cs) (hc : cs.size = 8) (hx : gs.length = 8) :
    (Instr.storeAt 41 (.pointer (some ⟨g, 0, none⟩)) (gv gs)).run Tryd.prog w = .ok () (w.setRow g (W16.bv (ints gs)).toArray) := by
  simp only [gv, Instr.storeAt, Instr.sureAddr, Sem.run_bind, Sem.run_pure, Result.andThen]
  exact run_storeVar_row _ _ _ _ _ _ h (by rw [show (W16.bv (ints gs)).toArray.size = 8 by simp [W16.bv, ints, hx]]; kernel_rfl) (by simp [W16.bv, ints, hx, hc]) (by simp [W16.bv, Value.oneCell'])

set_option maxRecDepth 100000 in
set_option maxHeartbeats 2000000 in
theorem groupsOf_any (xs : List Int) (w : World) (hx : Ok xs) : Calls Tryd.prog 17 #[av xs] w fun e w' => e = .returned (gv (grp xs)) ∧ Below w.heap.size w w' := by
  obtain ⟨Z, hZ⟩ : ∃ Z : Array Value, Z = #[.int .u16 0, .int .u16 0, .int .u16 0, .int .u16 0, .int .u16 0, .int .u16 0, .int .u16 0, .int .u16 0] := ⟨_, rfl⟩
  have hz2 : Hid (Z = (W16.bv (ints (ghalf xs 0))).toArray) := by rw [hZ]; rfl
  have q0 := below_new w (.cells (bv xs).toArray 23)
  have r0 := row_new (w := w) (g := w.heap.size) (cs := (bv xs).toArray) (t := 23) rfl
  have z0 : (w.alloc (.cells (bv xs).toArray 23)).heap.size = w.heap.size + 1 := by simp
  obtain ⟨w0, hw0⟩ : ∃ w0, w.alloc (.cells (bv xs).toArray 23) = w0 := ⟨_, rfl⟩
  rw [hw0] at q0 r0 z0
  have q1 := below_new w0 (.cells Z 41)
  have R1 := veil (row_new (w := w0) (g := w.heap.size + 1) (cs := Z) (t := 41) z0.symm)
  have R0 := veil (r0.keep q1)
  have Q := veil (q0.trans (q1.mono q0.size))
  have HX := veil hx
  clear q0 r0 z0 q1 hx
  obtain ⟨w1, hw1⟩ : ∃ w1, w0.alloc (.cells Z 41) = w1 := ⟨_, rfl⟩
  rw [hw1] at R1 R0 Q
  have HW : Hid (w0.alloc (.cells #[.int .u16 0, .int .u16 0, .int .u16 0, .int .u16 0, .int .u16 0, .int .u16 0, .int .u16 0, .int .u16 0] 41) = w1) := by rw [← hZ]; exact hw1
  clear hw1 hZ
  subst hw0
  rw [hz2.out] at R1
  clear hz2
  go_enter Tryd.func17, Tryd.ntmps17
  go_wp2_with fail
  rw [HW.out]
  clear HW
  go_loopw [4] (fun i wr => ∃ j : Nat, j ≤ 8 ∧ i = .int .i64 j ∧ Hid (Row wr w.heap.size 23 (bv xs).toArray ∧ Row wr (w.heap.size + 1) 41 (W16.bv (ints (ghalf xs j))).toArray ∧ Below w.heap.size w wr)) (fun i _ => 8 - (intOf i).toNat)
  case atStart => exact ⟨0, by omega, rfl, R0.out, R1.out, Q.out⟩
  case round =>
    obtain ⟨j, hj, rfl, hR⟩ := hrel
    clear R0 R1 Q
    by_cases hlt : j < 8
    · obtain ⟨hr0, hr1, hb⟩ := hR.out
      have c0 : wr.drew.cell? ⟨w.heap.size, 2 * j, none⟩ = some (.int .u8 (xs.getD (2 * j) 0)) := rng_at (rng_row hr0) (by rw [HX.out.len]; omega)
      have c1 : wr.drew.cell? ⟨w.heap.size, 2 * j + 1, none⟩ = some (.int .u8 (xs.getD (2 * j + 1) 0)) := rng_at (rng_row hr0) (by rw [HX.out.len]; omega)
      have c2 : wr.drew.cell? ⟨w.heap.size + 1, j, none⟩ = some (.int .u16 ((ints (ghalf xs j)).getD j 0)) := by
        rw [(still_row hr1).cell, List.getElem?_toArray]
        exact W16.bv_get _ j (by rw [ints_len, ghalf_len xs hj]; exact hlt)
      have f2 : wr.drew.frozen? ⟨w.heap.size + 1, j, none⟩ = false := (still_row hr1).frozen _
      have h0 := HX.out.at (2 * j)
      have h1 := HX.out.at (2 * j + 1)
      obtain ⟨a, ha⟩ : ∃ a : Nat, xs.getD (2 * j) 0 = a := ⟨(xs.getD (2 * j) 0).toNat, by omega⟩
      obtain ⟨b, hbb⟩ : ∃ b : Nat, xs.getD (2 * j + 1) 0 = b := ⟨(xs.getD (2 * j + 1) 0).toNat, by omega⟩
      have hg : (grp xs).getD j 0 = a * 256 + b := by rw [grp_at xs hlt, ha, hbb]; rfl
      have O := veil (or_u16 (a := a) (b := b) (by omega) (by omega))
      have R3 := (still_row hr1).set j (.int .u16 ((a * 256 + b : Nat) : Int))
      rw [w16_set, ← hg, ghalf_set xs hlt, hg] at R3
      have R3 := veil R3
      have R0 := veil ((still_row hr0).far (p := ⟨w.heap.size + 1, j, none⟩) (by simp) (.int .u16 ((a * 256 + b : Nat) : Int)))
      have Q := veil ((still_below hb).setCell (p := ⟨w.heap.size + 1, j, none⟩) (by simp) (.int .u16 ((a * 256 + b : Nat) : Int)))
      rw [ha] at c0
      rw [hbb] at c1
      have d0 : wr.cell? ⟨w.heap.size, 2 * j, none⟩ = some (.int .u8 a) := c0
      have d1 : wr.cell? ⟨w.heap.size, 2 * j + 1, none⟩ = some (.int .u8 b) := c1
      have ha' : (a : Int) ≤ 255 := by omega
      have hb' : (b : Int) ≤ 255 := by omega
      generalize (ints (ghalf xs j)).getD j 0 = z at c2
      clear hR hr0 hr1 hb h0 h1 ha hbb hg
      obtain ⟨k, hk⟩ : ∃ k, 2 * j = k := ⟨_, rfl⟩
      obtain ⟨m, hm⟩ : ∃ m, k + 1 = m := ⟨_, rfl⟩
      rw [hk] at c0 d0 c1 d1
      rw [hm] at c1 d1
      have s2 : IntKind.i64.wrap (2 * (j : Int)) = (k : Int) := by rw [IntWalk.i64_in _ (by omega)]; omega
      have s3 : IntKind.i64.wrap ((k : Int) + 1) = (m : Int) := by rw [IntWalk.i64_in _ (by omega)]; omega
      have p1 : ¬ ((k : Int) < 0) := by omega
      have p2 : (k : Int) < 16 := by omega
      have p3 : (k : Int).toNat = k := by omega
      have p4 : ¬ ((m : Int) < 0) := by omega
      have p5 : (m : Int) < 16 := by omega
      have p6 : (m : Int).toNat = m := by omega
      have p7 : ¬ ((j : Int) < 0) := by omega
      have p8 : (j : Int) < 8 := by omega
      have p9 : (j : Int).toNat = j := by omega
      go_wp2_with fail
      go_still_tail 15, (by kernel_rfl)
      change wpList _ _ _ _ _ wr.drew
      generalize wr.drew = w2 at *
      clear d0 d1
      go_wp2_with fail
      rw [O.out]
      go_roundw
      case rel => exact ⟨j + 1, by omega, by go_num, R0.out, R3.out, Q.out⟩
      case measure => simp [intOf]; omega
    · obtain rfl : j = 8 := by omega
      obtain ⟨hr0, hr1, hb⟩ := hR.out
      rw [ghalf_end] at hr1
      have hl := grp_len xs
      have hGs : (W16.bv (ints (grp xs))).toArray.size = 8 := by simp [W16.bv, ints_len, hl]
      have L := veil (load_row (P := Tryd.prog) (ty := 41) hr1 Tryd.underlying41 rfl (by rw [hGs]; kernel_rfl))
      have T := veil (store_row16 hr1 hGs hl)
      have R5 := veil (hr1.setRow (W16.bv (ints (grp xs))).toArray)
      have Q5 := veil (below_setRow hb (w.heap.size + 1) (W16.bv (ints (grp xs))).toArray (by omega))
      have hk : (Tryd.prog.info? 41).map (·.size) = some (W16.bv (ints (grp xs))).toArray.size := by rw [hGs]; kernel_rfl
      clear hR hr0 hr1 hb hl hGs
      go_wp2_with (first
        | (refine wpList_load_of rfl _ rfl rfl L.out ?_)
        | (refine wpList_store_of rfl _ _ rfl rfl rfl T.out ?_))
      refine bodyPost_ret (results_cell_row rfl _ _ (w.heap.size + 1) _ _ (0, 0) _ rfl R5.out Tryd.underlying41 rfl hk) rfl ?_
      exact ⟨rfl, Q5.out⟩
end Go.Proofs.YtfaaogidbpfelaaDoor.Tx
