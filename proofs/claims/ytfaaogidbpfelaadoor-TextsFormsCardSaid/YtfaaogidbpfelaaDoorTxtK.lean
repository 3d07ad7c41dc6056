/-
  What Put answers, whatever address it is; the laws' is, none, where they are true.
  Conditions: the library's tables lie where they should; a text shorter than 4294967281 bytes.
-/
import Derived.Test.YtfaaogidbpfelaaDoorTxtJ
import Derived.Test.YtfaaogidbpfelaaDoorTxtF
import Derived.Test.YtfaaogidbpfelaaDoorTxtT
namespace Go.Proofs.YtfaaogidbpfelaaDoor.Tx
open Go.RowKit Ad

/-- the library's tables -/
structure Tw (w : World) : Prop where
  mx : Mx w
  db : Db w
theorem Tw.keep {w w' : World} (h : Tw w) (q : Below w.heap.size w w') : Tw w' := ⟨h.mx.keep q, h.db.keep q⟩

/-- groups in a block of their own -/
structure GAt (w0 w : World) (g : Nat) (gs : List Nat) : Prop where
  row : Row w g 41 (W16.bv (ints gs)).toArray
  db : Db w
  below : Below w0.heap.size w0 w
theorem GAt.keep {w0 w w' : World} {g : Nat} {gs : List Nat} (h : GAt w0 w g gs) (q : Below w.heap.size w w') : GAt w0 w' g gs := ⟨h.row.keep q, h.db.keep q, h.below.trans (q.mono h.below.size)⟩
theorem GAt.drew {w0 w : World} {g : Nat} {gs : List Nat} (h : GAt w0 w g gs) : GAt w0 w.drew g gs := ⟨h.row, h.db, still_below h.below⟩
theorem ints_take (gs : List Nat) (f : Nat) : ints (gs.take f) = (ints gs).take f := by simp [ints]
theorem ints_drop (gs : List Nat) (f : Nat) : ints (gs.drop f) = (ints gs).drop f := by simp [ints]
theorem rd_take {w : World} {g : Nat} {gs : List Nat} (h : Row w g 41 (W16.bv (ints gs)).toArray) (f : Nat) : W16.Rd w (some ⟨g, 0, none⟩) (ints (gs.take f)) := by
  rw [ints_take]
  exact (W16.rd_lit h (by simp)).take f
/-- where groups[k:] stands -/
def tailAt (g k : Nat) : Addr := if k = 8 then ⟨g, 0, none⟩ else ⟨g, k, none⟩
theorem rd_tail {w : World} {g : Nat} {gs : List Nat} (h : Row w g 41 (W16.bv (ints gs)).toArray) (h8 : gs.length = 8) {k : Nat} (_ : k ≤ 8) : W16.Rd w (some (tailAt g k)) (ints (gs.drop k)) := by
  unfold tailAt
  split
  · rename_i e
    subst e
    rw [List.drop_of_length_le (by omega)]
    intro j hj
    simp [ints] at hj
  · rw [ints_drop]
    have := (W16.rd_lit (zs := ints gs) h (by simp)).drop k
    rwa [Nat.zero_add] at this
theorem slice_from (g : Nat) {k : Nat} (hk : k ≤ 8) (w : World) : (Instr.sliceAt 41 (.pointer (some ⟨g, 0, none⟩)) (some (.int .i64 k)) none none).run Tryd.prog w = .ok (.slice (some (tailAt g k)) (8 - k) (8 - k)) w := by
  unfold tailAt
  split
  · rename_i e
    subst e
    exact slice_end g w
  · exact slice_tail w (by omega) rfl
theorem slice_upto (g : Nat) {k : Nat} (hk : k ≤ 8) (w : World) : (Instr.sliceAt 41 (.pointer (some ⟨g, 0, none⟩)) none (some (.int .i64 k)) none).run Tryd.prog w = .ok (.slice (some ⟨g, 0, none⟩) k 8) w := by
  have h1 : (k : Int) ≤ 8 := by omega
  simp [Instr.sliceAt, run_underlying Tryd.underlying41, go_sem, h1]
theorem slice_whole (g : Nat) (w : World) : (Instr.sliceAt 41 (.pointer (some ⟨g, 0, none⟩)) none none none).run Tryd.prog w = .ok (.slice (some ⟨g, 0, none⟩) 8 8) w := by kernel_rfl

set_option linter.unusedSimpArgs false in
set_option maxRecDepth 100000 in
set_option maxHeartbeats 4000000 in
theorem put_any (xs : List Int) (w : World) (hx : Ok xs) (hd : Db w) : Calls Tryd.prog 8 #[av xs] w fun e w' => e = .returned (.string (bs (put (grp xs)))) ∧ Below w.heap.size w w' := by
  have hg := grp_lt hx
  have h8 := grp_len xs
  have K1 := veil (fun v => groupsOf_any xs v hx)
  obtain ⟨gs, hgs⟩ : ∃ gs, grp xs = gs := ⟨_, rfl⟩
  rw [hgs] at hg h8 K1 ⊢
  clear hgs
  have K2 := veil (fun v => longestRun_any gs v h8)
  obtain ⟨PP, hPP⟩ : ∃ PP, put gs = PP := ⟨_, rfl⟩
  rw [hPP]
  have HPP := veil hPP
  clear hPP
  have HL := veil hx.len
  have r0 := row_new (w := w) (g := w.heap.size) (cs := (bv xs).toArray) (t := 23) rfl
  have q0 := below_new w (.cells (bv xs).toArray 23)
  have L0 := veil (load_rng (rng_row r0) hx.len)
  have D0 := veil (hd.keep q0)
  have Q0 := veil q0
  clear r0 q0 hx hd
  obtain ⟨Z, hZ⟩ : ∃ Z : Array Value, Z = #[.int .u16 0, .int .u16 0, .int .u16 0, .int .u16 0, .int .u16 0, .int .u16 0, .int .u16 0, .int .u16 0] := ⟨_, rfl⟩
  have hZs : Z.size = 8 := by rw [hZ]; rfl
  go_enter Tryd.func8, Tryd.ntmps8
  go_wp2_with (refine wpList_load_of rfl _ rfl rfl L0.out ?_)
  generalize w.alloc (.cells (bv xs).toArray 23) = w1 at *
  refine (K1.out _).mono ?_
  rintro e w2 ⟨rfl, q⟩
  have D2 := D0.out.keep q
  have Q2 := Q0.out.trans (q.mono Q0.out.size)
  clear q K1 L0 D0 Q0
  have q3 := below_new w2 (.cells Z 41)
  have r3 := row_new (w := w2) (g := w2.heap.size) (cs := Z) (t := 41) rfl
  have T := veil (store_row16 r3 hZs h8)
  have M : Hid (GAt w ((w2.alloc (.cells Z 41)).setRow w2.heap.size (W16.bv (ints gs)).toArray) w2.heap.size gs) := by
    have b4 := below_setRow q3 w2.heap.size (W16.bv (ints gs)).toArray (Nat.le_refl _)
    exact ⟨r3.setRow _, D2.keep b4, Q2.trans (b4.mono Q2.size)⟩
  obtain ⟨w3, hw3⟩ : ∃ w3, (w2.alloc (.cells Z 41)).setRow w2.heap.size (W16.bv (ints gs)).toArray = w3 := ⟨_, rfl⟩
  rw [hw3] at T M
  have hGs : (W16.bv (ints gs)).toArray.size = 8 := by simp [W16.bv, ints_len, h8]
  have L := veil (load_row (P := Tryd.prog) (ty := 41) M.out.row Tryd.underlying41 rfl (by rw [hGs]; kernel_rfl))
  clear q3 r3 D2 Q2 hw3 hZs hGs
  subst hZ
  unfold gv at T K2 ⊢
  obtain ⟨G, hG⟩ : ∃ G, (W16.bv (ints gs)).toArray = G := ⟨_, rfl⟩
  rw [hG] at T L K2 ⊢
  clear hG
  go_wp2_with (first
    | (refine wpList_store_of rfl _ _ rfl rfl rfl T.out ?_)
    | (refine wpList_load_of rfl _ rfl rfl L.out ?_))
  refine (K2.out _).mono ?_
  rintro e w4 ⟨rfl, q⟩
  have M := veil (M.out.keep q)
  clear q K2 T L
  generalize w2.heap.size = g at *
  cases hr : run gs with
  | none =>
    have hl := lr_none h8 hr
    have HP : Hid (PP = written gs) := by unfold Hid; rw [← HPP.out]; unfold put; rw [hr]
    generalize lr gs = p at *
    obtain ⟨f, m⟩ := p
    simp only at hl
    have hm : (m : Int) < 2 := by omega
    have K3 := veil (written_any gs (some ⟨g, 0, none⟩) 8 8 w4 (W16.rd_lit M.out.row (by simp)) h8 (by omega) hg M.out.db)
    have hsl := slice_whole g
    clear hr hl h8 hg HPP
    go_wp2_with fail
    refine (K3.out).mono ?_
    rintro e w5 ⟨rfl, q⟩
    have M := veil (M.out.keep q)
    clear q
    go_wp2_with fail
    go_ret
    exact ⟨by rw [HP.out]; rfl, M.out.below⟩
  | some p =>
    have hl := lr_some h8 hr
    rw [hl]
    obtain ⟨f, m⟩ := p
    obtain ⟨h2, hfm, _⟩ := run_some h8 hr
    have HP : Hid (PP = written (gs.take f) ++ [58, 58] ++ written (gs.drop (f + m))) := by unfold Hid; rw [← HPP.out]; unfold put; rw [hr]
    have hm : ¬ (m : Int) < 2 := by omega
    obtain ⟨k, hk⟩ : ∃ k, f + m = k := ⟨_, rfl⟩
    rw [hk] at HP
    have hs : IntKind.i64.wrap ((f : Int) + (m : Int)) = (k : Int) := by rw [IntWalk.i64_in _ (by omega)]; omega
    have K3 := veil (fun v (hr : Row v g 41 (W16.bv (ints gs)).toArray) (hd : Db v) => written_any (gs.take f) (some ⟨g, 0, none⟩) f 8 v (rd_take hr f) (by simp; omega) (by omega) (fun x hx => hg x (List.mem_of_mem_take hx)) hd)
    have K4 := veil (fun v (hr : Row v g 41 (W16.bv (ints gs)).toArray) (hd : Db v) => written_any (gs.drop k) (some (tailAt g k)) (8 - k) (8 - k) v (rd_tail hr h8 (by omega)) (by simp; omega) (by omega) (fun x hx => hg x (List.mem_of_mem_drop hx)) hd)
    have hsl1 := slice_upto g (k := f) (by omega)
    have hsl2 := slice_from g (k := k) (by omega)
    have z1 := written_len (gs.take f)
    have z2 := written_len (gs.drop k)
    have Z1 : Hid (Fits (written (gs.take f)) [58, 58]) := by
      unfold Hid Fits
      simp at z1 z2 ⊢
      omega
    have Z2 : Hid (Fits (written (gs.take f) ++ [58, 58]) (written (gs.drop k))) := by
      unfold Hid Fits
      simp at z1 z2 ⊢
      omega
    clear z1 z2
    generalize tailAt g k = a2 at *
    generalize 8 - k = m2 at *
    generalize written (gs.take f) = s1 at *
    generalize written (gs.drop k) = s2 at *
    clear hr hl h8 hg hfm hk h2 HPP
    go_wp2_with fail
    have M := veil M.out.drew
    refine wp_region_noPanic ?_
    refine wp_region_held_drew (S := (fun _ => True)) (by kernel_rfl) trivial (fun hHeld => ?_)
    refine wpAnyH_take (i := 0) (v := ?_) (by rfl) (by kernel_rfl) (by kernel_rfl) (by kernel_rfl) (fun _ _ _ h => h) (Or.inl ⟨by rfl, ?_⟩) hHeld ?_
    rotate_left
    · intro w' hSw
      (try dsimp only at hSw)
      simp only [List.getElem_toArray, List.getElem_cons_zero, List.getElem_cons_succ]
      go_simp
      all_goals (try with_reducible rfl)
    try simp only [Act.put, List.setIfInBounds_toArray, List.set_cons_zero, List.set_cons_succ, List.getElem_toArray, List.getElem_cons_zero, List.getElem_cons_succ]
    refine wpAnyH_take (i := 1) (v := ?_) (by rfl) (by kernel_rfl) (by kernel_rfl) (by kernel_rfl) (fun _ _ _ h => h) (Or.inl ⟨by rfl, ?_⟩) hHeld ?_
    rotate_left
    · intro w' hSw
      (try dsimp only at hSw)
      simp only [List.getElem_toArray, List.getElem_cons_zero, List.getElem_cons_succ]
      go_simp
      all_goals (try with_reducible rfl)
    try simp only [Act.put, List.setIfInBounds_toArray, List.set_cons_zero, List.set_cons_succ, List.getElem_toArray, List.getElem_cons_zero, List.getElem_cons_succ]
    refine wpAnyH_take (i := 4) (v := ?_) (by rfl) (by kernel_rfl) (by kernel_rfl) (by kernel_rfl) (fun _ _ _ h => h) (Or.inl ⟨by rfl, ?_⟩) hHeld ?_
    rotate_left
    · intro w' hSw
      (try dsimp only at hSw)
      simp only [List.getElem_toArray, List.getElem_cons_zero, List.getElem_cons_succ]
      go_simp
      all_goals (try with_reducible rfl)
    try simp only [Act.put, List.setIfInBounds_toArray, List.set_cons_zero, List.set_cons_succ, List.getElem_toArray, List.getElem_cons_zero, List.getElem_cons_succ]
    refine wpAnyH_take (i := 5) (v := ?_) (by rfl) (by kernel_rfl) (by kernel_rfl) (by kernel_rfl) (fun _ _ _ h => h) (Or.inl ⟨by rfl, ?_⟩) hHeld ?_
    rotate_left
    · intro w' hSw
      (try dsimp only at hSw)
      simp only [List.getElem_toArray, List.getElem_cons_zero, List.getElem_cons_succ]
      go_simp
      all_goals (try with_reducible rfl)
    try simp only [Act.put, List.setIfInBounds_toArray, List.set_cons_zero, List.set_cons_succ, List.getElem_toArray, List.getElem_cons_zero, List.getElem_cons_succ]
    refine wpAnyH_take (i := 6) (v := ?_) (by rfl) (by kernel_rfl) (by kernel_rfl) (by kernel_rfl) (fun _ _ _ h => h) (Or.inl ⟨by rfl, ?_⟩) hHeld ?_
    rotate_left
    · intro w' hSw
      (try dsimp only at hSw)
      simp only [List.getElem_toArray, List.getElem_cons_zero, List.getElem_cons_succ]
      go_simp
      all_goals (try with_reducible rfl)
    try simp only [Act.put, List.setIfInBounds_toArray, List.set_cons_zero, List.set_cons_succ, List.getElem_toArray, List.getElem_cons_zero, List.getElem_cons_succ]
    refine wpAnyH_take (i := 7) (v := ?_) (by rfl) (by kernel_rfl) (by kernel_rfl) (by kernel_rfl) (fun _ _ _ h => h) (Or.inl ⟨by rfl, ?_⟩) hHeld ?_
    rotate_left
    · intro w' hSw
      (try dsimp only at hSw)
      simp only [List.getElem_toArray, List.getElem_cons_zero, List.getElem_cons_succ]
      go_simp
      all_goals (try with_reducible rfl)
    try simp only [Act.put, List.setIfInBounds_toArray, List.set_cons_zero, List.set_cons_succ, List.getElem_toArray, List.getElem_cons_zero, List.getElem_cons_succ]
    refine wpAnyH_ready (rs := [2]) (by kernel_rfl) (by simp) ?_
    refine AllReadyH.cons (by rfl) (fun K hK => ?_) AllReadyH.nil
    simp only [List.getElem_toArray, List.getElem_cons_zero, List.getElem_cons_succ]
    go_simp
    refine (K3.out _ M.out.row M.out.db).mono ?_
    rintro e w5 ⟨rfl, q⟩
    have M := veil (M.out.keep q)
    clear q
    (try dsimp only)
    refine hK.out _ _ trivial (fun hHeld => ?_)
    clear hK K
    try simp only [Act.put, List.setIfInBounds_toArray, List.set_cons_zero, List.set_cons_succ, List.getElem_toArray, List.getElem_cons_zero, List.getElem_cons_succ]
    refine wpAnyH_take (i := 3) (v := _) (by rfl) (by kernel_rfl) (by kernel_rfl) (by kernel_rfl) (fun _ _ _ h => h) (yields_add (s := s1) (t := [58, 58]) (by rfl) _ _ (by rfl) rfl rfl Z1.out) hHeld ?_
    try simp only [Act.put, List.setIfInBounds_toArray, List.set_cons_zero, List.set_cons_succ, List.getElem_toArray, List.getElem_cons_zero, List.getElem_cons_succ]
    refine wpAnyH_ready (rs := [8]) (by kernel_rfl) (by simp) ?_
    refine AllReadyH.cons (by rfl) (fun K hK => ?_) AllReadyH.nil
    simp only [List.getElem_toArray, List.getElem_cons_zero, List.getElem_cons_succ]
    go_simp
    refine (K4.out _ M.out.row M.out.db).mono ?_
    rintro e w6 ⟨rfl, q⟩
    have M := veil (M.out.keep q)
    clear q
    (try dsimp only)
    refine hK.out _ _ trivial (fun hHeld => ?_)
    clear hK K
    try simp only [Act.put, List.setIfInBounds_toArray, List.set_cons_zero, List.set_cons_succ, List.getElem_toArray, List.getElem_cons_zero, List.getElem_cons_succ]
    refine wpAnyH_take (i := 9) (v := _) (by rfl) (by kernel_rfl) (by kernel_rfl) (by kernel_rfl) (fun _ _ _ h => h) (yields_add (s := s1 ++ [58, 58]) (t := s2) (by rfl) _ _ (by rfl) rfl rfl Z2.out) hHeld ?_
    try simp only [Act.put, List.setIfInBounds_toArray, List.set_cons_zero, List.set_cons_succ, List.getElem_toArray, List.getElem_cons_zero, List.getElem_cons_succ]
    refine wpAnyH_take (i := 10) (v := ?_) (by rfl) (by kernel_rfl) (by kernel_rfl) (by kernel_rfl) (fun _ _ _ h => h) (Or.inl ⟨by rfl, ?_⟩) hHeld ?_
    rotate_left
    · intro w' hSw
      (try dsimp only at hSw)
      simp only [List.getElem_toArray, List.getElem_cons_zero, List.getElem_cons_succ]
      go_simp
      all_goals (try with_reducible rfl)
    try simp only [Act.put, List.setIfInBounds_toArray, List.set_cons_zero, List.set_cons_succ, List.getElem_toArray, List.getElem_cons_zero, List.getElem_cons_succ]
    refine wpAnyH_done (by kernel_rfl) ?_ _
    refine NoPanic.normal ?_
    clear hHeld
    go_wp2_with fail
    go_ret
    exact ⟨by rw [HP.out, List.append_assoc]; rfl, M.out.below⟩

set_option maxRecDepth 100000 in
/-- is: a text that is this address -/
theorem is_true (s : Str) (xs : List Int) (w : World) (hx : Ok xs) (hs : s.length < 4294967281) (hm : Mx w) (hg : get s = some (grp xs)) : Calls Tryd.prog 13 #[.string (bs s), av xs] w fun e w' => e = .returned (.bool true) ∧ Below w.heap.size w w' := by
  have r0 := row_new (w := w) (g := w.heap.size) (cs := (bv xs).toArray) (t := 23) rfl
  have q0 := below_new w (.cells (bv xs).toArray 23)
  have K : Hid (∀ v, Mx v → Calls Tryd.prog 11 #[.string (bs s)] v fun e w' => e = .returned (.tuple #[av xs, .int .i64 0]) ∧ Below v.heap.size v w') := fun v hv => by
    have := get_any s v hs hv
    have e : gres (some (grp xs)) = .tuple #[av xs, .int .i64 0] := by
      show Value.tuple #[av (bys (grp xs)), _] = _
      rw [bys_grp hx]
    rwa [hg, e] at this
  have M0 := veil (hm.keep q0)
  have R0 := veil r0
  have Q0 := veil q0
  have E := fun u => eql_any u hx.len hx.len (z := true) (by simp)
  have HX := veil hx.len
  clear r0 q0 hm hg hs hx
  obtain ⟨Z, hZ⟩ : ∃ Z : Array Value, Z = #[.int .u8 0, .int .u8 0, .int .u8 0, .int .u8 0, .int .u8 0, .int .u8 0, .int .u8 0, .int .u8 0, .int .u8 0, .int .u8 0, .int .u8 0, .int .u8 0, .int .u8 0, .int .u8 0, .int .u8 0, .int .u8 0] := ⟨_, rfl⟩
  have hZs : Z.size = 16 := by rw [hZ]; rfl
  go_enter Tryd.func13, Tryd.ntmps13
  go_wp2_with fail
  generalize w.alloc (.cells (bv xs).toArray 23) = w1 at *
  refine (K.out _ M0.out).mono ?_
  rintro e w2 ⟨rfl, q⟩
  have R2 := R0.out.keep q
  have Q2 := Q0.out.trans (q.mono Q0.out.size)
  have q3 := below_new w2 (.cells Z 23)
  have r3 := row_new (w := w2) (g := w2.heap.size) (cs := Z) (t := 23) rfl
  have T := veil (store_row r3 hZs HX.out)
  have b4 := below_setRow q3 w2.heap.size (bv xs).toArray (Nat.le_refl _)
  have L1 := veil (load_rng (rng_row (R2.keep b4)) HX.out)
  have L2 := veil (load_rng (rng_row (r3.setRow (bv xs).toArray)) HX.out)
  have Q4 := veil (Q2.trans (b4.mono Q2.size))
  obtain ⟨w3, hw3⟩ : ∃ w3, (w2.alloc (.cells Z 23)).setRow w2.heap.size (bv xs).toArray = w3 := ⟨_, rfl⟩
  rw [hw3] at T L1 L2 Q4
  clear q R2 Q2 q3 r3 b4 hw3 hZs K M0 R0 Q0
  subst hZ
  go_wp2_with (first
    | (refine wpList_store_of rfl _ _ rfl rfl rfl T.out ?_)
    | (refine wpList_load_of rfl _ rfl rfl L1.out ?_)
    | (refine wpList_load_of rfl _ rfl rfl L2.out ?_))
  go_ret
  exact ⟨rfl, Q4.out⟩
set_option maxRecDepth 100000 in
/-- none: a text that is none -/
theorem none_true (s : Str) (w : World) (hs : s.length < 4294967281) (hm : Mx w) (hg : get s = none) : Calls Tryd.prog 16 #[.string (bs s)] w fun e w' => e = .returned (.bool true) ∧ Below w.heap.size w w' := by
  have K : Hid (∀ v, Mx v → Calls Tryd.prog 11 #[.string (bs s)] v fun e w' => e = .returned (.tuple #[av nil16, .int .i64 4]) ∧ Below v.heap.size v w') := fun v hv => by
    have := get_any s v hs hv
    rw [hg] at this
    exact this
  have M0 := veil hm
  have E : ∀ u, (binOp .eql 23 (av nil16) (.agg #[.int .u8 0, .int .u8 0, .int .u8 0, .int .u8 0, .int .u8 0, .int .u8 0, .int .u8 0, .int .u8 0, .int .u8 0, .int .u8 0, .int .u8 0, .int .u8 0, .int .u8 0, .int .u8 0, .int .u8 0, .int .u8 0])).run Tryd.prog u = .ok (.bool true) u := fun u => eql_any u (xs := nil16) (ys := nil16) rfl rfl (z := true) (by simp)
  have HX : Hid (nil16.length = 16) := rfl
  generalize nil16 = xs at *
  clear hm hg hs
  obtain ⟨Z, hZ⟩ : ∃ Z : Array Value, Z = #[.int .u8 0, .int .u8 0, .int .u8 0, .int .u8 0, .int .u8 0, .int .u8 0, .int .u8 0, .int .u8 0, .int .u8 0, .int .u8 0, .int .u8 0, .int .u8 0, .int .u8 0, .int .u8 0, .int .u8 0, .int .u8 0] := ⟨_, rfl⟩
  have hZs : Z.size = 16 := by rw [hZ]; rfl
  go_enter Tryd.func16, Tryd.ntmps16
  go_wp2_with fail
  refine (K.out _ M0.out).mono ?_
  rintro e w2 ⟨rfl, q⟩
  have q3 := below_new w2 (.cells Z 23)
  have r3 := row_new (w := w2) (g := w2.heap.size) (cs := Z) (t := 23) rfl
  have T := veil (store_row r3 hZs HX.out)
  have b4 := below_setRow q3 w2.heap.size (bv xs).toArray (Nat.le_refl _)
  have L2 := veil (load_rng (rng_row (r3.setRow (bv xs).toArray)) HX.out)
  have Q4 := veil (q.trans (b4.mono q.size))
  obtain ⟨w3, hw3⟩ : ∃ w3, (w2.alloc (.cells Z 23)).setRow w2.heap.size (bv xs).toArray = w3 := ⟨_, rfl⟩
  rw [hw3] at T L2 Q4
  clear q q3 r3 b4 hw3 hZs K M0
  subst hZ
  go_wp2_with (first
    | (refine wpList_store_of rfl _ _ rfl rfl rfl T.out ?_)
    | (refine wpList_load_of rfl _ rfl rfl L2.out ?_))
  go_ret
  exact ⟨rfl, Q4.out⟩
end Go.Proofs.YtfaaogidbpfelaaDoor.Tx
