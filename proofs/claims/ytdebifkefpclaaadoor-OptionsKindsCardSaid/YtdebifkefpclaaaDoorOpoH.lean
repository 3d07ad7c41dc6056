/-
  Options that the code makes: an address of the link, a number of chance, a packet, the greatest packet, a prefix, servers.
  Conditions: at most 16000000 bytes; numbers of their kinds.
-/
import Derived.Test.YtdebifkefpclaaaDoorOpoA
import Derived.Deep.RegionHeld3
import Derived.BigRegion
namespace Go.Proofs.YtdebifkefpclaaaDoor.Oz
set_option maxRecDepth 100000
open Go.RowKit Ops

/-- what a maker answers -/
def MadeO (w : World) (k : Int) (ds : List Int) (e : Ending) (w' : World) : Prop := ∃ g, w.heap.size ≤ g ∧ e = .returned (ov ⟨k, some ⟨g, 0, none⟩, ds.length, ds.length⟩) ∧ Row w' g 5 (bv ds).toArray ∧ Below w.heap.size w w'
/-- lists that lie in a literal -/
theorem readsL_lit {w0 w : World} {L : List Blk} {g : Nat} {t : TypeId} {cs : List Value} {ls : List (List Int)} (h : Lay w0 w L) (hm : (g, t, cs) ∈ L) (hc : ∀ (i : Nat) (zs : List Int), ls[i]? = some zs → ∃ B m c, cs[i]? = some (.slice B m c) ∧ Slc w (.slice B m c) zs) : ReadsL w (some ⟨g, 0, none⟩) ls := fun i zs hi => by
  obtain ⟨B, m, c, h1, h2⟩ := hc i zs hi
  refine ⟨_, B, m, c, rfl, ?_, h2⟩
  rw [show (⟨g, 0, none⟩ : Addr).add i = ⟨g, i, none⟩ by unfold Addr.add; split <;> simp_all]
  exact h.look hm h1

set_option linter.unusedSimpArgs false in
set_option maxHeartbeats 4000000 in
theorem link_any (k : Int) (ms : List Int) (w : World) (hm : ms.length = 6) : Calls Tryd.prog 30 #[.int .u8 k, .agg (bv ms).toArray] w (MadeO w k ms) := by
  obtain ⟨ZF, hZF⟩ : ∃ Z : Array Value, Z = #[.int .u8 0, .slice none 0 0] := ⟨_, rfl⟩
  have hzf : Hid (ZF.toList.length = 2) := by rw [hZF]; exact rfl
  have Y1 := ((Lay.begin w).new (bv ms) 47 (g := w.heap.size) rfl).newA ZF 29 (g := w.heap.size + 1) (by simp)
  have Y2 := Y1.new [.slice (some ⟨w.heap.size, 0, none⟩) 6 6] 26 (g := w.heap.size + 2) (by simp)
  obtain ⟨w2, hw2⟩ : ∃ u, ((w.alloc (.cells (bv ms).toArray 47)).alloc (.cells ZF 29)).alloc (.cells #[.slice (some ⟨w.heap.size, 0, none⟩) 6 6] 26) = u := ⟨_, rfl⟩
  have Y2 : Lay w w2 [(w.heap.size + 2, 26, [.slice (some ⟨w.heap.size, 0, none⟩) 6 6]), (w.heap.size + 1, 29, ZF.toList), (w.heap.size, 47, bv ms)] := by rw [← hw2]; exact Y2
  have KJ := join_any (some ⟨w.heap.size + 2, 0, none⟩) 1 1 [ms] w2 rfl (by omega) (readsL_lit Y2 mem0 (fun i zs hi => by
    have h0 : i = 0 := by
      have := (List.getElem?_eq_some_iff.1 hi).1
      simpa using this
    subst h0
    simp at hi
    subst hi
    exact ⟨_, _, _, rfl, slc_part (Y2.at mem2) (part_all _) hm (Nat.le_refl _)⟩)) (by unfold lenL; simp; omega)
  rw [show lenL [ms] = 6 by unfold lenL; simp [hm], show [ms].flatten = ms by simp] at KJ
  replace KJ := veil KJ
  have VY2 := veil Y2
  have HM := veil hm
  clear Y1 Y2 hm
  subst hZF
  go_enter Tryd.func30, Tryd.ntmps30
  go_wp2_with fail
  refine (KJ.out).mono ?_
  clear hw2
  rintro e w5 ⟨gj, hgj, rfl, rj, q5⟩
  have Y5 := VY2.out.got q5 rj hgj
  have hgjw : w.heap.size ≤ gj := Nat.le_trans VY2.out.size hgj
  have T1 := veil (store_all (P := Tryd.prog) (ty := 29) (vs := tv ⟨k, some ⟨gj, 0, none⟩, 6, 6⟩) (Y5.at mem2) (by rw [hzf.out]; rfl) zeroO (by intro v hv; simp at hv; rcases hv with rfl | rfl <;> rfl))
  have Y6 := Y5.put 2 rfl (tv ⟨k, some ⟨gj, 0, none⟩, 6, 6⟩)
  simp only [List.set_cons_zero, List.set_cons_succ] at Y6
  have VY6 := veil Y6
  clear KJ q5 rj hgj VY2 Y5 Y6 hzf
  go_wp2_with (refine wpList_store_of rfl _ _ rfl rfl rfl T1.out ?_)
  refine bodyPost_ret (ret_row rfl rfl (VY6.out.range mem2 (part_all _)) Tryd.underlying29 rfl zeroO) rfl ?_
  exact ⟨gj, hgjw, by rw [HM.out], VY6.out.at mem0, VY6.out.below⟩

set_option linter.unusedSimpArgs false in
set_option maxHeartbeats 4000000 in
theorem nonce_any (ms : List Int) (w : World) (hm : ms.length = 6) : Calls Tryd.prog 34 #[.agg (bv ms).toArray] w (MadeO w 14 ms) := by
  obtain ⟨ZF, hZF⟩ : ∃ Z : Array Value, Z = #[.int .u8 0, .slice none 0 0] := ⟨_, rfl⟩
  have hzf : Hid (ZF.toList.length = 2) := by rw [hZF]; exact rfl
  have Y1 := ((Lay.begin w).new (bv ms) 46 (g := w.heap.size) rfl).newA ZF 29 (g := w.heap.size + 1) (by simp)
  have Y2 := Y1.new [.slice (some ⟨w.heap.size, 0, none⟩) 6 6] 26 (g := w.heap.size + 2) (by simp)
  obtain ⟨w2, hw2⟩ : ∃ u, ((w.alloc (.cells (bv ms).toArray 46)).alloc (.cells ZF 29)).alloc (.cells #[.slice (some ⟨w.heap.size, 0, none⟩) 6 6] 26) = u := ⟨_, rfl⟩
  have Y2 : Lay w w2 [(w.heap.size + 2, 26, [.slice (some ⟨w.heap.size, 0, none⟩) 6 6]), (w.heap.size + 1, 29, ZF.toList), (w.heap.size, 46, bv ms)] := by rw [← hw2]; exact Y2
  have KJ := join_any (some ⟨w.heap.size + 2, 0, none⟩) 1 1 [ms] w2 rfl (by omega) (readsL_lit Y2 mem0 (fun i zs hi => by
    have h0 : i = 0 := by
      have := (List.getElem?_eq_some_iff.1 hi).1
      simpa using this
    subst h0
    simp at hi
    subst hi
    exact ⟨_, _, _, rfl, slc_part (Y2.at mem2) (part_all _) hm (Nat.le_refl _)⟩)) (by unfold lenL; simp; omega)
  rw [show lenL [ms] = 6 by unfold lenL; simp [hm], show [ms].flatten = ms by simp] at KJ
  replace KJ := veil KJ
  have VY2 := veil Y2
  have HM := veil hm
  clear Y1 Y2 hm
  subst hZF
  go_enter Tryd.func34, Tryd.ntmps34
  go_wp2_with fail
  refine (KJ.out).mono ?_
  clear hw2
  rintro e w5 ⟨gj, hgj, rfl, rj, q5⟩
  have Y5 := VY2.out.got q5 rj hgj
  have hgjw : w.heap.size ≤ gj := Nat.le_trans VY2.out.size hgj
  have T1 := veil (store_all (P := Tryd.prog) (ty := 29) (vs := tv ⟨14, some ⟨gj, 0, none⟩, 6, 6⟩) (Y5.at mem2) (by rw [hzf.out]; rfl) zeroO (by intro v hv; simp at hv; rcases hv with rfl | rfl <;> rfl))
  have Y6 := Y5.put 2 rfl (tv ⟨14, some ⟨gj, 0, none⟩, 6, 6⟩)
  simp only [List.set_cons_zero, List.set_cons_succ] at Y6
  have VY6 := veil Y6
  clear KJ q5 rj hgj VY2 Y5 Y6 hzf
  go_wp2_with (refine wpList_store_of rfl _ _ rfl rfl rfl T1.out ?_)
  refine bodyPost_ret (ret_row rfl rfl (VY6.out.range mem2 (part_all _)) Tryd.underlying29 rfl zeroO) rfl ?_
  exact ⟨gj, hgjw, by rw [HM.out], VY6.out.at mem0, VY6.out.below⟩

set_option linter.unusedSimpArgs false in
set_option maxHeartbeats 4000000 in
theorem mtu_any (n : Int) (w : World) (hn : 0 ≤ n ∧ n ≤ 4294967295) : Calls Tryd.prog 33 #[.int .u32 n] w (MadeO w 5 (lifeB n)) := by
  obtain ⟨ZF, hZF⟩ : ∃ Z : Array Value, Z = #[.int .u8 0, .slice none 0 0] := ⟨_, rfl⟩
  have hzf : Hid (ZF.toList.length = 2) := by rw [hZF]; exact rfl
  have Y1 := (Lay.begin w).newA ZF 29 (g := w.heap.size) rfl
  have KJ := veil (number_any n (w.alloc (.cells ZF 29)) hn)
  have VY1 := veil Y1
  clear Y1 hn
  generalize hw2 : w.alloc (.cells ZF 29) = w2 at *
  subst hZF
  go_enter Tryd.func33, Tryd.ntmps33
  go_wp2_with fail
  refine (KJ.out).mono ?_
  clear hw2
  rintro e w5 ⟨gj, hgj, rfl, rj, q5⟩
  have Y5 := VY1.out.got q5 rj hgj
  have hgjw : w.heap.size ≤ gj := Nat.le_trans VY1.out.size hgj
  have T1 := veil (store_all (P := Tryd.prog) (ty := 29) (vs := tv ⟨5, some ⟨gj, 0, none⟩, 6, 6⟩) (Y5.at mem1) (by rw [hzf.out]; rfl) zeroO (by intro v hv; simp at hv; rcases hv with rfl | rfl <;> rfl))
  have Y6 := Y5.put 1 rfl (tv ⟨5, some ⟨gj, 0, none⟩, 6, 6⟩)
  simp only [List.set_cons_zero, List.set_cons_succ] at Y6
  have VY6 := veil Y6
  clear KJ q5 rj hgj VY1 Y5 Y6 hzf
  go_wp2_with (refine wpList_store_of rfl _ _ rfl rfl rfl T1.out ?_)
  refine bodyPost_ret (ret_row rfl rfl (VY6.out.range mem1 (part_all _)) Tryd.underlying29 rfl zeroO) rfl ?_
  exact ⟨gj, hgjw, by rw [lifeB_len], VY6.out.at mem0, VY6.out.below⟩

/-- what is told of a prefix, by value -/
structure PI where
  a : List Int
  bits : Int
  on : Bool
  auto : Bool
  valid : Int
  pref : Int
abbrev pic (p : PI) : List Value := bv p.a ++ [.int .u8 p.bits, .bool p.on, .bool p.auto, .int .u32 p.valid, .int .u32 p.pref]
structure Fit (p : PI) : Prop where
  a : p.a.length = 16
  byt : Byt p.a
  bits : 0 ≤ p.bits ∧ p.bits ≤ 255
  valid : 0 ≤ p.valid ∧ p.valid ≤ 4294967295
  pref : 0 ≤ p.pref ∧ p.pref ≤ 4294967295
def flagB (p : PI) : Int := (if p.on then 128 else 0) + (if p.auto then 64 else 0)
def infoB (p : PI) : List Int := [p.bits, flagB p] ++ be p.valid 4 ++ be p.pref 4 ++ [0, 0, 0, 0] ++ p.a
theorem infoB_len {p : PI} (h : Fit p) : (infoB p).length = 30 := by simp [infoB, be_length, h.a]
theorem pic_len {p : PI} (h : Fit p) : (pic p).length = 21 := by simp [bv_length, h.a]
theorem pic_at {p : PI} (h : Fit p) : (pic p)[16]? = some (.int .u8 p.bits) ∧ (pic p)[17]? = some (.bool p.on) ∧ (pic p)[18]? = some (.bool p.auto) ∧ (pic p)[19]? = some (.int .u32 p.valid) ∧ (pic p)[20]? = some (.int .u32 p.pref) := by
  have e : ∀ k, (pic p)[16 + k]? = ([.int .u8 p.bits, .bool p.on, .bool p.auto, .int .u32 p.valid, .int .u32 p.pref] : List Value)[k]? := fun k => by
    unfold pic
    rw [List.getElem?_append_right (by rw [bv_length, h.a]; omega), bv_length, h.a, Nat.add_sub_cancel_left]
  exact ⟨e 0, e 1, e 2, e 3, e 4⟩
theorem sizePI : (Tryd.prog.info? 54).map (·.size) = some 21 := by kernel_rfl

set_option linter.unusedSimpArgs false in
set_option maxHeartbeats 4000000 in
theorem flags_any (p : PI) (w : World) (h : Fit p) : Calls Tryd.prog 75 #[.agg (pic p).toArray] w fun e w' => e = .returned (.int .u8 (flagB p)) ∧ Below w.heap.size w w' := by
  have Y1 := (Lay.begin w).new (pic p) 54 (g := w.heap.size) rfl
  obtain ⟨_, h1, h2, _⟩ := pic_at h
  have c1 := Y1.look mem0 h1
  have c2 := Y1.look mem0 h2
  have VQ := veil Y1.below
  have b1 : bits .or .u8 0 128 = 128 := by decide +kernel
  have b2 : bits .or .u8 0 64 = 64 := by decide +kernel
  have b3 : bits .or .u8 128 64 = 192 := by decide +kernel
  have HF : Hid (flagB p = (if p.on then 128 else 0) + (if p.auto then 64 else 0)) := veil rfl
  obtain ⟨a, bts, on, auto, valid, pref⟩ := p
  simp only at c1 c2 HF
  clear Y1 h h1 h2
  generalize hw : w.alloc (.cells (pic ⟨a, bts, on, auto, valid, pref⟩).toArray 54) = w1 at *
  go_enter Tryd.func75, Tryd.ntmps75
  cases on <;> cases auto
  all_goals go_wp2_with fail
  all_goals go_ret
  all_goals exact ⟨by rw [HF.out]; rfl, VQ.out⟩

set_option linter.unusedSimpArgs false in
set_option maxHeartbeats 8000000 in
theorem info_any (p : PI) (w : World) (h : Fit p) : Calls Tryd.prog 31 #[.agg (pic p).toArray] w (MadeO w 3 (infoB p)) := by
  obtain ⟨ZF, hZF⟩ : ∃ Z : Array Value, Z = #[.int .u8 0, .slice none 0 0] := ⟨_, rfl⟩
  have hzf : Hid (ZF.toList.length = 2) := by rw [hZF]; exact rfl
  have Y1 := ((Lay.begin w).new (pic p) 54 (g := w.heap.size) rfl).newA ZF 29 (g := w.heap.size + 1) (by simp)
  generalize hw2 : (w.alloc (.cells (pic p).toArray 54)).alloc (.cells ZF 29) = w2 at *
  have CC : Hid (∀ (v : World) (L : List Blk), Lay w v L → (w.heap.size, 54, pic p) ∈ L → v.cell? ⟨w.heap.size, 16, none⟩ = some (.int .u8 p.bits) ∧ v.cell? ⟨w.heap.size, 19, none⟩ = some (.int .u32 p.valid) ∧ v.rangeAt w.heap.size 0 (pic p)) :=
    fun v L hl hm => ⟨hl.look hm (pic_at h).1, hl.look hm (pic_at h).2.2.2.1, hl.range hm (part_all _)⟩
  have C0 := veil (CC.out w2 _ Y1 mem1)
  have VY := veil Y1
  have HF := veil h
  have hwv : IntKind.u64.wrap p.valid = p.valid := by have := h.valid; rw [IntKind.wrap_u64]; omega
  have hwp : IntKind.u64.wrap p.pref = p.pref := by have := h.pref; rw [IntKind.wrap_u64]; omega
  have KF := veil (flags_any p w2.drew h)
  clear Y1 h
  obtain ⟨g0, hg0⟩ : ∃ g, w.heap.size = g := ⟨_, rfl⟩
  have HG0 := veil hg0
  rw [hg0] at CC C0 VY
  subst hZF
  go_enter Tryd.func31, Tryd.ntmps31
  go_wp2_with fail
  clear hw2 hg0
  refine wp_region_noPanic ?_
  refine wp_region_held_drew (S := fun w' => w'.cell? ⟨g0, 16, none⟩ = some (.int .u8 p.bits) ∧ w'.cell? ⟨g0, 19, none⟩ = some (.int .u32 p.valid) ∧ w'.rangeAt g0 0 (pic p)) (by kernel_rfl) C0.out (fun hHeld => ?_)
  refine wpAnyH_take (i := 0) (v := ?_) (by rfl) (by kernel_rfl) (by kernel_rfl) (by kernel_rfl) (fun _ _ _ h => h) (Or.inl ⟨by rfl, ?_⟩) hHeld ?_
  rotate_left
  · intro w' hSw
    (try dsimp only at hSw)
    simp only [List.getElem_toArray, List.getElem_cons_zero, List.getElem_cons_succ]
    go_simp
    all_goals (try with_reducible rfl)
  try simp only [Act.put, List.setIfInBounds_toArray, List.set_cons_zero, List.set_cons_succ, List.getElem_toArray, List.getElem_cons_zero, List.getElem_cons_succ]
  refine wpAnyH_take (i := 1) (v := ?_) (by rfl) (by kernel_rfl) (by kernel_rfl) (by kernel_rfl) (fun _ _ _ h => h) (Or.inl ⟨by rfl, ?_⟩) hHeld ?_
  rotate_left
  · intro w' hSw
    (try dsimp only at hSw)
    simp only [List.getElem_toArray, List.getElem_cons_zero, List.getElem_cons_succ]
    go_simp
    all_goals (try with_reducible rfl)
  try simp only [Act.put, List.setIfInBounds_toArray, List.set_cons_zero, List.set_cons_succ, List.getElem_toArray, List.getElem_cons_zero, List.getElem_cons_succ]
  refine wpAnyH_take (i := 2) (v := ?_) (by rfl) (by kernel_rfl) (by kernel_rfl) (by kernel_rfl) (fun _ _ _ h => h) (Or.inl ⟨by rfl, ?_⟩) hHeld ?_
  rotate_left
  · intro w' hSw
    (try dsimp only at hSw)
    simp only [List.getElem_toArray, List.getElem_cons_zero, List.getElem_cons_succ]
    go_simp
    all_goals (try with_reducible rfl)
  try simp only [Act.put, List.setIfInBounds_toArray, List.set_cons_zero, List.set_cons_succ, List.getElem_toArray, List.getElem_cons_zero, List.getElem_cons_succ]
  refine wpAnyH_take (i := 3) (v := _) (by rfl) (by kernel_rfl) (by kernel_rfl) (by kernel_rfl) (fun _ _ _ h => h) (yieldsIf_load_mid (by rfl) _ _ (by rfl) _ _ rfl (pic p) _ (fun _ h => h.2.2) Tryd.underlying54 rfl (by rw [pic_len HF.out]; exact sizePI)) hHeld ?_
  try simp only [Act.put, List.setIfInBounds_toArray, List.set_cons_zero, List.set_cons_succ, List.getElem_toArray, List.getElem_cons_zero, List.getElem_cons_succ]
  refine wpAnyH_take (i := 6) (v := ?_) (by rfl) (by kernel_rfl) (by kernel_rfl) (by kernel_rfl) (fun _ _ _ h => h) (Or.inl ⟨by rfl, ?_⟩) hHeld ?_
  rotate_left
  · intro w' hSw
    (try dsimp only at hSw)
    simp only [List.getElem_toArray, List.getElem_cons_zero, List.getElem_cons_succ]
    go_simp
    all_goals (try with_reducible rfl)
  try simp only [Act.put, List.setIfInBounds_toArray, List.set_cons_zero, List.set_cons_succ, List.getElem_toArray, List.getElem_cons_zero, List.getElem_cons_succ]
  refine wpAnyH_take (i := 7) (v := ?_) (by rfl) (by kernel_rfl) (by kernel_rfl) (by kernel_rfl) (fun _ _ _ h => h) (Or.inl ⟨by rfl, ?_⟩) hHeld ?_
  rotate_left
  · intro w' hSw
    (try dsimp only at hSw)
    simp only [List.getElem_toArray, List.getElem_cons_zero, List.getElem_cons_succ]
    go_simp
    all_goals (try with_reducible rfl)
  try simp only [Act.put, List.setIfInBounds_toArray, List.set_cons_zero, List.set_cons_succ, List.getElem_toArray, List.getElem_cons_zero, List.getElem_cons_succ]
  refine wpAnyH_take (i := 8) (v := ?_) (by rfl) (by kernel_rfl) (by kernel_rfl) (by kernel_rfl) (fun _ _ _ h => h) (Or.inl ⟨by rfl, ?_⟩) hHeld ?_
  rotate_left
  · intro w' hSw
    (try dsimp only at hSw)
    simp only [List.getElem_toArray, List.getElem_cons_zero, List.getElem_cons_succ]
    go_simp
    all_goals (try with_reducible rfl)
  try simp only [Act.put, List.setIfInBounds_toArray, List.set_cons_zero, List.set_cons_succ, List.getElem_toArray, List.getElem_cons_zero, List.getElem_cons_succ]
  refine wpAnyH_ready (rs := [4]) (by kernel_rfl) (by simp) ?_
  refine AllReadyH.cons (by rfl) (fun K hK => ?_) AllReadyH.nil
  simp only [List.getElem_toArray, List.getElem_cons_zero, List.getElem_cons_succ]
  go_simp
  refine (KF.out).mono ?_
  rintro e w3 ⟨rfl, q3⟩
  have Y3 := VY.out.drew.keep q3
  have C2 := veil (CC.out w3 _ Y3 mem1)
  have Y4 := Y3.new (bv [p.bits, flagB p]) 5 (g := w3.heap.size) rfl
  have C3 := veil (CC.out _ _ Y4 mem2)
  have KP := veil (put_yes (some ⟨w3.heap.size, 0, none⟩) 2 2 [p.bits, flagB p] p.valid 4 (w3.alloc (.cells (bv [p.bits, flagB p]).toArray 5)) rfl (by omega) (rd_row (Y4.at mem0) (fun j hj => by rw [Nat.zero_add]; exact bv_get _ j hj)) (by omega) (by omega))
  have VY4 := veil Y4
  clear KF q3 Y3 Y4
  (try dsimp only)
  refine hK.out _ _ C2.out (fun hHeld => ?_)
  clear hK K
  try simp only [Act.put, List.setIfInBounds_toArray, List.set_cons_zero, List.set_cons_succ, List.getElem_toArray, List.getElem_cons_zero, List.getElem_cons_succ]
  refine wpAnyH_ready (rs := [5]) (by kernel_rfl) (by simp) ?_
  refine AllReadyH.cons (by rfl) (fun K hK => ?_) AllReadyH.nil
  simp only [List.getElem_toArray, List.getElem_cons_zero, List.getElem_cons_succ]
  go_simp
  (try dsimp only)
  refine hK.out _ _ C3.out (fun hHeld => ?_)
  clear hK K
  try simp only [Act.put, List.setIfInBounds_toArray, List.set_cons_zero, List.set_cons_succ, List.getElem_toArray, List.getElem_cons_zero, List.getElem_cons_succ]
  refine wpAnyH_ready (rs := [9]) (by kernel_rfl) (by simp) ?_
  refine AllReadyH.cons (by rfl) (fun K hK => ?_) AllReadyH.nil
  simp only [List.getElem_toArray, List.getElem_cons_zero, List.getElem_cons_succ]
  go_simp
  refine (KP.out).mono ?_
  rintro e w4 ⟨rfl, hw4⟩
  have Y5 := VY4.out.new (bv ([p.bits, flagB p] ++ be p.valid 4)) 5 (g := w3.heap.size + 1) (by simp)
  have VZ5 := veil (show Lay w w4 [(w3.heap.size + 1, 5, bv ([p.bits, flagB p] ++ be p.valid 4)), (w3.heap.size, 5, bv [p.bits, flagB p]), (g0 + 1, 29, _), (g0, 54, pic p)] by rw [← hw4]; exact Y5)
  have C4 := veil (CC.out w4 _ VZ5.out mem3)
  clear KP hw4 Y5
  (try dsimp only)
  refine hK.out _ _ C4.out (fun hHeld => ?_)
  clear hK K
  try simp only [Act.put, List.setIfInBounds_toArray, List.set_cons_zero, List.set_cons_succ, List.getElem_toArray, List.getElem_cons_zero, List.getElem_cons_succ]
  refine wpAnyH_take (i := 10) (v := ?_) (by rfl) (by kernel_rfl) (by kernel_rfl) (by kernel_rfl) (fun _ _ _ h => h) (Or.inl ⟨by rfl, ?_⟩) hHeld ?_
  rotate_left
  · intro w' hSw
    (try dsimp only at hSw)
    simp only [List.getElem_toArray, List.getElem_cons_zero, List.getElem_cons_succ]
    go_simp
    all_goals (try with_reducible rfl)
  try simp only [Act.put, List.setIfInBounds_toArray, List.set_cons_zero, List.set_cons_succ, List.getElem_toArray, List.getElem_cons_zero, List.getElem_cons_succ]
  refine wpAnyH_done (by kernel_rfl) ?_ _
  refine NoPanic.normal ?_
  clear hHeld
  obtain ⟨b5, hb5⟩ : ∃ b, w3.heap.size + 1 = b := ⟨_, rfl⟩
  rw [hb5] at VZ5
  have c20 := VZ5.out.look mem3 (pic_at HF.out).2.2.2.2
  have h6 : ([p.bits, flagB p] ++ be p.valid 4).length = 6 := by simp [be_length]
  have KP2 := veil (put_yes (some ⟨b5, 0, none⟩) 6 6 ([p.bits, flagB p] ++ be p.valid 4) p.pref 4 w4 h6 (by omega) (rd_row (VZ5.out.at mem0) (fun j hj => by rw [Nat.zero_add]; exact bv_get _ j hj)) (by omega) (by omega))
  clear C0 C2 C3 C4 h6
  go_wp2_with fail
  refine (KP2.out).mono ?_
  rintro e w5 ⟨rfl, hw5⟩
  have h10 : ([p.bits, flagB p] ++ be p.valid 4 ++ be p.pref 4).length = 10 := by simp [be_length]
  have Z6 := VZ5.out.new (bv ([p.bits, flagB p] ++ be p.valid 4 ++ be p.pref 4)) 5 (g := w4.heap.size) rfl
  rw [hw5] at Z6
  have Z6 := Z6.sub (L' := [(w4.heap.size, 5, bv ([p.bits, flagB p] ++ be p.valid 4 ++ be p.pref 4)), (g0 + 1, 29, _), (g0, 54, pic p)]) (List.Sublist.cons_cons _ (List.Sublist.cons _ (List.Sublist.cons _ (List.Sublist.refl _))))
  obtain ⟨b6, hb6⟩ : ∃ b, w4.heap.size = b := ⟨_, rfl⟩
  rw [hb6] at Z6
  have hmk := run_make_u8 4 (by omega) w5.drew
  simp only [Int.cast_ofNat_Int] at hmk
  have Z7 := Z6.drew.newA (zeros 4) 5 (g := w5.heap.size) rfl
  rw [show (zeros 4).toList = bv [0, 0, 0, 0] by rw [zeros_list]; rfl] at Z7
  have Z8 := Z7.new [.slice (some ⟨b6, 0, none⟩) 10 10, .slice (some ⟨w5.heap.size, 0, none⟩) 4 4, .slice (some ⟨g0, 0, none⟩) 16 16] 26 (g := w5.heap.size + 1) (by simp)
  have KJ := join_any (some ⟨w5.heap.size + 1, 0, none⟩) 3 3 [[p.bits, flagB p] ++ be p.valid 4 ++ be p.pref 4, [0, 0, 0, 0], p.a] _ rfl (by omega) (readsL_lit Z8 mem0 (fun i zs hi => by
    match i, hi with
    | 0, hi =>
      simp only [List.getElem?_cons_zero, Option.some.injEq] at hi
      subst hi
      exact ⟨_, _, _, rfl, slc_part (Z8.at mem2) (part_all _) h10 (Nat.le_refl _)⟩
    | 1, hi =>
      simp only [List.getElem?_cons_zero, List.getElem?_cons_succ, Option.some.injEq] at hi
      subst hi
      exact ⟨_, _, _, rfl, slc_part (Z8.at mem1) (part_all _) rfl (Nat.le_refl _)⟩
    | 2, hi =>
      simp only [List.getElem?_cons_zero, List.getElem?_cons_succ, Option.some.injEq] at hi
      subst hi
      exact ⟨_, _, _, rfl, slc_part (Z8.at mem4) (part_head _ _) HF.out.a (Nat.le_refl _)⟩
    | i + 3, hi => simp at hi)) (by unfold lenL; simp [be_length, HF.out.a])
  have hfl : [[p.bits, flagB p] ++ be p.valid 4 ++ be p.pref 4, [0, 0, 0, 0], p.a].flatten = infoB p := by simp [infoB]
  have hll : lenL [[p.bits, flagB p] ++ be p.valid 4 ++ be p.pref 4, [0, 0, 0, 0], p.a] = 30 := by unfold lenL; rw [hfl, infoB_len HF.out]
  rw [hfl, hll] at KJ
  replace KJ := veil KJ
  have VZ8 := veil Z8
  have C0 : Hid True := veil trivial
  have HW5 := veil hw5
  clear KP2 Z6 Z7 Z8 c20 VZ5 VY4 VY hfl hll h10
  go_wp2_with fail
  clear hw5 hb5 hb6
  refine wp_region_noPanic ?_
  refine wp_region_held_drew (S := fun _ => True) (by kernel_rfl) C0.out (fun hHeld => ?_)
  refine wpAnyH_take (i := 0) (v := ?_) (by rfl) (by kernel_rfl) (by kernel_rfl) (by kernel_rfl) (fun _ _ _ h => h) (Or.inl ⟨by rfl, ?_⟩) hHeld ?_
  rotate_left
  · intro w' hSw
    (try dsimp only at hSw)
    simp only [List.getElem_toArray, List.getElem_cons_zero, List.getElem_cons_succ]
    go_simp
    all_goals (try with_reducible rfl)
  try simp only [Act.put, List.setIfInBounds_toArray, List.set_cons_zero, List.set_cons_succ, List.getElem_toArray, List.getElem_cons_zero, List.getElem_cons_succ]
  refine wpAnyH_take (i := 2) (v := ?_) (by rfl) (by kernel_rfl) (by kernel_rfl) (by kernel_rfl) (fun _ _ _ h => h) (Or.inl ⟨by rfl, ?_⟩) hHeld ?_
  rotate_left
  · intro w' hSw
    (try dsimp only at hSw)
    simp only [List.getElem_toArray, List.getElem_cons_zero, List.getElem_cons_succ]
    go_simp
    all_goals (try with_reducible rfl)
  try simp only [Act.put, List.setIfInBounds_toArray, List.set_cons_zero, List.set_cons_succ, List.getElem_toArray, List.getElem_cons_zero, List.getElem_cons_succ]
  refine wpAnyH_take (i := 3) (v := ?_) (by rfl) (by kernel_rfl) (by kernel_rfl) (by kernel_rfl) (fun _ _ _ h => h) (Or.inl ⟨by rfl, ?_⟩) hHeld ?_
  rotate_left
  · intro w' hSw
    (try dsimp only at hSw)
    simp only [List.getElem_toArray, List.getElem_cons_zero, List.getElem_cons_succ]
    go_simp
    all_goals (try with_reducible rfl)
  try simp only [Act.put, List.setIfInBounds_toArray, List.set_cons_zero, List.set_cons_succ, List.getElem_toArray, List.getElem_cons_zero, List.getElem_cons_succ]
  refine wpAnyH_take (i := 4) (v := ?_) (by rfl) (by kernel_rfl) (by kernel_rfl) (by kernel_rfl) (fun _ _ _ h => h) (Or.inl ⟨by rfl, ?_⟩) hHeld ?_
  rotate_left
  · intro w' hSw
    (try dsimp only at hSw)
    simp only [List.getElem_toArray, List.getElem_cons_zero, List.getElem_cons_succ]
    go_simp
    all_goals (try with_reducible rfl)
  try simp only [Act.put, List.setIfInBounds_toArray, List.set_cons_zero, List.set_cons_succ, List.getElem_toArray, List.getElem_cons_zero, List.getElem_cons_succ]
  refine wpAnyH_ready (rs := [1]) (by kernel_rfl) (by simp) ?_
  refine AllReadyH.cons (by rfl) (fun K hK => ?_) AllReadyH.nil
  simp only [List.getElem_toArray, List.getElem_cons_zero, List.getElem_cons_succ]
  go_simp
  (try dsimp only)
  refine hK.out _ _ trivial (fun hHeld => ?_)
  clear hK K
  try simp only [Act.put, List.setIfInBounds_toArray, List.set_cons_zero, List.set_cons_succ, List.getElem_toArray, List.getElem_cons_zero, List.getElem_cons_succ]
  refine wpAnyH_ready (rs := [5]) (by kernel_rfl) (by simp) ?_
  refine AllReadyH.cons (by rfl) (fun K hK => ?_) AllReadyH.nil
  simp only [List.getElem_toArray, List.getElem_cons_zero, List.getElem_cons_succ]
  go_simp
  (try dsimp only)
  refine hK.out _ _ trivial (fun hHeld => ?_)
  clear hK K
  try simp only [Act.put, List.setIfInBounds_toArray, List.set_cons_zero, List.set_cons_succ, List.getElem_toArray, List.getElem_cons_zero, List.getElem_cons_succ]
  refine wpAnyH_ready (rs := [6]) (by kernel_rfl) (by simp) ?_
  refine AllReadyH.cons (by rfl) (fun K hK => ?_) AllReadyH.nil
  simp only [List.getElem_toArray, List.getElem_cons_zero, List.getElem_cons_succ]
  go_simp
  refine (KJ.out).mono ?_
  rintro e w6 ⟨gj, hgj, rfl, rj, q6⟩
  have Z9 := VZ8.out.got q6 rj hgj
  have hgjw : w.heap.size ≤ gj := Nat.le_trans VZ8.out.size hgj
  have T1 := veil (store_all (P := Tryd.prog) (ty := 29) (vs := tv ⟨3, some ⟨gj, 0, none⟩, 30, 30⟩) (Z9.at mem4) (by rw [hzf.out]; rfl) zeroO (by intro v hv; simp at hv; rcases hv with rfl | rfl <;> rfl))
  have Z10 := Z9.put 4 rfl (tv ⟨3, some ⟨gj, 0, none⟩, 30, 30⟩)
  simp only [List.set_cons_zero, List.set_cons_succ] at Z10
  have VZ10 := veil Z10
  clear KJ q6 rj hgj Z9 Z10
  (try dsimp only)
  refine hK.out _ _ trivial (fun hHeld => ?_)
  clear hK K
  try simp only [Act.put, List.setIfInBounds_toArray, List.set_cons_zero, List.set_cons_succ, List.getElem_toArray, List.getElem_cons_zero, List.getElem_cons_succ]
  refine wpAnyH_take (i := 7) (v := ?_) (by rfl) (by kernel_rfl) (by kernel_rfl) (by kernel_rfl) (fun _ _ _ h => h) (Or.inl ⟨by rfl, ?_⟩) hHeld ?_
  rotate_left
  · intro w' hSw
    (try dsimp only at hSw)
    simp only [List.getElem_toArray, List.getElem_cons_zero, List.getElem_cons_succ]
    go_simp
    all_goals (try with_reducible rfl)
  try simp only [Act.put, List.setIfInBounds_toArray, List.set_cons_zero, List.set_cons_succ, List.getElem_toArray, List.getElem_cons_zero, List.getElem_cons_succ]
  refine wpAnyH_ready (rs := [8]) (by kernel_rfl) (by simp) ?_
  refine AllReadyH.cons (by rfl) (fun K hK => ?_) AllReadyH.nil
  simp only [List.getElem_toArray, List.getElem_cons_zero, List.getElem_cons_succ]
  refine wp_store_of (.tmp 2) (.tmp 26) rfl rfl rfl T1.out ?_
  (try dsimp only)
  refine hK.out _ _ trivial (fun hHeld => ?_)
  clear hK K
  try simp only [Act.put, List.setIfInBounds_toArray, List.set_cons_zero, List.set_cons_succ, List.getElem_toArray, List.getElem_cons_zero, List.getElem_cons_succ]
  refine wpAnyH_done (by kernel_rfl) ?_ _
  refine NoPanic.normal ?_
  clear hHeld
  clear T1 hmk
  go_wp2_with fail
  refine bodyPost_ret (ret_row rfl rfl (VZ10.out.range mem4 (part_all _)) Tryd.underlying29 rfl zeroO) rfl ?_
  exact ⟨gj, hgjw, by rw [infoB_len HF.out], VZ10.out.at mem0, VZ10.out.below⟩

/-- addresses that lie in a slice -/
def ReadsA (w : World) (A : Option Addr) (ls : List (List Int)) : Prop := ∀ (i : Nat) (zs : List Int), ls[i]? = some zs → zs.length = 16 ∧ ∃ a, A = some a ∧ Rd w (some (a.add (i * 16))) zs
theorem ReadsA.keep {w w' : World} {A : Option Addr} {ls : List (List Int)} (h : ReadsA w A ls) (q : Below w.heap.size w w') : ReadsA w' A ls := fun i zs hi => by
  obtain ⟨h1, a, h2, h3⟩ := h i zs hi
  exact ⟨h1, a, h2, h3.keep q⟩
theorem load_addr {w : World} {a : Addr} {zs : List Int} (h : Rd w (some a) zs) (hz : zs.length = 16) : (Instr.loadAt 49 (.pointer (some a))).run Tryd.prog w = .ok (.agg (bv zs).toArray) w := by
  simp only [Instr.loadAt, Instr.sureAddr, Sem.run_bind, Sem.run_pure, Result.andThen]
  have hl : (loadCells a (bv zs).length).run Tryd.prog w = .ok (bv zs).toArray w := run_loadCells_list (P := Tryd.prog) w a (bv zs) (rd_list h)
  have hu := Tryd.underlying49
  have hty : (Tryd.prog.info? 49).map (·.size) = some 16 := by kernel_rfl
  cases hq : Tryd.prog.info? 49 with
  | none => simp [hq] at hty
  | some inf =>
    have hs : inf.size = 16 := by simpa [hq] using hty
    have hagg : (isAgg 49).run Tryd.prog w = .ok true w := by
      unfold isAgg
      rw [Sem.run_bind, run_underlying hu w]
      simp
    have h2 : (bv zs).length = 16 := by rw [bv_length, hz]
    rw [h2] at hl
    simp [loadVar, Sem.run_bind, hagg, sizeOf, typeInfo, hq, hs, hl]
def serB (life : Int) (ls : List (List Int)) : List Int := lifeB life ++ ls.flatten
theorem serB_next {life : Int} {ls : List (List Int)} {i : Nat} {zs : List Int} (h : ls[i]? = some zs) : serB life (ls.take (i + 1)) = serB life (ls.take i) ++ zs := by
  unfold serB
  rw [lenL_next h, List.append_assoc]
theorem flat16 : ∀ {ls : List (List Int)} (_ : ∀ zs ∈ ls, zs.length = 16), ls.flatten.length = 16 * ls.length
  | [], _ => rfl
  | zs :: ls, h => by
    have h1 := h zs (by simp)
    have h2 := flat16 (ls := ls) (fun z hz => h z (by simp [hz]))
    rw [List.flatten_cons, List.length_append, h2, h1, List.length_cons]
    omega
theorem serB_len {life : Int} {ls : List (List Int)} (h : ∀ zs ∈ ls, zs.length = 16) : (serB life ls).length = 6 + 16 * ls.length := by
  unfold serB
  rw [List.length_append, lifeB_len, flat16 h]

set_option linter.unusedSimpArgs false in
set_option maxHeartbeats 4000000 in
theorem servers_any (life : Int) (A : Option Addr) (n c : Nat) (ls : List (List Int)) (w : World) (hlife : 0 ≤ life ∧ life ≤ 4294967295) (hl : ls.length = n) (hn : n ≤ 900000) (ha : ReadsA w A ls) :
    Calls Tryd.prog 35 #[.int .u32 life, .slice A n c] w (MadeO w 25 (serB life ls)) := by
  have HA := veil ha
  have HL := veil hl
  have HZ : Hid (∀ zs ∈ ls, zs.length = 16) := veil (fun zs hz => by
    obtain ⟨i, hi⟩ := List.getElem?_of_mem hz
    exact (ha i zs hi).1)
  have in16 : (n : Int) ≤ 2000000 := by omega
  obtain ⟨ZF, hZF⟩ : ∃ Z : Array Value, Z = #[.int .u8 0, .slice none 0 0] := ⟨_, rfl⟩
  have hzf : Hid (ZF.toList.length = 2) := by rw [hZF]; exact rfl
  have Y1 := (Lay.begin w).newA ZF 29 (g := w.heap.size) rfl
  have K := veil (number_any life (w.alloc (.cells ZF 29)) hlife)
  have VY := veil Y1
  clear ha hl hlife Y1
  generalize hw0 : w.alloc (.cells ZF 29) = w0 at *
  obtain ⟨g0, hg0⟩ : ∃ g, w.heap.size = g := ⟨_, rfl⟩
  rw [hg0] at VY
  have HG0 := veil hg0
  subst hZF
  go_enter Tryd.func35, Tryd.ntmps35
  go_upto_region 1 with fail
  clear hw0 hg0
  go_wp2_with fail
  refine (K.out).mono ?_
  rintro e w1 ⟨gn, hgn, rfl, hr, q⟩
  have hg1 : g0 < gn := by have := VY.out.lt mem0; omega
  have hlt1 : gn < w1.heap.size := hr.lt
  have VG := veil (show Grow w w1 [(g0, 29, [.int .u8 0, .slice none 0 0])] gn (.slice (some ⟨gn, 0, none⟩) 6 6) (serB life []) from
    ⟨VY.out.keep q, own_whole (by simpa [serB] using hr) (Nat.le_refl _) (by simp [serB, lifeB_len]) (by omega), by have := VY.out.size; omega, Nat.le_of_lt hlt1, fun x hx => by simp at hx; subst hx; exact hg1⟩)
  clear K q hr hgn VY hg1 hlt1 hzf
  go_wp2_with fail
  go_loopw [5, 12] (fun s5 s12 wr => ∃ j : Nat, j ≤ n ∧ s12 = .int .i64 j ∧ Hid (Grow w wr [(g0, 29, [.int .u8 0, .slice none 0 0])] gn s5 (serB life (ls.take j)))) (fun _ s12 _ => n - (intOf s12).toNat)
  case atStart => exact ⟨0, Nat.zero_le _, rfl, veil (by simpa using VG.out)⟩
  case round =>
    rename World => wr
    obtain ⟨j, hj, rfl, VB⟩ := hrel
    clear VG
    by_cases hlt : j < n
    · have ij : (j : Int) < (n : Int) := by omega
      obtain ⟨zs, hzj⟩ : ∃ s, ls[j]? = some s := ⟨_, List.getElem?_eq_getElem (by rw [HL.out]; exact hlt)⟩
      obtain ⟨hz16, a, ha, r1⟩ := HA.out j zs hzj
      subst ha
      have L1 := veil (load_addr (r1.keep VB.out.lay.below) hz16)
      obtain ⟨ZA, hZA⟩ : ∃ Z : Array Value, Z = #[.int .u8 0, .int .u8 0, .int .u8 0, .int .u8 0, .int .u8 0, .int .u8 0, .int .u8 0, .int .u8 0, .int .u8 0, .int .u8 0, .int .u8 0, .int .u8 0, .int .u8 0, .int .u8 0, .int .u8 0, .int .u8 0] := ⟨_, rfl⟩
      have hza : ZA.toList.length = 16 := by rw [hZA]; rfl
      have X1 := (Lay.begin wr).newA ZA 49 (g := wr.heap.size) rfl
      have T0 := veil (store_all (P := Tryd.prog) (ty := 49) (vs := bv zs) (X1.at mem0) (by rw [hza, bv_length, hz16]) (by rw [bv_length, hz16]; kernel_rfl) (bv_one zs))
      have X2 := X1.put 0 rfl (bv zs)
      simp only [List.set_cons_zero] at X2
      obtain ⟨u1, hu1⟩ : ∃ u, (wr.alloc (.cells ZA 49)).setRow wr.heap.size (bv zs).toArray = u := ⟨_, rfl⟩
      rw [hu1] at T0 X2
      have q1 := X2.below
      have S1 : Slc u1 (.slice (some ⟨wr.heap.size, 0, none⟩) 16 16) zs := slc_part (X2.at mem0) (part_all _) hz16 (Nat.le_refl _)
      have hsz : (serB life (ls.take j)).length + zs.length ≤ 16777216 := by
        rw [serB_len (fun z hz => HZ.out z (List.mem_of_mem_take hz)), List.length_take, hz16]
        omega
      obtain ⟨v4, w4, H4, G4⟩ := (VB.out.keep q1).append S1 hsz 26
      have HD := veil (serB_next (life := life) hzj)
      have VH4 := veil H4
      have VG4 := veil G4
      clear hsz hzj r1 q1 S1 H4 G4 VB hz16 X1 X2 hu1 hza
      subst hZA
      go_wp2_with (first
        | (refine wpList_store_of rfl _ _ rfl rfl rfl T0.out ?_)
        | (refine wpList_load_of rfl (.tmp 14) rfl rfl L1.out ?_)
        | (at_builtin; refine wpList_append_run rfl (.tmp 16) (.tmp 17) rfl rfl rfl VH4.out ?_))
      go_roundw
      case rel => exact ⟨j + 1, by omega, by go_num, veil (by rw [HD.out]; exact VG4.out)⟩
      case measure => simp [intOf]; omega
    · obtain rfl : j = n := by omega
      have ij : ¬ (j : Int) < (j : Int) := by omega
      have hfull : ls.take j = ls := List.take_of_length_le (by rw [HL.out]; omega)
      rw [hfull] at VB
      obtain ⟨A5, c5, e5, _, _⟩ := VB.out.own.slc.slice
      subst e5
      obtain ⟨N, hN⟩ : ∃ N, (serB life ls).length = N := ⟨_, rfl⟩
      have HNN := veil hN
      have hN16 : N ≤ 16000000 := by rw [← hN, serB_len HZ.out, HL.out]; omega
      rw [hN] at VB
      have Y2 := VB.out.lay.new [.slice A5 N c5] 26 (g := wr.heap.size) rfl
      have KJ := join_any (some ⟨wr.heap.size, 0, none⟩) 1 1 [serB life ls] (wr.alloc (.cells #[.slice A5 N c5] 26)) rfl (by omega) (readsL_lit Y2 mem0 (fun i zs hi => by
        have h0 : i = 0 := by
          have := (List.getElem?_eq_some_iff.1 hi).1
          simpa using this
        subst h0
        simp at hi
        subst hi
        exact ⟨A5, N, c5, rfl, (VB.out.own.slc).keep (below_new wr _)⟩)) (by unfold lenL; simp [hN]; omega)
      have hlen1 : lenL [serB life ls] = N := by unfold lenL; simp [hN]
      rw [hlen1, show [serB life ls].flatten = serB life ls by simp] at KJ
      replace KJ := veil KJ
      have VY2 := veil (Y2.sub (L' := [(g0, 29, [.int .u8 0, .slice none 0 0])]) (List.Sublist.cons _ (List.Sublist.cons_cons _ (List.nil_sublist _))))
      have hww : w.heap.size ≤ wr.heap.size := VB.out.lay.size
      clear Y2 hfull VB hN16
      go_wp2_with fail
      clear hN
      refine (KJ.out).mono ?_
      rintro e w5 ⟨gj, hgj, rfl, rj, q5⟩
      have Y5 := VY2.out.got q5 rj hgj
      have hgjw : w.heap.size ≤ gj := by simp at hgj; omega
      have T1 := veil (store_all (P := Tryd.prog) (ty := 29) (vs := tv ⟨25, some ⟨gj, 0, none⟩, N, N⟩) (Y5.at mem1) rfl zeroO (by intro v hv; simp at hv; rcases hv with rfl | rfl <;> rfl))
      have Y6 := Y5.put 1 rfl (tv ⟨25, some ⟨gj, 0, none⟩, N, N⟩)
      simp only [List.set_cons_zero, List.set_cons_succ] at Y6
      have VY6 := veil Y6
      clear KJ q5 rj hgj VY2 Y5 Y6
      go_wp2_with (refine wpList_store_of rfl _ _ rfl rfl rfl T1.out ?_)
      refine bodyPost_ret (ret_row rfl rfl (VY6.out.range mem1 (part_all _)) Tryd.underlying29 rfl zeroO) rfl ?_
      exact ⟨gj, hgjw, by rw [HNN.out], VY6.out.at mem0, VY6.out.below⟩

end Go.Proofs.YtdebifkefpclaaaDoor.Oz
