/-
  Parts of a packet out of bytes, by the code: is it a multicast one; its fixed header.
  Conditions: forty bytes.
-/
import Derived.Test.YtfkjfdmepeahnaaHdcH
import Derived.Test.YtfkjfdmepeahnaaPktN
import Derived.Test.YtfkjfdmepeahnaaOps
import Derived.Laws.Cover3
namespace Go.Proofs.Ytfkjfdmepeahnaa.Hd
set_option maxRecDepth 100000
open Go.RowKit Ops

/-! ### a packet's cells, written anew in part -/
section
variable {k : Pk} {v : Value}
theorem pc_put_s (h : Ends k) {x : List Int} (hx : x.length = 16) : (pc k v).take 0 ++ bv x ++ (pc k v).drop (0 + (bv x).length) = pc { k with s := x } v := by
  have e : (bv x).length = (bv k.s).length := by rw [bv_length, bv_length, hx, h.s]
  rw [List.take_zero, List.nil_append, Nat.zero_add, e, pc, List.drop_left' rfl]
  rfl
theorem pc_put_d (h : Ends k) {x : List Int} (hx : x.length = 16) : (pc k v).take 16 ++ bv x ++ (pc k v).drop (16 + (bv x).length) = pc { k with d := x } v := by
  have e1 : (bv k.s).length = 16 := by rw [bv_length, h.s]
  have e2 : (bv k.d).length = 16 := by rw [bv_length, h.d]
  have e3 : (bv x).length = 16 := by rw [bv_length, hx]
  rw [e3, pc, List.take_left' e1, ← List.drop_drop, List.drop_left' e1, List.drop_left' e2, List.append_assoc]
  rfl
theorem pc_tail8 (k : Pk) (v : Value) : pc k v = (bv k.s ++ bv k.d) ++ [.int .u8 k.hops, .bool k.alert, .bool k.frag.is, .int .u32 k.frag.id, .int .u16 k.frag.off, .bool k.frag.more, .int .u8 k.next, v] := by
  simp [pc, fgc]
theorem pc_front (h : Ends k) : (bv k.s ++ bv k.d).length = 32 := by rw [List.length_append, bv_length, bv_length, h.s, h.d]
theorem pc_set_hops (h : Ends k) (x : Int) : (pc k v).set 32 (.int .u8 x) = pc { k with hops := x } v := by
  rw [pc_tail8, List.set_append_right _ _ (by rw [pc_front h]; omega), pc_front h, pc_tail8]
  rfl
theorem pc_set_alert (h : Ends k) (x : Bool) : (pc k v).set 33 (.bool x) = pc { k with alert := x } v := by
  rw [pc_tail8, List.set_append_right _ _ (by rw [pc_front h]; omega), pc_front h, pc_tail8]
  rfl
theorem pc_set_next (h : Ends k) (x : Int) : (pc k v).set 38 (.int .u8 x) = pc { k with next := x } v := by
  rw [pc_tail8, List.set_append_right _ _ (by rw [pc_front h]; omega), pc_front h, pc_tail8]
  rfl
theorem pc_put_frag (h : Ends k) (f : Fg) : (pc k v).take 34 ++ fgc f ++ (pc k v).drop (34 + (fgc f).length) = pc { k with frag := f } v := by
  have e : pc k v = ((bv k.s ++ bv k.d) ++ [.int .u8 k.hops, .bool k.alert]) ++ (fgc k.frag ++ [.int .u8 k.next, v]) := by simp [pc, List.append_assoc]
  have e1 : ((bv k.s ++ bv k.d) ++ [Value.int .u8 k.hops, .bool k.alert]).length = 34 := by rw [List.length_append, pc_front h]; rfl
  have e2 : (fgc f).length = (fgc k.frag).length := rfl
  rw [e, List.take_left' e1, e2, ← List.drop_drop, List.drop_left' e1, List.drop_left' rfl]
  simp [pc, List.append_assoc]
end

theorem codeMc (d : List Int) (w : World) (hd : d.length = 16) : Calls Try.prog 34 #[av d] w fun e w' => e = .returned (.bool (decide (d.getD 0 0 = 255))) ∧ Below w.heap.size w w' := by
  have Q := veil (below_new w (.cells (bv d).toArray 23))
  have c0 : (w.alloc (.cells (bv d).toArray 23)).cell? ⟨w.heap.size, 0, none⟩ = some (.int .u8 (d.getD 0 0)) := ((Lay.begin w).new (bv d) 23 rfl).look mem0 (bv_get d 0 (by omega))
  generalize d.getD 0 0 = x at *
  clear hd
  go_enter Try.func34, Try.ntmps34
  go_wp2_with fail
  go_ret
  exact ⟨by rw [← Bool.beq_eq_decide_eq]; rfl, Q.out⟩

theorem refMc (d : List Int) (w : World) (hd : d.length = 16) : Calls Try.prog 35 #[av d] w fun e w' => e = .returned (.bool (decide (d.getD 0 0 = 255))) ∧ Below w.heap.size w w' := by
  have Q := veil (below_new w (.cells (bv d).toArray 23))
  have c0 : (w.alloc (.cells (bv d).toArray 23)).cell? ⟨w.heap.size, 0, none⟩ = some (.int .u8 (d.getD 0 0)) := ((Lay.begin w).new (bv d) 23 rfl).look mem0 (bv_get d 0 (by omega))
  generalize d.getD 0 0 = x at *
  clear hd
  go_enter Try.func35, Try.ntmps35
  go_wp2_with fail
  go_ret
  exact ⟨by rw [← Bool.beq_eq_decide_eq]; rfl, Q.out⟩

/-- the fixed header's packet -/
def fixK (hs : List Int) : Pk := { s := (hs.drop 8).take 16, d := (hs.drop 24).take 16, hops := hs.getD 7 0 }
theorem fixK_ends {hs : List Int} (h : hs.length = 40) : Ends (fixK hs) := ⟨by simp [fixK]; omega, by simp [fixK]; omega⟩
theorem ret_fix {w : World} {P : Program} {fn : Func} {a b d : Tmp} {t : TypeId} {tmps : Array Value} {g : Nat} {vs : List Value} {x y : Value} {td : TypeDesc} (hr : fn.results = #[.tmp a, .tmp b, .cell d t])
    (ha : tmps.getD a undef = x) (hb : tmps.getD b undef = y) (hd : tmps.getD d undef = .pointer (some ⟨g, 0, none⟩)) (h1 : w.rangeAt g 0 vs) (hu : P.underlying t = some td) (hd1 : td.isRow = true) (hi : (P.info? t).map (·.size) = some vs.length) :
    (results fn tmps).run P w = .ok (.tuple #[x, y, .agg vs.toArray]) w := by
  have ha' : tmps[a]?.getD undef = x := by simpa using ha
  have hb' : tmps[b]?.getD undef = y := by simpa using hb
  have hd' : tmps[d]?.getD undef = .pointer (some ⟨g, 0, none⟩) := by simpa using hd
  simp [results, hr, ha', hb', hd', asAddr, run_loadVar_mid w g 0 t vs td h1 hu hd1 hi]

set_option linter.unusedSimpArgs false in
set_option maxHeartbeats 8000000 in
theorem getFixed_any (A : Option Addr) (cc : Nat) (hs : List Int) (w : World) (hl : hs.length = 40) (hz : Byt hs) (hr : Rd w A hs) : Calls Try.prog 33 #[.slice A 40 cc] w fun e w' => e = .returned (.tuple #[.int .i64 (num ((hs.drop 4).take 2)), .int .u8 (hs.getD 6 0), pv (fixK hs) nilV]) ∧ Below w.heap.size w w' := by
  obtain ⟨Z, hZ⟩ : ∃ Z, Z = zp := ⟨_, rfl⟩
  have Y := (Lay.begin w).newA Z 30 (g := w.heap.size) rfl
  have K := veil (Y.cut A 40 cc hl (by omega) (hr.keep Y.below))
  have hat : ∀ (a : Option Addr) (u : World), (Instr.arrayAt 23 (.slice a 16 16)).run Try.prog u = .ok (.pointer a) u := fun a u => run_arrayAt u 23 5 16 a 16 16 Try.underlying23 (Nat.le_refl _)
  have HL := veil hl
  have HZ := veil hz
  have e0 : Hid (Z.toList = pc noPk nilV) := veil (by rw [hZ, zp_pc])
  have b6 := hz.at_ 6
  have b7 := hz.at_ 7
  have bn : 0 ≤ num ((hs.drop 4).take 2) ∧ num ((hs.drop 4).take 2) < 65536 := by
    have h := num_bound ((hs.drop 4).take 2) ((hz.drop 4).take 2) ((hs.drop 4).take 2).length (Nat.le_refl _)
    rw [List.take_length] at h
    have e2 : ((hs.drop 4).take 2).length = 2 := by simp; omega
    rw [e2] at h
    have : (256 : Int) ^ 2 = 65536 := by decide
    omega
  have hw2 : IntKind.i64.wrap (num ((hs.drop 4).take 2)) = num ((hs.drop 4).take 2) := by rw [IntKind.wrap_i64]; omega
  have n6 : num ((hs.drop 6).take 1) = hs.getD 6 0 := by
    have := num_next (hs.drop 6) 0 (by simp; omega)
    simpa [num, List.getD] using this
  have n7 : num ((hs.drop 7).take 1) = hs.getD 7 0 := by
    have := num_next (hs.drop 7) 0 (by simp; omega)
    simpa [num, List.getD] using this
  have hw6 : IntKind.u8.wrap (hs.getD 6 0) = hs.getD 6 0 := by rw [IntKind.wrap_u8]; omega
  have hw7 : IntKind.u8.wrap (hs.getD 7 0) = hs.getD 7 0 := by rw [IntKind.wrap_u8]; omega
  have N6 := veil n6
  have N7 := veil n7
  obtain ⟨kf, hkf⟩ : ∃ kf, fixK hs = kf := ⟨_, rfl⟩
  rw [hkf]
  have hfix : Hid (kf = { s := (hs.drop 8).take 16, d := (hs.drop 24).take 16, hops := hs.getD 7 0 }) := veil (by rw [← hkf]; rfl)
  clear hkf
  have hs8 : Hid (((hs.drop 8).take 16).length = 16) := veil (by simp; omega)
  have hd24 : Hid (((hs.drop 24).take 16).length = 16) := veil (by simp; omega)
  clear Y hl hz hr n6 n7 b6 b7 bn
  generalize hs.getD 6 0 = x6 at *
  generalize hs.getD 7 0 = x7 at *
  obtain ⟨mn, hmn⟩ : ∃ mn, num ((hs.drop 4).take 2) = mn := ⟨_, rfl⟩
  rw [hmn] at hw2 ⊢
  have HMN := veil hmn
  clear hmn
  generalize Z.toList = ZL at *
  unfold zp at hZ
  subst hZ
  go_enter Try.func33, Try.ntmps33
  go_wp2_with fail
  refine (K.out).mono ?_
  rintro e w1 ⟨b, hb, rfl, Y1, s1⟩
  have hbc : b ≠ b + 1 := by omega
  rw [e0.out] at Y1
  have K1 := Y1.bytes (i := 0) rfl 4 (by omega) 4 (by rw [if_neg (by omega)])
  simp only [List.set_cons_zero] at K1
  have VB := veil hbc
  have VH := veil (Nat.le_trans (show w.heap.size ≤ _ by simp) hb)
  replace K1 := veil K1
  generalize b + 1 = c at *
  clear K Y1 hbc hb
  go_wp2_with fail
  refine (K1.out).mono ?_
  rintro e w2 ⟨rfl, Y2, s2⟩
  have K2 := Y2.num (i := 0) rfl mem1 VB.out HZ.out (by have := HL.out; omega) 2 (by omega) (by omega) (by omega) 6 (by rw [if_neg (by omega)])
  simp only [List.set_cons_zero, HMN.out] at K2
  replace K2 := veil K2
  clear K1 Y2 s2
  go_wp2_with fail
  refine (K2.out).mono ?_
  rintro e w3 ⟨rfl, Y3, s3⟩
  have K3 := Y3.num (i := 0) rfl mem1 VB.out HZ.out (by have := HL.out; omega) 1 (by omega) (by omega) (by omega) 7 (by rw [if_neg (by omega)])
  simp only [List.set_cons_zero, N6.out] at K3
  replace K3 := veil K3
  clear K2 Y3 s3
  go_wp2_with fail
  refine (K3.out).mono ?_
  rintro e w4 ⟨rfl, Y4, s4⟩
  have K4 := Y4.num (i := 0) rfl mem1 VB.out HZ.out (by have := HL.out; omega) 1 (by omega) (by omega) (by omega) 8 (by rw [if_neg (by omega)])
  simp only [List.set_cons_zero, N7.out] at K4
  replace K4 := veil K4
  clear K3 Y4 s4
  go_wp2_with fail
  refine (K4.out).mono ?_
  rintro e w5 ⟨rfl, Y5, s5⟩
  have p32 : w5.cell? ⟨w.heap.size, 32, none⟩ = some (.int .u8 0) := Y5.look mem2 (pc_hops noPk_ends)
  have f32 := Y5.free mem2 32
  have Y6 := Y5.cell 2 rfl 32 (.int .u8 x7)
  rw [pc_set_hops noPk_ends] at Y6
  obtain ⟨k1, hk1⟩ : ∃ k1 : Pk, ({ noPk with hops := x7 } : Pk) = k1 := ⟨_, rfl⟩
  rw [hk1] at Y6
  have E1 : Hid (Hd.Ends k1) := veil (by rw [← hk1]; exact ⟨rfl, rfl⟩)
  have HK1 := veil hk1
  have K5 := Y6.bytes (i := 0) rfl 16 (by omega) 24 (by rw [if_neg (by omega)])
  simp only [List.set_cons_zero, List.set_cons_succ] at K5
  replace K5 := veil K5
  clear K4 Y5 Y6 s5 hk1
  go_wp2_with fail
  clear p32 f32
  refine (K5.out).mono ?_
  rintro e w6 ⟨rfl, Y7, s7⟩
  obtain ⟨s8, hs8'⟩ : ∃ x, (hs.drop 8).take 16 = x := ⟨_, rfl⟩
  have L7 := Y7.load mem1 (part_drop (zs := hs) (o := 8) (r := 16)) Try.underlying23 rfl (sizeAddr hs8.out)
  have T7 := store_part (P := Try.prog) (o := 0) (ty := 23) (vs := bv ((hs.drop 8).take 16)) (Y7.at mem2) (by rw [bv_length, hs8.out, pc_len E1.out]; omega) (sizeAddr hs8.out) (bv_one _)
  rw [pc_put_s E1.out hs8.out] at T7
  have Y8 := Y7.put 2 rfl (pc { k1 with s := (hs.drop 8).take 16 } nilV)
  simp only [List.set_cons_zero, List.set_cons_succ] at Y8
  obtain ⟨u6, hu6⟩ : ∃ u, w6.setRow w.heap.size (pc { k1 with s := (hs.drop 8).take 16 } nilV).toArray = u := ⟨_, rfl⟩
  rw [hu6] at T7 Y8
  have E2 : Hid (Hd.Ends ({ k1 with s := (hs.drop 8).take 16 } : Pk)) := veil ⟨hs8.out, E1.out.d⟩
  obtain ⟨k2, hk2⟩ : ∃ k2 : Pk, ({ k1 with s := (hs.drop 8).take 16 } : Pk) = k2 := ⟨_, rfl⟩
  rw [hk2] at Y8 E2
  have HK2 := veil hk2
  have K6 := Y8.bytes (i := 0) rfl 16 (by omega) 24 (by rw [if_pos rfl])
  simp only [List.set_cons_zero, List.set_cons_succ] at K6
  replace K6 := veil K6
  replace L7 := veil L7
  replace T7 := veil T7
  clear K5 Y7 Y8 s7 hu6 hk2 hs8'
  generalize (hs.drop 8).take 16 = z8 at *
  go_wp2_with (first
    | (refine wpList_load_of rfl (.tmp 22) rfl rfl L7.out ?_)
    | (refine wpList_store_of rfl _ _ rfl rfl rfl T7.out ?_))
  refine (K6.out).mono ?_
  rintro e w8 ⟨rfl, Y9, s9⟩
  have L9 := Y9.load mem1 (part_drop (zs := hs) (o := 24) (r := 16)) Try.underlying23 rfl (sizeAddr hd24.out)
  have T9 := store_part (P := Try.prog) (o := 16) (ty := 23) (vs := bv ((hs.drop 24).take 16)) (Y9.at mem2) (by rw [bv_length, hd24.out, pc_len E2.out]; omega) (sizeAddr hd24.out) (bv_one _)
  rw [pc_put_d E2.out hd24.out] at T9
  have Y10 := Y9.put 2 rfl (pc { k2 with d := (hs.drop 24).take 16 } nilV)
  simp only [List.set_cons_zero, List.set_cons_succ] at Y10
  obtain ⟨u8, hu8⟩ : ∃ u, w8.setRow w.heap.size (pc { k2 with d := (hs.drop 24).take 16 } nilV).toArray = u := ⟨_, rfl⟩
  rw [hu8] at T9 Y10
  have E3 : Hid (Hd.Ends ({ k2 with d := (hs.drop 24).take 16 } : Pk)) := veil ⟨E2.out.s, hd24.out⟩
  have hk3 : ({ k2 with d := (hs.drop 24).take 16 } : Pk) = kf := by rw [hfix.out, ← HK2.out, ← HK1.out]; rfl
  rw [hk3] at Y10 E3
  have YD := veil Y10.drew
  have T11 := veil (pkt_store (k := kf) (v := nilV) YD.out mem2 (pc_len E3.out) E3.out rfl)
  have Y11 := veil (YD.out.put 2 rfl (pc kf nilV))
  simp only [List.set_cons_zero, List.set_cons_succ] at Y11
  have D1 := veil (YD.out.range mem2 (part_all _))
  have D2 := veil (Y11.out.range mem2 (part_all _))
  replace L9 := veil L9
  replace T9 := veil T9
  clear K6 Y9 Y10 s9 hu8 HK1 HK2 E1 E2 hfix hk3 hs8 hd24
  generalize (hs.drop 24).take 16 = z24 at *
  go_wp2_with (first
    | (refine wpList_load_of rfl (.tmp 27) rfl rfl L9.out ?_)
    | (refine wpList_store_of rfl _ _ rfl rfl rfl T9.out ?_))
  refine wp_region_noPanic ?_
  refine wp_region_held_drew (S := (fun w' => w'.rangeAt w.heap.size 0 (pc kf nilV))) (by kernel_rfl) D1.out (fun hHeld => ?_)
  refine wpAnyH_take (i := 0) (v := ?_) (by rfl) (by kernel_rfl) (by kernel_rfl) (by kernel_rfl) (fun _ _ _ h => h) (Or.inl ⟨by rfl, ?_⟩) hHeld ?_
  rotate_left
  · intro w' hSw
    (try dsimp only at hSw)
    simp only [List.getElem_toArray, List.getElem_cons_zero, List.getElem_cons_succ]
    go_simp
    all_goals (try with_reducible rfl)
  try simp only [Act.put, List.setIfInBounds_toArray, List.set_cons_zero, List.set_cons_succ, List.getElem_toArray, List.getElem_cons_zero, List.getElem_cons_succ]
  refine wpAnyH_take (i := 1) (v := ?_) (by rfl) (by kernel_rfl) (by kernel_rfl) (by kernel_rfl) (fun _ _ _ h => h) (Or.inl ⟨by rfl, ?_⟩) hHeld ?_
  rotate_left
  · intro w' hSw
    (try dsimp only at hSw)
    simp only [List.getElem_toArray, List.getElem_cons_zero, List.getElem_cons_succ]
    go_simp
    all_goals (try with_reducible rfl)
  try simp only [Act.put, List.setIfInBounds_toArray, List.set_cons_zero, List.set_cons_succ, List.getElem_toArray, List.getElem_cons_zero, List.getElem_cons_succ]
  refine wpAnyH_take (i := 2) (v := _) (by rfl) (by kernel_rfl) (by kernel_rfl) (by kernel_rfl) (fun _ _ _ h => h) (yieldsIf_load_mid (by rfl) _ _ (by rfl) _ _ rfl (pc kf nilV) _ (fun _ h => h) Try.underlying30 rfl (sizePkt E3.out)) hHeld ?_
  try simp only [Act.put, List.setIfInBounds_toArray, List.set_cons_zero, List.set_cons_succ, List.getElem_toArray, List.getElem_cons_zero, List.getElem_cons_succ]
  refine wpAnyH_take (i := 3) (v := ?_) (by rfl) (by kernel_rfl) (by kernel_rfl) (by kernel_rfl) (fun _ _ _ h => h) (Or.inl ⟨by rfl, ?_⟩) hHeld ?_
  rotate_left
  · intro w' hSw
    (try dsimp only at hSw)
    simp only [List.getElem_toArray, List.getElem_cons_zero, List.getElem_cons_succ]
    go_simp
    all_goals (try with_reducible rfl)
  try simp only [Act.put, List.setIfInBounds_toArray, List.set_cons_zero, List.set_cons_succ, List.getElem_toArray, List.getElem_cons_zero, List.getElem_cons_succ]
  refine wpAnyH_take (i := 4) (v := ?_) (by rfl) (by kernel_rfl) (by kernel_rfl) (by kernel_rfl) (fun _ _ _ h => h) (Or.inl ⟨by rfl, ?_⟩) hHeld ?_
  rotate_left
  · intro w' hSw
    (try dsimp only at hSw)
    simp only [List.getElem_toArray, List.getElem_cons_zero, List.getElem_cons_succ]
    go_simp
    all_goals (try with_reducible rfl)
  try simp only [Act.put, List.setIfInBounds_toArray, List.set_cons_zero, List.set_cons_succ, List.getElem_toArray, List.getElem_cons_zero, List.getElem_cons_succ]
  refine wpAnyH_ready (rs := [5]) (by kernel_rfl) (by simp) ?_
  refine AllReadyH.cons (by rfl) (fun K hK => ?_) AllReadyH.nil
  simp only [List.getElem_toArray, List.getElem_cons_zero, List.getElem_cons_succ]
  refine wp_store_of (.tmp 4) (.tmp 32) rfl rfl rfl T11.out ?_
  (try dsimp only)
  refine hK.out _ _ D2.out (fun hHeld => ?_)
  clear hK K
  try simp only [Act.put, List.setIfInBounds_toArray, List.set_cons_zero, List.set_cons_succ, List.getElem_toArray, List.getElem_cons_zero, List.getElem_cons_succ]
  refine wpAnyH_done (by kernel_rfl) ?_ _
  refine NoPanic.normal ?_
  clear hHeld
  go_wp2_with fail
  refine bodyPost_ret (ret_fix rfl rfl rfl rfl (Y11.out.range mem2 (part_all _)) Try.underlying30 rfl (sizePkt E3.out)) rfl ?_
  exact ⟨rfl, Y11.out.below⟩

end Go.Proofs.Ytfkjfdmepeahnaa.Hd
